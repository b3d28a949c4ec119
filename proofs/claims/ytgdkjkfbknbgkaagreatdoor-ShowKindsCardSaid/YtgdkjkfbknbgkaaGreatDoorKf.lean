/- The reference: texts of units. -/
import Derived.Test.YtgdkjkfbknbgkaaGreatDoorKa
import Derived.Test.YtgdkjkfbknbgkaaGreatDoorKt
import Derived.Test.YtgdkjkfbknbgkaaGreatDoorKd
import Derived.RangeFuncNested
import Derived.RangeFuncBound
import Derived.RangeFuncCalls
import Derived.RangeFuncLeaves
import Derived.Shelf.Abstract
import Derived.Shelf.RegionOpen
import Derived.WalkKit
import Derived.OwnWalkIn
import Derived.TacticsInMore
import Derived.LoopNIn
import Derived.LoopIn
import Derived.Laws.StructEq
import Derived.Deep.AppendLies
import Derived.Deep.RegionLaw
import Derived.RangeFuncFrom
import Derived.Deep.RegionHeld3
import Derived.StillTailTactics
import Derived.BigRegion
namespace Go.Proofs.YtgdkjkfbknbgkaaGreatDoor.W
open Go Go.RowKit
attribute [local go_sem] Oper.semAt_some

/-- Numbers as cells. -/
def numC (l : List Nat) : List Value := l.map (fun (u : Nat) => Value.int .i64 (u : Int))
theorem numC_length (l : List Nat) : (numC l).length = l.length := by simp [numC]
theorem numC_append (a b : List Nat) : numC (a ++ b) = numC a ++ numC b := by simp [numC]
theorem Tryz.info3 : (Tryz.prog.info? 3).map (fun i => (i.zero, i.size, i.bytes)) = some (some (.int .i64 0), 1, 8) := by kernel_rfl
theorem below_own {B : Nat} {e : TypeId} {size n : Nat} {v : Value} {xs : List Value} {w w1 : World} (h : w.ownsRow B e size v n xs) (hb : Below w.heap.size w w1) (_ : B ≤ w.heap.size) : w1.ownsRow B e size v n xs := by
  obtain ⟨h1, h2⟩ := h
  refine ⟨h1, ?_⟩
  rcases h2 with h2 | ⟨g, cap, cur, a, b, c, d⟩
  · exact .inl h2
  · exact .inr ⟨g, cap, cur, a, b, by rw [hb.block g (lt_of_block c)]; exact c, d⟩
/-- A slice value reads as these numbers. -/
def Nums (kd : IntKind) (w : World) (a : Option Addr) (n : Nat) (l : List Nat) : Prop := l.length = n ∧ (0 < n → ∃ b o, a = some ⟨b, o, none⟩ ∧ b < w.heap.size ∧ ∀ i, i < n → w.cell? ⟨b, o + i, none⟩ = some (.int kd ((l[i]?.getD 0 : Nat) : Int)))
theorem Nums.on {kd : IntKind} {w w1 : World} {a : Option Addr} {n : Nat} {l : List Nat} (h : Nums kd w a n l) (hb : Below w.heap.size w w1) : Nums kd w1 a n l :=
  ⟨h.1, fun hn => by
    obtain ⟨b, o, e, hlt, hc⟩ := h.2 hn
    exact ⟨b, o, e, by have := hb.size; omega, fun i hi => by rw [hb.cell (p := ⟨b, o + i, none⟩) hlt]; exact hc i hi⟩⟩
theorem own_drew {w : World} {base : Nat} {e : TypeId} {size : Nat} {v : Value} {n : Nat} {xs : List Value} (h : w.ownsRow base e size v n xs) : w.drew.ownsRow base e size v n xs := h
theorem cells_drew {w : World} {a : Addr} {cs : List Value} (h : ∀ j u, cs[j]? = some u → w.cell? (a.add j) = some u) : ∀ j u, cs[j]? = some u → w.drew.cell? (a.add j) = some u := h
set_option maxRecDepth 1000000 in
set_option maxHeartbeats 2000000 in
theorem str_any (a : Option Addr) (n cap : Nat) (l : List Nat) (hn : n ≤ 1000000) (hlt : ∀ u ∈ l, u < 65536) (w : World) (h : Nums .i64 w a n l) :
    Calls Tryz.prog 35 #[.slice a n cap] w fun e w' => e = .returned (.string ⟨(l.flatMap u2).toArray⟩) ∧ Below w.heap.size w w' := by
  obtain ⟨i0, hi, hz0, hz1, hz2⟩ := info_parts Tryz.info5
  obtain ⟨w1, hr, hown1, hg1⟩ := run_make_own (P := Tryz.prog) w w.heap.size 107 5 i0 (.int .u8 0) 1 Tryz.underlying107 hi hz0 hz1 .i64 .i64 (2 * n) (by rw [hz2]; omega) (by unfold maxLen; omega) (Nat.le_refl _)
  rw [show ((2 * n : Nat) : Int) = 2 * (n : Int) by omega] at hr
  have hb1 : Below w.heap.size w w1 := (Below.refl _ _).grown hg1 (Nat.le_refl _) (fun k h => by cases h)
  have HN := Lib.hid h
  have HLT := Lib.hid hlt
  clear h hlt hg1
  go_enter Tryz.func35, Tryz.ntmps35
  go_wp2
  go_loopw [3, 4] (fun v i wr => ∃ k : Nat, k ≤ n ∧ i = .int .i64 (k : Int) ∧ wr.ownsRow w.heap.size 5 1 v ((l.take k).flatMap u2).length (Lib.byteCells ((l.take k).flatMap u2)) ∧ Below w.heap.size w wr) (fun _ i _ => n - (intOf i).toNat)
  case atStart => exact ⟨0, by omega, rfl, hown1, hb1⟩
  case round =>
    obtain ⟨k, hk, rfl, hown, hbw⟩ := hrel
    clear hr hown1 hb1
    by_cases hp : k < n
    · obtain ⟨b, o, rfl, hbl, hc⟩ := HN.out.2 (by omega)
      have hll := HN.out.1
      have hcell : wr.cell? ⟨b, o + k, none⟩ = some (.int .i64 ((l[k]?.getD 0 : Nat) : Int)) := by rw [hbw.cell (p := ⟨b, o + k, none⟩) hbl]; exact hc k hp
      have hu : l[k]?.getD 0 < 65536 := by rw [List.getElem?_eq_getElem (by omega)]; exact HLT.out _ (List.getElem_mem _)
      have htk : (l.take (k + 1)).flatMap u2 = (l.take k).flatMap u2 ++ u2 (l[k]?.getD 0) := by
        rw [List.take_add_one, List.flatMap_append, List.getElem?_eq_getElem (by omega)]; simp
      have hlen : ((l.take k).flatMap u2).length ≤ 2 * k := by
        have : ∀ m : List Nat, (m.flatMap u2).length = 2 * m.length := fun m => by
          induction m with
          | nil => rfl
          | cons x r ih => rw [List.flatMap_cons, List.length_append, ih]; simp [u2]; omega
        rw [this]; have := List.length_take_le k l; omega
      obtain ⟨u, hud⟩ : ∃ u, u = l[k]?.getD 0 := ⟨_, rfl⟩
      rw [← hud] at hcell hu htk
      obtain ⟨acc, hacc⟩ : ∃ acc, acc = (l.take k).flatMap u2 := ⟨_, rfl⟩
      rw [← hacc] at hown htk hlen
      have HTK := Lib.hid htk
      have hlti : (k : Int) < (n : Int) := by omega
      have hk0 : (0 : Int) ≤ (k : Int) := by omega
      have hw := hbw.size
      clear hud hacc htk hc
      have d1 : IntKind.i64.wrap ((u : Int) / 256) = (u : Int) / 256 := by rw [IntKind.wrap_i64]; omega
      go_wp2
      go_region_law (refine step_append_lies _ rfl (.tmp 15) (.tmp 28) 107 rfl w.heap.size 5 i0 (.int .u8 0) 1 1 Tryz.underlying107 hi hz0 hz1 hz2 rfl (by decide) u3 acc.length (Lib.byteCells acc) (by simp [Act.eval]) (by first | exact (own_drew hown).alloc _ | exact own_drew (hown.alloc _)) ⟨wr.heap.size, 0, none⟩ 2 2 [.int .u8 (IntKind.u8.wrap ((u : Int) / 256)), .int .u8 (IntKind.u8.wrap ((u : Int).tmod 256))] (by simp [Act.eval]) rfl (by first | exact cells_new _ _ _ | exact cells_drew (cells_new _ _ _)) (fun x hx => by simp at hx; rcases hx with rfl | rfl <;> rfl) (by decide) (by unfold maxLen; omega) (by omega) (by simp; omega) _ rfl ?_; intro g cap' w3 hown' hgrow3 hblk hg3)
      all_goals
        have hown3 := hown'
        have e0 : IntKind.u8.wrap ((u : Int) / 256) = (u : Int) / 256 := by rw [IntKind.wrap_u8]; omega
        have e1 : IntKind.u8.wrap ((u : Int).tmod 256) = (u : Int) % 256 := by rw [IntKind.wrap_u8, Int.tmod_eq_emod_of_nonneg (by omega)]; omega
        rw [e0, e1, ← cells_u2 u hu, ← Lib.byteCells_append, ← HTK.out] at hown3
        have e2 : ((l.take (k + 1)).flatMap u2).length = acc.length + 2 := by rw [HTK.out]; simp [u2]
        have hbw3 : Below w.heap.size w w3 := Below.grown (by first | exact hbw.alloc hw _ | exact Below.drew (hbw.alloc hw _)) hgrow3 (by simp; omega) (fun j hj => (hown.lt _ hj).1)
        have E2 := Lib.hid e2
        clear hown' hgrow3 hblk e0 e1 e2
        go_wp2
        go_roundw
        case rel => exact ⟨k + 1, by omega, by go_num, by rw [E2.out]; exact hown3, hbw3⟩
        case measure => simp [intOf]; omega
    · have hlti : ¬ (k : Int) < (n : Int) := by omega
      have hll := HN.out.1
      have HE : Hid ((l.take k).flatMap u2 = l.flatMap u2) := by show _ = _; rw [List.take_of_length_le (by omega)]
      have hcv := run_string_own (P := Tryz.prog) (w := wr) (src := 107) (dst := 9) (e := 5) Tryz.underlying107 Tryz.underlying5 Tryz.underlying9 hown
      clear hll
      go_wp2
      go_ret
      exact ⟨ret_str HE.out, hbw⟩
theorem own_nums {w : World} {B : Nat} {v : Value} {l : List Nat} (h : w.ownsRow B 3 1 v l.length (numC l)) : ∃ a cap, v = .slice a l.length cap ∧ Nums .i64 w a l.length l := by
  rcases h.2 with ⟨rfl, h0⟩ | ⟨g, cap, cur, rfl, hB, hg, -, -, -, -⟩
  · exact ⟨none, 0, by rw [h0], rfl, fun hn => by omega⟩
  · refine ⟨some ⟨g, 0, none⟩, cap, rfl, rfl, fun _ => ⟨g, 0, rfl, lt_of_block hg, fun i hi => ?_⟩⟩
    have hx : (numC l)[i]? = some (.int .i64 ((l[i]?.getD 0 : Nat) : Int)) := by
      unfold numC; rw [List.getElem?_map, List.getElem?_eq_getElem hi]; rfl
    have := h.cells (g := g) rfl i _ hx
    have e : (⟨g, 0, none⟩ : Addr).add i = ⟨g, 0 + i, none⟩ := by unfold Addr.add; split <;> simp_all
    rw [e] at this
    exact this
set_option maxRecDepth 1000000 in
set_option maxHeartbeats 2000000 in
theorem lawStr_any (a : Option Addr) (n cap : Nat) (l : List Nat) (hn : n ≤ 1000000) (hlt : ∀ u ∈ l, u < 65536) (w : World) (h : Nums .u16 w a n l) :
    Calls Tryz.prog 15 #[.slice a n cap] w fun e w' => e = .returned (.string ⟨(l.flatMap u2).toArray⟩) ∧ Below w.heap.size w w' := by
  obtain ⟨i0, hi, hz0, hz1, hz2⟩ := info_parts Tryz.info3
  have HN := Veil.mk h
  have HLT := Veil.mk hlt
  clear h hlt
  go_enter Tryz.func15, Tryz.ntmps15
  go_wp2
  go_loopw [3, 8] (fun v i wr => ∃ k : Nat, k ≤ n ∧ i = .int .i64 (k : Int) ∧ wr.ownsRow w.heap.size 3 1 v k (numC (l.take k)) ∧ Below w.heap.size w wr) (fun _ i _ => n - (intOf i).toNat)
  case atStart => exact ⟨0, by omega, rfl, World.ownsRow_nil _ _ _ _, Below.refl _ _⟩
  case round =>
    obtain ⟨k, hk, rfl, hown, hbw⟩ := hrel
    by_cases hp : k < n
    · obtain ⟨b, o, rfl, hbl, hc⟩ := HN.out.2 (by omega)
      have hll := HN.out.1
      have hcell : wr.cell? ⟨b, o + k, none⟩ = some (.int .u16 ((l[k]?.getD 0 : Nat) : Int)) := by rw [hbw.cell (p := ⟨b, o + k, none⟩) hbl]; exact hc k hp
      have hu : l[k]?.getD 0 < 65536 := by rw [List.getElem?_eq_getElem (by omega)]; exact HLT.out _ (List.getElem_mem _)
      have htk : l.take (k + 1) = l.take k ++ [l[k]?.getD 0] := by
        rw [List.take_add_one, List.getElem?_eq_getElem (by omega)]; simp
      obtain ⟨u, hud⟩ : ∃ u, u = l[k]?.getD 0 := ⟨_, rfl⟩
      rw [← hud] at hcell hu htk
      have HTK := Veil.mk htk
      have hlti : (k : Int) < (n : Int) := by omega
      have hk0 : (0 : Int) ≤ (k : Int) := by omega
      have hui : (u : Int) < 65536 := by omega
      have hu0 : (0 : Int) ≤ (u : Int) := by omega
      have hw := hbw.size
      clear hud htk hc
      go_wp2_with (at_builtin; refine wpList_append_own _ rfl _ _ 53 rfl w.heap.size 3 i0 (.int .i64 0) 1 8 Tryz.underlying53 hi hz0 hz1 hz2 rfl (by decide) _ _ _ rfl (hown.alloc _) ⟨wr.heap.size, 0, none⟩ 1 1 [_] rfl rfl (cells_new _ _ _) (fun x hx => by simp at hx; rcases hx with rfl; rfl) (by unfold maxLen; omega) (by omega) (by simp; omega) ?_; intro v' w3 hown' hgrow3 hnil3; refine Hid.out ?_)
      have hown3 : w3.ownsRow w.heap.size 3 1 v' (k + 1) (numC (l.take (k + 1))) := by rw [HTK.out, numC_append]; exact hown'
      have hbw3 : Below w.heap.size w w3 := Below.grown (hbw.alloc hw _) hgrow3 (by simp; omega) (fun j hj => (hown.lt _ hj).1)
      clear hown' hgrow3 hnil3
      refine Lib.hid ?_
      go_wp2
      go_roundw
      case rel => exact ⟨k + 1, by omega, by go_num, hown3, hbw3⟩
      case measure => simp [intOf]; omega
    · have hlti : ¬ (k : Int) < (n : Int) := by omega
      have hll := HN.out.1
      have hkl : k = l.length := by omega
      have htk : l.take k = l := List.take_of_length_le (by omega)
      rw [htk, hkl] at hown
      obtain ⟨a2, cap2, rfl, hnm⟩ := own_nums hown
      have hS := str_any a2 l.length cap2 l (by omega) HLT.out wr hnm
      clear hll hkl htk
      go_wp2_with (first | (go_at_call 35; ((with_reducible refine hS.mono ?_); rintro e w2 ⟨rfl, hb2⟩)))
      go_ret
      exact ⟨rfl, hbw.trans (hb2.mono hbw.size)⟩
end Go.Proofs.YtgdkjkfbknbgkaaGreatDoor.W
namespace Go.Proofs.YtgdkjkfbknbgkaaGreatDoor.W
open Go Go.RowKit
attribute [local go_sem] Oper.semAt_some

theorem wrap_unit (x y : Nat) (hx : x < 256) (hy : y < 256) : IntKind.i64.wrap (IntKind.i64.wrap (IntKind.i64.wrap (x : Int) * 256) + IntKind.i64.wrap (y : Int)) = ((x * 256 + y : Nat) : Int) := by
  have e1 : IntKind.i64.wrap (x : Int) = x := by rw [IntKind.wrap_i64]; omega
  have e2 : IntKind.i64.wrap (y : Int) = y := by rw [IntKind.wrap_i64]; omega
  have e3 : IntKind.i64.wrap ((x : Int) * 256) = (x : Int) * 256 := by rw [IntKind.wrap_i64]; omega
  rw [e1, e2, e3, IntKind.wrap_i64]; omega
set_option maxRecDepth 1000000 in
set_option maxHeartbeats 2000000 in
theorem list_any (s : ByteArray) (hs : s.size ≤ 1000000) (w : World) :
    Calls Tryz.prog 30 #[.string s] w fun e w' => ∃ v, e = .returned v ∧ w'.ownsRow w.heap.size 3 1 v (unitsS s).length (numC (unitsS s)) ∧ Below w.heap.size w w' := by
  obtain ⟨i0, hi, hz0, hz1, hz2⟩ := info_parts Tryz.info3
  have HL := Veil.mk (unitsS_length s)
  go_enter Tryz.func30, Tryz.ntmps30
  go_wp2
  go_loopw [3, 4] (fun v i wr => ∃ k j : Nat, k ≤ s.size / 2 ∧ j = 2 * k ∧ i = .int .i64 (j : Int) ∧ wr.ownsRow w.heap.size 3 1 v k (numC ((unitsS s).take k)) ∧ Below w.heap.size w wr) (fun _ i _ => s.size + 2 - (intOf i).toNat)
  case atStart => exact ⟨0, 0, by omega, rfl, rfl, World.ownsRow_nil _ _ _ _, Below.refl _ _⟩
  case round =>
    obtain ⟨k, j, hk, hjk, rfl, hown, hbw⟩ := hrel
    by_cases hp : k < s.size / 2
    · have hj1 : j + 1 < s.size := by omega
      have hj0 : j < s.size := by omega
      have hU := unitsS_at s k (by omega)
      have htk : (unitsS s).take (k + 1) = (unitsS s).take k ++ [s[j].toNat * 256 + s[j + 1].toNat] := by
        rw [List.take_add_one, hU]; simp only [hjk]; rfl
      have hx : s[j].toNat < 256 := s[j].toNat_lt
      have hy : s[j + 1].toNat < 256 := s[j + 1].toNat_lt
      have HTK := Veil.mk htk
      have HJK := Veil.mk hjk
      have q1 : (0 : Int) ≤ (j : Int) := by omega
      have q2 : (j : Int) < (s.size : Int) := by omega
      have q3 : (0 : Int) ≤ (j : Int) + 1 := by omega
      have q4 : (j : Int) + 1 < (s.size : Int) := by omega
      have q5 : IntKind.i64.wrap ((j : Int) + 1) = (j : Int) + 1 := by rw [IntKind.wrap_i64]; omega
      have q6 : ((j : Int) + 1).toNat = j + 1 := by omega
      have hw := hbw.size
      clear htk hU hjk
      go_wp2
      go_region_law (refine step_append_lies _ rfl (.tmp 12) (.tmp 24) 53 rfl w.heap.size 3 i0 (.int .i64 0) 1 8 Tryz.underlying53 hi hz0 hz1 hz2 rfl (by decide) u3 k (numC ((unitsS s).take k)) (by simp [Act.eval]) (by first | exact (own_drew hown).alloc _ | exact own_drew (hown.alloc _)) ⟨wr.heap.size, 0, none⟩ 1 1 [_] (by simp [Act.eval]) rfl (by first | exact cells_new _ _ _ | exact cells_drew (cells_new _ _ _)) (fun x hx => by simp at hx; rcases hx with rfl; rfl) (by decide) (by unfold maxLen; omega) (by omega) (by simp; omega) _ rfl ?_; intro g cap' w3 hown' hgrow3 hblk hg3)
      all_goals
        have hown3 := hown'
        rw [wrap_unit _ _ hx hy] at hown3
        have hown4 : w3.ownsRow w.heap.size 3 1 (Value.slice (some { block := g, off := 0 }) (k + 1) cap') (k + 1) (numC ((unitsS s).take (k + 1))) := by rw [HTK.out, numC_append]; exact hown3
        have hbw3 : Below w.heap.size w w3 := Below.grown (by first | exact hbw.alloc hw _ | exact Below.drew (hbw.alloc hw _)) hgrow3 (by simp; omega) (fun j hj => (hown.lt _ hj).1)
        have q7 : IntKind.i64.wrap ((j : Int) + 2) = (j : Int) + 2 := by rw [IntKind.wrap_i64]; omega
        clear hown' hown3 hgrow3 hblk
        go_wp2
        go_roundw
        case rel => exact ⟨k + 1, j + 2, by omega, by have := HJK.out; omega, by go_num, hown4, hbw3⟩
        case measure => simp [intOf]; omega
    · have hkl : k = (unitsS s).length := by have := HL.out; omega
      have htk : (unitsS s).take k = unitsS s := List.take_of_length_le (by omega)
      have q1 : (0 : Int) ≤ (j : Int) := by omega
      have q5 : IntKind.i64.wrap ((j : Int) + 1) = (j : Int) + 1 := by rw [IntKind.wrap_i64]; omega
      have q4 : ¬ ((j : Int) + 1 < (s.size : Int)) := by omega
      rw [htk, hkl] at hown
      clear hkl htk hjk
      go_wp2
      go_ret
      exact ⟨_, rfl, hown, hbw⟩
/-- The slice values xs are, one by one, slices of the numbers in pre, each one whole in a block of its own from B on. -/
def SignsAt (B : Nat) (w : World) (xs : List Value) (pre : List (List Nat)) : Prop :=
  xs.length = pre.length ∧ ∀ (j : Nat) us, pre[j]? = some us → ∃ g fr, xs[j]? = some (.slice (some ⟨g, 0, none⟩) us.length us.length) ∧ B ≤ g ∧ w.heap[g]? = some (.cells (numC us).toArray 3 fr)
theorem SignsAt.nil (B : Nat) (w : World) : SignsAt B w [] [] := ⟨rfl, fun j us h => by simp at h⟩
theorem SignsAt.snoc {B : Nat} {w : World} {xs : List Value} {pre : List (List Nat)} (h : SignsAt B w xs pre) (us : List Nat) (g : Nat) (fr : Nat × Nat) (hg : B ≤ g) (hc : w.heap[g]? = some (.cells (numC us).toArray 3 fr)) :
    SignsAt B w (xs ++ [.slice (some ⟨g, 0, none⟩) us.length us.length]) (pre ++ [us]) := by
  refine ⟨by simp [h.1], fun j vs hj => ?_⟩
  by_cases hlt : j < pre.length
  · rw [List.getElem?_append_left hlt] at hj
    obtain ⟨g', fr', h1, h2, h3⟩ := h.2 j vs hj
    exact ⟨g', fr', by rw [List.getElem?_append_left (by rw [h.1]; exact hlt)]; exact h1, h2, h3⟩
  · have hjl : j = pre.length := by
      have := (List.getElem?_eq_some_iff.1 hj).1
      simp at this; omega
    subst hjl
    rw [List.getElem?_append_right (Nat.le_refl _), Nat.sub_self] at hj
    simp at hj
    subst hj
    exact ⟨g, fr, by rw [List.getElem?_append_right (by rw [h.1]; exact Nat.le_refl _), h.1, Nat.sub_self]; rfl, hg, hc⟩
/-- A growth that writes a row of slices alone leaves the slices' own blocks. -/
theorem SignsAt.grown {B : Nat} {w w' : World} {xs : List Value} {pre : List (List Nat)} (h : SignsAt B w xs pre) {row : Option Nat} (hg : w.grownBy w' row) (hr : ∀ r, row = some r → ∃ cur fr, w.heap[r]? = some (.cells cur 53 fr)) : SignsAt B w' xs pre := by
  refine ⟨h.1, fun j us hj => ?_⟩
  obtain ⟨g, fr, h1, h2, h3⟩ := h.2 j us hj
  refine ⟨g, fr, h1, h2, ?_⟩
  rw [hg.block g (Array.getElem?_eq_some_iff.1 h3).1 (fun e => ?_)]
  · exact h3
  · obtain ⟨cur, fr', hc⟩ := hr g e.symm
    rw [h3] at hc
    injection hc with hc
    injection hc with _ hc _
    exact absurd hc (by decide)
theorem SignsAt.alloc {B : Nat} {w : World} {xs : List Value} {pre : List (List Nat)} (h : SignsAt B w xs pre) (o : Obj) : SignsAt B (w.alloc o) xs pre :=
  h.grown (World.grownBy_alloc w o none) (fun r e => by cases e)
theorem SignsAt.drew {B : Nat} {w : World} {xs : List Value} {pre : List (List Nat)} (h : SignsAt B w xs pre) : SignsAt B w.drew xs pre := h
theorem own_block27 {w : World} {B : Nat} {v : Value} {n : Nat} {xs : List Value} (h : w.ownsRow B 53 1 v n xs) : ∀ r, v.ownBlock = some r → ∃ cur fr, w.heap[r]? = some (.cells cur 53 fr) := fun r hr => by
  rcases h.2 with ⟨rfl, _⟩ | ⟨g, cap, cur, rfl, _, hc, _⟩
  · cases hr
  · cases hr; exact ⟨cur, _, hc⟩
theorem Tryz.info27 : (Tryz.prog.info? 53).map (fun i => (i.zero, i.size, i.bytes)) = some (some (.slice none 0 0), 1, 24) := by kernel_rfl
theorem signs_one (l : List Nat) (k : Nat) (hk : k < l.length) (h : (isHi (l[k]?.getD 0) && isLo (l[k + 1]?.getD 0)) = false) : signs (l.drop k) = [l[k]?.getD 0] :: signs (l.drop (k + 1)) := by
  have e : (ptP (l[k]?.getD 0) (l[k + 1]?.getD 0)).2 = 1 := by simp [ptP, h]
  obtain ⟨hs, _⟩ := signs_step l k hk
  rw [e] at hs
  rw [hs, List.drop_eq_getElem_cons hk, List.getElem?_eq_getElem hk]
  rfl
theorem signs_two (l : List Nat) (k : Nat) (hk : k + 1 < l.length) (h : (isHi (l[k]?.getD 0) && isLo (l[k + 1]?.getD 0)) = true) : signs (l.drop k) = [l[k]?.getD 0, l[k + 1]?.getD 0] :: signs (l.drop (k + 2)) := by
  have e : (ptP (l[k]?.getD 0) (l[k + 1]?.getD 0)).2 = 2 := by simp [ptP, h]
  have hk0 : k < l.length := by omega
  obtain ⟨hs, _⟩ := signs_step l k hk0
  rw [e] at hs
  rw [hs, List.drop_eq_getElem_cons hk0, List.drop_eq_getElem_cons hk, List.getElem?_eq_getElem hk, List.getElem?_eq_getElem hk0]
  rfl
theorem cells_new1 (w : World) (o : Obj) (x : Value) (t : TypeId) : ∀ (j : Nat) u, [x][j]? = some u → ((w.alloc o).alloc (.cells #[x] t)).cell? ((⟨w.heap.size + 1, 0, none⟩ : Addr).add j) = some u := by
  have := cells_new (w.alloc o) [x] t
  rwa [World.size_alloc] at this
theorem block_new1 (w : World) (o o' : Obj) : ((w.alloc o).alloc o').heap[w.heap.size]? = some o := by
  rw [(Below.heap_alloc _ _ _ (by simp))]; exact World.alloc_heap_new w o
def SignsPost (B : Nat) (w : World) (l : List Nat) (e : Ending) (w' : World) : Prop := ∃ v xs, e = .returned v ∧ w'.ownsRow B 53 1 v (signs l).length xs ∧ SignsAt B w' xs (signs l) ∧ Below B w w'
set_option maxRecDepth 1000000 in
set_option maxHeartbeats 4000000 in
theorem refSigns_any (a : Option Addr) (n cap : Nat) (l : List Nat) (hn : n ≤ 1000000) (hlt : ∀ u ∈ l, u < 65536) (w : World) (h : Nums .i64 w a n l) :
    Calls Tryz.prog 63 #[.slice a n cap] w (SignsPost w.heap.size w l) := by
  obtain ⟨i0, hi, hz0, hz1, hz2⟩ := info_parts Tryz.info27
  have HN := Veil.mk h
  have HLT := Veil.mk hlt
  clear h hlt
  go_enter Tryz.func63, Tryz.ntmps63
  go_wp2
  go_loopw [3, 4] (fun v i wr => ∃ (k : Nat) (pre : List (List Nat)) (xs : List Value), k ≤ n ∧ i = .int .i64 (k : Int) ∧ Veil (signs l = pre ++ signs (l.drop k)) ∧ wr.ownsRow w.heap.size 53 1 v pre.length xs ∧ pre.length ≤ k ∧ SignsAt w.heap.size wr xs pre ∧ Below w.heap.size w wr) (fun _ i _ => n - (intOf i).toNat)
  case atStart => exact ⟨0, [], [], by omega, rfl, ⟨rfl⟩, World.ownsRow_nil _ _ _ _, Nat.le_refl _, SignsAt.nil _ _, Below.refl _ _⟩
  case round =>
    obtain ⟨k, pre, xs, hk, rfl, HP, hown, hpl, hsg, hbw⟩ := hrel
    by_cases hp : k < n
    · obtain ⟨b, o, rfl, hbl, hc⟩ := HN.out.2 (by omega)
      have hll := HN.out.1
      have hcell : wr.cell? ⟨b, o + k, none⟩ = some (.int .i64 ((l[k]?.getD 0 : Nat) : Int)) := by rw [hbw.cell (p := ⟨b, o + k, none⟩) hbl]; exact hc k hp
      have hu : l[k]?.getD 0 < 65536 := by rw [List.getElem?_eq_getElem (by omega)]; exact HLT.out _ (List.getElem_mem _)
      have hone := signs_one l k (by omega)
      have htwo : k + 1 < n → _ := fun hh => signs_two l k (by omega)
      have hcell2 : k + 1 < n → wr.cell? ⟨b, o + (k + 1), none⟩ = some (.int .i64 ((l[k + 1]?.getD 0 : Nat) : Int)) := fun hh => by rw [hbw.cell (p := ⟨b, o + (k + 1), none⟩) hbl]; exact hc (k + 1) hh
      have hv0 : ¬ k + 1 < n → l[k + 1]?.getD 0 = 0 := fun hh => by rw [List.getElem?_eq_none (by omega)]; rfl
      obtain ⟨u, hud⟩ : ∃ u, u = l[k]?.getD 0 := ⟨_, rfl⟩
      obtain ⟨v, hvd⟩ : ∃ v, v = l[k + 1]?.getD 0 := ⟨_, rfl⟩
      rw [← hud] at hcell hu hone htwo
      rw [← hvd] at hone htwo hcell2 hv0
      have hlti : (k : Int) < (n : Int) := by omega
      have hk0 : (0 : Int) ≤ (k : Int) := by omega
      have hw := hbw.size
      clear hud hvd hc hll
      have q1 : IntKind.i64.wrap ((k : Int) + 1) = (k : Int) + 1 := IntWalk.i64_in _ (by omega)
      have q2 : (0 : Int) ≤ (k : Int) + 1 := by omega
      have q3 : ((k : Int) + 1).toNat = k + 1 := by omega
      by_cases h1 : 55296 ≤ u
      · by_cases h2 : u ≤ 56319
        · have g1 : (55296 : Int) ≤ (u : Int) := by omega
          have g2 : (u : Int) ≤ 56319 := by omega
          have hH : isHi u = true := (isHi_eq u).2 ⟨h1, h2⟩
          by_cases h3 : k + 1 < n
          · have g3 : (k : Int) + 1 < (n : Int) := by omega
            replace hcell2 := hcell2 h3
            by_cases h4 : 56320 ≤ v
            · by_cases h5 : v ≤ 57343
              · have g4 : (56320 : Int) ≤ (v : Int) := by omega
                have g5 : (v : Int) ≤ 57343 := by omega
                have HS := Veil.mk (htwo h3 (by rw [hH, (isLo_eq v).2 ⟨h4, h5⟩]; rfl))
                clear hone htwo hv0 hH
                go_wp2
                go_region_law (refine step_append_lies _ rfl (.tmp 46) (.tmp 57) 144 rfl w.heap.size 53 i0 (.slice none 0 0) 1 24 Tryz.underlying144 hi hz0 hz1 hz2 rfl (by decide) u3 pre.length xs (by simp [Act.eval]) (by first | exact (((own_drew hown).alloc _).alloc _) | exact own_drew ((hown.alloc _).alloc _)) ⟨wr.heap.size + 1, 0, none⟩ 1 1 [.slice (some ⟨wr.heap.size, 0, none⟩) 2 2] (by simp [Act.eval]) rfl (by first | exact cells_new1 _ _ _ _ | exact cells_drew (cells_new1 _ _ _ _)) (fun x hx => by simp at hx; rcases hx with rfl; rfl) (by decide) (by unfold maxLen; omega) (by omega) (by simp; omega) _ rfl ?_; intro g cap' w3 hown' hgrow3 hblk hg3)
                all_goals
                  have hsg2 := (hsg.alloc (.cells #[.int .i64 (u : Int), .int .i64 (v : Int)] 3)).alloc (.cells #[.slice (some ⟨wr.heap.size, 0, none⟩) 2 2] 53) |>.snoc [u, v] wr.heap.size (0, 0) hw (block_new1 _ _ _)
                  have hsg3 : SignsAt w.heap.size w3 (xs ++ [.slice (some ⟨wr.heap.size, 0, none⟩) 2 2]) (pre ++ [[u, v]]) := by
                    refine SignsAt.grown (hg := hgrow3) (h := ?_) (hr := ?_)
                    · exact hsg2
                    · exact own_block27 ((hown.alloc _).alloc _)
                  have hbw3 : Below w.heap.size w w3 := Below.grown (by first | exact ((hbw.alloc hw _).alloc (by simp; omega) _) | exact Below.drew ((hbw.alloc hw _).alloc (by simp; omega) _)) hgrow3 (by simp; omega) (fun j hj => (hown.lt _ hj).1)
                  have hown3 : w3.ownsRow w.heap.size 53 1 (.slice (some ⟨g, 0, none⟩) (pre.length + 1) cap') (pre ++ [[u, v]]).length (xs ++ [.slice (some ⟨wr.heap.size, 0, none⟩) 2 2]) := by rw [List.length_append]; exact hown'
                  have HQ : Veil (signs l = (pre ++ [[u, v]]) ++ signs (l.drop (k + 2))) := ⟨by rw [HP.out, HS.out, List.append_assoc]; rfl⟩
                  have hpl3 : (pre ++ [[u, v]]).length ≤ k + 2 := by simp; omega
                  clear hown' hgrow3 hblk hg3
                  go_wp2
                  go_roundw
                  case rel => exact ⟨k + 2, _, _, by omega, by go_num, HQ, hown3, hpl3, hsg3, hbw3⟩
                  case measure => simp [intOf]; omega
              · have g5 : ¬ (v : Int) ≤ 57343 := by omega
                have HS := Veil.mk (hone (by rw [hH, Bool.true_and]; exact lo_false (by omega)))
                clear hone htwo
                have g4 : (56320 : Int) ≤ (v : Int) := by omega
                go_wp2_with (at_builtin; refine wpList_append_own _ rfl _ _ 144 rfl w.heap.size 53 i0 (.slice none 0 0) 1 24 Tryz.underlying144 hi hz0 hz1 hz2 rfl (by decide) _ _ _ rfl ((hown.alloc _).alloc _) ⟨wr.heap.size + 1, 0, none⟩ 1 1 [.slice (some ⟨wr.heap.size, 0, none⟩) 1 1] rfl rfl (cells_new1 _ _ _ _) (fun x hx => by simp at hx; rcases hx with rfl; rfl) (by unfold maxLen; omega) (by omega) (by simp; omega) ?_; intro v' w3 hown' hgrow3 hnil3; refine Hid.out ?_)
                have hsg3 := ((hsg.alloc _).alloc _ |>.snoc [u] wr.heap.size (0, 0) hw (block_new1 _ _ _)).grown hgrow3 (own_block27 ((hown.alloc _).alloc _))
                have hbw3 : Below w.heap.size w w3 := Below.grown ((hbw.alloc hw _).alloc (by simp; omega) _) hgrow3 (by simp; omega) (fun j hj => (hown.lt _ hj).1)
                have hown3 : w3.ownsRow w.heap.size 53 1 v' (pre ++ [[u]]).length (xs ++ [.slice (some ⟨wr.heap.size, 0, none⟩) 1 1]) := by rw [List.length_append]; exact hown'
                have HQ : Veil (signs l = (pre ++ [[u]]) ++ signs (l.drop (k + 1))) := ⟨by rw [HP.out, HS.out, List.append_assoc]; rfl⟩
                have hpl3 : (pre ++ [[u]]).length ≤ k + 1 := by simp; omega
                clear hown' hgrow3 hnil3 hown hsg
                refine Lib.hid ?_
                go_wp2
                go_roundw
                case rel => exact ⟨k + 1, _, _, by omega, by go_num, HQ, hown3, hpl3, hsg3, hbw3⟩
                case measure => simp [intOf]; omega
            · have g4 : ¬ (56320 : Int) ≤ (v : Int) := by omega
              have HS := Veil.mk (hone (by rw [hH, Bool.true_and]; exact lo_false (by omega)))
              clear hone htwo
              clear hH
              go_wp2_with (at_builtin; refine wpList_append_own _ rfl _ _ 144 rfl w.heap.size 53 i0 (.slice none 0 0) 1 24 Tryz.underlying144 hi hz0 hz1 hz2 rfl (by decide) _ _ _ rfl ((hown.alloc _).alloc _) ⟨wr.heap.size + 1, 0, none⟩ 1 1 [.slice (some ⟨wr.heap.size, 0, none⟩) 1 1] rfl rfl (cells_new1 _ _ _ _) (fun x hx => by simp at hx; rcases hx with rfl; rfl) (by unfold maxLen; omega) (by omega) (by simp; omega) ?_; intro v' w3 hown' hgrow3 hnil3; refine Hid.out ?_)
              have hsg3 := ((hsg.alloc _).alloc _ |>.snoc [u] wr.heap.size (0, 0) hw (block_new1 _ _ _)).grown hgrow3 (own_block27 ((hown.alloc _).alloc _))
              have hbw3 : Below w.heap.size w w3 := Below.grown ((hbw.alloc hw _).alloc (by simp; omega) _) hgrow3 (by simp; omega) (fun j hj => (hown.lt _ hj).1)
              have hown3 : w3.ownsRow w.heap.size 53 1 v' (pre ++ [[u]]).length (xs ++ [.slice (some ⟨wr.heap.size, 0, none⟩) 1 1]) := by rw [List.length_append]; exact hown'
              have HQ : Veil (signs l = (pre ++ [[u]]) ++ signs (l.drop (k + 1))) := ⟨by rw [HP.out, HS.out, List.append_assoc]; rfl⟩
              have hpl3 : (pre ++ [[u]]).length ≤ k + 1 := by simp; omega
              clear hown' hgrow3 hnil3 hown hsg
              refine Lib.hid ?_
              go_wp2
              go_roundw
              case rel => exact ⟨k + 1, _, _, by omega, by go_num, HQ, hown3, hpl3, hsg3, hbw3⟩
              case measure => simp [intOf]; omega
          · have g3 : ¬ (k : Int) + 1 < (n : Int) := by omega
            have HS := Veil.mk (hone (by rw [hv0 h3, isLo_zero, Bool.and_false]))
            clear hone htwo
            clear hH hcell2
            go_wp2_with (at_builtin; refine wpList_append_own _ rfl _ _ 144 rfl w.heap.size 53 i0 (.slice none 0 0) 1 24 Tryz.underlying144 hi hz0 hz1 hz2 rfl (by decide) _ _ _ rfl ((hown.alloc _).alloc _) ⟨wr.heap.size + 1, 0, none⟩ 1 1 [.slice (some ⟨wr.heap.size, 0, none⟩) 1 1] rfl rfl (cells_new1 _ _ _ _) (fun x hx => by simp at hx; rcases hx with rfl; rfl) (by unfold maxLen; omega) (by omega) (by simp; omega) ?_; intro v' w3 hown' hgrow3 hnil3; refine Hid.out ?_)
            have hsg3 := ((hsg.alloc _).alloc _ |>.snoc [u] wr.heap.size (0, 0) hw (block_new1 _ _ _)).grown hgrow3 (own_block27 ((hown.alloc _).alloc _))
            have hbw3 : Below w.heap.size w w3 := Below.grown ((hbw.alloc hw _).alloc (by simp; omega) _) hgrow3 (by simp; omega) (fun j hj => (hown.lt _ hj).1)
            have hown3 : w3.ownsRow w.heap.size 53 1 v' (pre ++ [[u]]).length (xs ++ [.slice (some ⟨wr.heap.size, 0, none⟩) 1 1]) := by rw [List.length_append]; exact hown'
            have HQ : Veil (signs l = (pre ++ [[u]]) ++ signs (l.drop (k + 1))) := ⟨by rw [HP.out, HS.out, List.append_assoc]; rfl⟩
            have hpl3 : (pre ++ [[u]]).length ≤ k + 1 := by simp; omega
            clear hown' hgrow3 hnil3 hown hsg
            refine Lib.hid ?_
            go_wp2
            go_roundw
            case rel => exact ⟨k + 1, _, _, by omega, by go_num, HQ, hown3, hpl3, hsg3, hbw3⟩
            case measure => simp [intOf]; omega
        · have g1 : (55296 : Int) ≤ (u : Int) := by omega
          have g2 : ¬ (u : Int) ≤ 56319 := by omega
          have HS := Veil.mk (hone (by rw [hi_false (by omega)]; rfl))
          clear hone htwo
          clear hcell2
          go_wp2_with (at_builtin; refine wpList_append_own _ rfl _ _ 144 rfl w.heap.size 53 i0 (.slice none 0 0) 1 24 Tryz.underlying144 hi hz0 hz1 hz2 rfl (by decide) _ _ _ rfl ((hown.alloc _).alloc _) ⟨wr.heap.size + 1, 0, none⟩ 1 1 [.slice (some ⟨wr.heap.size, 0, none⟩) 1 1] rfl rfl (cells_new1 _ _ _ _) (fun x hx => by simp at hx; rcases hx with rfl; rfl) (by unfold maxLen; omega) (by omega) (by simp; omega) ?_; intro v' w3 hown' hgrow3 hnil3; refine Hid.out ?_)
          have hsg3 := ((hsg.alloc _).alloc _ |>.snoc [u] wr.heap.size (0, 0) hw (block_new1 _ _ _)).grown hgrow3 (own_block27 ((hown.alloc _).alloc _))
          have hbw3 : Below w.heap.size w w3 := Below.grown ((hbw.alloc hw _).alloc (by simp; omega) _) hgrow3 (by simp; omega) (fun j hj => (hown.lt _ hj).1)
          have hown3 : w3.ownsRow w.heap.size 53 1 v' (pre ++ [[u]]).length (xs ++ [.slice (some ⟨wr.heap.size, 0, none⟩) 1 1]) := by rw [List.length_append]; exact hown'
          have HQ : Veil (signs l = (pre ++ [[u]]) ++ signs (l.drop (k + 1))) := ⟨by rw [HP.out, HS.out, List.append_assoc]; rfl⟩
          have hpl3 : (pre ++ [[u]]).length ≤ k + 1 := by simp; omega
          clear hown' hgrow3 hnil3 hown hsg
          refine Lib.hid ?_
          go_wp2
          go_roundw
          case rel => exact ⟨k + 1, _, _, by omega, by go_num, HQ, hown3, hpl3, hsg3, hbw3⟩
          case measure => simp [intOf]; omega
      · have g1 : ¬ (55296 : Int) ≤ (u : Int) := by omega
        have HS := Veil.mk (hone (by rw [hi_false (by omega)]; rfl))
        clear hone htwo
        clear hcell2
        go_wp2_with (at_builtin; refine wpList_append_own _ rfl _ _ 144 rfl w.heap.size 53 i0 (.slice none 0 0) 1 24 Tryz.underlying144 hi hz0 hz1 hz2 rfl (by decide) _ _ _ rfl ((hown.alloc _).alloc _) ⟨wr.heap.size + 1, 0, none⟩ 1 1 [.slice (some ⟨wr.heap.size, 0, none⟩) 1 1] rfl rfl (cells_new1 _ _ _ _) (fun x hx => by simp at hx; rcases hx with rfl; rfl) (by unfold maxLen; omega) (by omega) (by simp; omega) ?_; intro v' w3 hown' hgrow3 hnil3; refine Hid.out ?_)
        have hsg3 := ((hsg.alloc _).alloc _ |>.snoc [u] wr.heap.size (0, 0) hw (block_new1 _ _ _)).grown hgrow3 (own_block27 ((hown.alloc _).alloc _))
        have hbw3 : Below w.heap.size w w3 := Below.grown ((hbw.alloc hw _).alloc (by simp; omega) _) hgrow3 (by simp; omega) (fun j hj => (hown.lt _ hj).1)
        have hown3 : w3.ownsRow w.heap.size 53 1 v' (pre ++ [[u]]).length (xs ++ [.slice (some ⟨wr.heap.size, 0, none⟩) 1 1]) := by rw [List.length_append]; exact hown'
        have HQ : Veil (signs l = (pre ++ [[u]]) ++ signs (l.drop (k + 1))) := ⟨by rw [HP.out, HS.out, List.append_assoc]; rfl⟩
        have hpl3 : (pre ++ [[u]]).length ≤ k + 1 := by simp; omega
        clear hown' hgrow3 hnil3 hown hsg
        refine Lib.hid ?_
        go_wp2
        go_roundw
        case rel => exact ⟨k + 1, _, _, by omega, by go_num, HQ, hown3, hpl3, hsg3, hbw3⟩
        case measure => simp [intOf]; omega
    · have hlti : ¬ (k : Int) < (n : Int) := by omega
      have hll := HN.out.1
      have hkl : k = l.length := by omega
      have HE : Veil (signs l = pre) := ⟨by rw [HP.out, hkl, List.drop_length]; simp [signs]⟩
      clear hll hkl
      go_wp2
      go_ret
      exact ⟨_, xs, rfl, by rw [HE.out]; exact hown, by rw [HE.out]; exact hsg, hbw⟩
def ListPost (B : Nat) (w : World) (l : List Nat) (e : Ending) (w' : World) : Prop := ∃ a cap, e = .returned (.slice a l.length cap) ∧ Nums .i64 w' a l.length l ∧ (a = none → l.length = 0) ∧ l.length ≤ cap ∧ Below B w w'
theorem list_at (x : ByteArray) (l : List Nat) (hs : x.size ≤ 1000000) (hx : Veil (unitsS x = l)) (w : World) :
    Calls Tryz.prog 30 #[.string x] w (ListPost w.heap.size w l) :=
  (list_any x hs w).mono fun e w' ⟨v, he, hown, hb⟩ => by
    rw [hx.out] at hown
    rcases hown.2 with ⟨rfl, h0⟩ | ⟨g, cap, cur, rfl, hB, hg, hc, -, -, -⟩
    · exact ⟨none, 0, by rw [h0]; exact he, ⟨rfl, fun hn => by omega⟩, fun _ => h0, by omega, hb⟩
    · obtain ⟨a, cap', e', hn⟩ := own_nums hown
      cases e'
      exact ⟨_, _, he, hn, (fun (h : some _ = none) => nomatch h), hc, hb⟩
/-- The row of slices that want holds, read in a world: all of it lies from lo on and below hi. -/
def RowsAt (lo hi : Nat) (W : World) (v : Value) (S : List (List Nat)) : Prop :=
  ∃ a cap, v = .slice a S.length cap ∧ ∀ (j : Nat) us, S[j]? = some us → ∃ b g, a = some ⟨b, 0, none⟩ ∧ lo ≤ b ∧ b < hi ∧ lo ≤ g ∧ g < hi ∧ W.cell? ⟨b, j, none⟩ = some (.slice (some ⟨g, 0, none⟩) us.length us.length) ∧ ∀ i, i < us.length → W.cell? ⟨g, i, none⟩ = some (.int .i64 ((us[i]?.getD 0 : Nat) : Int))
theorem RowsAt.kept {lo hi : Nat} {W W' : World} {v : Value} {S : List (List Nat)} (h : RowsAt lo hi W v S) (hk : ∀ b o, lo ≤ b → b < hi → W'.cell? ⟨b, o, none⟩ = W.cell? ⟨b, o, none⟩) : RowsAt lo hi W' v S := by
  obtain ⟨a, cap, hv, h⟩ := h
  refine ⟨a, cap, hv, fun j us hj => ?_⟩
  obtain ⟨b, g, h1, h2, h3, h4, h5, h6, h7⟩ := h j us hj
  exact ⟨b, g, h1, h2, h3, h4, h5, by rw [hk b j h2 h3]; exact h6, fun i hi => by rw [hk g i h4 h5]; exact h7 i hi⟩
theorem RowsAt.grows {lo hi : Nat} {W W' : World} {v : Value} {S : List (List Nat)} (h : RowsAt lo hi W v S) {row : Option Nat} (hg : W.grownBy W' row) (hr : ∀ r, row = some r → ∃ o : Obj, W.heap[r]? = some o ∧ o.isCells = false) : RowsAt lo hi W' v S := by
  obtain ⟨a, cap, hv, h⟩ := h
  refine ⟨a, cap, hv, fun j us hj => ?_⟩
  obtain ⟨b, g, h1, h2, h3, h4, h5, h6, h7⟩ := h j us hj
  exact ⟨b, g, h1, h2, h3, h4, h5, cell_kept h6 hg hr, fun i hi => cell_kept (h7 i hi) hg hr⟩
theorem RowsAt.of {lo : Nat} {w' : World} {v : Value} {S : List (List Nat)} {xs : List Value} (hown : w'.ownsRow lo 53 1 v S.length xs) (hs : SignsAt lo w' xs S) : RowsAt lo w'.heap.size w' v S := by
  rcases hown.2 with ⟨rfl, h0⟩ | ⟨b, cap, cur, rfl, hB, hb, hc, -, -, -⟩
  · refine ⟨none, 0, by rw [h0], fun j us hj => ?_⟩
    have := (List.getElem?_eq_some_iff.1 hj).1
    omega
  · refine ⟨_, cap, rfl, fun j us hj => ?_⟩
    obtain ⟨g, fr, h1, h2, h3⟩ := hs.2 j us hj
    refine ⟨b, g, rfl, hB, (Array.getElem?_eq_some_iff.1 hb).1, h2, (Array.getElem?_eq_some_iff.1 h3).1, ?_, fun i hi => ?_⟩
    · have := hown.cells (g := b) rfl j _ h1
      have e : (⟨b, 0, none⟩ : Addr).add j = ⟨b, j, none⟩ := by unfold Addr.add; split <;> simp_all
      rwa [e] at this
    · rw [cell_of_row w' g i _ _ _ h3]
      unfold numC; rw [List.getElem?_toArray, List.getElem?_map, List.getElem?_eq_getElem hi]; rfl
def SignsPost2 (B : Nat) (w : World) (S : List (List Nat)) (e : Ending) (w' : World) : Prop := ∃ va vc, e = .returned (.slice va S.length vc) ∧ RowsAt B w'.heap.size w' (.slice va S.length vc) S ∧ Below B w w'
theorem refSigns_at (a : Option Addr) (n cap : Nat) (l : List Nat) (S : List (List Nat)) (hn : n ≤ 1000000) (hlt : ∀ u ∈ l, u < 65536) (hS : Veil (signs l = S)) (w : World) (h : Nums .i64 w a n l) :
    Calls Tryz.prog 63 #[.slice a n cap] w (SignsPost2 w.heap.size w S) :=
  (refSigns_any a n cap l hn hlt w h).mono fun e w' ⟨v, xs, he, hown, hsg, hb⟩ => by
    rw [hS.out] at hown hsg
    have hR := RowsAt.of hown hsg
    obtain ⟨va, vc, rfl, -⟩ := id hR
    exact ⟨va, vc, he, hR, hb⟩
theorem RowsAt.nums {lo hi : Nat} {W : World} {v : Value} {S : List (List Nat)} (h : RowsAt lo hi W v S) (hhi : hi ≤ W.heap.size) (j : Nat) (us : List Nat) (hj : S[j]? = some us) :
    ∃ b g cap, v = .slice (some ⟨b, 0, none⟩) S.length cap ∧ W.cell? ⟨b, j, none⟩ = some (.slice (some ⟨g, 0, none⟩) us.length us.length) ∧ Nums .i64 W (some ⟨g, 0, none⟩) us.length us := by
  obtain ⟨a, cap, hv, h⟩ := h
  obtain ⟨b, g, h1, h2, h3, h4, h5, h6, h7⟩ := h j us hj
  subst h1
  exact ⟨b, g, cap, hv, h6, rfl, fun _ => ⟨g, 0, rfl, by omega, fun i hi => by rw [Nat.zero_add]; exact h7 i hi⟩⟩
end Go.Proofs.YtgdkjkfbknbgkaaGreatDoor.W
namespace Go.Proofs.YtgdkjkfbknbgkaaGreatDoor.W
open Go Go.RowKit
attribute [local go_sem] Oper.semAt_some

theorem conv4 (w : World) (x1 x2 x3 x4 : UInt8) : (convert 107 9 (.slice (some ⟨w.heap.size, 0, none⟩) 4 4)).run Tryz.prog ((w.alloc (.cells #[.int .u8 (x1.toNat : Int), .int .u8 (x2.toNat : Int), .int .u8 (x3.toNat : Int), .int .u8 (x4.toNat : Int)] 5)).drew) = .ok (.string ⟨[x1, x2, x3, x4].toArray⟩) ((w.alloc (.cells #[.int .u8 (x1.toNat : Int), .int .u8 (x2.toNat : Int), .int .u8 (x3.toNat : Int), .int .u8 (x4.toNat : Int)] 5)).drew) := by
  have hown : ((w.alloc (.cells #[.int .u8 (x1.toNat : Int), .int .u8 (x2.toNat : Int), .int .u8 (x3.toNat : Int), .int .u8 (x4.toNat : Int)] 5)).drew).ownsRow 0 5 1 (.slice (some ⟨w.heap.size, 0, none⟩) 4 4) 4 (Lib.byteCells [x1, x2, x3, x4]) :=
    ⟨rfl, .inr ⟨w.heap.size, 4, _, rfl, Nat.zero_le _, World.alloc_heap_new w _, Nat.le_refl _, by unfold maxLen; decide, rfl, rfl⟩⟩
  exact run_string_own (P := Tryz.prog) (src := 107) (dst := 9) (e := 5) Tryz.underlying107 Tryz.underlying5 Tryz.underlying9 hown
set_option maxHeartbeats 2000000 in
set_option maxRecDepth 100000 in
theorem hex_any (n : Nat) (w : World) (hn : n < 65536) :
    Calls Tryz.prog 64 #[.int .i64 (n : Int)] w fun e w' => e = .returned (.string ⟨(hex4 n).toArray⟩) ∧ Below w.heap.size w w' := by
  have a0 : (0 : Int) ≤ (n : Int) := by omega
  have e1 : (n : Int) / 4096 % 16 = ((n / 4096 % 16 : Nat) : Int) := by omega
  have e2 : (n : Int) / 256 % 16 = ((n / 256 % 16 : Nat) : Int) := by omega
  have e3 : (n : Int) / 16 % 16 = ((n / 16 % 16 : Nat) : Int) := by omega
  have e4 : (n : Int) % 16 = ((n % 16 : Nat) : Int) := by omega
  have l1 : n / 4096 % 16 < 16 := by omega
  have l2 : n / 256 % 16 < 16 := by omega
  have l3 : n / 16 % 16 < 16 := by omega
  have l4 : n % 16 < 16 := by omega
  have HX : Veil (hex4 n = [hexD (n / 4096 % 16), hexD (n / 256 % 16), hexD (n / 16 % 16), hexD (n % 16)]) := ⟨rfl⟩
  generalize n / 4096 % 16 = q1 at e1 l1 HX
  generalize n / 256 % 16 = q2 at e2 l2 HX
  generalize n / 16 % 16 = q3 at e3 l3 HX
  generalize n % 16 = q4 at e4 l4 HX
  have D1 := Veil.mk (digit_at q1 l1)
  have D2 := Veil.mk (digit_at q2 l2)
  have D3 := Veil.mk (digit_at q3 l3)
  have D4 := Veil.mk (digit_at q4 l4)
  have m1 : (q1 : Int) < 16 := by omega
  have m2 : (q2 : Int) < 16 := by omega
  have m3 : (q3 : Int) < 16 := by omega
  have m4 : (q4 : Int) < 16 := by omega
  have k1 : (0 : Int) ≤ (q1 : Int) := by omega
  have k2 : (0 : Int) ≤ (q2 : Int) := by omega
  have k3 : (0 : Int) ≤ (q3 : Int) := by omega
  have k4 : (0 : Int) ≤ (q4 : Int) := by omega
  have hcv := conv4 w ((⟨#[48, 49, 50, 51, 52, 53, 54, 55, 56, 57, 65, 66, 67, 68, 69, 70]⟩ : ByteArray)[q1]'l1) ((⟨#[48, 49, 50, 51, 52, 53, 54, 55, 56, 57, 65, 66, 67, 68, 69, 70]⟩ : ByteArray)[q2]'l2) ((⟨#[48, 49, 50, 51, 52, 53, 54, 55, 56, 57, 65, 66, 67, 68, 69, 70]⟩ : ByteArray)[q3]'l3) ((⟨#[48, 49, 50, 51, 52, 53, 54, 55, 56, 57, 65, 66, 67, 68, 69, 70]⟩ : ByteArray)[q4]'l4)
  go_enter Tryz.func64, Tryz.ntmps64
  go_wp2
  go_region
  all_goals
    go_wp2
    go_ret
    exact ⟨ret_str (by rw [HX.out, ← D1.out, ← D2.out, ← D3.out, ← D4.out]), ((Below.refl _ _).alloc (Nat.le_refl _) _).drew⟩
theorem hex_127 (w : World) : Calls Tryz.prog 64 #[.int .i64 127] w fun e w' => e = .returned (.string ⟨(hex4 127).toArray⟩) ∧ Below w.heap.size w w' := hex_any 127 w (by omega)
def EncPost (B : Nat) (w : World) (r : List UInt8) (e : Ending) (w' : World) : Prop := ∃ v', e = .returned v' ∧ w'.ownsRow B 5 1 v' r.length (Lib.byteCells r) ∧ Below B w w'
theorem appendRune_any (c : Nat) (hc : c ≤ 1114111) (r : List UInt8) (hr : Veil (Lib.encodeRune (c : Int) = r)) (B : Nat) (w : World) (hB : B ≤ w.heap.size) :
    Calls Tryz.prog 65 #[.slice none 0 0, .int .i32 (c : Int)] w (EncPost B w r) :=
  (Tryz.utf8_AppendRune_plain B (.slice none 0 0) 0 [] (c : Int) (by omega) (by omega) w (World.ownsRow_nil _ _ _ _) (by omega) hB).mono fun e w' ⟨v', he, hown, o, hg⟩ => by
    rw [cells_len, ← Lib.byteCells_encodeRune, hr.out] at hown
    refine ⟨v', he, by simpa using hown, ((Below.refl _ _).alloc hB _).grown hg (by simp; omega) (fun k h => by cases h)⟩
set_option maxHeartbeats 4000000 in
set_option maxRecDepth 100000 in
theorem refGo_any (a : Option Addr) (n cap : Nat) (l : List Nat) (hn : n ≤ 3000) (hlt : ∀ u ∈ l, u < 65536) (w : World) (h : Nums .i64 w a n l) :
    Calls Tryz.prog 29 #[.slice a n cap] w fun e w' => e = .returned (.string ⟨(goL (signs l)).toArray⟩) ∧ Below w.heap.size w w' := by
  obtain ⟨S, hS⟩ : ∃ S, S = signs l := ⟨_, rfl⟩
  have SX := Veil.mk hS.symm
  have FX : Veil (∀ us ∈ S, (∃ u, us = [u] ∧ u < 65536) ∨ ∃ u v, us = [u, v] ∧ isHi u = true ∧ isLo v = true) := ⟨fun us hu => by
    rw [hS] at hu
    rcases signs_form l us hu with ⟨u, e, hm⟩ | h
    · exact .inl ⟨u, e, hlt u hm⟩
    · exact .inr h⟩
  have hSl : S.length ≤ 3000 := by rw [hS]; exact Nat.le_trans (signs_count l) (by rw [h.1]; exact hn)
  rw [← hS]
  have HN := Veil.mk h
  have HL := Veil.mk hlt
  clear hS h hlt
  go_enter Tryz.func29, Tryz.ntmps29
  go_wp2_with (first | (go_at_call 63; ((with_reducible refine (refSigns_at a _ cap l S (by omega) HL.out SX _ HN.out).mono ?_); rintro e w4 ⟨va, vc, rfl, hR, hb4⟩)))
  obtain ⟨lo, hlo⟩ : ∃ lo, lo = w.heap.size := ⟨_, rfl⟩
  obtain ⟨hi, hhi⟩ : ∃ hi, hi = w4.heap.size := ⟨_, rfl⟩
  rw [← hlo, ← hhi] at hR
  have HLO := Veil.mk hlo
  have HHI := Veil.mk hhi
  clear hlo hhi
  go_loopw [3, 5] (fun out i wr => ∃ k : Nat, k ≤ S.length ∧ i = .int .i64 (k : Int) ∧ out = .string ⟨(goL (S.take k)).toArray⟩ ∧ RowsAt lo hi wr (.slice va S.length vc) S ∧ hi ≤ wr.heap.size ∧ Below w.heap.size w wr) (fun _ i _ => S.length - (intOf i).toNat)
  case atStart => exact ⟨0, by omega, rfl, rfl, hR, by rw [HHI.out]; exact Nat.le_refl _, hb4⟩
  case round =>
    obtain ⟨k, hk, rfl, rfl, hRr, hhr, hbw⟩ := hrel
    clear hR hb4 HHI
    by_cases hp : k < S.length
    · have hus : S[k]? = some S[k] := List.getElem?_eq_getElem hp
      have hform := FX.out S[k] (List.getElem_mem hp)
      have htk : S.take (k + 1) = S.take k ++ [S[k]] := by rw [List.take_add_one, hus]; rfl
      generalize S[k] = us at hus hform htk
      obtain ⟨b, g, cap', hv, hcw, hnu⟩ := hRr.nums hhr k us hus
      cases hv
      have hlen := goL_len (S.take k)
      have htl : (S.take k).length ≤ S.length := by rw [List.length_take]; omega
      have HG := Veil.mk (goL_snoc (S.take k) us)
      rw [← htk] at HG
      have hlti : (k : Int) < (S.length : Int) := by omega
      have hk0 : (0 : Int) ≤ (k : Int) := by omega
      have hws := hbw.size
      generalize hacc : goL (S.take k) = acc at HG hlen
      clear hacc htk
      have hal : acc.length ≤ 18000 := by omega
      have hsz := size_str acc
      have hRk := fun W (hb : Below wr.heap.size wr W) => hRr.kept (W' := W) (fun b o _ h => hb.cell (p := ⟨b, o, none⟩) (Nat.lt_of_lt_of_le h hhr))
      clear hlen htl
      rcases hform with ⟨u, rfl, hu⟩ | ⟨u, v, rfl, hu, hv⟩
      · have hcu : wr.cell? ⟨g, 0, none⟩ = some (.int .i64 (u : Int)) := by
          obtain ⟨_, _, e, _, h⟩ := hnu.2 (by simp)
          cases e
          exact h 0 (by simp)
        rw [cpO_one] at HG
        clear hnu
        by_cases c1 : u = 92
        · subst c1
          have GR : Veil (goR 92 = [92, 92]) := ⟨rfl⟩
          go_wp2
          exact ⟨⟨k + 1, by omega, by go_num, by rw [HG.out, GR.out]; exact congrArg Value.string (cat_str acc [92, 92]), hRr, hhr, hbw⟩, by simp [intOf]; omega⟩
        · have q1 : ((u : Int) == 92) = false := beq_eq_false_iff_ne.2 (by omega)
          by_cases c2 : u < 32 ∨ u = 127 ∨ (55296 ≤ u ∧ u ≤ 57343)
          · have GR : Veil (goR u = 92 :: 117 :: hex4 u) := ⟨by unfold goR; rw [if_neg c1, if_pos c2]⟩
            have z1 : ¬ 9223372036854775807 < acc.length + (2 + (hex4 u).length) := by show ¬ _ < acc.length + (2 + 4); omega
            have z0 : ¬ 9223372036854775807 < 2 + (hex4 u).length := by show ¬ _ < 2 + 4; omega
            by_cases c3 : u < 32
            · have q2 : (u : Int) < 32 := by omega
              clear c2
              go_wp2_with (first | (go_at_call 64; ((with_reducible refine (hex_any _ _ hu).mono ?_); rintro e w5 ⟨rfl, hb5⟩)) | (go_at_call 65; ((with_reducible refine (appendRune_any CC hcc en EN wr.heap.size _ (Nat.le_refl _)).mono ?_); rintro e w5 ⟨v5, rfl, hown5, hb5⟩; have hcv := run_string_own (P := Tryz.prog) (w := w5) (src := 107) (dst := 9) (e := 5) Tryz.underlying107 Tryz.underlying5 Tryz.underlying9 hown5)))
              exact ⟨⟨k + 1, by omega, by go_num, by rw [HG.out, GR.out]; exact congrArg Value.string ((congrArg (fun z : ByteArray => (⟨acc.toArray⟩ : ByteArray) ++ z) (cat_str [92, 117] (hex4 u))).trans (cat_str acc (92 :: 117 :: hex4 u))), hRk _ hb5, by have := hb5.size; omega, hbw.trans (hb5.mono hws)⟩, by simp [intOf]; omega⟩
            · have q2 : ¬ (u : Int) < 32 := by omega
              by_cases c4 : u = 127
              · subst c4
                clear c2
                go_wp2_with (first | (go_at_call 64; ((with_reducible refine (hex_127 _).mono ?_); rintro e w5 ⟨rfl, hb5⟩)) | (go_at_call 65; ((with_reducible refine (appendRune_any CC hcc en EN wr.heap.size _ (Nat.le_refl _)).mono ?_); rintro e w5 ⟨v5, rfl, hown5, hb5⟩; have hcv := run_string_own (P := Tryz.prog) (w := w5) (src := 107) (dst := 9) (e := 5) Tryz.underlying107 Tryz.underlying5 Tryz.underlying9 hown5)))
                exact ⟨⟨k + 1, by omega, by go_num, by rw [HG.out, GR.out]; exact congrArg Value.string ((congrArg (fun z : ByteArray => (⟨acc.toArray⟩ : ByteArray) ++ z) (cat_str [92, 117] (hex4 127))).trans (cat_str acc (92 :: 117 :: hex4 127))), hRk _ hb5, by have := hb5.size; omega, hbw.trans (hb5.mono hws)⟩, by simp [intOf]; omega⟩
              · have q3 : ((u : Int) == 127) = false := beq_eq_false_iff_ne.2 (by omega)
                have q4 : (55296 : Int) ≤ (u : Int) := by omega
                have q5 : (u : Int) ≤ 57343 := by omega
                clear c2
                go_wp2_with (first | (go_at_call 64; ((with_reducible refine (hex_any _ _ hu).mono ?_); rintro e w5 ⟨rfl, hb5⟩)) | (go_at_call 65; ((with_reducible refine (appendRune_any CC hcc en EN wr.heap.size _ (Nat.le_refl _)).mono ?_); rintro e w5 ⟨v5, rfl, hown5, hb5⟩; have hcv := run_string_own (P := Tryz.prog) (w := w5) (src := 107) (dst := 9) (e := 5) Tryz.underlying107 Tryz.underlying5 Tryz.underlying9 hown5)))
                exact ⟨⟨k + 1, by omega, by go_num, by rw [HG.out, GR.out]; exact congrArg Value.string ((congrArg (fun z : ByteArray => (⟨acc.toArray⟩ : ByteArray) ++ z) (cat_str [92, 117] (hex4 u))).trans (cat_str acc (92 :: 117 :: hex4 u))), hRk _ hb5, by have := hb5.size; omega, hbw.trans (hb5.mono hws)⟩, by simp [intOf]; omega⟩
          · obtain ⟨en, hen⟩ : ∃ en, en = Lib.encodeRune (u : Int) := ⟨_, rfl⟩
            have GR : Veil (goR u = en) := ⟨by unfold goR; rw [if_neg c1, if_neg c2, hen]⟩
            have EN := Veil.mk hen.symm
            have HE4 := (encode_len (u : Int)).2
            rw [← hen] at HE4
            have z1 : ¬ 9223372036854775807 < acc.length + en.length := by omega
            have hcc : u ≤ 1114111 := by omega
            have q2 : ¬ (u : Int) < 32 := by omega
            have q3 : ((u : Int) == 127) = false := beq_eq_false_iff_ne.2 (by omega)
            have q6 : IntKind.i32.wrap (u : Int) = (u : Int) := IntWalk.i32_in _ (by omega)
            clear hen
            by_cases c5 : 55296 ≤ u
            · have q4 :  (55296 : Int) ≤ (u : Int) := by omega
              have q5 : ¬ (u : Int) ≤ 57343 := by omega
              clear c2
              go_wp2_with (first | (go_at_call 64; ((with_reducible refine (hex_any _ _ hu).mono ?_); rintro e w5 ⟨rfl, hb5⟩)) | (go_at_call 65; ((with_reducible refine (appendRune_any u hcc en EN wr.heap.size _ (Nat.le_refl _)).mono ?_); rintro e w5 ⟨v5, rfl, hown5, hb5⟩; have hcv := run_string_own (P := Tryz.prog) (w := w5) (src := 107) (dst := 9) (e := 5) Tryz.underlying107 Tryz.underlying5 Tryz.underlying9 hown5)))
              exact ⟨⟨k + 1, by omega, by go_num, by rw [HG.out, GR.out]; exact congrArg Value.string (cat_str acc en), hRk _ hb5, by have := hb5.size; omega, hbw.trans (hb5.mono hws)⟩, by simp [intOf]; omega⟩
            · have q4 : ¬ (55296 : Int) ≤ (u : Int) := by omega
              clear c2
              go_wp2_with (first | (go_at_call 64; ((with_reducible refine (hex_any _ _ hu).mono ?_); rintro e w5 ⟨rfl, hb5⟩)) | (go_at_call 65; ((with_reducible refine (appendRune_any u hcc en EN wr.heap.size _ (Nat.le_refl _)).mono ?_); rintro e w5 ⟨v5, rfl, hown5, hb5⟩; have hcv := run_string_own (P := Tryz.prog) (w := w5) (src := 107) (dst := 9) (e := 5) Tryz.underlying107 Tryz.underlying5 Tryz.underlying9 hown5)))
              exact ⟨⟨k + 1, by omega, by go_num, by rw [HG.out, GR.out]; exact congrArg Value.string (cat_str acc en), hRk _ hb5, by have := hb5.size; omega, hbw.trans (hb5.mono hws)⟩, by simp [intOf]; omega⟩
      · have hcu : wr.cell? ⟨g, 0, none⟩ = some (.int .i64 (u : Int)) := by
          obtain ⟨_, _, e, _, h⟩ := hnu.2 (by simp)
          cases e
          exact h 0 (by simp)
        have hcv1 : wr.cell? ⟨g, 1, none⟩ = some (.int .i64 (v : Int)) := by
          obtain ⟨_, _, e, _, h⟩ := hnu.2 (by simp)
          cases e
          have := h 1 (by simp)
          rwa [Nat.zero_add] at this
        rw [cpO_two u v hu hv] at HG
        clear hnu
        obtain ⟨q1, q2⟩ := (isHi_eq u).1 hu
        obtain ⟨q3, q4⟩ := (isLo_eq v).1 hv
        clear hu hv
        obtain ⟨c, hc⟩ : ∃ c : Nat, c = 65536 + (u - 55296) * 1024 + (v - 56320) := ⟨_, rfl⟩
        rw [← hc] at HG
        have hcc : c ≤ 1114111 := by omega
        have hc0 : 65536 ≤ c := by omega
        have hce : 65536 + ((u : Int) - 55296) * 1024 + (v : Int) - 56320 = (c : Int) := by omega
        have q1' : (55296 : Int) ≤ (u : Int) := by omega
        have q2' : (u : Int) ≤ 56319 := by omega
        have q3' : (56320 : Int) ≤ (v : Int) := by omega
        have q4' : (v : Int) ≤ 57343 := by omega
        clear hc
        have HCE := Veil.mk hce
        clear hce
        obtain ⟨en, hen⟩ : ∃ en, en = Lib.encodeRune (c : Int) := ⟨_, rfl⟩
        have GR : Veil (goR c = en) := ⟨by unfold goR; rw [if_neg (by omega), if_neg (by omega), hen]⟩
        have EN := Veil.mk hen.symm
        have HE4 := (encode_len (c : Int)).2
        rw [← hen] at HE4
        have z1 : ¬ 9223372036854775807 < acc.length + en.length := by omega
        have z2 : ((c : Int) == 92) = false := beq_eq_false_iff_ne.2 (by omega)
        have z3 : ¬ (c : Int) < 32 := by omega
        have z4 : ((c : Int) == 127) = false := beq_eq_false_iff_ne.2 (by omega)
        have z5 : (55296 : Int) ≤ (c : Int) := by omega
        have z6 : ¬ (c : Int) ≤ 57343 := by omega
        have z7 : IntKind.i32.wrap (c : Int) = (c : Int) := IntWalk.i32_in _ (by omega)
        clear hen
        go_wp2
        go_region
        rw [HCE.out]
        have hbd : wr.heap.size ≤ wr.drew.heap.size := Nat.le_refl _
        go_wp2_with (first | (go_at_call 65; ((with_reducible refine (appendRune_any c hcc en EN wr.heap.size _ hbd).mono ?_); rintro e w5 ⟨v5, rfl, hown5, hb5⟩; have hcv := run_string_own (P := Tryz.prog) (w := w5) (src := 107) (dst := 9) (e := 5) Tryz.underlying107 Tryz.underlying5 Tryz.underlying9 hown5)))
        have hb6 : Below wr.heap.size wr w5 := (Below.refl wr.heap.size wr).drew.trans hb5
        exact ⟨⟨k + 1, by omega, by go_num, by rw [HG.out, GR.out]; exact congrArg Value.string (cat_str acc en), hRk _ hb6, by have := hb6.size; omega, hbw.trans (hb6.mono hws)⟩, by simp [intOf]; omega⟩
    · have hkl : k = S.length := by omega
      have HE : Veil (goL (S.take k) = goL S) := ⟨by rw [hkl, List.take_length]⟩
      have hlti : ¬ (k : Int) < (S.length : Int) := by omega
      clear hkl
      go_wp2
      go_ret
      exact ⟨ret_str HE.out, hbw⟩
end Go.Proofs.YtgdkjkfbknbgkaaGreatDoor.W
