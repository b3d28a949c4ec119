/- The reference's Str: numbers as a string of pairs of bytes. -/
import Derived.Test.YtfejompnjaifmaaDoorTb
import Derived.Deep.AppendLies
import Derived.Deep.RegionLaw
namespace Go.Proofs.YtfejompnjaifmaaDoor.W
open Go.RowKit

/-- Numbers as cells. -/
def numC (l : List Nat) : List Value := l.map (fun (u : Nat) => Value.int .i64 (u : Int))
theorem numC_length (l : List Nat) : (numC l).length = l.length := by simp [numC]
theorem numC_append (a b : List Nat) : numC (a ++ b) = numC a ++ numC b := by simp [numC]
theorem Tryd.info3 : (Tryd.prog.info? 3).map (fun i => (i.zero, i.size, i.bytes)) = some (some (.int .i64 0), 1, 8) := by kernel_rfl
/-- A fact that no search of the walk's looks into. -/
structure Veil (p : Prop) : Prop where
  out : p
theorem below_own {B : Nat} {e : TypeId} {size n : Nat} {v : Value} {xs : List Value} {w w1 : World} (h : w.ownsRow B e size v n xs) (hb : Below w.heap.size w w1) (_ : B ≤ w.heap.size) : w1.ownsRow B e size v n xs := by
  obtain ⟨h1, h2⟩ := h
  refine ⟨h1, ?_⟩
  rcases h2 with h2 | ⟨g, cap, cur, a, b, c, d⟩
  · exact .inl h2
  · exact .inr ⟨g, cap, cur, a, b, by rw [hb.block g (lt_of_block c)]; exact c, d⟩

/-- A slice value reads as these numbers. -/
def Nums (kd : IntKind) (w : World) (a : Option Addr) (n : Nat) (l : List Nat) : Prop := l.length = n ∧ (0 < n → ∃ b o, a = some ⟨b, o, none⟩ ∧ b < w.heap.size ∧ ∀ i, i < n → w.cell? ⟨b, o + i, none⟩ = some (.int kd ((l[i]?.getD 0 : Nat) : Int)))
theorem Nums.on {kd : IntKind} {w w1 : World} {a : Option Addr} {n : Nat} {l : List Nat} (h : Nums kd w a n l) (hb : Below w.heap.size w w1) : Nums kd w1 a n l :=
  ⟨h.1, fun hn => by
    obtain ⟨b, o, e, hlt, hc⟩ := h.2 hn
    exact ⟨b, o, e, by have := hb.size; omega, fun i hi => by rw [hb.cell (p := ⟨b, o + i, none⟩) hlt]; exact hc i hi⟩⟩

theorem own_drew {w : World} {base : Nat} {e : TypeId} {size : Nat} {v : Value} {n : Nat} {xs : List Value} (h : w.ownsRow base e size v n xs) : w.drew.ownsRow base e size v n xs := h
theorem cells_drew {w : World} {a : Addr} {cs : List Value} (h : ∀ j u, cs[j]? = some u → w.cell? (a.add j) = some u) : ∀ j u, cs[j]? = some u → w.drew.cell? (a.add j) = some u := h

set_option maxRecDepth 1000000 in
set_option maxHeartbeats 2000000 in
theorem str_any (a : Option Addr) (n cap : Nat) (l : List Nat) (hn : n ≤ 1000000) (hlt : ∀ u ∈ l, u < 65536) (w : World) (h : Nums .i64 w a n l) :
    Calls Tryd.prog 9 #[.slice a n cap] w fun e w' => e = .returned (.string ⟨(l.flatMap u2).toArray⟩) ∧ Below w.heap.size w w' := by
  obtain ⟨i0, hi, hz0, hz1, hz2⟩ := info_parts Tryd.info5
  obtain ⟨w1, hr, hown1, hg1⟩ := run_make_own (P := Tryd.prog) w w.heap.size 37 5 i0 (.int .u8 0) 1 Tryd.underlying37 hi hz0 hz1 .i64 .i64 (2 * n) (by rw [hz2]; omega) (by unfold maxLen; omega) (Nat.le_refl _)
  rw [show ((2 * n : Nat) : Int) = 2 * (n : Int) by omega] at hr
  have hb1 : Below w.heap.size w w1 := (Below.refl _ _).grown hg1 (Nat.le_refl _) (fun k h => by cases h)
  have HN := Lib.hid h
  have HLT := Lib.hid hlt
  clear h hlt hg1
  go_enter Tryd.func9, Tryd.ntmps9
  go_wp2
  go_loopw [3, 4] (fun v i wr => ∃ k : Nat, k ≤ n ∧ i = .int .i64 (k : Int) ∧ wr.ownsRow w.heap.size 5 1 v ((l.take k).flatMap u2).length (Lib.byteCells ((l.take k).flatMap u2)) ∧ Below w.heap.size w wr) (fun _ i _ => n - (intOf i).toNat)
  case atStart => exact ⟨0, by omega, rfl, hown1, hb1⟩
  case round =>
    obtain ⟨k, hk, rfl, hown, hbw⟩ := hrel
    clear hr hown1 hb1
    by_cases hp : k < n
    · obtain ⟨b, o, rfl, hbl, hc⟩ := HN.out.2 (by omega)
      have hll := HN.out.1
      have hcell : wr.cell? ⟨b, o + k, none⟩ = some (.int .i64 ((l[k]?.getD 0 : Nat) : Int)) := by rw [hbw.cell (p := ⟨b, o + k, none⟩) hbl]; exact hc k hp
      have hu : l[k]?.getD 0 < 65536 := by rw [List.getElem?_eq_getElem (by omega)]; exact HLT.out _ (List.getElem_mem _)
      have htk : (l.take (k + 1)).flatMap u2 = (l.take k).flatMap u2 ++ u2 (l[k]?.getD 0) := by
        rw [List.take_add_one, List.flatMap_append, List.getElem?_eq_getElem (by omega)]; simp
      have hlen : ((l.take k).flatMap u2).length ≤ 2 * k := by
        have : ∀ m : List Nat, (m.flatMap u2).length = 2 * m.length := fun m => by
          induction m with
          | nil => rfl
          | cons x r ih => rw [List.flatMap_cons, List.length_append, ih]; simp [u2]; omega
        rw [this]; have := List.length_take_le k l; omega
      obtain ⟨u, hud⟩ : ∃ u, u = l[k]?.getD 0 := ⟨_, rfl⟩
      rw [← hud] at hcell hu htk
      obtain ⟨acc, hacc⟩ : ∃ acc, acc = (l.take k).flatMap u2 := ⟨_, rfl⟩
      rw [← hacc] at hown htk hlen
      have HTK := Lib.hid htk
      have hlti : (k : Int) < (n : Int) := by omega
      have hk0 : (0 : Int) ≤ (k : Int) := by omega
      have hw := hbw.size
      clear hud hacc htk hc
      have d1 : IntKind.i64.wrap ((u : Int) / 256) = (u : Int) / 256 := by rw [IntKind.wrap_i64]; omega
      go_wp2
      go_region_law (refine step_append_lies _ rfl (.tmp 15) (.tmp 28) 37 rfl w.heap.size 5 i0 (.int .u8 0) 1 1 Tryd.underlying37 hi hz0 hz1 hz2 rfl (by decide) u3 acc.length (Lib.byteCells acc) (by simp [Act.eval]) (by first | exact (own_drew hown).alloc _ | exact own_drew (hown.alloc _)) ⟨wr.heap.size, 0, none⟩ 2 2 [.int .u8 (IntKind.u8.wrap ((u : Int) / 256)), .int .u8 (IntKind.u8.wrap ((u : Int).tmod 256))] (by simp [Act.eval]) rfl (by first | exact cells_new _ _ _ | exact cells_drew (cells_new _ _ _)) (fun x hx => by simp at hx; rcases hx with rfl | rfl <;> rfl) (by decide) (by unfold maxLen; omega) (by omega) (by simp; omega) _ rfl ?_; intro g cap' w3 hown' hgrow3 hblk hg3)
      all_goals
        have hown3 := hown'
        have e0 : IntKind.u8.wrap ((u : Int) / 256) = (u : Int) / 256 := by rw [IntKind.wrap_u8]; omega
        have e1 : IntKind.u8.wrap ((u : Int).tmod 256) = (u : Int) % 256 := by rw [IntKind.wrap_u8, Int.tmod_eq_emod_of_nonneg (by omega)]; omega
        rw [e0, e1, ← cells_u2 u hu, ← Lib.byteCells_append, ← HTK.out] at hown3
        have e2 : ((l.take (k + 1)).flatMap u2).length = acc.length + 2 := by rw [HTK.out]; simp [u2]
        have hbw3 : Below w.heap.size w w3 := Below.grown (by first | exact hbw.alloc hw _ | exact Below.drew (hbw.alloc hw _)) hgrow3 (by simp; omega) (fun j hj => (hown.lt _ hj).1)
        have E2 := Lib.hid e2
        clear hown' hgrow3 hblk e0 e1 e2
        go_wp2
        go_roundw
        case rel => exact ⟨k + 1, by omega, by go_num, by rw [E2.out]; exact hown3, hbw3⟩
        case measure => simp [intOf]; omega
    · have hlti : ¬ (k : Int) < (n : Int) := by omega
      have hll := HN.out.1
      have HE : Hid ((l.take k).flatMap u2 = l.flatMap u2) := by show _ = _; rw [List.take_of_length_le (by omega)]
      have hcv := run_string_own (P := Tryd.prog) (w := wr) (src := 37) (dst := 9) (e := 5) Tryd.underlying37 Tryd.underlying5 Tryd.underlying9 hown
      clear hll
      go_wp2
      go_ret
      exact ⟨ret_str HE.out, hbw⟩
theorem flat_length (l : List Nat) : (l.flatMap u2).length = 2 * l.length := by
  induction l with
  | nil => rfl
  | cons x r ih => rw [List.flatMap_cons, List.length_append, ih]; simp [u2]; omega
theorem own_nums {w : World} {B : Nat} {v : Value} {l : List Nat} (h : w.ownsRow B 3 1 v l.length (numC l)) : ∃ a cap, v = .slice a l.length cap ∧ Nums .i64 w a l.length l := by
  rcases h.2 with ⟨rfl, h0⟩ | ⟨g, cap, cur, rfl, hB, hg, -, -, -, -⟩
  · exact ⟨none, 0, by rw [h0], rfl, fun hn => by omega⟩
  · refine ⟨some ⟨g, 0, none⟩, cap, rfl, rfl, fun _ => ⟨g, 0, rfl, lt_of_block hg, fun i hi => ?_⟩⟩
    have hx : (numC l)[i]? = some (.int .i64 ((l[i]?.getD 0 : Nat) : Int)) := by
      unfold numC; rw [List.getElem?_map, List.getElem?_eq_getElem hi]; rfl
    have := h.cells (g := g) rfl i _ hx
    have e : (⟨g, 0, none⟩ : Addr).add i = ⟨g, 0 + i, none⟩ := by unfold Addr.add; split <;> simp_all
    rw [e] at this
    exact this


end Go.Proofs.YtfejompnjaifmaaDoor.W
