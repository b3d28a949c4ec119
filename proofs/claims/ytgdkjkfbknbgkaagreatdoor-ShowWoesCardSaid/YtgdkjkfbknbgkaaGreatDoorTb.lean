/- Package text: what Go answers; a strings.Builder. -/
import Derived.Test.YtgdkjkfbknbgkaaGreatDoorTa
import Derived.Test.YtgdkjkfbknbgkaaGreatDoorShelf
import Derived.RangeFuncFrom
import Derived.Lib.RuneBytes
import Derived.Shelf.Strings.BuilderK
import Derived.Lib.AppendStr
namespace Go.Proofs.YtgdkjkfbknbgkaaGreatDoor.W
open Go Go.RowKit
attribute [local go_sem] Oper.semAt_some

theorem point_out (s : ByteArray) (hs : s.size ≤ 16777216) (i : Int) (hi : i < 0 ∨ (s.size : Int) / 2 ≤ i) (w : World) :
    Calls Tryz.prog 37 #[.string s, .int .i64 i] w fun e w' => e = .returned (.tuple #[.int .i32 0, .int .i64 0]) ∧ w = w' := by
  rcases hi with hi | hi
  · go_enter Tryz.func37, Tryz.ntmps37
    go_wp2_with (first | (go_at_call 77; ((with_reducible refine (len_any _ hs _).mono ?_); rintro e w' ⟨rfl, rfl⟩)))
    go_ret2
    exact ⟨rfl, rfl⟩
  · have h0 : ¬ i < 0 := by omega
    go_enter Tryz.func37, Tryz.ntmps37
    go_wp2_with (first | (go_at_call 77; ((with_reducible refine (len_any _ hs _).mono ?_); rintro e w' ⟨rfl, rfl⟩)))
    go_ret2
    exact ⟨rfl, rfl⟩
theorem old_cells {W w1 : World} (hb : Below W.heap.size W w1) : (∀ b o, b < W.heap.size → w1.cell? ⟨b, o, none⟩ = W.cell? ⟨b, o, none⟩) ∧ (∀ b o, b < W.heap.size → w1.frozen? ⟨b, o, none⟩ = W.frozen? ⟨b, o, none⟩) :=
  ⟨fun b o h => hb.cell (p := ⟨b, o, none⟩) h, fun b o h => hb.frozen (p := ⟨b, o, none⟩) h⟩
theorem KeepsOthers.of_below {W W' : World} (h : Below W.heap.size W W') : KeepsOthers W W' :=
  ⟨h.size, fun k _ hk _ => (h.block k (Array.getElem?_eq_some_iff.1 hk).1).trans hk⟩
theorem cell_putObj (W : World) (l b : Nat) (o : Obj) (h : b ≠ l) : (W.putObj l o).cell? ⟨b, 0, none⟩ = W.cell? ⟨b, 0, none⟩ :=
  World.cell?_of_block (World.putObj_heap_other h)
theorem cell_apart (W : World) (b b' o o' : Nat) (v : Value) (h : b ≠ b') : (W.setCell ⟨b, o, none⟩ v).cell? ⟨b', o', none⟩ = W.cell? ⟨b', o', none⟩ :=
  by rw [World.cell?_setCell_other]; intro e; exact h (congrArg Addr.block e)
theorem cell_new_l (W : World) (v : Value) (t : TypeId) : (W.alloc (.cells #[v] t)).cell? ⟨W.heap.size, 0, none⟩ = some v ∧ (W.alloc (.cells #[v] t)).frozen? ⟨W.heap.size, 0, none⟩ = false := by
  constructor <;> go_simp
theorem cell_alloc_l {W : World} {a : Addr} {v : Value} (o : Obj) (h : W.cell? a = some v) : (W.alloc o).cell? a = some v := cell_kept h (World.grownBy_alloc W o none) (fun r e => by cases e)
theorem frozen_alloc_l {W : World} {a : Addr} {v : Value} (o : Obj) (h : W.cell? a = some v) (hf : W.frozen? a = false) : (W.alloc o).frozen? a = false := (frozen_kept h (World.grownBy_alloc W o none) (fun r e => by cases e)).trans hf
theorem pair_next (l : List Nat) (j : Nat) (h : (isHi (l[j]?.getD 0) && isLo (l[j + 1]?.getD 0)) = true) : j + 1 < l.length := by
  by_cases hj : j + 1 < l.length
  · exact hj
  · rw [List.getElem?_eq_none (l := l) (i := j + 1) (by omega)] at h
    simp [isLo_zero] at h
theorem signs_sub : ∀ (l : List Nat) (us : List Nat), us ∈ signs l → us.length ≤ 2 ∧ ∀ u ∈ us, u ∈ l
  | [], us, h => by simp [signs] at h
  | [u], us, h => by simp [signs] at h; subst h; simp
  | u :: v :: r, us, h => by
    unfold signs at h
    split at h
    · rcases List.mem_cons.1 h with rfl | h
      · exact ⟨by simp, fun z hz => by simp at hz ⊢; omega⟩
      · obtain ⟨h1, h2⟩ := signs_sub r us h
        exact ⟨h1, fun z hz => List.mem_cons_of_mem _ (List.mem_cons_of_mem _ (h2 z hz))⟩
    · rcases List.mem_cons.1 h with rfl | h
      · exact ⟨by simp, fun z hz => by simp at hz ⊢; omega⟩
      · obtain ⟨h1, h2⟩ := signs_sub (v :: r) us h
        exact ⟨h1, fun z hz => List.mem_cons_of_mem _ (h2 z hz)⟩
theorem signs_bound (l : List Nat) (hl : ∀ u ∈ l, u < 65536) (us : List Nat) (h : us ∈ signs l) : ∀ u ∈ us, u < 65536 := fun u hu => hl u ((signs_sub l us h).2 u hu)
theorem signs_short (l : List Nat) (us : List Nat) (h : us ∈ signs l) : us.length ≤ 2 := (signs_sub l us h).1
theorem signs_count : ∀ (l : List Nat), (signs l).length ≤ l.length
  | [] => by simp [signs]
  | [u] => by simp [signs]
  | u :: v :: r => by
    unfold signs
    split
    · have := signs_count r; simp; omega
    · have := signs_count (v :: r); simp at this ⊢; omega
def hexD (n : Nat) : UInt8 := if n < 10 then UInt8.ofNat (48 + n) else UInt8.ofNat (55 + n)
def hex4 (c : Nat) : List UInt8 := [hexD (c / 4096 % 16), hexD (c / 256 % 16), hexD (c / 16 % 16), hexD (c % 16)]
/-- What stands for a character of code point c. -/
def goR (c : Nat) : List UInt8 := if c = 92 then [92, 92] else if c < 32 ∨ c = 127 ∨ (55296 ≤ c ∧ c ≤ 57343) then 92 :: 117 :: hex4 c else Lib.encodeRune (c : Int)
/-- The code point of a character's units. -/
def cpO (us : List Nat) : Nat := (ptP (us[0]?.getD 0) (us[1]?.getD 0)).1
def goL (S : List (List Nat)) : List UInt8 := S.flatMap (fun us => goR (cpO us))
theorem Tryz.sizeB : (Tryz.prog.info? 109).map (fun i => i.size) = some 2 := by kernel_rfl
theorem Tryz.liesB : liesAt Tryz.prog Tryz.prog.depth 109 (2 / Tryz.prog.cellsOf 109) 0 109 1 = true := by kernel_rfl
/-- The builder b, of the call's own, holds the bytes l. -/
def Bld (B b : Nat) (l : List UInt8) (w : World) : Prop := Lib.IsBuilder 109 5 B b (Lib.byteCells l) w
def Used (B b : Nat) (l : List UInt8) (w w' : World) : Prop := Lib.BuilderAt 109 5 B b (.pointer (some ⟨b, 0, none⟩)) (Lib.byteCells l) w' ∧ Below B w w' ∧ Lib.OthersKept 5 (some b) w w'
set_option maxRecDepth 100000 in
theorem copyCheck_any (B b : Nat) (l : List UInt8) (w : World) (h : Bld B b l w) :
    Calls Tryz.prog 80 #[.pointer (some ⟨b, 0, none⟩)] w fun e w' => e = .returned (.tuple #[]) ∧ Used B b l w w' := by
  obtain ⟨j, hj, hjs⟩ := Option.map_eq_some_iff.1 Tryz.sizeB
  rcases h with h | h
  · have c0 := h.cell0
    have hsh := h.shape
    have hfz := h.frozen0
    have hfin : Used B b l w (w.setCell ⟨b, 0, none⟩ (.pointer (some ⟨b, 0, none⟩))) := ⟨h.used _, (Below.refl B w).setCell (p := ⟨b, 0, none⟩) h.1 _, (Lib.OthersKept.refl _ _ w).setCell ⟨b, 0, none⟩ rfl _⟩
    clear h
    go_enter Tryz.func80, Tryz.ntmps80
    go_wp2
    rw [Lib.run_to_unsafe w ⟨b, 0, none⟩ Tryz.underlying106 Tryz.underlying187 hj (by rw [hjs]; decide) hsh (Nat.zero_lt_succ 1)]
    simp only [Result.andThen]
    rw [Oper.upon_value]
    go_wp2
    rw [run_callFunc_extern Tryz.func104 (by kernel_rfl) (by kernel_rfl) (by kernel_rfl) (e := Extern.AbiNoEscape.same) (by kernel_rfl)]
    rw [Lib.run_noEscape]
    simp only [Result.andThen]
    rw [Oper.upon_value]
    go_wp2
    rw [Lib.run_from_unsafe w ⟨b, 0, none⟩ Tryz.underlying187 Tryz.underlying106 hj hsh Tryz.liesB]
    simp only [Result.andThen]
    rw [Oper.upon_value]
    go_wp2
    go_end0
    exact ⟨rfl, hfin⟩
  · have c0 := h.cell0
    have hne := Lib.run_neq_ptr_same (P := Tryz.prog) (w := w) ⟨b, 0, none⟩ Tryz.underlying106 hj
    have hfin : Used B b l w w := ⟨h, Below.refl B _, Lib.OthersKept.refl _ _ _⟩
    clear h
    go_enter Tryz.func80, Tryz.ntmps80
    go_wp2
    go_end0
    exact ⟨rfl, hfin⟩
theorem Tryz.info5b : (Tryz.prog.info? 5).map (fun i => (i.zero, i.size, i.bytes)) = some (some (.int .u8 0), 1, 1) := by kernel_rfl
theorem neB : (109 : TypeId) ≠ 5 := by decide
theorem own_kind {w : World} {B : Nat} {v : Value} {n : Nat} {xs : List Value} (h : w.ownsRow B 5 1 v n xs) : ∀ g, v.ownBlock = some g → ∃ c fz, w.heap[g]? = some (.cells c 5 fz) := fun g hg => by
  rcases h.2 with ⟨rfl, _⟩ | ⟨g', cap, cur, rfl, _, hc, _⟩
  · cases hg
  · cases hg; exact ⟨cur, _, hc⟩
/-- What a store of the builder's new row leaves. -/
theorem used_put {B b : Nat} {l' : List UInt8} {v v' : Value} {w w2 : World} (hB : B ≤ b) (hb2 : w2.heap[b]? = some (.cells #[.pointer (some ⟨b, 0, none⟩), v] 109 (0, 0)))
    (hown : w2.ownsRow B 5 1 v' l'.length (Lib.byteCells l')) (hb : Below B w w2) (hk : Lib.OthersKept 5 (some b) w w2) : Used B b l' w (w2.setCell ⟨b, 1, none⟩ v') := by
  refine ⟨Lib.BuilderAt.put (bs' := Lib.byteCells l') hB hb2 (by rw [Lib.byteCells_length]; exact hown) neB, hb.setCell (p := ⟨b, 1, none⟩) hB _, hk.setCell ⟨b, 1, none⟩ rfl _⟩
/-- What copyCheck leaves, opened. -/
theorem Used.parts {B b : Nat} {l : List UInt8} {w w1 : World} (h : Used B b l w w1) : ∃ ao cap, B ≤ b ∧ w1.heap[b]? = some (.cells #[.pointer (some ⟨b, 0, none⟩), .slice ao l.length cap] 109 (0, 0)) ∧ w1.ownsRow B 5 1 (.slice ao l.length cap) l.length (Lib.byteCells l) ∧ (Value.slice ao l.length cap).ownBlock ≠ some b ∧ w1.cell? ⟨b, 0, none⟩ = some (.pointer (some ⟨b, 0, none⟩)) ∧ w1.cell? ⟨b, 1, none⟩ = some (.slice ao l.length cap) ∧ w1.frozen? ⟨b, 1, none⟩ = false ∧ b < w1.heap.size ∧ w.heap.size ≤ w1.heap.size := by
  obtain ⟨⟨hB, v, hbk, hown, hne⟩, hb, hk⟩ := h
  rw [Lib.byteCells_length] at hown
  obtain ⟨ao, cap, rfl⟩ : ∃ ao cap, v = .slice ao l.length cap := by
    rcases hown.2 with ⟨rfl, h0⟩ | ⟨g, cap, cur, rfl, _⟩
    · exact ⟨none, 0, by rw [h0]⟩
    · exact ⟨_, cap, rfl⟩
  exact ⟨ao, cap, hB, hbk, hown, hne, by rw [Lib.cell_of_heap hbk]; rfl, by rw [Lib.cell_of_heap hbk]; rfl, Lib.frozen_of_heap hbk 1, lt_of_block hbk, hb.size⟩
theorem Used.bld {B b : Nat} {l : List UInt8} {w w1 : World} (h : Used B b l w w1) : Bld B b l w1 := .inr h.1
theorem Used.on {B b : Nat} {l l' : List UInt8} {w w1 w2 : World} (h : Used B b l w w1) (k : Used B b l' w1 w2) : Used B b l' w w2 := ⟨k.1, h.2.1.trans k.2.1, h.2.2.trans k.2.2⟩
theorem slice_of_own {w : World} {B n : Nat} {v : Value} {xs : List Value} {e : TypeId} (h : w.ownsRow B e 1 v n xs) : ∃ ao cap, v = .slice ao n cap := by
  rcases h.2 with ⟨rfl, h0⟩ | ⟨g, cap, cur, rfl, _⟩
  · exact ⟨none, 0, by rw [h0]⟩
  · exact ⟨_, cap, rfl⟩
set_option maxHeartbeats 1000000 in
set_option maxRecDepth 100000 in
theorem writeString_any (B b : Nat) (l : List UInt8) (s : ByteArray) (w : World) (h : Bld B b l w) (hlen : l.length + s.size ≤ 1000000) (hBw : B ≤ w.heap.size) :
    Calls Tryz.prog 38 #[.pointer (some ⟨b, 0, none⟩), .string s] w fun e w' => e = .returned (.tuple #[.int .i64 s.size, .nilIface]) ∧ Used B b (l ++ s.data.toList) w w' := by
  obtain ⟨i0, hi, hz0, hz1, hz2⟩ := info_parts Tryz.info5b
  go_enter Tryz.func38, Tryz.ntmps38
  go_wp2_with (first | (go_at_call 80; ((with_reducible refine (copyCheck_any B b l _ h).mono ?_); rintro e w1 ⟨rfl, hu⟩; obtain ⟨ao, cap, hB, hbk, hown, hne, c0, c1, f1, hbl, hz⟩ := hu.parts)) | (at_builtin; refine Lib.wpList_append_own_string _ rfl _ _ 107 9 rfl B 5 i0 Tryz.underlying107 Tryz.underlying9 hi hz0 hz1 hz2 _ _ _ rfl hown s rfl (by unfold maxLen; omega) (by omega) (by omega) ?_; intro v' w2 hown' hgrow _; have hb2 : w2.heap[b]? = _ := (hgrow.block b hbl (fun e => hne e.symm)).trans hbk; have d0 : w2.cell? ⟨b, 0, none⟩ = some (.pointer (some ⟨b, 0, none⟩)) := (by rw [Lib.cell_of_heap hb2]; rfl); have d1 : w2.cell? ⟨b, 1, none⟩ = some (.slice ao l.length cap) := (by rw [Lib.cell_of_heap hb2]; rfl); have f2 : w2.frozen? ⟨b, 1, none⟩ = false := Lib.frozen_of_heap hb2 1; obtain ⟨ao', cap', rfl⟩ := slice_of_own hown'))
  go_ret2
  exact ⟨rfl, used_put hB hb2 (by rw [List.length_append, Lib.byteCells_append]; exact hown') (hu.2.1.grown hgrow (by omega) (fun k hk => (hown.lt k hk).1)) (hu.2.2.grown hgrow (own_kind hown))⟩
set_option maxHeartbeats 1000000 in
set_option maxRecDepth 100000 in
theorem writeByte_any (B b : Nat) (l : List UInt8) (c : UInt8) (w : World) (h : Bld B b l w) (hlen : l.length + 1 ≤ 1000000) (hBw : B ≤ w.heap.size) :
    Calls Tryz.prog 81 #[.pointer (some ⟨b, 0, none⟩), .int .u8 (c.toNat : Int)] w fun e w' => e = .returned .nilIface ∧ Used B b (l ++ [c]) w w' := by
  obtain ⟨i0, hi, hz0, hz1, hz2⟩ := info_parts Tryz.info5b
  go_enter Tryz.func81, Tryz.ntmps81
  go_wp2_with (first | (go_at_call 80; ((with_reducible refine (copyCheck_any B b l _ h).mono ?_); rintro e w1 ⟨rfl, hu⟩; obtain ⟨ao, cap, hB, hbk, hown, hne, c0, c1, f1, hbl, hz⟩ := hu.parts)) | (at_builtin; refine wpList_append_own _ rfl _ _ 107 rfl B 5 i0 (.int .u8 0) 1 1 Tryz.underlying107 hi hz0 hz1 hz2 rfl (by decide) _ _ _ rfl (hown.alloc _) ⟨w1.heap.size, 0, none⟩ 1 1 [_] rfl rfl (cells_new _ _ _) (fun x hx => by simp at hx; rcases hx with rfl; rfl) (by unfold maxLen; omega) (by omega) (by simp; omega) ?_; intro v' w2 hown' hgrow _; have hb2 : w2.heap[b]? = _ := ((hgrow.block b (by simp; omega) (fun e => hne e.symm)).trans (Lib.alloc_old w1 _ b hbl)).trans hbk; have d0 : w2.cell? ⟨b, 0, none⟩ = some (.pointer (some ⟨b, 0, none⟩)) := (by rw [Lib.cell_of_heap hb2]; rfl); have d1 : w2.cell? ⟨b, 1, none⟩ = some (.slice ao l.length cap) := (by rw [Lib.cell_of_heap hb2]; rfl); have f2 : w2.frozen? ⟨b, 1, none⟩ = false := Lib.frozen_of_heap hb2 1; obtain ⟨ao', cap', rfl⟩ := slice_of_own hown'))
  go_ret
  exact ⟨rfl, used_put hB hb2 (by rw [List.length_append, Lib.byteCells_append]; exact hown') ((hu.2.1.alloc (by omega) _).grown hgrow (by simp; omega) (fun k hk => (hown.lt k hk).1)) ((hu.2.2.alloc _).grown hgrow (own_kind (hown.alloc _)))⟩
end Go.Proofs.YtgdkjkfbknbgkaaGreatDoor.W
