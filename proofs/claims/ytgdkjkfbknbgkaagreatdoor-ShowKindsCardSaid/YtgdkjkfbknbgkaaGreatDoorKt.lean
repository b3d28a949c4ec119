/- The texts of units, printed. -/
import Derived.Test.YtgdkjkfbknbgkaaGreatDoorKc
import Derived.Test.YtgdkjkfbknbgkaaGreatDoorShelf
import Derived.Test.YtgdkjkfbknbgkaaGreatDoorKa
import Derived.RangeFuncFrom
import Derived.Lib.RuneBytes
import Derived.Shelf.Strings.BuilderK
import Derived.Lib.AppendStr
import Derived.BigRegion
import Derived.Deep.RegionLaw
import Derived.Deep.RegionHeld3
import Derived.StillTailTactics
namespace Go.Proofs.YtgdkjkfbknbgkaaGreatDoor.W
open Go Go.RowKit
attribute [local go_sem] Oper.semAt_some

theorem point_out (s : ByteArray) (hs : s.size ≤ 16777216) (i : Int) (hi : i < 0 ∨ (s.size : Int) / 2 ≤ i) (w : World) :
    Calls Tryz.prog 37 #[.string s, .int .i64 i] w fun e w' => e = .returned (.tuple #[.int .i32 0, .int .i64 0]) ∧ w = w' := by
  rcases hi with hi | hi
  · go_enter Tryz.func37, Tryz.ntmps37
    go_wp2_with (first | (go_at_call 77; ((with_reducible refine (len_any _ hs _).mono ?_); rintro e w' ⟨rfl, rfl⟩)))
    go_ret2
    exact ⟨rfl, rfl⟩
  · have h0 : ¬ i < 0 := by omega
    go_enter Tryz.func37, Tryz.ntmps37
    go_wp2_with (first | (go_at_call 77; ((with_reducible refine (len_any _ hs _).mono ?_); rintro e w' ⟨rfl, rfl⟩)))
    go_ret2
    exact ⟨rfl, rfl⟩
theorem old_cells {W w1 : World} (hb : Below W.heap.size W w1) : (∀ b o, b < W.heap.size → w1.cell? ⟨b, o, none⟩ = W.cell? ⟨b, o, none⟩) ∧ (∀ b o, b < W.heap.size → w1.frozen? ⟨b, o, none⟩ = W.frozen? ⟨b, o, none⟩) :=
  ⟨fun b o h => hb.cell (p := ⟨b, o, none⟩) h, fun b o h => hb.frozen (p := ⟨b, o, none⟩) h⟩
theorem KeepsOthers.of_below {W W' : World} (h : Below W.heap.size W W') : KeepsOthers W W' :=
  ⟨h.size, fun k _ hk _ => (h.block k (Array.getElem?_eq_some_iff.1 hk).1).trans hk⟩
theorem cell_putObj (W : World) (l b : Nat) (o : Obj) (h : b ≠ l) : (W.putObj l o).cell? ⟨b, 0, none⟩ = W.cell? ⟨b, 0, none⟩ :=
  World.cell?_of_block (World.putObj_heap_other h)
theorem cell_apart (W : World) (b b' o o' : Nat) (v : Value) (h : b ≠ b') : (W.setCell ⟨b, o, none⟩ v).cell? ⟨b', o', none⟩ = W.cell? ⟨b', o', none⟩ :=
  by rw [World.cell?_setCell_other]; intro e; exact h (congrArg Addr.block e)
theorem cell_new_l (W : World) (v : Value) (t : TypeId) : (W.alloc (.cells #[v] t)).cell? ⟨W.heap.size, 0, none⟩ = some v ∧ (W.alloc (.cells #[v] t)).frozen? ⟨W.heap.size, 0, none⟩ = false := by
  constructor <;> go_simp
theorem cell_alloc_l {W : World} {a : Addr} {v : Value} (o : Obj) (h : W.cell? a = some v) : (W.alloc o).cell? a = some v := cell_kept h (World.grownBy_alloc W o none) (fun r e => by cases e)
theorem frozen_alloc_l {W : World} {a : Addr} {v : Value} (o : Obj) (h : W.cell? a = some v) (hf : W.frozen? a = false) : (W.alloc o).frozen? a = false := (frozen_kept h (World.grownBy_alloc W o none) (fun r e => by cases e)).trans hf
theorem pair_next (l : List Nat) (j : Nat) (h : (isHi (l[j]?.getD 0) && isLo (l[j + 1]?.getD 0)) = true) : j + 1 < l.length := by
  by_cases hj : j + 1 < l.length
  · exact hj
  · rw [List.getElem?_eq_none (l := l) (i := j + 1) (by omega)] at h
    simp [isLo_zero] at h
theorem signs_sub : ∀ (l : List Nat) (us : List Nat), us ∈ signs l → us.length ≤ 2 ∧ ∀ u ∈ us, u ∈ l
  | [], us, h => by simp [signs] at h
  | [u], us, h => by simp [signs] at h; subst h; simp
  | u :: v :: r, us, h => by
    unfold signs at h
    split at h
    · rcases List.mem_cons.1 h with rfl | h
      · exact ⟨by simp, fun z hz => by simp at hz ⊢; omega⟩
      · obtain ⟨h1, h2⟩ := signs_sub r us h
        exact ⟨h1, fun z hz => List.mem_cons_of_mem _ (List.mem_cons_of_mem _ (h2 z hz))⟩
    · rcases List.mem_cons.1 h with rfl | h
      · exact ⟨by simp, fun z hz => by simp at hz ⊢; omega⟩
      · obtain ⟨h1, h2⟩ := signs_sub (v :: r) us h
        exact ⟨h1, fun z hz => List.mem_cons_of_mem _ (h2 z hz)⟩
theorem signs_bound (l : List Nat) (hl : ∀ u ∈ l, u < 65536) (us : List Nat) (h : us ∈ signs l) : ∀ u ∈ us, u < 65536 := fun u hu => hl u ((signs_sub l us h).2 u hu)
theorem signs_short (l : List Nat) (us : List Nat) (h : us ∈ signs l) : us.length ≤ 2 := (signs_sub l us h).1
theorem signs_count : ∀ (l : List Nat), (signs l).length ≤ l.length
  | [] => by simp [signs]
  | [u] => by simp [signs]
  | u :: v :: r => by
    unfold signs
    split
    · have := signs_count r; simp; omega
    · have := signs_count (v :: r); simp at this ⊢; omega
def hexD (n : Nat) : UInt8 := if n < 10 then UInt8.ofNat (48 + n) else UInt8.ofNat (55 + n)
def hex4 (c : Nat) : List UInt8 := [hexD (c / 4096 % 16), hexD (c / 256 % 16), hexD (c / 16 % 16), hexD (c % 16)]
/-- What stands for a character of code point c. -/
def goR (c : Nat) : List UInt8 := if c = 92 then [92, 92] else if c < 32 ∨ c = 127 ∨ (55296 ≤ c ∧ c ≤ 57343) then 92 :: 117 :: hex4 c else Lib.encodeRune (c : Int)
/-- The code point of a character's units. -/
def cpO (us : List Nat) : Nat := (ptP (us[0]?.getD 0) (us[1]?.getD 0)).1
def goL (S : List (List Nat)) : List UInt8 := S.flatMap (fun us => goR (cpO us))
theorem Tryz.sizeB : (Tryz.prog.info? 109).map (fun i => i.size) = some 2 := by kernel_rfl
theorem Tryz.liesB : liesAt Tryz.prog Tryz.prog.depth 109 (2 / Tryz.prog.cellsOf 109) 0 109 1 = true := by kernel_rfl
/-- The builder b, of the call's own, holds the bytes l. -/
def Bld (B b : Nat) (l : List UInt8) (w : World) : Prop := Lib.IsBuilder 109 5 B b (Lib.byteCells l) w
def Used (B b : Nat) (l : List UInt8) (w w' : World) : Prop := Lib.BuilderAt 109 5 B b (.pointer (some ⟨b, 0, none⟩)) (Lib.byteCells l) w' ∧ Below B w w' ∧ Lib.OthersKept 5 (some b) w w'
set_option maxRecDepth 100000 in
theorem copyCheck_any (B b : Nat) (l : List UInt8) (w : World) (h : Bld B b l w) :
    Calls Tryz.prog 80 #[.pointer (some ⟨b, 0, none⟩)] w fun e w' => e = .returned (.tuple #[]) ∧ Used B b l w w' := by
  obtain ⟨j, hj, hjs⟩ := Option.map_eq_some_iff.1 Tryz.sizeB
  rcases h with h | h
  · have c0 := h.cell0
    have hsh := h.shape
    have hfz := h.frozen0
    have hfin : Used B b l w (w.setCell ⟨b, 0, none⟩ (.pointer (some ⟨b, 0, none⟩))) := ⟨h.used _, (Below.refl B w).setCell (p := ⟨b, 0, none⟩) h.1 _, (Lib.OthersKept.refl _ _ w).setCell ⟨b, 0, none⟩ rfl _⟩
    clear h
    go_enter Tryz.func80, Tryz.ntmps80
    go_wp2
    rw [Lib.run_to_unsafe w ⟨b, 0, none⟩ Tryz.underlying106 Tryz.underlying187 hj (by rw [hjs]; decide) hsh (Nat.zero_lt_succ 1)]
    simp only [Result.andThen]
    rw [Oper.upon_value]
    go_wp2
    rw [run_callFunc_extern Tryz.func104 (by kernel_rfl) (by kernel_rfl) (by kernel_rfl) (e := Extern.AbiNoEscape.same) (by kernel_rfl)]
    rw [Lib.run_noEscape]
    simp only [Result.andThen]
    rw [Oper.upon_value]
    go_wp2
    rw [Lib.run_from_unsafe w ⟨b, 0, none⟩ Tryz.underlying187 Tryz.underlying106 hj hsh Tryz.liesB]
    simp only [Result.andThen]
    rw [Oper.upon_value]
    go_wp2
    go_end0
    exact ⟨rfl, hfin⟩
  · have c0 := h.cell0
    have hne := Lib.run_neq_ptr_same (P := Tryz.prog) (w := w) ⟨b, 0, none⟩ Tryz.underlying106 hj
    have hfin : Used B b l w w := ⟨h, Below.refl B _, Lib.OthersKept.refl _ _ _⟩
    clear h
    go_enter Tryz.func80, Tryz.ntmps80
    go_wp2
    go_end0
    exact ⟨rfl, hfin⟩
theorem Tryz.info5b : (Tryz.prog.info? 5).map (fun i => (i.zero, i.size, i.bytes)) = some (some (.int .u8 0), 1, 1) := by kernel_rfl
theorem neB : (109 : TypeId) ≠ 5 := by decide
theorem own_kind {w : World} {B : Nat} {v : Value} {n : Nat} {xs : List Value} (h : w.ownsRow B 5 1 v n xs) : ∀ g, v.ownBlock = some g → ∃ c fz, w.heap[g]? = some (.cells c 5 fz) := fun g hg => by
  rcases h.2 with ⟨rfl, _⟩ | ⟨g', cap, cur, rfl, _, hc, _⟩
  · cases hg
  · cases hg; exact ⟨cur, _, hc⟩
/-- What a store of the builder's new row leaves. -/
theorem used_put {B b : Nat} {l' : List UInt8} {v v' : Value} {w w2 : World} (hB : B ≤ b) (hb2 : w2.heap[b]? = some (.cells #[.pointer (some ⟨b, 0, none⟩), v] 109 (0, 0)))
    (hown : w2.ownsRow B 5 1 v' l'.length (Lib.byteCells l')) (hb : Below B w w2) (hk : Lib.OthersKept 5 (some b) w w2) : Used B b l' w (w2.setCell ⟨b, 1, none⟩ v') := by
  refine ⟨Lib.BuilderAt.put (bs' := Lib.byteCells l') hB hb2 (by rw [Lib.byteCells_length]; exact hown) neB, hb.setCell (p := ⟨b, 1, none⟩) hB _, hk.setCell ⟨b, 1, none⟩ rfl _⟩
/-- What copyCheck leaves, opened. -/
theorem Used.parts {B b : Nat} {l : List UInt8} {w w1 : World} (h : Used B b l w w1) : ∃ ao cap, B ≤ b ∧ w1.heap[b]? = some (.cells #[.pointer (some ⟨b, 0, none⟩), .slice ao l.length cap] 109 (0, 0)) ∧ w1.ownsRow B 5 1 (.slice ao l.length cap) l.length (Lib.byteCells l) ∧ (Value.slice ao l.length cap).ownBlock ≠ some b ∧ w1.cell? ⟨b, 0, none⟩ = some (.pointer (some ⟨b, 0, none⟩)) ∧ w1.cell? ⟨b, 1, none⟩ = some (.slice ao l.length cap) ∧ w1.frozen? ⟨b, 1, none⟩ = false ∧ b < w1.heap.size ∧ w.heap.size ≤ w1.heap.size := by
  obtain ⟨⟨hB, v, hbk, hown, hne⟩, hb, hk⟩ := h
  rw [Lib.byteCells_length] at hown
  obtain ⟨ao, cap, rfl⟩ : ∃ ao cap, v = .slice ao l.length cap := by
    rcases hown.2 with ⟨rfl, h0⟩ | ⟨g, cap, cur, rfl, _⟩
    · exact ⟨none, 0, by rw [h0]⟩
    · exact ⟨_, cap, rfl⟩
  exact ⟨ao, cap, hB, hbk, hown, hne, by rw [Lib.cell_of_heap hbk]; rfl, by rw [Lib.cell_of_heap hbk]; rfl, Lib.frozen_of_heap hbk 1, lt_of_block hbk, hb.size⟩
theorem Used.bld {B b : Nat} {l : List UInt8} {w w1 : World} (h : Used B b l w w1) : Bld B b l w1 := .inr h.1
theorem Used.on {B b : Nat} {l l' : List UInt8} {w w1 w2 : World} (h : Used B b l w w1) (k : Used B b l' w1 w2) : Used B b l' w w2 := ⟨k.1, h.2.1.trans k.2.1, h.2.2.trans k.2.2⟩
theorem slice_of_own {w : World} {B n : Nat} {v : Value} {xs : List Value} {e : TypeId} (h : w.ownsRow B e 1 v n xs) : ∃ ao cap, v = .slice ao n cap := by
  rcases h.2 with ⟨rfl, h0⟩ | ⟨g, cap, cur, rfl, _⟩
  · exact ⟨none, 0, by rw [h0]⟩
  · exact ⟨_, cap, rfl⟩
set_option maxHeartbeats 1000000 in
set_option maxRecDepth 100000 in
theorem writeString_any (B b : Nat) (l : List UInt8) (s : ByteArray) (w : World) (h : Bld B b l w) (hlen : l.length + s.size ≤ 1000000) (hBw : B ≤ w.heap.size) :
    Calls Tryz.prog 38 #[.pointer (some ⟨b, 0, none⟩), .string s] w fun e w' => e = .returned (.tuple #[.int .i64 s.size, .nilIface]) ∧ Used B b (l ++ s.data.toList) w w' := by
  obtain ⟨i0, hi, hz0, hz1, hz2⟩ := info_parts Tryz.info5b
  go_enter Tryz.func38, Tryz.ntmps38
  go_wp2_with (first | (go_at_call 80; ((with_reducible refine (copyCheck_any B b l _ h).mono ?_); rintro e w1 ⟨rfl, hu⟩; obtain ⟨ao, cap, hB, hbk, hown, hne, c0, c1, f1, hbl, hz⟩ := hu.parts)) | (at_builtin; refine Lib.wpList_append_own_string _ rfl _ _ 107 9 rfl B 5 i0 Tryz.underlying107 Tryz.underlying9 hi hz0 hz1 hz2 _ _ _ rfl hown s rfl (by unfold maxLen; omega) (by omega) (by omega) ?_; intro v' w2 hown' hgrow _; have hb2 : w2.heap[b]? = _ := (hgrow.block b hbl (fun e => hne e.symm)).trans hbk; have d0 : w2.cell? ⟨b, 0, none⟩ = some (.pointer (some ⟨b, 0, none⟩)) := (by rw [Lib.cell_of_heap hb2]; rfl); have d1 : w2.cell? ⟨b, 1, none⟩ = some (.slice ao l.length cap) := (by rw [Lib.cell_of_heap hb2]; rfl); have f2 : w2.frozen? ⟨b, 1, none⟩ = false := Lib.frozen_of_heap hb2 1; obtain ⟨ao', cap', rfl⟩ := slice_of_own hown'))
  go_ret2
  exact ⟨rfl, used_put hB hb2 (by rw [List.length_append, Lib.byteCells_append]; exact hown') (hu.2.1.grown hgrow (by omega) (fun k hk => (hown.lt k hk).1)) (hu.2.2.grown hgrow (own_kind hown))⟩
set_option maxHeartbeats 1000000 in
set_option maxRecDepth 100000 in
theorem writeByte_any (B b : Nat) (l : List UInt8) (c : UInt8) (w : World) (h : Bld B b l w) (hlen : l.length + 1 ≤ 1000000) (hBw : B ≤ w.heap.size) :
    Calls Tryz.prog 81 #[.pointer (some ⟨b, 0, none⟩), .int .u8 (c.toNat : Int)] w fun e w' => e = .returned .nilIface ∧ Used B b (l ++ [c]) w w' := by
  obtain ⟨i0, hi, hz0, hz1, hz2⟩ := info_parts Tryz.info5b
  go_enter Tryz.func81, Tryz.ntmps81
  go_wp2_with (first | (go_at_call 80; ((with_reducible refine (copyCheck_any B b l _ h).mono ?_); rintro e w1 ⟨rfl, hu⟩; obtain ⟨ao, cap, hB, hbk, hown, hne, c0, c1, f1, hbl, hz⟩ := hu.parts)) | (at_builtin; refine wpList_append_own _ rfl _ _ 107 rfl B 5 i0 (.int .u8 0) 1 1 Tryz.underlying107 hi hz0 hz1 hz2 rfl (by decide) _ _ _ rfl (hown.alloc _) ⟨w1.heap.size, 0, none⟩ 1 1 [_] rfl rfl (cells_new _ _ _) (fun x hx => by simp at hx; rcases hx with rfl; rfl) (by unfold maxLen; omega) (by omega) (by simp; omega) ?_; intro v' w2 hown' hgrow _; have hb2 : w2.heap[b]? = _ := ((hgrow.block b (by simp; omega) (fun e => hne e.symm)).trans (Lib.alloc_old w1 _ b hbl)).trans hbk; have d0 : w2.cell? ⟨b, 0, none⟩ = some (.pointer (some ⟨b, 0, none⟩)) := (by rw [Lib.cell_of_heap hb2]; rfl); have d1 : w2.cell? ⟨b, 1, none⟩ = some (.slice ao l.length cap) := (by rw [Lib.cell_of_heap hb2]; rfl); have f2 : w2.frozen? ⟨b, 1, none⟩ = false := Lib.frozen_of_heap hb2 1; obtain ⟨ao', cap', rfl⟩ := slice_of_own hown'))
  go_ret
  exact ⟨rfl, used_put hB hb2 (by rw [List.length_append, Lib.byteCells_append]; exact hown') ((hu.2.1.alloc (by omega) _).grown hgrow (by simp; omega) (fun k hk => (hown.lt k hk).1)) ((hu.2.2.alloc _).grown hgrow (own_kind (hown.alloc _)))⟩
end Go.Proofs.YtgdkjkfbknbgkaaGreatDoor.W
namespace Go.Proofs.YtgdkjkfbknbgkaaGreatDoor.W
open Go Go.RowKit
attribute [local go_sem] Oper.semAt_some

theorem encode_len (r : Int) : 1 ≤ (Lib.encodeRune r).length ∧ (Lib.encodeRune r).length ≤ 4 := by
  have h := Lib.encodeRuneZ_length r
  unfold Lib.encodeRune
  rw [List.length_map]
  exact h
theorem cells_len (r : Int) : (Lib.runeCells r).length = (Lib.encodeRune r).length := by
  unfold Lib.runeCells Lib.encodeRune
  rw [List.length_map, List.length_map]
set_option maxHeartbeats 1000000 in
set_option maxRecDepth 100000 in
theorem writeRune_any (B b : Nat) (l : List UInt8) (r : Nat) (w : World) (hr : r ≤ 1114111) (h : Bld B b l w) (hlen : l.length + 4 ≤ 1000000) (hBw : B ≤ w.heap.size) :
    Calls Tryz.prog 42 #[.pointer (some ⟨b, 0, none⟩), .int .i32 (r : Int)] w fun e w' => e = .returned (.tuple #[.int .i64 ((Lib.encodeRune (r : Int)).length : Int), .nilIface]) ∧ Used B b (l ++ Lib.encodeRune (r : Int)) w w' := by
  have HL := encode_len (r : Int)
  have HC := Lib.hid (cells_len (r : Int))
  have HB := Lib.hid (Lib.byteCells_encodeRune (r : Int))
  obtain ⟨en, hen⟩ : ∃ en, en = Lib.encodeRune (r : Int) := ⟨_, rfl⟩
  rw [← hen] at HL HC HB ⊢
  clear hen
  have hsub : IntKind.i64.wrap ((l.length : Int) + (en.length : Int) - (l.length : Int)) = (en.length : Int) := by rw [IntWalk.i64_in _ (by omega)]; omega
  go_enter Tryz.func42, Tryz.ntmps42
  go_wp2_with (first | (go_at_call 80; ((with_reducible refine (copyCheck_any B b l _ h).mono ?_); rintro e w1 ⟨rfl, hu⟩; obtain ⟨ao, cap, hB, hbk, hown, hne, c0, c1, f1, hbl, hz⟩ := hu.parts)) | (go_at_call 65; ((with_reducible refine (Tryz.utf8_AppendRune_plain B _ l.length (Lib.byteCells l) (r : Int) (by omega) (by omega) _ hown (by omega) (by omega)).mono ?_); rintro e w2 ⟨v', rfl, hown', o, hgrow⟩; have hb2 : w2.heap[b]? = _ := ((hgrow.block b (by simp; omega) (fun e => hne e.symm)).trans (Lib.alloc_old w1 _ b hbl)).trans hbk; have d0 : w2.cell? ⟨b, 0, none⟩ = some (.pointer (some ⟨b, 0, none⟩)) := (by rw [Lib.cell_of_heap hb2]; rfl); have d1 : w2.cell? ⟨b, 1, none⟩ = some (.slice ao l.length cap) := (by rw [Lib.cell_of_heap hb2]; rfl); have f2 : w2.frozen? ⟨b, 1, none⟩ = false := Lib.frozen_of_heap hb2 1; rw [HC.out] at hown'; obtain ⟨ao', cap', rfl⟩ := slice_of_own hown')))
  go_ret2
  exact ⟨rfl, used_put hB hb2 (by rw [List.length_append, Lib.byteCells_append, HB.out]; exact hown') ((hu.2.1.alloc (by omega) _).grown hgrow (by simp; omega) (fun k hk => (hown.lt k hk).1)) ((hu.2.2.alloc _).grown hgrow (own_kind (hown.alloc _)))⟩
theorem digit_at (n : Nat) (h : n < 16) : (⟨#[48, 49, 50, 51, 52, 53, 54, 55, 56, 57, 65, 66, 67, 68, 69, 70]⟩ : ByteArray)[n]'h = hexD n := by
  have : ∀ n : Fin 16, (⟨#[48, 49, 50, 51, 52, 53, 54, 55, 56, 57, 65, 66, 67, 68, 69, 70]⟩ : ByteArray)[n.val]'n.isLt = hexD n.val := by decide +kernel
  exact this ⟨n, h⟩
theorem and15 (n : Nat) (h : n < 65536) : bits .and .i32 (n : Int) 15 = ((n % 16 : Nat) : Int) := by
  have := bits_mask .i32 16 (by decide) (fun n h0 h1 => by rw [IntWalk.i32_in _ (by omega)]) 4 (by omega) (n : Int) (by omega) (by omega)
  simpa using this
theorem hex_take (r k : Nat) (hk : k < 4) : (hex4 r).take (k + 1) = (hex4 r).take k ++ [hexD (r / 16 ^ (3 - k) % 16)] := by
  obtain rfl | rfl | rfl | rfl : k = 0 ∨ k = 1 ∨ k = 2 ∨ k = 3 := by omega
  all_goals simp [hex4]
set_option maxHeartbeats 1000000 in
set_option maxRecDepth 100000 in
theorem writeEscape_any (B b : Nat) (l : List UInt8) (r : Nat) (w : World) (hr : r < 65536) (h : Bld B b l w) (hlen : l.length + 7 ≤ 1000000) (hBw : B ≤ w.heap.size) :
    Calls Tryz.prog 41 #[.pointer (some ⟨b, 0, none⟩), .int .i32 (r : Int)] w fun e w' => e = .returned (.tuple #[]) ∧ Used B b (l ++ 92 :: 117 :: hex4 r) w w' := by
  have h2 : l.length + (⟨#[92, 117]⟩ : ByteArray).size ≤ 1000000 := by show l.length + 2 ≤ _; omega
  go_enter Tryz.func41, Tryz.ntmps41
  go_wp2_with (first | (go_at_call 38; ((with_reducible refine (writeString_any B b l ⟨#[92, 117]⟩ _ h h2 hBw).mono ?_); rintro e w1 ⟨rfl, hu⟩)))
  go_loopw [4] (fun i wr => ∃ k : Nat, k ≤ 4 ∧ i = .int .i64 (12 - 4 * (k : Int)) ∧ Used B b (l ++ 92 :: 117 :: (hex4 r).take k) w wr) (fun i _ => (intOf i + 4).toNat)
  case atStart => exact ⟨0, by omega, rfl, hu⟩
  case round =>
    obtain ⟨k, hk, rfl, hw⟩ := hrel
    clear hu h2
    have hBr : B ≤ wr.heap.size := by have := hw.2.1.size; omega
    have hll : (l ++ 92 :: 117 :: (hex4 r).take k).length + 1 ≤ 1000000 := by
      have h4 : ((hex4 r).take k).length ≤ 4 := by rw [List.length_take]; have : (hex4 r).length = 4 := rfl; omega
      rw [List.length_append, List.length_cons, List.length_cons]; omega
    have HT := fun h => Veil.mk (hex_take r k h)
    obtain ⟨acc, hacc⟩ : ∃ acc, acc = l ++ 92 :: 117 :: (hex4 r).take k := ⟨_, rfl⟩
    have HA := Veil.mk hacc
    rw [← hacc] at hw hll
    clear hacc
    have hk4 : k = 0 ∨ k = 1 ∨ k = 2 ∨ k = 3 ∨ k = 4 := by omega
    clear hk
    rcases hk4 with rfl | hk4
    · have a1 : bits .and .i32 ((r : Int) / 4096) 15 = ((r / 4096 % 16 : Nat) : Int) := and15 (r / 4096) (by omega)
      have a2 : r / 4096 % 16 < 16 := by omega
      have HD := Veil.mk (digit_at (r / 4096 % 16) a2)
      have HT' : Veil (acc ++ [hexD (r / 4096 % 16)] = l ++ 92 :: 117 :: (hex4 r).take 1) := ⟨by rw [HA.out, (HT (by omega)).out]; simp⟩
      have hwb := fun w c h => writeByte_any B b acc c w h hll
      generalize hq : r / 4096 % 16 = q at a1 a2 HD HT'
      clear hq HA HT
      go_wp2_with (first | (go_at_call 81; ((with_reducible refine (hwb _ _ hw.bld hBr).mono ?_); rintro e w2 ⟨rfl, hu2⟩)))
      have hfin := hw.on hu2
      rw [HD.out, HT'.out] at hfin
      exact ⟨⟨1, by omega, rfl, hfin⟩, by simp [intOf]⟩
    rcases hk4 with rfl | hk4
    · have a1 : bits .and .i32 ((r : Int) / 256) 15 = ((r / 256 % 16 : Nat) : Int) := and15 (r / 256) (by omega)
      have a2 : r / 256 % 16 < 16 := by omega
      have HD := Veil.mk (digit_at (r / 256 % 16) a2)
      have HT' : Veil (acc ++ [hexD (r / 256 % 16)] = l ++ 92 :: 117 :: (hex4 r).take 2) := ⟨by rw [HA.out, (HT (by omega)).out]; simp⟩
      have hwb := fun w c h => writeByte_any B b acc c w h hll
      generalize hq : r / 256 % 16 = q at a1 a2 HD HT'
      clear hq HA HT
      go_wp2_with (first | (go_at_call 81; ((with_reducible refine (hwb _ _ hw.bld hBr).mono ?_); rintro e w2 ⟨rfl, hu2⟩)))
      have hfin := hw.on hu2
      rw [HD.out, HT'.out] at hfin
      exact ⟨⟨2, by omega, rfl, hfin⟩, by simp [intOf]⟩
    rcases hk4 with rfl | hk4
    · have a1 : bits .and .i32 ((r : Int) / 16) 15 = ((r / 16 % 16 : Nat) : Int) := and15 (r / 16) (by omega)
      have a2 : r / 16 % 16 < 16 := by omega
      have HD := Veil.mk (digit_at (r / 16 % 16) a2)
      have HT' : Veil (acc ++ [hexD (r / 16 % 16)] = l ++ 92 :: 117 :: (hex4 r).take 3) := ⟨by rw [HA.out, (HT (by omega)).out]; simp⟩
      have hwb := fun w c h => writeByte_any B b acc c w h hll
      generalize hq : r / 16 % 16 = q at a1 a2 HD HT'
      clear hq HA HT
      go_wp2_with (first | (go_at_call 81; ((with_reducible refine (hwb _ _ hw.bld hBr).mono ?_); rintro e w2 ⟨rfl, hu2⟩)))
      have hfin := hw.on hu2
      rw [HD.out, HT'.out] at hfin
      exact ⟨⟨3, by omega, rfl, hfin⟩, by simp [intOf]⟩
    rcases hk4 with rfl | hk4
    · have a1 : bits .and .i32 (r : Int) 15 = ((r % 16 : Nat) : Int) := and15 (r) (by omega)
      have a2 : r % 16 < 16 := by omega
      have HD := Veil.mk (digit_at (r % 16) a2)
      have HT' : Veil (acc ++ [hexD (r % 16)] = l ++ 92 :: 117 :: (hex4 r).take 4) := ⟨by rw [HA.out, (HT (by omega)).out]; simp⟩
      have hwb := fun w c h => writeByte_any B b acc c w h hll
      generalize hq : r % 16 = q at a1 a2 HD HT'
      clear hq HA HT
      go_wp2_with (first | (go_at_call 81; ((with_reducible refine (hwb _ _ hw.bld hBr).mono ?_); rintro e w2 ⟨rfl, hu2⟩)))
      have hfin := hw.on hu2
      rw [HD.out, HT'.out] at hfin
      exact ⟨⟨4, by omega, rfl, hfin⟩, by simp [intOf]⟩
    · obtain rfl : k = 4 := by omega
      have HE : Veil (acc = l ++ 92 :: 117 :: hex4 r) := ⟨by rw [HA.out]; rfl⟩
      go_wp2
      go_end0
      exact ⟨rfl, by rw [← HE.out]; exact hw⟩
theorem isHi_eq (u : Nat) : isHi u = true ↔ 55296 ≤ u ∧ u ≤ 56319 := by simp [isHi]
theorem isLo_eq (u : Nat) : isLo u = true ↔ 56320 ≤ u ∧ u ≤ 57343 := by simp [isLo]
theorem lo_false {u : Nat} (h : u < 56320 ∨ 57343 < u) : isLo u = false := by
  rcases hv : isLo u with _ | _
  · rfl
  · have := (isLo_eq u).1 hv; omega
theorem hi_false {u : Nat} (h : u < 55296 ∨ 56319 < u) : isHi u = false := by
  rcases hv : isHi u with _ | _
  · rfl
  · have := (isHi_eq u).1 hv; omega
theorem goR_len (c : Nat) : (goR c).length ≤ 6 := by
  unfold goR
  split
  · simp
  · split
    · simp [hex4]
    · have := (encode_len (c : Int)).2; omega
theorem goL_len : ∀ S : List (List Nat), (goL S).length ≤ 6 * S.length
  | [] => by simp [goL]
  | us :: S => by
    have h1 := goR_len (cpO us)
    have h2 := goL_len S
    have e : goL (us :: S) = goR (cpO us) ++ goL S := rfl
    rw [e, List.length_append, List.length_cons]
    omega
theorem goL_snoc (S : List (List Nat)) (us : List Nat) : goL (S ++ [us]) = goL S ++ goR (cpO us) := by simp [goL]
theorem signs_form : ∀ (l : List Nat) (us : List Nat), us ∈ signs l → (∃ u, us = [u] ∧ u ∈ l) ∨ ∃ u v, us = [u, v] ∧ isHi u = true ∧ isLo v = true
  | [], us, h => by simp [signs] at h
  | [u], us, h => by simp [signs] at h; subst h; exact .inl ⟨u, rfl, by simp⟩
  | u :: v :: r, us, h => by
    unfold signs at h
    split at h
    · rename_i hc
      rcases List.mem_cons.1 h with rfl | h
      · exact .inr ⟨u, v, rfl, Bool.and_eq_true_iff.1 hc⟩
      · rcases signs_form r us h with ⟨x, h1, h2⟩ | h
        · exact .inl ⟨x, h1, List.mem_cons_of_mem _ (List.mem_cons_of_mem _ h2)⟩
        · exact .inr h
    · rcases List.mem_cons.1 h with rfl | h
      · exact .inl ⟨u, rfl, by simp⟩
      · rcases signs_form (v :: r) us h with ⟨x, h1, h2⟩ | h
        · exact .inl ⟨x, h1, List.mem_cons_of_mem _ h2⟩
        · exact .inr h
theorem cpO_one (u : Nat) : cpO [u] = u := by simp [cpO, ptP, isLo_zero]
theorem cpO_two (u v : Nat) (hu : isHi u = true) (hv : isLo v = true) : cpO [u, v] = 65536 + (u - 55296) * 1024 + (v - 56320) := by
  unfold cpO
  simp only [List.getElem?_cons_zero, List.getElem?_cons_succ, Option.getD_some]
  unfold ptP
  rw [hu, hv]
  rfl
theorem cat_str (a b : List UInt8) : (⟨a.toArray⟩ : ByteArray) ++ ⟨b.toArray⟩ = ⟨(a ++ b).toArray⟩ := by
  apply ByteArray.ext
  simp
theorem size_str (a : List UInt8) : (⟨a.toArray⟩ : ByteArray).size = a.length := by show a.toArray.size = _; simp
set_option maxRecDepth 100000 in
set_option maxHeartbeats 2000000 in
/-- The iterator's function: for every body that keeps its box. -/
theorem points1_mem (n : Nat) (hn : 1 ≤ n) (l Bs : Nat) (L : List Nat) (hL : L.length ≤ 1000000) (hU : ∀ u ∈ L, u < 65536) (J Jx : List (List Nat) → World → Prop)
    (hY : ∀ pre x W, J pre W → pre.length < (signs L).length → x ∈ signs L → YieldAt Fence.wide (n - 1) Tryz.prog l #[.string (strU x)] W fun e W' =>
      (e = .returned (.bool true) ∧ J (pre ++ [x]) W' ∧ KeepBox Bs W W') ∨ (e = .returned (.bool false) ∧ Jx (pre ++ [x]) W'))
    (hJd : ∀ pre W m, J pre W → J pre (W.drewN m))
    (W : World) (hBs : W.cell? ⟨Bs, 0, none⟩ = some (.string (strU L))) (h0 : J [] W) :
    CallsIn Fence.wide n Tryz.prog 76 #[.func (.yield l) #[] #[], .pointer (some ⟨Bs, 0, none⟩)] W fun e W' => (∃ v, e = .returned v) ∧
      ((∃ ys, ys = signs L ∧ J ys W') ∨ (∃ pre, pre <+: signs L ∧ Jx pre W')) := by
  have hs : (strU L).size ≤ 16777216 := by rw [strU_size]; omega
  have hsz : ((strU L).size : Int) / 2 = (L.length : Int) := by rw [strU_size]; omega
  have HL := fun w => len_any (strU L) hs w
  rw [hsz] at HL
  refine callsIn_of_wp Tryz.func76 rfl trivial ?_ rfl
  simp only [Tryz.ntmps76, List.size_toArray, List.length_cons, List.length_nil, Nat.reduceAdd, Nat.reduceSub, Array.replicate_succ, Array.replicate_zero, List.push_toArray, List.append_toArray, List.nil_append, List.cons_append]
  gi_wp2
  gi_loopw [3] (fun i wr => ∃ (k : Nat) (pre : List (List Nat)), k ≤ L.length ∧ i = .int .i64 k ∧ signs L = pre ++ signs (L.drop k) ∧ J pre wr ∧ KeepBox Bs W wr)
    (fun i _ => L.length - (intOf i).toNat)
  case atStart => exact ⟨0, [], Nat.zero_le _, rfl, rfl, h0, rfl⟩
  case round =>
    obtain ⟨k, pre, hk, rfl, hpre, hJs, hnx⟩ := hrel
    have hcx : wr.cell? ⟨Bs, 0, none⟩ = some (.string (strU L)) := Eq.trans hnx hBs
    by_cases hlt : k < L.length
    · obtain ⟨hs1, hs2⟩ := signs_step L k hlt
      have HP := fun w => point_in (strU L) hs k (by rw [strU_size]; omega) w
      rw [strU_units L hU] at HP
      rcases hp : ptP (L[k]?.getD 0) (L[k + 1]?.getD 0) with ⟨pc, pn⟩
      rw [hp] at HP hs1 hs2
      dsimp only at HP hs1 hs2
      have HS : ∀ w, Calls Tryz.prog 78 #[.string (strU L), .int .i64 (k : Int), .int .i64 ((k : Int) + (pn : Int))] w fun e w' => e = .returned (.string (strU ((L.drop k).take pn))) ∧ w = w' := fun w => by
        have h := sub_any (strU L) hs (k : Int) ((k : Int) + (pn : Int)) w
        rwa [strU_sub L (k : Int) ((k : Int) + (pn : Int)) k (k + pn) (by omega) (by omega), show k + pn - k = pn by omega] at h
      have hlen : pre.length < (signs L).length := by rw [hpre, hs1]; simp
      gi_wp2_with (first | (refine ⟨trivial, ?_⟩; gi_at_call 77; refine (callsIn_wide.2 (HL _)).mono ?_; rintro e wq ⟨rfl, rfl⟩) | (refine ⟨trivial, ?_⟩; gi_at_call 37; refine (callsIn_wide.2 (HP _)).mono ?_; rintro e wq ⟨rfl, m, rfl⟩; obtain ⟨fn, tmps, assign, body, hy, hR⟩ := hY pre ((L.drop k).take pn) (wr.drewN m) (hJd _ _ _ hJs) hlen (by rw [hpre, hs1]; simp)) | (refine ⟨trivial, ?_⟩; gi_at_call 78; refine (callsIn_wide.2 (HS _)).mono ?_; rintro e wq ⟨rfl, rfl⟩))
      have hpn : pn = 1 ∨ pn = 2 := by
        have := ptP_snd (L[k]?.getD 0) (L[k + 1]?.getD 0)
        rwa [hp] at this
      have e1 : IntKind.i64.wrap ((k : Int) + (pn : Int)) = ((k + pn : Nat) : Int) := by rw [IntWalk.i64_in _ (by omega)]; omega
      refine hR.mono ?_
      rintro e W3 (⟨rfl, hJ3, hk3⟩ | ⟨rfl, hJx3⟩)
      · gi_wp2
        go_roundw
        case rel => exact ⟨k + pn, _, hs2, by simp, by rw [hpre, hs1, List.append_assoc]; rfl, hJ3, hnx.trans hk3⟩
        case measure => simp [intOf]; omega
      · gi_wp2
        refine bodyPost_ret (results_none rfl _ _ _) rfl ?_
        exact ⟨⟨_, rfl⟩, .inr ⟨_, ⟨_, by rw [hpre, hs1, List.append_assoc]; rfl⟩, hJx3⟩⟩
    · obtain rfl : k = L.length := by omega
      have hlt' : ¬ (L.length : Int) < (L.length : Int) := by omega
      gi_wp2_with (first | (refine ⟨trivial, ?_⟩; gi_at_call 77; refine (callsIn_wide.2 (HL _)).mono ?_; rintro e wq ⟨rfl, rfl⟩) | (gi_at_call 77; refine (callsIn_wide.2 (HL _)).mono ?_; rintro e wq ⟨rfl, rfl⟩))
      go_end0
      exact ⟨⟨_, rfl⟩, .inl ⟨_, by rw [hpre]; simp [signs], hJs⟩⟩
theorem points_stopsM (n : Nat) (hn : 1 ≤ n) (Bs : Nat) (L : List Nat) (hL : L.length ≤ 1000000) (hU : ∀ u ∈ L, u < 65536) (w : World) (hb : Bs < w.heap.size)
    (hc : w.cell? ⟨Bs, 0, none⟩ = some (.string (strU L))) :
    SeqStopsK Fence.wide n Tryz.prog 76 #[.pointer (some ⟨Bs, 0, none⟩)] (fun x : {us : List Nat // us ∈ signs L} => #[Value.string (strU x.1)]) (KeepBox Bs) (fun ys => ys.map (fun x => x.1) = signs L) (fun pre => pre.map (fun x => x.1) <+: signs L) (signs L).length w := fun l J Jx W hW hJ _ hY h0 => by
  have h := points1_mem n hn l Bs L hL hU (fun pre W => ∃ p : List {us : List Nat // us ∈ signs L}, p.map (fun x => x.1) = pre ∧ J p W) (fun pre W => ∃ p : List {us : List Nat // us ∈ signs L}, p.map (fun x => x.1) = pre ∧ Jx p W)
    (fun pre x W ⟨p, hp, hJp⟩ hlen hx => by
      obtain ⟨fn, tmps, assign, body, hy, hR⟩ := hY p ⟨x, hx⟩ W hJp (by rw [← hp, List.length_map] at hlen; exact hlen)
      refine ⟨fn, tmps, assign, body, hy, hR.mono ?_⟩
      rintro e W' (⟨h1, h2, h3⟩ | ⟨h1, h2⟩)
      · exact .inl ⟨h1, ⟨p ++ [⟨x, hx⟩], by rw [List.map_append, hp]; rfl, h2⟩, h3⟩
      · exact .inr ⟨h1, p ++ [⟨x, hx⟩], by rw [List.map_append, hp]; rfl, h2⟩)
    (fun pre W1 m ⟨p, hp, hJp⟩ => ⟨p, hp, hJ p W1 _ none hJp (grown_drewN W1 m) (fun r e => by cases e)⟩) W ((hW.cell (p := ⟨Bs, 0, none⟩) hb).trans hc) ⟨[], rfl, h0⟩
  refine h.mono ?_
  rintro e W' ⟨hv, ⟨ys, hys, p, hp, hJp⟩ | ⟨pre, hpre, p, hp, hJp⟩⟩
  · exact ⟨hv, .inl ⟨p, hp.trans hys, hJp⟩⟩
  · exact ⟨hv, .inr ⟨p, by show List.map (fun x => x.1) p <+: signs L; rw [hp]; exact hpre, hJp⟩⟩
theorem Bld.grows {B b : Nat} {l : List UInt8} {A C : World} {row : Option Nat} (h : Bld B b l A) (hg : A.grownBy C row) (hr : ∀ r, row = some r → ∃ o : Obj, A.heap[r]? = some o ∧ o.isCells = false) : Bld B b l C := by
  have key : ∀ p, Lib.BuilderAt 109 5 B b p (Lib.byteCells l) A → Lib.BuilderAt 109 5 B b p (Lib.byteCells l) C := fun p ⟨hB, v, hbk, hown, hne⟩ => by
    refine ⟨hB, v, ?_, hown.kept hg ?_, hne⟩
    · rw [hg.block b (lt_of_block hbk) (fun e => ?_)]
      · exact hbk
      · obtain ⟨o, ho, hc⟩ := hr b e.symm
        rw [hbk] at ho; cases ho; cases hc
    · rcases hown.2 with ⟨rfl, _⟩ | ⟨g, cap, cur, rfl, _, hc, _⟩
      · exact .inl rfl
      · refine .inr (fun e => ?_)
        obtain ⟨o, ho, hcc⟩ := hr g e.symm
        rw [hc] at ho; cases ho; cases hcc
  rcases h with h | h
  · exact .inl (key _ h)
  · exact .inr (key _ h)
theorem Used.others {B b : Nat} {l l' : List UInt8} {W W' : World} (h : Bld B b l W) (hu : Used B b l' W W') : KeepsOthers W W' := by
  obtain ⟨v, p, hbk⟩ : ∃ v p, W.heap[b]? = some (.cells #[p, v] 109 (0, 0)) := by
    rcases h with ⟨_, v, hbk, _⟩ | ⟨_, v, hbk, _⟩
    · exact ⟨v, _, hbk⟩
    · exact ⟨v, _, hbk⟩
  refine ⟨hu.2.1.size, fun k o hk ho => hu.2.2 k o hk (fun e => ?_) (fun c fz e => ?_)⟩
  · cases e
    rw [hbk] at hk; cases hk; cases ho
  · subst e; cases ho
structure GoI (w : World) (Bs : Nat) (x : ByteArray) (l : List UInt8) (W : World) : Prop where
  bld : Bld w.heap.size w.heap.size l W
  box : W.heap[Bs]? = some (.cells #[.string x] 9 (0, 0))
  bel : Below w.heap.size w W
theorem GoI.own {α : Type} {w : World} {Bs B : Nat} {x : ByteArray} {f : α → List UInt8} (hB : w.heap.size ≤ B) : OwnFrom B (fun (s : α) W => GoI w Bs x (f s) W) := fun _ _ _ _ hs hg hr =>
  have hr' := fun r e => (hr r e).2
  ⟨hs.bld.grows hg hr', (grownBy_keeps_cells hg hr' hs.box rfl).trans hs.box, hs.bel.grown hg hs.bel.size (fun k e => Nat.le_trans hB (hr k e).1)⟩
theorem GoI.next {w : World} {Bs : Nat} {x : ByteArray} {l l' : List UInt8} {W W' : World} (h : GoI w Bs x l W) (hne : Bs ≠ w.heap.size) (hu : Used w.heap.size w.heap.size l' W W') : GoI w Bs x l' W' :=
  ⟨hu.bld, hu.2.2 Bs _ h.box (fun e => hne (Option.some.inj e)) (fun c fz e => by cases e), h.bel.trans hu.2.1⟩
theorem GoI.keep {w : World} {Bs : Nat} {x : ByteArray} {l l' : List UInt8} {W W' : World} (h : GoI w Bs x l W) (h' : GoI w Bs x l' W') : KeepBox Bs W W' := by
  unfold KeepBox
  rw [Lib.cell_of_heap h.box, Lib.cell_of_heap h'.box]
theorem pt_at (l : List Nat) (hl : ∀ u ∈ l, u < 65536) (us : List Nat) (h : us ∈ signs l) (w : World) :
    ∃ m : Int, Calls Tryz.prog 37 #[.string (strU us), .int .i64 0] w fun e w' => e = .returned (.tuple #[.int .i32 (cpO us : Nat), .int .i64 m]) ∧ ∃ n, w' = w.drewN n := by
  have hb := signs_bound l hl us h
  have hs := signs_short l us h
  have hne : 0 < us.length := by
    rcases signs_form l us h with ⟨u, rfl, _⟩ | ⟨u, v, rfl, _⟩ <;> simp
  have := point_in (strU us) (by rw [strU_size]; omega) 0 (by rw [strU_size]; omega) w
  rw [strU_units us hb] at this
  exact ⟨_, this⟩
theorem cp_top (l : List Nat) (hl : ∀ u ∈ l, u < 65536) (us : List Nat) (h : us ∈ signs l) : cpO us ≤ 1114111 := by
  rcases signs_form l us h with ⟨u, rfl, hm⟩ | ⟨u, v, rfl, hu, hv⟩
  · rw [cpO_one]; have := hl u hm; omega
  · rw [cpO_two u v hu hv]
    obtain ⟨_, _⟩ := (isHi_eq u).1 hu
    obtain ⟨_, _⟩ := (isLo_eq v).1 hv
    omega
theorem lo_of {c : Nat} (h : 55296 ≤ c ∧ c ≤ 57343) (hh : isHi c = false) : isLo c = true := by
  refine (isLo_eq c).2 ⟨?_, h.2⟩
  rcases Nat.lt_or_ge c 56320 with h' | h'
  · rw [(isHi_eq c).2 (by omega)] at hh; cases hh
  · exact h'
theorem bld_drewN {B b : Nat} {l : List UInt8} {W : World} (h : Bld B b l W) (m : Nat) : Bld B b l (W.drewN m) := h.grows (grown_drewN W m) (fun r e => by cases e)
theorem used_drewN {B b m : Nat} {l : List UInt8} {W W' : World} (h : Used B b l (W.drewN m) W') : Used B b l W W' := ⟨h.1, (below_drewN (Below.refl _ _) m).trans h.2.1, fun k o hk => h.2.2 k o hk⟩
theorem writeEscape_127 (B b : Nat) (l : List UInt8) (w : World) (h : Bld B b l w) (hlen : l.length + 7 ≤ 1000000) (hBw : B ≤ w.heap.size) :
    Calls Tryz.prog 41 #[.pointer (some ⟨b, 0, none⟩), .int .i32 127] w fun e w' => e = .returned (.tuple #[]) ∧ Used B b (l ++ 92 :: 117 :: hex4 127) w w' := writeEscape_any B b l 127 w (by omega) h hlen hBw
set_option maxRecDepth 100000 in
set_option maxHeartbeats 4000000 in
theorem textGo_in (n : Nat) (hn : 4 ≤ n) (l : List Nat) (hl : ∀ u ∈ l, u < 65536) (hlen : l.length ≤ 10000) (w : World) :
    CallsIn Fence.wide n Tryz.prog 16 #[.string (strU l)] w fun e w' => e = .returned (.string ⟨(goL (signs l)).toArray⟩) ∧ Below w.heap.size w w' := by
  have h1 : 1 ≤ n := by omega
  obtain ⟨x, hx⟩ : ∃ x, x = strU l := ⟨_, rfl⟩
  have HX := Veil.mk hx.symm
  rw [← hx]
  have HL := Veil.mk hl
  have hN : (signs l).length ≤ 10000 := Nat.le_trans (signs_count l) hlen
  clear hx hl
  refine callsIn_of_wp_marks Tryz.func16 rfl trivial ?_ rfl
  simp only [Tryz.ntmps16, List.size_toArray, List.length_cons, List.length_nil, Nat.reduceAdd, Nat.reduceSub, Array.replicate_succ, Array.replicate_zero, List.push_toArray, List.append_toArray, List.nil_append, List.cons_append]
  gi_wp2_with (first | (refine ⟨trivial, ?_⟩; gi_at_call 36; ((with_reducible refine (callsIn_wide.2 (points_any x _)).mono ?_); rintro e w5 ⟨rfl, rfl⟩)))
  have hB0 : GoI w (w.heap.size + 1) x (goL (([] : List {us : List Nat // us ∈ signs l}).map (fun x => x.1))) ((w.alloc (.cells #[.pointer none, .slice none 0 0] 109)).alloc (.cells #[.string x] 9)) := by
    have hb : Bld w.heap.size w.heap.size [] (w.alloc (.cells #[.pointer none, .slice none 0 0] 109)) := Lib.fresh_isBuilder _ _ w
    refine ⟨hb.grows (World.grownBy_alloc _ _ none) (fun r e => by cases e), ?_, ((Below.refl _ w).alloc (Nat.le_refl _) _).alloc (by simp) _⟩
    have := World.alloc_heap_new (w.alloc (.cells #[.pointer none, .slice none 0 0] 109)) (.cells #[.string x] 9)
    rwa [World.size_alloc] at this
  have hbx := Lib.cell_of_heap hB0.box 0
  refine wpIn_rangeFunc_ownF rfl h1 (gf := 76) (lb := #[.pointer (some ⟨w.heap.size + 1, 0, none⟩)]) rfl trivial (enters_of Tryz.func76 (by kernel_rfl) rfl)
    (points_stopsM (n - 1) (by omega) (w.heap.size + 1) l (by omega) HL.out _ (by simp) (by rw [HX.out]; exact hbx)) KeepBox.trans (fun W k _ o' hk _ _ _ => cell_putObj W k _ o' (by simp at hk; omega)) (Below.refl _ _) (fun _ => rfl)
    (fun pre W => GoI w (w.heap.size + 1) x (goL (pre.map (fun x => x.1))) W) (fun _ _ _ => False) (GoI.own (f := fun pre : List {us : List Nat // us ∈ signs l} => goL (pre.map (fun x => x.1))) (by simp; omega)) (fun _ _ _ _ _ hs _ _ => hs) hB0
    (fun y => { tmps := #[Value.string x, undef, Value.string { data := #[] }, Value.pointer (some { block := w.heap.size, off := 0 }), .string (strU y.1), undef, undef, Value.string x, Value.func (Fn.func 76) #[] #[Value.pointer (some { block := w.heap.size + 1, off := 0 })], .string (strU y.1), undef, undef, undef, undef, undef, undef, undef, undef, undef, undef, undef, undef, undef, undef, undef, undef, undef, undef, undef, undef, undef, undef, undef, undef, undef, undef, undef, undef, undef], defers := [] }) ?assign ?body ?done ?stop
  case assign =>
    intro k y W K hK
    gi_wp2
    exact hK
  case body =>
    rintro L pre y W hI hlt
    have hus := y.2
    have hlen6 := goL_len (pre.map (fun x => x.1))
    rw [List.length_map] at hlen6
    have HG : Veil (goL ((pre ++ [y]).map (fun x => x.1)) = goL (pre.map (fun x => x.1)) ++ goR (cpO y.1)) := ⟨by rw [List.map_append]; exact goL_snoc _ y.1⟩
    have hpt := fun w => pt_at l HL.out y.1 hus w
    have hct := cp_top l HL.out y.1 hus
    obtain ⟨acc, hacc⟩ : ∃ acc, acc = goL (pre.map (fun x => x.1)) := ⟨_, rfl⟩
    rw [← hacc] at hI hlen6 HG
    have hal : acc.length + 7 ≤ 1000000 := by omega
    obtain ⟨st, hst⟩ : ∃ st, st = strU y.1 := ⟨_, rfl⟩
    rw [← hst] at hpt
    dsimp only
    rw [← hst]
    generalize cpO y.1 = c at hpt hct HG
    have HI := Veil.mk hI
    have HGI := fun W' (hu : Used w.heap.size w.heap.size (acc ++ goR c) W W') => hI.next (by omega) hu
    have hbw : w.heap.size ≤ W.heap.size := hI.bel.size
    have hbl := hI.bld
    have hbwm : ∀ m, w.heap.size ≤ (W.drewN m).heap.size := fun _ => hbw
    have hend : ∀ W', Used w.heap.size w.heap.size (acc ++ goR c) W W' → KeepsOthers W W' ∧ KeepBox (w.heap.size + 1) W W' ∧ GoI w (w.heap.size + 1) x (goL ((pre ++ [y]).map (fun x => x.1))) W' := fun W' hu => by
      have h2 := HGI W' hu
      rw [HG.out]
      exact ⟨Used.others hbl hu, hI.keep h2, h2⟩
    have HEND := Veil.mk hend
    have h2 : 1 ≤ n - 1 - 1 := by omega
    clear hacc hst hI HGI hend hlen6 hlt
    obtain ⟨mm, hpt⟩ := hpt W
    by_cases c1 : c = 92
    · subst c1
      have GR : Veil (goR 92 = [92, 92]) := ⟨rfl⟩
      have hw2 : acc.length + (⟨#[92, 92]⟩ : ByteArray).size ≤ 1000000 := by show acc.length + 2 ≤ _; omega
      gi_wp2_with (first | (refine ⟨trivial, ?_⟩; gi_at_call 37; ((with_reducible refine (CallsIn.inRound L (callsIn_wide.2 hpt)).mono ?_); rintro e w6 ⟨rfl, m, rfl⟩)) | (refine ⟨trivial, ?_⟩; gi_at_call 38; ((with_reducible refine (CallsIn.inRound L (callsIn_wide.2 (writeString_any w.heap.size w.heap.size acc ⟨#[92, 92]⟩ _ (bld_drewN hbl _) hw2 (hbwm _)))).mono ?_); rintro e w8 ⟨rfl, hu⟩)))
      exact HEND.out _ (by rw [GR.out]; exact used_drewN hu)
    · have q1 : ((c : Int) == 92) = false := beq_eq_false_iff_ne.2 (by omega)
      have hHi := fun w => high_any c w
      have hLo := fun w => low_any c w
      by_cases c2 : c < 32 ∨ c = 127 ∨ (55296 ≤ c ∧ c ≤ 57343)
      · have GR : Veil (goR c = 92 :: 117 :: hex4 c) := ⟨by unfold goR; rw [if_neg c1, if_pos c2]⟩
        have hc6 : c < 65536 := by omega
        by_cases c3 : c < 32
        · have q2 : (c : Int) < 32 := by omega
          clear c2 hHi hLo
          gi_wp2_with (first | (refine ⟨trivial, ?_⟩; gi_at_call 37; ((with_reducible refine (CallsIn.inRound L (callsIn_wide.2 hpt)).mono ?_); rintro e w6 ⟨rfl, m, rfl⟩)) | (refine ⟨trivial, ?_⟩; gi_at_call 41; ((with_reducible refine (CallsIn.inRound L (callsIn_wide.2 (writeEscape_any w.heap.size w.heap.size acc c _ hc6 (bld_drewN hbl _) hal (hbwm _)))).mono ?_); rintro e w8 ⟨rfl, hu⟩)) | (refine ⟨trivial, ?_⟩))
          exact HEND.out _ (by rw [GR.out]; exact used_drewN hu)
        · have q2 : ¬ (c : Int) < 32 := by omega
          by_cases c4 : c = 127
          · subst c4
            clear c2 hHi hLo
            gi_wp2_with (first | (refine ⟨trivial, ?_⟩; gi_at_call 37; ((with_reducible refine (CallsIn.inRound L (callsIn_wide.2 hpt)).mono ?_); rintro e w6 ⟨rfl, m, rfl⟩)) | (refine ⟨trivial, ?_⟩; gi_at_call 41; ((with_reducible refine (CallsIn.inRound L (callsIn_wide.2 (writeEscape_127 w.heap.size w.heap.size acc _ (bld_drewN hbl _) hal (hbwm _)))).mono ?_); rintro e w8 ⟨rfl, hu⟩)) | (refine ⟨trivial, ?_⟩))
            exact HEND.out _ (by rw [GR.out]; exact used_drewN hu)
          · have q3 : ((c : Int) == 127) = false := beq_eq_false_iff_ne.2 (by omega)
            rcases hh : isHi c with _ | _
            · have hlo : isLo c = true := lo_of (by omega) hh
              rw [hh] at hHi
              rw [hlo] at hLo
              clear c2 hh hlo
              gi_wp2_with (first | (refine ⟨trivial, ?_⟩; gi_at_call 37; ((with_reducible refine (CallsIn.inRound L (callsIn_wide.2 hpt)).mono ?_); rintro e w6 ⟨rfl, m, rfl⟩)) | (refine ⟨trivial, ?_⟩; gi_at_call 39; ((with_reducible refine (CallsIn.inRound L (callsIn_wide.2 (hHi _))).mono ?_); rintro e w7 ⟨rfl, rfl⟩)) | (refine ⟨trivial, ?_⟩; gi_at_call 40; ((with_reducible refine (CallsIn.inRound L (callsIn_wide.2 (hLo _))).mono ?_); rintro e w7 ⟨rfl, rfl⟩)) | (refine ⟨trivial, ?_⟩; gi_at_call 41; ((with_reducible refine (CallsIn.inRound L (callsIn_wide.2 (writeEscape_any w.heap.size w.heap.size acc c _ hc6 (bld_drewN hbl _) hal (hbwm _)))).mono ?_); rintro e w8 ⟨rfl, hu⟩)) | (refine ⟨trivial, ?_⟩))
              exact HEND.out _ (by rw [GR.out]; exact used_drewN hu)
            · rw [hh] at hHi
              clear c2 hh hLo
              gi_wp2_with (first | (refine ⟨trivial, ?_⟩; gi_at_call 37; ((with_reducible refine (CallsIn.inRound L (callsIn_wide.2 hpt)).mono ?_); rintro e w6 ⟨rfl, m, rfl⟩)) | (refine ⟨trivial, ?_⟩; gi_at_call 39; ((with_reducible refine (CallsIn.inRound L (callsIn_wide.2 (hHi _))).mono ?_); rintro e w7 ⟨rfl, rfl⟩)) | (refine ⟨trivial, ?_⟩; gi_at_call 41; ((with_reducible refine (CallsIn.inRound L (callsIn_wide.2 (writeEscape_any w.heap.size w.heap.size acc c _ hc6 (bld_drewN hbl _) hal (hbwm _)))).mono ?_); rintro e w8 ⟨rfl, hu⟩)) | (refine ⟨trivial, ?_⟩))
              exact HEND.out _ (by rw [GR.out]; exact used_drewN hu)
      · have GR : Veil (goR c = Lib.encodeRune (c : Int)) := ⟨by unfold goR; rw [if_neg c1, if_neg c2]⟩
        have hal4 : acc.length + 4 ≤ 1000000 := by omega
        have q2 : ¬ (c : Int) < 32 := by omega
        have q3 : ((c : Int) == 127) = false := beq_eq_false_iff_ne.2 (by omega)
        rw [hi_false (u := c) (by omega)] at hHi
        rw [lo_false (u := c) (by omega)] at hLo
        clear c2
        gi_wp2_with (first | (refine ⟨trivial, ?_⟩; gi_at_call 37; ((with_reducible refine (CallsIn.inRound L (callsIn_wide.2 hpt)).mono ?_); rintro e w6 ⟨rfl, m, rfl⟩)) | (refine ⟨trivial, ?_⟩; gi_at_call 39; ((with_reducible refine (CallsIn.inRound L (callsIn_wide.2 (hHi _))).mono ?_); rintro e w7 ⟨rfl, rfl⟩)) | (refine ⟨trivial, ?_⟩; gi_at_call 40; ((with_reducible refine (CallsIn.inRound L (callsIn_wide.2 (hLo _))).mono ?_); rintro e w7 ⟨rfl, rfl⟩)) | (refine ⟨trivial, ?_⟩; gi_at_call 42; ((with_reducible refine (CallsIn.inRound L (callsIn_wide.2 (writeRune_any w.heap.size w.heap.size acc c _ hct (bld_drewN hbl _) hal4 (hbwm _)))).mono ?_); rintro e w8 ⟨rfl, hu⟩)))
        exact HEND.out _ (by rw [GR.out]; exact used_drewN hu)
  case done =>
    rintro D ys W hD hys hI hK
    rw [show List.map (fun x => x.1) ys = signs l from hys] at hI
    have hbf0 : Lib.IsBuilderF 109 5 w.heap.size w.heap.size (Lib.byteCells (goL (signs l))) W := Lib.IsBuilderF.of hI.bld
    gi_wp2_with (first | (refine ⟨trivial, ?_⟩; gi_at_call 43; ((with_reducible refine (callsIn_wide.2 (Tryz.Builder_String_any_k w.heap.size w.heap.size (goL (signs l)) _ hbf0 hI.bel.size)).mono ?_); rintro e w6 ⟨rfl, hbf, hb6, hk6⟩)))
    have hDn : W.heap[D]? = some (.deferred (some [])) := hK
    have hK6 : w6.heap[D]? = some (.deferred (some [])) := by
      refine hk6 D _ hK (fun e => ?_) (fun c fz e => by cases e)
      obtain ⟨v, p, hbk⟩ : ∃ v p, W.heap[w.heap.size]? = some (.cells #[p, v] 109 (0, 0)) := by
        rcases hI.bld with ⟨_, v, hbk, _⟩ | ⟨_, v, hbk, _⟩
        · exact ⟨v, _, hbk⟩
        · exact ⟨v, _, hbk⟩
      cases e
      rw [hbk] at hK; cases hK
    refine ⟨by simp, .inl ⟨_, _, rfl, run_takeDeferred hK6, ?_⟩⟩
    exact ⟨_, results_tmp rfl _ _ _, rfl, (hI.bel.trans hb6).trans (belowK_b (w := w) (Nat.le_refl _) w6 D _ _ (by simp at hD; omega) hK6 rfl rfl)⟩
  case stop =>
    rintro D c pre W _ _ h _
    exact h.elim
theorem flat_units : ∀ (l : List UInt8), l.length % 2 = 0 → (units l).flatMap u2 = l
  | [], _ => rfl
  | [_], h => by simp at h
  | a :: b :: r, h => by
    have ha := a.toNat_lt
    have hb := b.toNat_lt
    simp only [units, List.flatMap_cons]
    rw [flat_units r (by simp at h; omega)]
    have e1 : UInt8.ofNat ((a.toNat * 256 + b.toNat) / 256) = a := by apply UInt8.toNat_inj.1; simp; omega
    have e2 : UInt8.ofNat (a.toNat * 256 + b.toNat) = b := by apply UInt8.toNat_inj.1; simp
    show UInt8.ofNat _ :: UInt8.ofNat _ :: r = _
    rw [e1, e2]
theorem ofR_even (c : Nat) : (ofR c).length % 2 = 0 := by
  unfold ofR; split <;> simp [u2]
theorem ofFrom_even (s : ByteArray) : ∀ f p, (ofFrom s f p).length % 2 = 0
  | 0, p => rfl
  | f + 1, p => by
    unfold ofFrom
    split
    · have h1 := ofR_even (Utf8.decode s p).1
      have h2 := ofFrom_even s f (p + (Utf8.decode s p).2)
      rw [List.length_append]; omega
    · rfl
theorem ofFrom_len (s : ByteArray) : ∀ f p, (ofFrom s f p).length ≤ 4 * f
  | 0, p => by simp [ofFrom]
  | f + 1, p => by
    unfold ofFrom
    split
    · have h1 := ofR_length (Utf8.decode s p).1
      have h2 := ofFrom_len s f (p + (Utf8.decode s p).2)
      rw [List.length_append]; omega
    · simp
theorem ofB_strU (s : ByteArray) : (⟨(ofB s).toArray⟩ : ByteArray) = strU (units (ofB s)) := by
  unfold strU
  rw [flat_units (ofB s) (ofFrom_even s _ _)]
theorem ofB_len (s : ByteArray) : (units (ofB s)).length ≤ 2 * s.size := by
  rw [units_length]
  have := ofFrom_len s s.size 0
  unfold ofB
  omega
theorem go_at (l : List Nat) (x : ByteArray) (r : ByteArray) (hx : Veil (strU l = x)) (hl : ∀ u ∈ l, u < 65536) (hlen : l.length ≤ 10000) (hr : Veil ((⟨(goL (signs l)).toArray⟩ : ByteArray) = r)) (w : World) :
    Calls Tryz.prog 16 #[.string x] w fun e w' => e = .returned (.string r) ∧ Below w.heap.size w w' := by
  have h := callsIn_wide.1 (textGo_in 4 (Nat.le_refl _) l hl hlen w)
  rw [hx.out, hr.out] at h
  exact h
end Go.Proofs.YtgdkjkfbknbgkaaGreatDoor.W
