/- Package vm: create, Array; rows of values; Of. -/
import Derived.Test.YtgdkjkfbknbgkaaGreatDoorVb
import Derived.Maps.AppendAt
namespace Go.Proofs.YtgdkjkfbknbgkaaGreatDoor
open Go Go.RowKit

theorem cell_of_row2 (g i : Nat) : (⟨g, 0, none⟩ : Addr).add i = ⟨g, i, none⟩ := by
  unfold Addr.add; split
  · simp [*]
  · simp
def flatV (l : List Vt) : List Value := l.flatMap fun v => [.int .i64 v.1, .int .i64 v.2.1, .string v.2.2]
theorem flatV_len (l : List Vt) : (flatV l).length = l.length * 3 := by
  induction l with
  | nil => rfl
  | cons a r ih => show (_ :: _ :: _ :: flatV r).length = _; simp only [List.length_cons, ih]; omega
theorem flatV_at : ∀ (l : List Vt) (i : Nat) (v : Vt), l[i]? = some v → (flatV l)[i * 3]? = some (.int .i64 v.1) ∧ (flatV l)[i * 3 + 1]? = some (.int .i64 v.2.1) ∧ (flatV l)[i * 3 + 2]? = some (.string v.2.2)
  | [], i, v, h => by cases h
  | a :: r, 0, v, h => by
    have h : some a = some v := h
    injection h with h
    subst h
    exact ⟨rfl, rfl, rfl⟩
  | a :: r, i + 1, v, h => by
    have := flatV_at r i v h
    rw [show (i + 1) * 3 = i * 3 + 3 by omega, show i * 3 + 3 + 1 = (i * 3 + 1) + 3 by omega, show i * 3 + 3 + 2 = (i * 3 + 2) + 3 by omega]
    exact this
theorem flatV_one (l : List Vt) : ∀ v ∈ flatV l, v.oneCell' = true := fun v hv => by
  obtain ⟨x, -, hx⟩ := List.mem_flatMap.1 hv
  have : v = .int .i64 x.1 ∨ v = .int .i64 x.2.1 ∨ v = .string x.2.2 := by simpa using hx
  rcases this with rfl | rfl | rfl <;> rfl
/-- A slice value reads as these values. -/
def RowV (W : World) (ev : Value) (l : List Vt) : Prop := ∃ ao cap, ev = .slice ao l.length cap ∧ l.length ≤ cap ∧ (ao = none → l = [] ∧ cap = 0) ∧ ∀ ad, ao = some ad → ∃ g, ad = ⟨g, 0, none⟩ ∧ Lab W g 30 ∧ ∀ j u, (flatV l)[j]? = some u → W.cell? ⟨g, j, none⟩ = some u
theorem cell_blk {w w' : World} {k : Nat} (h : w'.heap[k]? = w.heap[k]?) (j : Nat) : w'.cell? ⟨k, j, none⟩ = w.cell? ⟨k, j, none⟩ := by
  simp only [World.cell?, h]
theorem Kp.lab {ts : List TypeId} {w w1 : World} (h : Kp ts w w1) {g : Nat} {t : TypeId} (hl : Lab w g t) (ht : ts.contains t = false) : Lab w1 g t := by
  have e := h g t hl ht
  obtain ⟨cs, fr, hb⟩ := hl
  exact ⟨cs, fr, e.trans hb⟩
theorem RowV.kp {ts : List TypeId} {W W' : World} {ev : Value} {l : List Vt} (h : RowV W ev l) (hk : Kp ts W W') (ht : ts.contains 30 = false) : RowV W' ev l := by
  obtain ⟨ao, cap, e, h1, h2, h3⟩ := h
  refine ⟨ao, cap, e, h1, h2, fun ad had => ?_⟩
  obtain ⟨g, e2, hl, hc⟩ := h3 ad had
  exact ⟨g, e2, hk.lab hl ht, fun j u hj => by rw [cell_blk (hk g _ hl ht)]; exact hc j u hj⟩
theorem RowV.on {W W' : World} {ev : Value} {l : List Vt} (h : RowV W ev l) (hb : Below W.heap.size W W') : RowV W' ev l := h.kp (ts := []) (Kp.of_below hb) rfl
theorem RowV.put {W : World} {ev : Value} {l : List Vt} (h : RowV W ev l) (g i : Nat) (u : Value) (hg : ∀ ad n cap, ev = .slice (some ad) n cap → ad.block ≠ g) : RowV (W.setCell ⟨g, i, none⟩ u) ev l := by
  obtain ⟨ao, cap, e, h1, h2, h3⟩ := h
  refine ⟨ao, cap, e, h1, h2, fun ad had => ?_⟩
  obtain ⟨g2, e2, hl, hc⟩ := h3 ad had
  have hne : g2 ≠ g := by
    have := hg ad l.length cap (by rw [e, had])
    rw [e2] at this
    exact this
  have hb := Below.heap_setCell W ⟨g, i, none⟩ u g2 hne
  refine ⟨g2, e2, ?_, fun j u hj => by rw [cell_blk hb]; exact hc j u hj⟩
  obtain ⟨cs, fr, hx⟩ := hl
  exact ⟨cs, fr, hb.trans hx⟩
theorem RowV.nil (W : World) : RowV W (.slice none 0 0) [] := ⟨none, 0, rfl, Nat.le_refl _, fun _ => ⟨rfl, rfl⟩, fun ad h => by cases h⟩
theorem RowV.own {W : World} {B : Nat} {v : Value} {l : List Vt} (h : W.ownsRow B 30 3 v l.length (flatV l)) : RowV W v l := by
  rcases h.2 with ⟨rfl, h0⟩ | ⟨g, cap, cur, rfl, hB, hb, hc, _⟩
  · have : l = [] := List.length_eq_zero_iff.1 h0
    subst this
    exact RowV.nil W
  · refine ⟨_, cap, rfl, hc, fun h => (by cases h), fun ad had => ⟨g, by injection had with had; exact had.symm, ⟨cur, _, hb⟩, fun j u hj => ?_⟩⟩
    have hjl : j < (flatV l).length := (List.getElem?_eq_some_iff.1 hj).1
    rw [flatV_len] at hjl
    rw [h.cellAt j hjl]
    exact hj
theorem RowV.box {W : World} {g : Nat} (l : List Vt) (n : Nat) (hn : l.length = n) (h : Box W g 30 (flatV l).toArray) : RowV W (.slice (some ⟨g, 0, none⟩) n n) l := by
  subst hn
  refine ⟨_, _, rfl, Nat.le_refl _, fun h => (by cases h), fun ad had => ⟨g, by injection had with had; exact had.symm, h.lab, fun j u hj => ?_⟩⟩
  rw [h.at_ j]
  simpa using hj
theorem Tryz.infoW : (Tryz.prog.info? 30).map (fun i => (i.zero, i.size, i.bytes)) = some (some (.agg #[.int .i64 0, .int .i64 0, .string ⟨#[]⟩]), 3, 32) := by kernel_rfl
set_option maxHeartbeats 1000000 in
set_option maxRecDepth 100000 in
/-- slices.Clone of values. -/
theorem clone_v (sv : Value) (l : List Vt) (hl : l.length ≤ 1000000) (w : World) (h : RowV w sv l) : Calls Tryz.prog 55 #[sv] w fun e w' => ∃ v, e = .returned v ∧ Below w.heap.size w w' ∧ RowV w' v l ∧ ∀ ad n cap, v = .slice (some ad) n cap → w.heap.size ≤ ad.block := by
  have q : ∀ (w : World) (a : Option Addr) (n c n' c' : Nat), (binOp .eql 57 (.slice a n c) (.slice none n' c')).run Tryz.prog w = .ok (.bool a.isNone) w := fun w a n c n' c' => Lib.run_eql_slice_nil w _ _ a n c n' c' Tryz.underlying57
  obtain ⟨ao, cap, rfl, hlc, hno, hso⟩ := h
  cases ao with
  | none =>
    obtain ⟨rfl, rfl⟩ := hno rfl
    clear hlc hno hso
    go_enter Tryz.func55, Tryz.ntmps55
    go_wp2
    go_ret
    exact ⟨_, rfl, Below.refl _ _, RowV.nil _, fun ad n cap h => (by cases h)⟩
  | some ad =>
    obtain ⟨g, rfl, hlb, hc⟩ := hso _ rfl
    have hlt := lab_lt hlb
    obtain ⟨i0, hi, hz0, hz1, hz2⟩ := info_parts Tryz.infoW
    obtain ⟨n, hn⟩ : ∃ n, l.length = n := ⟨_, rfl⟩
    have hro : (w.alloc (.cells #[] 30)).ownsRow w.heap.size 30 3 (.slice (some ⟨w.heap.size, 0, none⟩) 0 0) 0 [] := ⟨rfl, .inr ⟨w.heap.size, 0, #[], rfl, Nat.le_refl _, Box.new w 30 #[], Nat.le_refl _, Nat.zero_le _, rfl, rfl⟩⟩
    have hlen := flatV_len l
    have hsrc : ∀ (j : Nat) (u : Value), (flatV l)[j]? = some u → (w.alloc (.cells #[] 30)).cell? ((⟨g, 0, none⟩ : Addr).add j) = some u := fun j u hj => by
      rw [cell_of_row2, ((Below.refl w.heap.size w).alloc (Nat.le_refl _) _).cell (p := ⟨g, j, none⟩) hlt]
      exact hc j u hj
    have hone := flatV_one l
    obtain ⟨fl, hfl⟩ : ∃ fl, flatV l = fl := ⟨_, rfl⟩
    have HFL := Veil.mk (And.intro hfl hn)
    rw [hfl] at hlen hsrc hone
    rw [hn] at hlen hl hlc ⊢
    have hs0 : w.heap.size ≤ (w.alloc (.cells #[] 30)).heap.size := by rw [World.size_alloc]; omega
    have hb0 : Below w.heap.size w (w.alloc (.cells #[] 30)) := (Below.refl _ _).alloc (Nat.le_refl _) _
    have HH := Veil.mk (And.intro hs0 hb0)
    have HL := Veil.mk hlen
    clear hb0 hc hno hso hfl hn hlb hlc
    go_enter Tryz.func55, Tryz.ntmps55
    go_upto_region 3 with (fail)
    go_wp2_with (at_builtin; go_loud (refine wpList_append_own_at _ rfl _ _ 57 rfl w.heap.size 30 i0 (.agg #[.int .i64 0, .int .i64 0, .string ⟨#[]⟩]) 3 32 Tryz.underlying57 hi hz0 hz1 hz2 rfl (by decide) _ 0 [] rfl hro ⟨g, 0, none⟩ n cap fl rfl HL.out hsrc hone (by unfold maxLen; omega) (by omega) HH.out.1 ?_); intro v5 w5 hown2 hgrow2 hnil2 hblk2; refine Hid.out ?_)
    have ht2 : Touch (fun b => b = w.heap.size) (w.alloc (.cells #[] 30)) w5 := Touch.of_grown hgrow2 (fun b hb => by
      have hb : (Value.slice (some ⟨w.heap.size, 0, none⟩) 0 0).ownBlock = some b := hb
      injection hb with hb
      exact hb.symm)
    rw [Nat.zero_add, List.nil_append] at hown2
    have HF := Veil.mk (And.intro (HH.out.2.trans (ht2.below HH.out.1 (fun k hk => by omega))) hown2)
    clear ht2 hgrow2 hblk2 hnil2 hown2 hro hsrc hs0 hone
    obtain ⟨a5, c5, hv5, -⟩ := slice_own HF.out.2
    subst hv5
    refine Lib.hid ?_
    go_wp2
    go_ret
    obtain ⟨h1, h2⟩ := HF.out
    obtain ⟨e1, e2⟩ := HFL.out
    rw [← e1, ← e2] at h2
    refine ⟨.slice a5 n c5, rfl, h1, ?_, fun ad n2 cap h => ?_⟩
    rotate_left
    · injection h with h
      subst h
      rcases h2.2 with ⟨h3, -⟩ | ⟨g3, _, _, h3, h4, _⟩
      · cases h3
      · injection h3 with h3
        injection h3 with h3
        rw [h3]
        exact h4
    have := RowV.own h2
    rw [e2] at this
    exact this
section
variable {W W' : World} {h A m : Nat} {f : Nat → Int} {os : List OS}
set_option maxRecDepth 100000 in
theorem MM.proto_any (H : MM W h A m f os) (k : Nat) (hk : k < 21) : Calls Tryz.prog 54 #[.pointer (some ⟨m, 0, none⟩), .int .i64 (k : Int)] W fun e w' => e = .returned (.int .i64 (f k)) ∧ w' = W := by
  have c0 : W.cell? ⟨m, 1 + k, none⟩ = some (.int .i64 (f k)) := by rw [H.mb.at_ (1 + k)]; exact machV_at _ _ _ k hk
  have h0 : (0 : Int) ≤ (k : Int) := by omega
  have h1 : (k : Int) < 21 := by omega
  clear H
  go_enter Tryz.func54, Tryz.ntmps54
  go_wp2
  go_ret
  exact ⟨rfl, rfl⟩
set_option maxRecDepth 100000 in
/-- A new object, by the machine. -/
theorem MM.create (H : MM W h A m f os) (cl proto : Int) (hl : os.length < 1000000) : Calls Tryz.prog 53 #[.pointer (some ⟨m, 0, none⟩), .int .i64 cl, .int .i64 proto] W fun e w' => e = .returned (.tuple #[.int .i64 ((os.length : Int) + 1), .pointer (some ⟨W.heap.size, 0, none⟩)]) ∧ MM w' h A m f (os ++ [(W.heap.size, obj0 cl proto)]) ∧ Below A W w' ∧ Kp arT W w' ∧ Kq A W w' := by
  have c0 : W.cell? ⟨m, 0, none⟩ = some (.pointer (some ⟨h, 0, none⟩)) := H.mb.at_ 0
  have HM := Veil.mk (H.make cl proto hl)
  clear H
  go_enter Tryz.func53, Tryz.ntmps53
  go_wp2_with (first | (go_at_call 13; ((with_reducible refine HM.out.mono ?_); rintro e w9 ⟨rfl, hm9, hb9, hk9, hq9⟩)))
  refine bodyPost_ret (v := .tuple #[.int .i64 ((os.length : Int) + 1), .pointer (some ⟨W.heap.size, 0, none⟩)]) (by simp [results, Tryz.results53, go_sem]) rfl ⟨rfl, hm9, hb9, hk9, hq9⟩
end
end Go.Proofs.YtgdkjkfbknbgkaaGreatDoor
