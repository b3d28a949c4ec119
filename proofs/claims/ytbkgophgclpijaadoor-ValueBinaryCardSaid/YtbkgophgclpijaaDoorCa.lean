/- CodeConstants: a list of values searched by slices.Index. -/
import Derived.Test.YtbkgophgclpijaaDoorRc
namespace Go.Proofs.YtbkgophgclpijaaDoor
open Go.RowKit

/-- A value's three parts. -/
abbrev Vt := Int × Int × ByteArray
abbrev valV (x : Vt) : Value := .agg #[.int .i64 x.1, .int .i64 x.2.1, .string x.2.2]
def vflat (l : List Vt) : List Value := l.flatMap fun x => [.int .i64 x.1, .int .i64 x.2.1, .string x.2.2]
theorem vflat_snoc (l : List Vt) (x : Vt) : vflat (l ++ [x]) = vflat l ++ [.int .i64 x.1, .int .i64 x.2.1, .string x.2.2] := by simp [vflat]
theorem vflat_at {l : List Vt} : ∀ {i : Nat} {x : Vt}, l[i]? = some x → (vflat l)[i * 3]? = some (.int .i64 x.1) ∧ (vflat l)[i * 3 + 1]? = some (.int .i64 x.2.1) ∧ (vflat l)[i * 3 + 2]? = some (.string x.2.2) := by
  induction l with
  | nil => intro i x h; simp at h
  | cons a l ih =>
    intro i x h
    rcases i with _ | i
    · simp at h; subst h; simp [vflat]
    · have h2 : l[i]? = some x := by simpa using h
      obtain ⟨h3, h4, h5⟩ := ih h2
      have e : vflat (a :: l) = [.int .i64 a.1, .int .i64 a.2.1, .string a.2.2] ++ vflat l := by simp [vflat]
      refine ⟨?_, ?_, ?_⟩
      · rw [e, List.getElem?_append_right (by simp; omega)]
        simpa [show (i + 1) * 3 - 3 = i * 3 by omega] using h3
      · rw [e, List.getElem?_append_right (by simp; omega)]
        simpa [show (i + 1) * 3 + 1 - 3 = i * 3 + 1 by omega] using h4
      · rw [e, List.getElem?_append_right (by simp; omega)]
        simpa [show (i + 1) * 3 + 2 - 3 = i * 3 + 2 by omega] using h5
/-- A slice of values reads as a list. -/
def Vals (w : World) (a : Option Addr) (n : Nat) (l : List Vt) : Prop :=
  l.length = n ∧ (0 < n → ∃ b, a = some ⟨b, 0, none⟩ ∧ b < w.heap.size ∧ ∀ i x, l[i]? = some x → w.cell? ⟨b, i * 3, none⟩ = some (.int .i64 x.1) ∧ w.cell? ⟨b, i * 3 + 1, none⟩ = some (.int .i64 x.2.1) ∧ w.cell? ⟨b, i * 3 + 2, none⟩ = some (.string x.2.2))
theorem Vals.on {w w' : World} {a : Option Addr} {n : Nat} {l : List Vt} (h : Vals w a n l) (hb : Below w.heap.size w w') : Vals w' a n l :=
  ⟨h.1, fun h0 => by
    obtain ⟨b, e, hlt, hc⟩ := h.2 h0
    refine ⟨b, e, Nat.lt_of_lt_of_le hlt hb.size, fun i x hx => ?_⟩
    obtain ⟨h1, h2, h3⟩ := hc i x hx
    exact ⟨(hb.cell (p := (⟨b, _, none⟩ : Addr)) hlt).trans h1, (hb.cell (p := (⟨b, _, none⟩ : Addr)) hlt).trans h2, (hb.cell (p := (⟨b, _, none⟩ : Addr)) hlt).trans h3⟩⟩
theorem vals_own {w : World} {base : Nat} {v : Value} {n : Nat} {l : List Vt} (hln : l.length = n) (h : w.ownsRow base 27 3 v n (vflat l)) : ∃ a ca, v = .slice a n ca ∧ n ≤ maxLen ∧ Vals w a n l := by
  have hml : n ≤ maxLen := by
    rcases h.2 with ⟨_, h0⟩ | ⟨g, cap, cur, _, _, _, h4, h5, _⟩
    · omega
    · omega
  obtain ⟨a, ca, e, hc⟩ := own_slice h
  refine ⟨a, ca, e, hml, hln, fun h0 => ?_⟩
  obtain ⟨g, rfl, _, hlt, _, hcell⟩ := hc h0
  refine ⟨g, rfl, hlt, fun i x hx => ?_⟩
  obtain ⟨h1, h2, h3⟩ := vflat_at hx
  exact ⟨hcell _ _ h1, hcell _ _ h2, hcell _ _ h3⟩

theorem vne {x v : Vt} (h : ¬ x = v) : (¬ v.1 = x.1) ∨ (v.1 = x.1 ∧ ¬ v.2.1 = x.2.1) ∨ (v.1 = x.1 ∧ v.2.1 = x.2.1 ∧ ¬ v.2.2.toList = x.2.2.toList) := by
  obtain ⟨a, b, c⟩ := x
  obtain ⟨a', b', c'⟩ := v
  by_cases h1 : a' = a
  · by_cases h2 : b' = b
    · refine .inr (.inr ⟨h1, h2, fun h3 => h ?_⟩)
      simp only at h3 h1 h2
      rw [ByteArray.toList_eq, ByteArray.toList_eq] at h3
      have : c' = c := by apply ByteArray.ext; apply Array.ext'; exact h3
      rw [h1, h2, this]
    · exact .inr (.inl ⟨h1, h2⟩)
  · exact .inl h1

set_option maxRecDepth 100000 in
theorem index_hit3 (a : Option Addr) (n ca k : Nat) (l : List Vt) (v : Vt) (hn : n ≤ 100000) (hk : l[k]? = some v) (hd : ∀ j x, j < k → l[j]? = some x → ¬ x = v) (w : World) (hL : Vals w a n l) :
    Calls Tryd.prog 56 #[.slice a n ca, valV v] w fun e w' => e = .returned (.int .i64 (k : Int)) ∧ Below w.heap.size w w' := by
  have hkn : k < n := by
    have := (List.getElem?_eq_some_iff.1 hk).1
    have := hL.1
    omega
  obtain ⟨b, rfl, hb, hcell⟩ := hL.2 (by omega)
  have HL := Lib.hid hcell
  have HLN := Lib.hid hL.1
  have HK := Lib.hid hk
  have HD := Veil.mk hd
  obtain ⟨v0, v1, v2⟩ := v
  clear hcell hL hk hd
  have hB : Below w.heap.size w (w.alloc (.cells #[.int .i64 v0, .int .i64 v1, .string v2] 27)) := (Below.refl _ _).alloc (Nat.le_refl _) _
  go_enter Tryd.func56, Tryd.ntmps56
  go_wp2
  obtain ⟨W, hW⟩ : ∃ W, W = w.alloc (.cells #[.int .i64 v0, .int .i64 v1, .string v2] 27) := ⟨_, rfl⟩
  have x0 : W.cell? ⟨w.heap.size, 0, none⟩ = some (.int .i64 v0) := by rw [hW]; simp
  have x1 : W.cell? ⟨w.heap.size, 1, none⟩ = some (.int .i64 v1) := by rw [hW]; simp
  have x2 : W.cell? ⟨w.heap.size, 2, none⟩ = some (.string v2) := by rw [hW]; simp
  have hz : w.heap.size < W.heap.size := by rw [hW]; simp
  rw [← hW] at hB ⊢
  clear hW
  go_loopw [8] (fun i wr => ∃ j : Nat, j ≤ k ∧ i = .int .i64 (j : Int) ∧ Below W.heap.size W wr) (fun i _ => n - (intOf i).toNat)
  case atStart => exact ⟨0, by omega, rfl, Below.refl _ _⟩
  case round =>
    obtain ⟨j, hj, rfl, hbw⟩ := hrel
    have hjn : (j : Int) < (n : Int) := by omega
    have hj0 : (0 : Int) ≤ (j : Int) := by omega
    have y0 := cell_later hbw x0 (Nat.le_refl _)
    have y1 := cell_later hbw x1 (Nat.le_refl _)
    have y2 := cell_later hbw x2 (Nat.le_refl _)
    have hbt := hB.trans (hbw.mono hB.size)
    obtain ⟨x, hx⟩ : ∃ x, l[j]? = some x := by
      have := HLN.out
      exact ⟨_, List.getElem?_eq_getElem (by omega)⟩
    obtain ⟨d0, d1, d2⟩ := HL.out _ _ hx
    have z0 := cell_later hbt d0 (Nat.le_refl _)
    have z1 := cell_later hbt d1 (Nat.le_refl _)
    have z2 := cell_later hbt d2 (Nat.le_refl _)
    rcases Nat.lt_or_ge j k with hlt | hge
    · have hne := vne (HD.out j x hlt hx)
      obtain ⟨p0, p1, p2⟩ := x
      simp only at hne z0 z1 z2
      have HX := Lib.hid hx
      clear hx d0 d1 d2
      have hlt1 := Lib.hid hlt
      clear hlt
      rcases hne with h1 | ⟨h1, h2⟩ | ⟨h1, h2, h3⟩
      · go_wp2
        go_quiet (fail)
        go_wp2
        go_roundw
        case rel => exact ⟨j + 1, by have := hlt1.out; omega, by go_num, below_drewN hbw _⟩
        case measure => simp [intOf]; omega
      · subst h1
        go_wp2
        go_quiet (fail)
        go_wp2
        go_roundw
        case rel => exact ⟨j + 1, by have := hlt1.out; omega, by go_num, below_drewN hbw _⟩
        case measure => simp [intOf]; omega
      · subst h1 h2
        go_wp2
        go_quiet (fail)
        go_wp2
        go_roundw
        case rel => exact ⟨j + 1, by have := hlt1.out; omega, by go_num, below_drewN hbw _⟩
        case measure => simp [intOf]; omega
    · obtain rfl : j = k := by omega
      have he : x = (v0, v1, v2) := by have := HK.out; rw [hx] at this; injection this
      subst he
      simp only at z0 z1 z2
      clear hx d0 d1 d2
      go_wp2
      go_quiet (fail)
      go_wp2
      go_ret
      exact ⟨rfl, below_drewN hbt _⟩

set_option maxRecDepth 100000 in
theorem index_miss3 (a : Option Addr) (n ca : Nat) (l : List Vt) (v : Vt) (hn : n ≤ 100000) (hd : ∀ x ∈ l, ¬ x = v) (w : World) (hL : Vals w a n l) :
    Calls Tryd.prog 56 #[.slice a n ca, valV v] w fun e w' => e = .returned (.int .i64 (-1)) ∧ Below w.heap.size w w' := by
  have HL := Veil.mk hL
  have HD := Veil.mk hd
  obtain ⟨v0, v1, v2⟩ := v
  clear hL hd
  have hB : Below w.heap.size w (w.alloc (.cells #[.int .i64 v0, .int .i64 v1, .string v2] 27)) := (Below.refl _ _).alloc (Nat.le_refl _) _
  go_enter Tryd.func56, Tryd.ntmps56
  go_wp2
  obtain ⟨W, hW⟩ : ∃ W, W = w.alloc (.cells #[.int .i64 v0, .int .i64 v1, .string v2] 27) := ⟨_, rfl⟩
  have x0 : W.cell? ⟨w.heap.size, 0, none⟩ = some (.int .i64 v0) := by rw [hW]; simp
  have x1 : W.cell? ⟨w.heap.size, 1, none⟩ = some (.int .i64 v1) := by rw [hW]; simp
  have x2 : W.cell? ⟨w.heap.size, 2, none⟩ = some (.string v2) := by rw [hW]; simp
  have hz : w.heap.size < W.heap.size := by rw [hW]; simp
  rw [← hW] at hB ⊢
  clear hW
  go_loopw [8] (fun i wr => ∃ j : Nat, j ≤ n ∧ i = .int .i64 (j : Int) ∧ Below W.heap.size W wr) (fun i _ => n - (intOf i).toNat)
  case atStart => exact ⟨0, by omega, rfl, Below.refl _ _⟩
  case round =>
    obtain ⟨j, hj, rfl, hbw⟩ := hrel
    have hj0 : (0 : Int) ≤ (j : Int) := by omega
    have y0 := cell_later hbw x0 (Nat.le_refl _)
    have y1 := cell_later hbw x1 (Nat.le_refl _)
    have y2 := cell_later hbw x2 (Nat.le_refl _)
    have hbt := hB.trans (hbw.mono hB.size)
    rcases Nat.lt_or_ge j n with hlt | hge
    · have hjn : (j : Int) < (n : Int) := by omega
      obtain ⟨b, rfl, hb, hcell⟩ := HL.out.2 (by omega)
      obtain ⟨x, hx⟩ : ∃ x, l[j]? = some x := by
        have := HL.out.1
        exact ⟨_, List.getElem?_eq_getElem (by omega)⟩
      obtain ⟨d0, d1, d2⟩ := hcell _ _ hx
      have z0 := cell_later hbt d0 (Nat.le_refl _)
      have z1 := cell_later hbt d1 (Nat.le_refl _)
      have z2 := cell_later hbt d2 (Nat.le_refl _)
      have hne := vne (HD.out x (List.mem_of_getElem? hx))
      obtain ⟨p0, p1, p2⟩ := x
      simp only at hne z0 z1 z2
      have hlt1 := Lib.hid hlt
      clear hx d0 d1 d2 hcell hlt
      rcases hne with h1 | ⟨h1, h2⟩ | ⟨h1, h2, h3⟩
      · go_wp2
        go_quiet (fail)
        go_wp2
        go_roundw
        case rel => exact ⟨j + 1, by have := hlt1.out; omega, by go_num, below_drewN hbw _⟩
        case measure => simp [intOf]; omega
      · subst h1
        go_wp2
        go_quiet (fail)
        go_wp2
        go_roundw
        case rel => exact ⟨j + 1, by have := hlt1.out; omega, by go_num, below_drewN hbw _⟩
        case measure => simp [intOf]; omega
      · subst h1 h2
        go_wp2
        go_quiet (fail)
        go_wp2
        go_roundw
        case rel => exact ⟨j + 1, by have := hlt1.out; omega, by go_num, below_drewN hbw _⟩
        case measure => simp [intOf]; omega
    · have hjn : ¬ (j : Int) < (n : Int) := by omega
      clear hge
      go_wp2
      go_ret
      exact ⟨rfl, hbt⟩

/-- Of what lay there only the blocks of S may have changed. -/
structure Touch (S : Nat → Prop) (w w' : World) : Prop where
  os : w'.os = w.os
  tape : w'.tape = w.tape
  output : w'.output = w.output
  size : w.heap.size ≤ w'.heap.size
  block : ∀ k, k < w.heap.size → ¬ S k → w'.heap[k]? = w.heap[k]?
section
variable {S : Nat → Prop} {a w w' : World}
theorem Touch.refl (S : Nat → Prop) (w : World) : Touch S w w := ⟨rfl, rfl, rfl, Nat.le_refl _, fun _ _ _ => rfl⟩
theorem Touch.trans (h : Touch S a w) (h2 : Touch S w w') : Touch S a w' := ⟨h2.os.trans h.os, h2.tape.trans h.tape, h2.output.trans h.output, Nat.le_trans h.size h2.size, fun k hk hs => (h2.block k (Nat.lt_of_lt_of_le hk h.size) hs).trans (h.block k hk hs)⟩
theorem Touch.mono {S' : Nat → Prop} (h : Touch S a w) (hs : ∀ k, S k → S' k) : Touch S' a w := ⟨h.os, h.tape, h.output, h.size, fun k hk hn => h.block k hk (fun h2 => hn (hs k h2))⟩
theorem Touch.of_below (h : Below a.heap.size a w) : Touch S a w := ⟨h.os, h.tape, h.output, h.size, fun k hk _ => h.block k hk⟩
theorem Touch.of_grown {row : Option Nat} (h : a.grownBy w row) (hs : ∀ k, row = some k → S k) : Touch S a w := ⟨h.os, h.tape, h.output, h.size, fun k hk hn => h.block k hk (fun e => hn (hs k e.symm))⟩
theorem Touch.put {g : Nat} (hs : S g) (i : Nat) (u : Value) : Touch S w (w.setCell ⟨g, i, none⟩ u) :=
  ⟨rfl, rfl, rfl, by simp [World.setCell], fun k _ hn => Below.heap_setCell w ⟨g, i, none⟩ u k (fun e => hn (by rw [e]; exact hs))⟩
theorem Touch.below {B : Nat} (h : Touch S a w) (hB : B ≤ a.heap.size) (hs : ∀ k, S k → B ≤ k) : Below B a w := ⟨h.os, h.tape, h.output, h.size, fun k hk => h.block k (by omega) (fun h2 => by have := hs k h2; omega)⟩
theorem Box.touch {g : Nat} {t : TypeId} {cs : Array Value} (h : Box a g t cs) (ht : Touch S a w) (hn : ¬ S g) : Box w g t cs := (ht.block g h.lt hn).trans h
theorem own_touch {base : Nat} {e : TypeId} {size : Nat} {v : Value} {n : Nat} {xs : List Value} (h : a.ownsRow base e size v n xs) (ht : Touch S a w) (hn : ∀ k, v.ownBlock = some k → ¬ S k) : w.ownsRow base e size v n xs := by
  refine ⟨h.1, ?_⟩
  rcases h.2 with h2 | ⟨g, cap, cur, e1, e2, e3, e4⟩
  · exact .inl h2
  · refine .inr ⟨g, cap, cur, e1, e2, ?_, e4⟩
    rw [ht.block g (Array.getElem?_eq_some_iff.1 e3).1 (hn g (by rw [e1]; rfl))]
    exact e3
end
end Go.Proofs.YtbkgophgclpijaaDoor
