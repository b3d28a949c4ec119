/- CodeConstants: what a round does to the two lists of values. -/
import Derived.Test.YtbkgophgclpijaaDoorCb
import Derived.Test.YtbkgophgclpijaaDoorWc
namespace Go.Proofs.YtbkgophgclpijaaDoor
open Go.RowKit

abbrev nilS : Value := .slice none 0 0
/-- The law's state: the function's constants and the values seen are the same list, in two rows of their own. -/
structure CS (w : World) (F : Nat) (S : List Vt) (v6 v9 : Value) (wr : World) : Prop where
  box : Box wr F 53 (fcells nilS v9 nilS)
  own9 : wr.ownsRow w.heap.size 27 3 v9 S.length (vflat S)
  own6 : wr.ownsRow w.heap.size 27 3 v6 S.length (vflat S)
  apart : ∀ k, v9.ownBlock = some k → v6.ownBlock ≠ some k
  dist : S.Pairwise (fun x y => ¬ x = y)
  lo : w.heap.size ≤ F
  b : Below w.heap.size w wr
theorem CS.on {w : World} {F : Nat} {S : List Vt} {v6 v9 : Value} {wr w' : World} (h : CS w F S v6 v9 wr) (hb : Below wr.heap.size wr w') : CS w F S v6 v9 w' :=
  ⟨h.box.on hb h.box.lt, own_touch (S := fun _ => False) h.own9 (Touch.of_below hb) (fun _ _ h => h), own_touch (S := fun _ => False) h.own6 (Touch.of_below hb) (fun _ _ h => h), h.apart, h.dist, h.lo, h.b.trans (hb.mono h.b.size)⟩
theorem pw_unique {S : List Vt} (h : S.Pairwise (fun x y => ¬ x = y)) {k : Nat} {v : Vt} (hk : S[k]? = some v) : ∀ j x, j < k → S[j]? = some x → ¬ x = v := by
  intro j x hj hx e
  subst e
  have hkl := (List.getElem?_eq_some_iff.1 hk).1
  have := List.pairwise_iff_getElem.1 h j k (by omega) hkl hj
  rw [List.getElem?_eq_getElem (by omega)] at hx hk
  injection hx with hx
  injection hk with hk
  exact this (hx.trans hk.symm)
theorem pw_after {S : List Vt} (h : S.Pairwise (fun x y => ¬ x = y)) {k : Nat} {v : Vt} (hk : S[k]? = some v) : ∀ j x, k < j → S[j]? = some x → ¬ x = v := by
  intro j x hj hx e
  subst e
  have hjl := (List.getElem?_eq_some_iff.1 hx).1
  have := List.pairwise_iff_getElem.1 h k j (by omega) hjl hj
  rw [List.getElem?_eq_getElem (by omega)] at hx hk
  injection hx with hx
  injection hk with hk
  exact this (hk.trans hx.symm)
theorem round_miss {w : World} {F : Nat} {S : List Vt} {v6 v9 : Value} {wC w3 wE : World} {g cap : Nat} {v : Vt} {e : Ending} (h : CS w F S v6 v9 wC) (hd : ∀ x ∈ S, ¬ x = v)
    (hown : w3.ownsRow w.heap.size 27 3 (.slice (some ⟨g, 0, none⟩) (S.length + 1) cap) (S.length + 1) (vflat S ++ [.int .i64 v.1, .int .i64 v.2.1, .string v.2.2]))
    (hgrow : (wC.alloc (.cells #[.int .i64 v.1, .int .i64 v.2.1, .string v.2.2] 27)).grownBy w3 v6.ownBlock) (hblk : v6.ownBlock = some g ∨ g = wC.heap.size + 1)
    (hC : ConstPost F w.heap.size S.length nilS v9 nilS S v w3 e wE) :
    e = .returned (.int .i64 (S.length : Int)) ∧ ∃ v9', CS w F (S ++ [v]) (.slice (some ⟨g, 0, none⟩) (S.length + 1) cap) v9' wE := by
  obtain ⟨he, g2, cap2, hb2, ho2, ht, hg2⟩ := hC
  refine ⟨he, _, hb2, ?_, ?_, ?_, ?_, h.lo, ?_⟩
  · simpa using ho2
  · have hx3 := (h.box.more (.cells #[.int .i64 v.1, .int .i64 v.2.1, .string v.2.2] 27)).grown hgrow (h.box.apart h.own6 (by decide))
    rw [← vflat_snoc] at hown
    have := own_touch hown ht (fun k hk hs => by
      have hkg : g = k := by simpa [Value.ownBlock] using hk
      subst hkg
      rcases hs with hs | hs
      · exact hx3.apart hown (by decide) (by rw [hs]; rfl)
      · rcases hblk with hb | hb
        · exact h.apart _ hs hb
        · have := (h.own9.lt _ hs).2
          omega)
    simpa using this
  · intro k hk hk2
    have e1 : g2 = k := by simpa [Value.ownBlock] using hk
    have e2 : g = k := by simpa [Value.ownBlock] using hk2
    subst e1
    subst e2
    rcases hg2 with hg2 | hg2
    · rcases hblk with hb | hb
      · exact h.apart _ hg2 hb
      · have := (h.own9.lt _ hg2).2
        omega
    · have := (hown.lt g rfl).2
      omega
  · rw [List.pairwise_append]
    exact ⟨h.dist, by simp, fun a ha b hb => by simp at hb; subst hb; exact hd a ha⟩
  · have hbC := h.b.size
    have h1 : Below w.heap.size w w3 := Below.grown ((h.b.alloc h.b.size _)) hgrow (by simp; omega) (fun k hk => (h.own6.lt _ hk).1)
    exact h1.trans (ht.below h1.size (fun k hk => by
      rcases hk with hk | hk
      · rw [hk]; exact h.lo
      · exact (h.own9.lt _ hk).1))
theorem addr_add (g j : Nat) : (⟨g, 0, none⟩ : Addr).add j = ⟨g, j, none⟩ := by unfold Addr.add; split <;> simp_all
theorem grown_drew {a b : World} {row : Option Nat} (h : a.grownBy b row) : a.grownBy b.drew row := ⟨h.os, h.tape, h.output, h.size, h.block⟩
theorem ConstPost.undrew {F base n : Nat} {v8 v9 v10 : Value} {l : List Vt} {v : Vt} {w : World} {e : Ending} {w' : World} (h : ConstPost F base n v8 v9 v10 l v w.drew e w') : ConstPost F base n v8 v9 v10 l v w e w' := by
  obtain ⟨he, g, cap, a, b, c, d⟩ := h
  exact ⟨he, g, cap, a, b, ⟨c.os, c.tape, c.output, c.size, c.block⟩, d⟩
/-- What the law reads behind Constant, where the value is new. -/
theorem miss_facts {w : World} {F BV : Nat} {S : List Vt} {v6 v9 : Value} {wC w3 wE : World} {g cap : Nat} {v : Vt} {e : Ending} (h : CS w F S v6 v9 wC) (hd : ∀ x ∈ S, ¬ x = v)
    (hown : w3.ownsRow w.heap.size 27 3 (.slice (some ⟨g, 0, none⟩) (S.length + 1) cap) (S.length + 1) (vflat S ++ [.int .i64 v.1, .int .i64 v.2.1, .string v.2.2]))
    (hgrow : (wC.alloc (.cells #[.int .i64 v.1, .int .i64 v.2.1, .string v.2.2] 27)).grownBy w3 v6.ownBlock) (hblk : v6.ownBlock = some g ∨ g = wC.heap.size + 1)
    (hbv : Box wC BV 27 #[.int .i64 v.1, .int .i64 v.2.1, .string v.2.2]) (h6 : ∀ k, v6.ownBlock = some k → k < BV) (h9 : ∀ k, v9.ownBlock = some k → k < BV)
    (hC : ConstPost F w.heap.size S.length nilS v9 nilS S v w3 e wE) :
    e = .returned (.int .i64 (S.length : Int)) ∧ ∃ g2 cap2, wE.cell? ⟨F, 9, none⟩ = some (.slice (some ⟨g2, 0, none⟩) (S.length + 1) cap2) ∧ wE.cell? ⟨g2, S.length * 3, none⟩ = some (.int .i64 v.1) ∧ wE.cell? ⟨g2, S.length * 3 + 1, none⟩ = some (.int .i64 v.2.1) ∧ wE.cell? ⟨g2, S.length * 3 + 2, none⟩ = some (.string v.2.2) ∧
      Box wE BV 27 #[.int .i64 v.1, .int .i64 v.2.1, .string v.2.2] ∧ CS w F (S ++ [v]) (.slice (some ⟨g, 0, none⟩) (S.length + 1) cap) (.slice (some ⟨g2, 0, none⟩) (S.length + 1) cap2) wE := by
  obtain ⟨he, hcs⟩ := round_miss h hd hown hgrow hblk hC
  have hC2 := hC
  obtain ⟨_, g2, cap2, hb2, ho2, ht, hg2⟩ := hC2
  obtain ⟨v9', hcs⟩ := hcs
  have e9 : v9' = .slice (some ⟨g2, 0, none⟩) (S.length + 1) cap2 := by
    have h1 := hcs.box.at_ 9
    have h2 := hb2.at_ 9
    rw [h1] at h2
    simpa using h2
  subst e9
  refine ⟨he, g2, cap2, hb2.at_ 9, ?_, ?_, ?_, ?_, hcs⟩
  all_goals try
    have hat : (S ++ [v])[S.length]? = some v := by simp
    obtain ⟨h1, h2, h3⟩ := vflat_at hat
  · have := ho2.cells (g := g2) rfl _ _ h1
    rw [addr_add] at this
    exact this
  · have := ho2.cells (g := g2) rfl _ _ h2
    rw [addr_add] at this
    exact this
  · have := ho2.cells (g := g2) rfl _ _ h3
    rw [addr_add] at this
    exact this
  · have hb3 := (hbv.more (.cells #[.int .i64 v.1, .int .i64 v.2.1, .string v.2.2] 27)).grown hgrow (fun e => by have := h6 _ e.symm; omega)
    have hx3 := (h.box.more (.cells #[.int .i64 v.1, .int .i64 v.2.1, .string v.2.2] 27)).grown hgrow (h.box.apart h.own6 (by decide))
    exact hb3.touch ht (fun hs => by
      rcases hs with hs | hs
      · exact Box.other hb3 hx3 (by decide) hs
      · have := h9 _ hs; omega)
/-- Before Constant: the function and its constants behind the append to what was seen. -/
theorem miss_ready {w : World} {F : Nat} {S : List Vt} {v6 v9 : Value} {wC w3 : World} {v : Vt} (h : CS w F S v6 v9 wC) (hd : ∀ x ∈ S, ¬ x = v) (hS : S.length ≤ 1000)
    (hgrow : (wC.alloc (.cells #[.int .i64 v.1, .int .i64 v.2.1, .string v.2.2] 27)).grownBy w3 v6.ownBlock) :
    Calls Tryd.prog 31 #[.pointer (some ⟨F, 0, none⟩), valV v] w3 (ConstPost F w.heap.size S.length nilS v9 nilS S v w3) := by
  have hx3 := (h.box.more (.cells #[.int .i64 v.1, .int .i64 v.2.1, .string v.2.2] 27)).grown hgrow (h.box.apart h.own6 (by decide))
  have ho : w3.ownsRow w.heap.size 27 3 v9 S.length (vflat S) := own_touch (S := fun k => v6.ownBlock = some k) (h.own9.alloc _) (Touch.of_grown hgrow (fun k hk => hk)) (fun k hk => h.apart k hk)
  have hs : w.heap.size ≤ w3.heap.size := by have := hgrow.size; have := h.b.size; simp at *; omega
  exact const_miss F w.heap.size S.length nilS v9 nilS S v hS rfl hd w3 hs hx3 ho
theorem mask (m : Nat) (hm : m < 63) (n : Int) : ∃ q : Nat, bits .and .i64 n ((2 ^ m - 1 : Nat) : Int) = (q : Int) ∧ q < 2 ^ m := by
  have hp : 2 ^ m ≤ 2 ^ 62 := Nat.pow_le_pow_right (by omega) (by omega)
  have hp2 : 0 < 2 ^ m := Nat.two_pow_pos m
  have h127 : (BitVec.ofInt 64 ((2 ^ m - 1 : Nat) : Int)).toNat = 2 ^ m - 1 := by
    rw [BitVec.ofInt_natCast, BitVec.toNat_ofNat]; exact Nat.mod_eq_of_lt (by omega)
  have key : (BitVec.ofInt 64 n &&& BitVec.ofInt 64 ((2 ^ m - 1 : Nat) : Int)).toNat = (n % ((2 ^ 64 : Nat) : Int)).toNat % 2 ^ m := by
    rw [BitVec.toNat_and, BitVec.toNat_ofInt, h127, Nat.and_two_pow_sub_one_eq_mod]
  have hlt := Nat.mod_lt (n % ((2 ^ 64 : Nat) : Int)).toNat hp2
  refine ⟨(n % ((2 ^ 64 : Nat) : Int)).toNat % 2 ^ m, ?_, hlt⟩
  show IntKind.i64.wrap ((BitVec.ofInt 64 n &&& BitVec.ofInt 64 ((2 ^ m - 1 : Nat) : Int)).toNat : Nat) = _
  rw [key, IntKind.wrap_i64]
  omega
theorem of_letter : ∀ q : Fin 16, W.ofB ⟨#[UInt8.ofNat (97 + q.1)]⟩ = [0, UInt8.ofNat (97 + q.1)] := by decide +kernel
end Go.Proofs.YtbkgophgclpijaaDoor
