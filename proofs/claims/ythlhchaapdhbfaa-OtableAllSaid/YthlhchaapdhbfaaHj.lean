/- OtableAll: its last statement: what the region leaves. -/
import Derived.Test.YthlhchaapdhbfaaHh
import Derived.Test.YthlhchaapdhbfaaIk
namespace Go.Proofs.Ythlhchaapdhbfaa
open Go Go.RowKit

theorem ite_yes {b : Bool} {A B : Prop} (h : b = true) (hA : A) : if b = true then A else B := by rw [if_pos h]; exact hA
theorem ite_no {b : Bool} {A B : Prop} (h : b = false) (hB : B) : if b = true then A else B := by rw [if_neg (by rw [h]; exact Bool.false_ne_true)]; exact hB
theorem Steps.gen {P : Program} {md : Region.Mode} {ops : Array Oper} {Q : Exit → Act → World → Prop} {Inv : Array Bool → Act → World → Prop} {i : Nat} {o : Oper} {rest : List Oper}
    (h : ∀ (l : Array Bool) (a : Act) (w : World), l.size = ops.size → l.getD i false = false → (∀ e ∈ o.after, Region.binds md e = true → l.getD e.on false = true) → Inv l a w →
      ∀ K : Act → World → Prop, (∀ a' w', Inv (l.setIfInBounds i true) a' w' → K a' w') → if Region.wanted o (yielded ops a.tmps) = true then o.wp P a w K Q else K (a.put o.dst undef) w) (hr : Steps P md ops Q Inv (i + 1) rest) : Steps P md ops Q Inv i (o :: rest) :=
  ⟨fun l a w h1 h2 h3 h4 K hK => h l a w h1 h2 h3 h4 K hK, hr⟩
/-- The world has drawn; behind operation 21 the cell br holds true. -/
def QPh (W : World) (br : Nat) (d : Nat → Bool) (_ : Nat → Value) (w : World) : Prop := if d 21 = true then ∃ n, w = (W.drewN n).setCell ⟨br, 0, none⟩ (.bool true) else ∃ n, w = W.drewN n
section
variable {W w : World} {br : Nat} {d : Nat → Bool} {us : Nat → Value}
theorem QPh.low (h : QPh W br d us w) (hd : d 21 = false) : ∃ n, w = W.drewN n := by
  unfold QPh at h
  rwa [if_neg (by rw [hd]; exact Bool.false_ne_true)] at h
theorem QPh.step (h : QPh W br d us w) (i : Nat) (v : Value) (hi : i ≠ 21) : QPh W br (upd d i true) (upd us i v) w := by
  unfold QPh at h ⊢
  rw [upd_ne _ _ (fun e => hi e.symm)]
  exact h
theorem QPh.draw {n : Nat} (_ : QPh W br d us (W.drewN n)) (i : Nat) (v : Value) (m : Nat) (hi : i ≠ 21) (hd : d 21 = false) : QPh W br (upd d i true) (upd us i v) (W.drewN (n + m)) := by
  unfold QPh
  rw [upd_ne _ _ (fun e => hi e.symm), if_neg (by rw [hd]; exact Bool.false_ne_true)]
  exact ⟨n + m, rfl⟩
theorem QPh.sto {n : Nat} (_ : QPh W br d us (W.drewN n)) (v : Value) : QPh W br (upd d 21 true) (upd us 21 v) ((W.drewN n).setCell ⟨br, 0, none⟩ (.bool true)) := by
  unfold QPh
  rw [upd_same, if_pos rfl]
  exact ⟨n, rfl⟩
theorem QPh.done (h : QPh W br d us w) (hd : d 21 = true) : ∃ n, w = (W.drewN n).setCell ⟨br, 0, none⟩ (.bool true) := by
  unfold QPh at h
  rwa [if_pos hd] at h
end
theorem len22 {α : Type} {us : List α} (h : us.length = 22) : ∃ a0 a1 a2 a3 a4 a5 a6 a7 a8 a9 a10 a11 a12 a13 a14 a15 a16 a17 a18 a19 a20 a21, us = a0 :: a1 :: a2 :: a3 :: a4 :: a5 :: a6 :: a7 :: a8 :: a9 :: a10 :: a11 :: a12 :: a13 :: a14 :: a15 :: a16 :: a17 :: a18 :: a19 :: a20 :: a21 :: [] := by
  match us, h with
  | a0 :: a1 :: a2 :: a3 :: a4 :: a5 :: a6 :: a7 :: a8 :: a9 :: a10 :: a11 :: a12 :: a13 :: a14 :: a15 :: a16 :: a17 :: a18 :: a19 :: a20 :: a21 :: [], _ => exact ⟨a0, a1, a2, a3, a4, a5, a6, a7, a8, a9, a10, a11, a12, a13, a14, a15, a16, a17, a18, a19, a20, a21, rfl⟩
def qKd (gb t : Nat) (va : Option Addr) (n vc : Nat) (k _ : Int) (s : Nat) : List (Option (Value → Prop)) := some (· = .int .i64 k) :: some (· = .slice va n vc) :: some (· = .int .i64 (n : Int)) :: some (· = .bool true) :: some (· = .bool true) :: some (· = undef) :: some (· = undef) :: some (· = undef) :: some (· = .bool true) :: some (· = .bool true) :: some (· = .pointer (some ⟨gb, 0, none⟩)) :: some (· = .pointer (some ⟨gb, 0, none⟩)) :: some (· = .pointer (some ⟨gb, 0, none⟩)) :: some (· = .pointer (some ⟨t, 0, none⟩)) :: some (· = .int .i64 (s : Int)) :: some (· = .slice va n vc) :: some (· = .int .i64 (n : Int)) :: some (· = .int .i64 (5 * (n : Int))) :: some (· = .int .i64 (5 * (n : Int) + 16)) :: some (· = .bool true) :: some (· = .bool true) :: none :: []
def qKs (gb t : Nat) (va : Option Addr) (n vc : Nat) (k stop : Int) (s : Nat) : List (Option (Value → Prop)) := some (· = .int .i64 k) :: some (· = .slice va n vc) :: some (· = .int .i64 (n : Int)) :: some (· = .bool false) :: some (· = .bool false) :: some (· = .int .i64 k) :: some (· = .int .i64 stop) :: some (· = .bool true) :: some (· = .bool true) :: some (· = .bool true) :: some (· = .pointer (some ⟨gb, 0, none⟩)) :: some (· = .pointer (some ⟨gb, 0, none⟩)) :: some (· = .pointer (some ⟨gb, 0, none⟩)) :: some (· = .pointer (some ⟨t, 0, none⟩)) :: some (· = .int .i64 (s : Int)) :: some (· = .slice va n vc) :: some (· = .int .i64 (n : Int)) :: some (· = .int .i64 (5 * (n : Int))) :: some (· = .int .i64 (5 * (n : Int) + 16)) :: some (· = .bool true) :: some (· = .bool true) :: none :: []
abbrev qSl : List (Option Nat) := some 99 :: some 100 :: some 101 :: some 102 :: some 103 :: some 104 :: some 105 :: some 106 :: some 107 :: some 108 :: some 109 :: some 110 :: some 111 :: some 112 :: some 113 :: some 114 :: some 115 :: some 116 :: some 117 :: some 118 :: some 119 :: none :: []
end Go.Proofs.Ythlhchaapdhbfaa
