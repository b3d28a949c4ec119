/- The order operators: isOrder, ordered, Compare, compare. -/
import Derived.Test.YtbkgophgclpijaaDoorGa
import Derived.Test.YtbkgophgclpijaaDoorShelf
namespace Go.Proofs.YtbkgophgclpijaaDoor
open Go.RowKit

inductive OrdOp | lt | gt | le | ge
def OrdOp.str : OrdOp → ByteArray
  | .lt => ⟨#[60]⟩
  | .gt => ⟨#[62]⟩
  | .le => ⟨#[60, 61]⟩
  | .ge => ⟨#[62, 61]⟩
/-- A sign held against an operator; 2: it can't be told. -/
def ordS : OrdOp → Int → Bool
  | .lt, c => decide (c < 0)
  | .gt, c => decide (0 < c)
  | .le, c => decide (c ≤ 0)
  | .ge, c => decide (0 ≤ c)
def ordB (o : OrdOp) (c : Int) : Bool := if c = 2 then false else ordS o c
theorem compareT_any (a b : ByteArray) (w : World) : Calls Tryd.prog 38 #[.string a, .string b] w fun e w' => e = .returned (.int .i64 (Lib.compareBytes a.data.toList b.data.toList)) ∧ w = w' := by
  have hc := Veil.mk (Tryd.strings_Compare a b)
  go_enter Tryd.func38, Tryd.ntmps38
  go_wp2_with (first | (go_at_call 59; ((with_reducible refine (hc.out _).mono ?_); rintro e w' ⟨rfl, rfl⟩)))
  go_ret
  exact ⟨rfl, rfl⟩
theorem isOrder_lt (w : World) : Calls Tryd.prog 36 #[.string ⟨#[60]⟩] w fun e w' => e = .returned (.bool true) ∧ w = w' := by
  go_enter Tryd.func36, Tryd.ntmps36
  go_wp2
  go_ret
  exact ⟨rfl, rfl⟩
theorem ordered_lt (c : Int) (w : World) : Calls Tryd.prog 37 #[.string ⟨#[60]⟩, .int .i64 c] w fun e w' => e = .returned (.bool (ordS .lt c)) ∧ w = w' := by
  go_enter Tryd.func37, Tryd.ntmps37
  go_wp2
  go_ret
  exact ⟨rfl, rfl⟩
theorem isOrder_gt (w : World) : Calls Tryd.prog 36 #[.string ⟨#[62]⟩] w fun e w' => e = .returned (.bool true) ∧ w = w' := by
  go_enter Tryd.func36, Tryd.ntmps36
  go_wp2
  go_ret
  exact ⟨rfl, rfl⟩
theorem ordered_gt (c : Int) (w : World) : Calls Tryd.prog 37 #[.string ⟨#[62]⟩, .int .i64 c] w fun e w' => e = .returned (.bool (ordS .gt c)) ∧ w = w' := by
  go_enter Tryd.func37, Tryd.ntmps37
  go_wp2
  go_ret
  exact ⟨rfl, rfl⟩
theorem isOrder_le (w : World) : Calls Tryd.prog 36 #[.string ⟨#[60, 61]⟩] w fun e w' => e = .returned (.bool true) ∧ w = w' := by
  go_enter Tryd.func36, Tryd.ntmps36
  go_wp2
  go_ret
  exact ⟨rfl, rfl⟩
theorem ordered_le (c : Int) (w : World) : Calls Tryd.prog 37 #[.string ⟨#[60, 61]⟩, .int .i64 c] w fun e w' => e = .returned (.bool (ordS .le c)) ∧ w = w' := by
  go_enter Tryd.func37, Tryd.ntmps37
  go_wp2
  go_ret
  exact ⟨rfl, rfl⟩
theorem isOrder_ge (w : World) : Calls Tryd.prog 36 #[.string ⟨#[62, 61]⟩] w fun e w' => e = .returned (.bool true) ∧ w = w' := by
  go_enter Tryd.func36, Tryd.ntmps36
  go_wp2
  go_ret
  exact ⟨rfl, rfl⟩
theorem ordered_ge (c : Int) (w : World) : Calls Tryd.prog 37 #[.string ⟨#[62, 61]⟩, .int .i64 c] w fun e w' => e = .returned (.bool (ordS .ge c)) ∧ w = w' := by
  go_enter Tryd.func37, Tryd.ntmps37
  go_wp2
  go_ret
  exact ⟨rfl, rfl⟩
theorem isOrder_any (o : OrdOp) (w : World) : Calls Tryd.prog 36 #[.string o.str] w fun e w' => e = .returned (.bool true) ∧ w = w' := by
  cases o
  · exact isOrder_lt w
  · exact isOrder_gt w
  · exact isOrder_le w
  · exact isOrder_ge w
theorem ordered_any (o : OrdOp) (c : Int) (w : World) : Calls Tryd.prog 37 #[.string o.str, .int .i64 c] w fun e w' => e = .returned (.bool (ordS o c)) ∧ w = w' := by
  cases o
  · exact ordered_lt c w
  · exact ordered_gt c w
  · exact ordered_le c w
  · exact ordered_ge c w
/-- What Less says, by the sign. -/
theorem less_cmp (k1 n1 k2 n2 : Int) : M.lessR k1 n1 k2 n2 = (M.cmpR k1 n1 k2 n2 == -1, !(M.cmpR k1 n1 k2 n2 == 2)) ∧ M.lessR k2 n2 k1 n1 = (M.cmpR k1 n1 k2 n2 == 1, !(M.cmpR k1 n1 k2 n2 == 2)) := by
  unfold M.lessR M.cmpR
  by_cases h : k1 = 4 ∨ k2 = 4
  · rw [if_pos h, if_pos h, if_pos h.symm]; exact ⟨rfl, rfl⟩
  have h' : ¬ (k2 = 4 ∨ k1 = 4) := fun e => h e.symm
  rw [if_neg h, if_neg h, if_neg h']
  by_cases h1 : M.rk k1 n1 < M.rk k2 n2
  · rw [if_pos h1]
    have : ¬ M.rk k2 n2 < M.rk k1 n1 := by omega
    simp [h1, this]
  rw [if_neg h1]
  by_cases h2 : M.rk k2 n2 < M.rk k1 n1
  · rw [if_pos h2]; simp [h1, h2]
  · rw [if_neg h2]; simp [h1, h2]
theorem cmp_four (k1 n1 k2 n2 : Int) : M.cmpR k1 n1 k2 n2 = 2 ∨ M.cmpR k1 n1 k2 n2 = -1 ∨ M.cmpR k1 n1 k2 n2 = 1 ∨ M.cmpR k1 n1 k2 n2 = 0 := by
  unfold M.cmpR
  split
  · exact .inl rfl
  split
  · exact .inr (.inl rfl)
  split
  · exact .inr (.inr (.inl rfl))
  · exact .inr (.inr (.inr rfl))
set_option maxRecDepth 100000 in
set_option maxHeartbeats 2000000 in
theorem compare_any (o : OrdOp) (k1 n1 k2 n2 : Int) (h1 : M.Num k1 n1) (h2 : M.Num k2 n2) (w : World) :
    Calls Tryd.prog 60 #[.string o.str, W.V k1 n1 W.e0, W.V k2 n2 W.e0] w fun e w' => e = .returned (.bool (ordB o (M.cmpR k1 n1 k2 n2))) ∧ Below w.heap.size w w' := by
  have l1 := M.less_any k1 n1 k2 n2 h1 h2
  have l2 := M.less_any k2 n2 k1 n1 h2 h1
  obtain ⟨e1, e2⟩ := less_cmp k1 n1 k2 n2
  rw [e1] at l1
  rw [e2] at l2
  have hc := cmp_four k1 n1 k2 n2
  obtain ⟨c, hcd⟩ : ∃ c, c = M.cmpR k1 n1 k2 n2 := ⟨_, rfl⟩
  rw [← hcd] at l1 l2 hc ⊢
  clear e1 e2 hcd h1 h2
  have L1 := Veil.mk l1
  have L2 := Veil.mk l2
  clear l1 l2
  obtain ⟨s, hs⟩ : ∃ s, s = o.str := ⟨_, rfl⟩
  have od := Veil.mk (fun c wx => (hs ▸ ordered_any o c wx : Calls Tryd.prog 37 #[.string s, .int .i64 c] wx fun e w' => e = .returned (.bool (ordS o c)) ∧ wx = w'))
  rw [← hs]
  clear hs
  have BX : Veil (Six (two w (k1, n1, W.e0) (k2, n2, W.e0)) w.heap.size (w.heap.size + 1) (k1, n1, W.e0) (k2, n2, W.e0)) := ⟨two_six w _ _⟩
  have HB : Veil (Below w.heap.size w (two w (k1, n1, W.e0) (k2, n2, W.e0))) := ⟨two_below w _ _⟩
  obtain ⟨WW, hW⟩ : ∃ v, v = two w (k1, n1, W.e0) (k2, n2, W.e0) := ⟨_, rfl⟩
  have hw0 := hW.symm
  unfold two at hw0
  simp only at hw0
  have HW := Lib.hid hw0
  rw [← hW] at BX HB
  clear hW hw0
  obtain ⟨p0, p1, p2, r0, r1, r2⟩ := BX.out
  simp only at p0 p1 p2 r0 r1 r2
  rcases hc with rfl | rfl | rfl | rfl
  all_goals
    go_enter Tryd.func60, Tryd.ntmps60
    go_upto_region 1 with (fail)
    rw [HW.out]
    go_wp2_with (first | (go_at_call 76; first | ((with_reducible refine (L1.out _).mono ?_); rintro e w2 ⟨rfl, hb2⟩; obtain ⟨p0, p1, p2, r0, r1, r2⟩ := BX.out.on hb2) | ((with_reducible refine (L2.out _).mono ?_); rintro e w3 ⟨rfl, hb3⟩)) | (go_at_call 37; ((with_reducible refine (od.out _ _).mono ?_); rintro e w' ⟨rfl, rfl⟩)))
    go_ret
    exact ⟨rfl, HB.out.trans ((hb2.trans (hb3.mono hb2.size)).mono HB.out.size)⟩
end Go.Proofs.YtbkgophgclpijaaDoor
