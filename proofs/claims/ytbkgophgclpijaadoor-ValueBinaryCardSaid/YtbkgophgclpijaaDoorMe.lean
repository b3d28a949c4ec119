/- The example of the laws, the numbers that they draw, and num.Sub. -/
import Derived.Test.YtbkgophgclpijaaDoorMc
import Derived.Test.YtbkgophgclpijaaDoorMd
namespace Go.Proofs.YtbkgophgclpijaaDoor.M
open Go.RowKit

theorem blw_call {w w1 w2 : World} (h : Below w.heap.size w w1) (h2 : Below w1.heap.size w1 w2) : Below w.heap.size w w2 := h.trans (h2.mono h.size)

theorem blw_set {w w' : World} {k o : Nat} (u : Value) (h : Below w.heap.size w w') : Below w.heap.size w (w'.setCell ⟨w.heap.size + 1 + k, o, none⟩ u) := h.setCell (by simp; omega) u
theorem blw_lt {a b : Nat} (h : a + 1 + 1 + 1 ≤ b) : a + 1 + 1 < b := h
theorem num_neg (k n : Int) (h : Num k n) : Num (negK k n) (negN k n) := by
  rcases h with ⟨rfl, rfl⟩ | ⟨rfl, rfl⟩ | ⟨rfl, rfl⟩ | ⟨rfl, rfl⟩ | ⟨rfl, h1, h2⟩
  · exact .inl ⟨rfl, rfl⟩
  · exact .inr (.inr (.inl ⟨rfl, rfl⟩))
  · exact .inr (.inl ⟨rfl, rfl⟩)
  · unfold Num negK negN; simp
  · by_cases h0 : n = 0
    · subst h0; unfold Num negK negN; simp
    · unfold Num negK negN; simp [h0]; omega

theorem tmod_bound (n : Int) : -9007199254740991 ≤ n.tmod 9007199254740992 ∧ n.tmod 9007199254740992 ≤ 9007199254740991 := by
  have h := Int.tmod_lt_of_pos n (b := 9007199254740992) (by omega)
  have h2 := Int.tmod_lt_of_pos (-n) (b := 9007199254740992) (by omega)
  rw [Int.neg_tmod] at h2
  omega
/-- Some number is returned. -/
def SomeNum (w : World) (e : Ending) (w' : World) : Prop := ∃ k n, Num k n ∧ e = .returned (vv k n) ∧ w.alloc (bx k n) = w'
theorem text_nz (w : World) : Calls Tryd.prog 51 #[vv 6 0] w fun e w' => e = .returned (.string ⟨#[48]⟩) ∧ w.alloc (bx 6 0) = w' := by
  go_enter Tryd.func51, Tryd.ntmps51
  go_wp2
  go_ret
  exact ⟨rfl, rfl⟩

theorem mul_ex (w : World) : Calls Tryd.prog 79 #[vv 3 0, vv 3 (-3)] w fun e w' => e = .returned (.tuple #[vv 6 0, .bool true]) ∧ Below w.heap.size w w' :=
  mul_any 3 0 3 (-3) (by unfold Num; omega) (by unfold Num; omega) w
theorem div_ex (w : World) : Calls Tryd.prog 80 #[vv 3 7, vv 3 2] w fun e w' => e = .returned (.tuple #[vv 0 0, .bool false]) ∧ Below w.heap.size w w' :=
  div_p9 7 2 (by unfold Num; omega) (by unfold Num; omega) rfl rfl (by omega) rfl w

def subR (k1 n1 k2 n2 : Int) : Int × Int × Bool := addR k1 n1 (negK k2 n2) (negN k2 n2)
set_option maxHeartbeats 400000 in
theorem sub_any (k1 n1 k2 n2 : Int) (h1 : Num k1 n1) (h2 : Num k2 n2) (w : World) :
    Calls Tryd.prog 78 #[vv k1 n1, vv k2 n2] w fun e w' => e = .returned (vr (subR k1 n1 k2 n2)) ∧ Below w.heap.size w w' := by
  have h3 := num_neg k2 n2 h2
  go_enter Tryd.func78, Tryd.ntmps78
  go_wp2
  go_region_with (first | (go_at_call 94; ((with_reducible refine (neg_any _ _ h2 _).mono ?_); rintro e w1 ⟨rfl, hb1⟩; obtain ⟨hcc, hff⟩ := bcell hb1; have hs1 := hb1.size; simp only [World.size_alloc, World.size_drew] at hs1; have hz1 := blw_lt hs1)) | (go_at_call 77; ((with_reducible refine (add_any _ _ _ _ h1 h3 _).mono ?_); rintro e w2 ⟨rfl, hb2⟩; obtain ⟨hcc2, hff2⟩ := bcell hb2; have hs2 := hb2.size; have hz2 := Nat.lt_of_lt_of_le hz1 hs2)))
  all_goals go_wp2
  all_goals exact bodyPost_ret (v := vr (addR k1 n1 (negK k2 n2) (negN k2 n2))) (by simp [results, Tryd.results78, go_sem, Act.put, hcc2, hz1, hcc]) rfl ⟨rfl, by repeat (first | (with_reducible refine blw_set _ ?_) | (with_reducible refine blw_call ?_ (by assumption)) | (with_reducible refine blw_alloc _ ?_) | (with_reducible refine Below.drew ?_) | (with_reducible exact Below.refl _ _))⟩
end Go.Proofs.YtbkgophgclpijaaDoor.M
