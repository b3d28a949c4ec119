/- TextSigns: Points hands back the iterator over the characters. -/
import Derived.Test.YtbkgophgclpijaaSb
namespace Go.Proofs.Ytbkgophgclpijaa
open Go Go.RowKit
attribute [local go_sem] Oper.semAt_some

theorem points_any (s : ByteArray) (w : World) :
    Calls Try.prog 9 #[.string s] w fun e w' => e = .returned (.func (.func 17) #[] #[.pointer (some ⟨w.heap.size, 0, none⟩)]) ∧ w' = w.alloc (.cells #[.string s] 9) := by
  go_enter Try.func9, Try.ntmps9
  go_wp2
  go_ret
  exact ⟨rfl, rfl⟩
theorem grown_drewN (w : World) (m : Nat) : w.grownBy (w.drewN m) none := by
  refine ⟨rfl, rfl, rfl, Nat.le_refl _, ?_⟩
  intros
  first | rfl | assumption | (exact .inl rfl)
theorem points_stops (n : Nat) (hn : 1 ≤ n) (Bs : Nat) (L : List Nat) (hL : L.length ≤ 1000000) (hU : ∀ u ∈ L, u < 65536) (w : World) (hb : Bs < w.heap.size)
    (hc : w.cell? ⟨Bs, 0, none⟩ = some (.string (strU L))) :
    SeqStopsK Fence.wide n Try.prog 17 #[.pointer (some ⟨Bs, 0, none⟩)] (fun x : List Nat => #[Value.string (strU x)]) (KeepBox Bs) (fun ys => ys = signs L) (fun pre => pre <+: signs L) (signs L).length w := fun l J Jx W hW hJ _ hY h0 =>
  points1_in n hn l Bs L hL hU J Jx hY (fun pre W1 m h => hJ pre W1 _ none h (grown_drewN W1 m) (fun r e => by cases e)) W ((hW.cell (p := ⟨Bs, 0, none⟩) hb).trans hc) h0
end Go.Proofs.Ytbkgophgclpijaa
