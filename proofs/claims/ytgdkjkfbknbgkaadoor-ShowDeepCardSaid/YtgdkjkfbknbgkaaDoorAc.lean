/- Package arena: Push, Pop; what they do where there is no arena. -/
import Derived.Test.YtgdkjkfbknbgkaaDoorAb
namespace Go.Proofs.YtgdkjkfbknbgkaaDoor
open Go Go.RowKit

set_option maxRecDepth 100000 in
theorem make_none (v : Value) (w : World) : Calls Tryd.prog 24 #[.pointer none, v] w fun e w' => e = .returned (.int .i64 0) ∧ w' = w := by
  go_enter Tryd.func24, Tryd.ntmps24
  go_wp2
  go_ret
  exact ⟨rfl, rfl⟩
set_option maxRecDepth 100000 in
theorem get_none (r : Int) (w : World) : Calls Tryd.prog 25 #[.pointer none, .int .i64 r] w fun e w' => e = .returned .nilIface ∧ w' = w := by
  go_enter Tryd.func25, Tryd.ntmps25
  go_wp2
  go_ret
  exact ⟨rfl, rfl⟩
set_option maxRecDepth 100000 in
theorem count_none (w : World) : Calls Tryd.prog 80 #[.pointer none] w fun e w' => e = .returned (.int .i64 0) ∧ w' = w := by
  go_enter Tryd.func80, Tryd.ntmps80
  go_wp2
  go_ret
  exact ⟨rfl, rfl⟩
set_option maxRecDepth 100000 in
theorem make_nil (B A : Nat) (cv fv rv : Value) (d : AD) (w : World) (h : ArAt w B A cv fv rv d) : Calls Tryd.prog 24 #[.pointer (some ⟨A, 0, none⟩), .nilIface] w fun e w' => e = .returned (.int .i64 0) ∧ w' = w := by
  have c2 : w.cell? ⟨A, 2, none⟩ = some (.int .i64 (d.count : Int)) := h.box.at_ 2
  clear h
  go_enter Tryd.func24, Tryd.ntmps24
  go_wp2
  go_ret
  exact ⟨rfl, rfl⟩
def AD.pushed (d : AD) (r : Int) : AD := { d with roots := d.roots ++ [r] }
end Go.Proofs.YtgdkjkfbknbgkaaDoor
