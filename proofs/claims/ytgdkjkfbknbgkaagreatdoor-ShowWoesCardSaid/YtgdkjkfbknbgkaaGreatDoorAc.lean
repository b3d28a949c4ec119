/- Package arena: Push, Pop; what they do where there is no arena. -/
import Derived.Test.YtgdkjkfbknbgkaaGreatDoorAb
namespace Go.Proofs.YtgdkjkfbknbgkaaGreatDoor
open Go Go.RowKit

set_option maxRecDepth 100000 in
theorem make_none (v : Value) (w : World) : Calls Tryz.prog 33 #[.pointer none, v] w fun e w' => e = .returned (.int .i64 0) ∧ w' = w := by
  go_enter Tryz.func33, Tryz.ntmps33
  go_wp2
  go_ret
  exact ⟨rfl, rfl⟩
set_option maxRecDepth 100000 in
theorem get_none (r : Int) (w : World) : Calls Tryz.prog 58 #[.pointer none, .int .i64 r] w fun e w' => e = .returned .nilIface ∧ w' = w := by
  go_enter Tryz.func58, Tryz.ntmps58
  go_wp2
  go_ret
  exact ⟨rfl, rfl⟩
set_option maxRecDepth 100000 in
theorem count_none (w : World) : Calls Tryz.prog 114 #[.pointer none] w fun e w' => e = .returned (.int .i64 0) ∧ w' = w := by
  go_enter Tryz.func114, Tryz.ntmps114
  go_wp2
  go_ret
  exact ⟨rfl, rfl⟩
set_option maxRecDepth 100000 in
theorem make_nil (B A : Nat) (cv fv rv : Value) (d : AD) (w : World) (h : ArAt w B A cv fv rv d) : Calls Tryz.prog 33 #[.pointer (some ⟨A, 0, none⟩), .nilIface] w fun e w' => e = .returned (.int .i64 0) ∧ w' = w := by
  have c2 : w.cell? ⟨A, 2, none⟩ = some (.int .i64 (d.count : Int)) := h.box.at_ 2
  clear h
  go_enter Tryz.func33, Tryz.ntmps33
  go_wp2
  go_ret
  exact ⟨rfl, rfl⟩
def AD.pushed (d : AD) (r : Int) : AD := { d with roots := d.roots ++ [r] }
end Go.Proofs.YtgdkjkfbknbgkaaGreatDoor
