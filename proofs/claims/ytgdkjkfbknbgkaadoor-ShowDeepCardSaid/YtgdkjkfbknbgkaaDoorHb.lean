/- Package heap: Obj; isLength, element, Own of an object that is no array. -/
import Derived.Test.YtgdkjkfbknbgkaaDoorHa
import Derived.Test.YtgdkjkfbknbgkaaDoorWd
namespace Go.Proofs.YtgdkjkfbknbgkaaDoor
open Go Go.RowKit

/-- An object's cells: its class, prototype, whether it is closed, its properties and elements. -/
abbrev objC (cl proto : Int) (cs : Bool) (pv ev : Value) : Array Value := #[.int .i64 cl, .int .i64 proto, .bool cs, pv, ev, .slice none 0 0, .pointer none, .pointer none, .pointer none, .slice none 0 0, .nilIface, .int .i64 0, .int .i64 0, .int .i64 0, .int .i64 0, .nilIface]
theorem as_yes (nb : Nat) (W : World) : (Instr.typeAssert (.iface 37 (.pointer (some ⟨nb, 0, none⟩))) 81 37 true).run Tryd.prog W = .ok (.tuple #[.pointer (some ⟨nb, 0, none⟩), .bool true]) W := by kernel_rfl
theorem as_nil (W : World) : (Instr.typeAssert .nilIface 81 37 true).run Tryd.prog W = .ok (.tuple #[.pointer none, .bool false]) W := by kernel_rfl
set_option maxRecDepth 100000 in
theorem obj_some {w : World} {B h A : Nat} {cv fv rv : Value} {d : AD} (hp : HpAt w B h A cv fv rv d) (r : Int) (nb : Nat) (hr : d.get r = some (37, nb)) : Calls Tryd.prog 12 #[.pointer (some ⟨h, 0, none⟩), .int .i64 r] w fun e w' => e = .returned (.pointer (some ⟨nb, 0, none⟩)) ∧ w' = w := by
  have hg := get_any B A cv fv rv d r w hp.ar
  rw [hr] at hg
  have HG := Veil.mk hg
  have h0 : w.cell? ⟨h, 0, none⟩ = some (.pointer (some ⟨A, 0, none⟩)) := hp.hb.at_ 0
  clear hp hr hg
  have ha := as_yes nb
  go_enter Tryd.func12, Tryd.ntmps12
  go_wp2_with (first | (go_at_call 25; ((with_reducible refine HG.out.mono ?_); rintro e w4 ⟨rfl, h4⟩; subst w4; simp only [bodyV])))
  go_ret
  exact ⟨rfl, rfl⟩
set_option maxRecDepth 100000 in
theorem obj_none {w : World} {B h A : Nat} {cv fv rv : Value} {d : AD} (hp : HpAt w B h A cv fv rv d) (r : Int) (hr : d.get r = none) : Calls Tryd.prog 12 #[.pointer (some ⟨h, 0, none⟩), .int .i64 r] w fun e w' => e = .returned (.pointer none) ∧ w' = w := by
  have hg := get_any B A cv fv rv d r w hp.ar
  rw [hr] at hg
  have HG := Veil.mk hg
  have h0 : w.cell? ⟨h, 0, none⟩ = some (.pointer (some ⟨A, 0, none⟩)) := hp.hb.at_ 0
  clear hp hr hg
  have ha := as_nil
  go_enter Tryd.func12, Tryd.ntmps12
  go_wp2_with (first | (go_at_call 25; ((with_reducible refine HG.out.mono ?_); rintro e w4 ⟨rfl, h4⟩; subst w4; simp only [bodyV])))
  go_ret
  exact ⟨rfl, rfl⟩
/-- Length, as its units lie. -/
abbrev lenB : ByteArray := ⟨#[0, 108, 0, 101, 0, 110, 0, 103, 0, 116, 0, 104]⟩
set_option maxRecDepth 100000 in
theorem isLen_plain {w : World} {o : Nat} {cl proto : Int} {cs : Bool} {pv ev : Value} (hb : Box w o 36 (objC cl proto cs pv ev)) (hc : (cl == 1) = false) (k : Vt) : Calls Tryd.prog 56 #[.pointer (some ⟨o, 0, none⟩), valV k] w fun e w' => e = .returned (.bool false) ∧ Below w.heap.size w w' := by
  have b1 : Below w.heap.size w (w.alloc (.cells #[.int .i64 k.1, .int .i64 k.2.1, .string k.2.2] 26)) := (Below.refl _ _).alloc (Nat.le_refl _) _
  have c0 : (w.alloc (.cells #[.int .i64 k.1, .int .i64 k.2.1, .string k.2.2] 26)).cell? ⟨o, 0, none⟩ = some (.int .i64 cl) := (hb.below b1).at_ 0
  clear hb
  go_enter Tryd.func56, Tryd.ntmps56
  go_wp2
  go_ret
  exact ⟨rfl, b1⟩
set_option maxRecDepth 100000 in
theorem elem_plain {w : World} {o : Nat} {cl proto : Int} {cs : Bool} {pv ev : Value} (hb : Box w o 36 (objC cl proto cs pv ev)) (hc : (cl == 1) = false) (k : Vt) : Calls Tryd.prog 58 #[.pointer (some ⟨o, 0, none⟩), valV k] w fun e w' => e = .returned (.int .i64 (-1)) ∧ Below w.heap.size w w' := by
  have b1 : Below w.heap.size w (w.alloc (.cells #[.int .i64 k.1, .int .i64 k.2.1, .string k.2.2] 26)) := (Below.refl _ _).alloc (Nat.le_refl _) _
  have c0 : (w.alloc (.cells #[.int .i64 k.1, .int .i64 k.2.1, .string k.2.2] 26)).cell? ⟨o, 0, none⟩ = some (.int .i64 cl) := (hb.below b1).at_ 0
  clear hb
  go_enter Tryd.func58, Tryd.ntmps58
  go_wp2
  go_ret
  exact ⟨rfl, b1⟩
end Go.Proofs.YtgdkjkfbknbgkaaDoor
