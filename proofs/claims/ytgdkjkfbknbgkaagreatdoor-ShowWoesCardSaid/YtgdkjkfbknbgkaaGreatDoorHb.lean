/- Package heap: Obj; isLength, element, Own of an object that is no array. -/
import Derived.Test.YtgdkjkfbknbgkaaGreatDoorHa
import Derived.Test.YtgdkjkfbknbgkaaGreatDoorFv
import Derived.Test.YtgdkjkfbknbgkaaGreatDoorWd
namespace Go.Proofs.YtgdkjkfbknbgkaaGreatDoor
open Go Go.RowKit

/-- An object's cells: its class, prototype, whether it is closed, its properties and elements. -/
abbrev objF (cl proto : Int) (cs : Bool) (pv ev fn : Value) (kd : Int) : Array Value := #[.int .i64 cl, .int .i64 proto, .bool cs, pv, ev, .slice none 0 0, .pointer none, .pointer none, .pointer none, .slice none 0 0, fn, .int .i64 0, .int .i64 0, .int .i64 kd, .int .i64 0, .nilIface]
abbrev objC (cl proto : Int) (cs : Bool) (pv ev : Value) : Array Value := objF cl proto cs pv ev .nilIface 0
theorem as_yes (nb : Nat) (W : World) : (Instr.typeAssert (.iface 40 (.pointer (some ⟨nb, 0, none⟩))) 137 40 true).run Tryz.prog W = .ok (.tuple #[.pointer (some ⟨nb, 0, none⟩), .bool true]) W := by kernel_rfl
theorem as_nil (W : World) : (Instr.typeAssert .nilIface 137 40 true).run Tryz.prog W = .ok (.tuple #[.pointer none, .bool false]) W := by kernel_rfl
set_option maxRecDepth 100000 in
theorem obj_some {w : World} {B h A : Nat} {cv fv rv : Value} {d : AD} (hp : HpAt w B h A cv fv rv d) (r : Int) (nb : Nat) (hr : d.get r = some (40, nb)) : Calls Tryz.prog 26 #[.pointer (some ⟨h, 0, none⟩), .int .i64 r] w fun e w' => e = .returned (.pointer (some ⟨nb, 0, none⟩)) ∧ w' = w := by
  have hg := get_any B A cv fv rv d r w hp.ar
  rw [hr] at hg
  have HG := Veil.mk hg
  have h0 : w.cell? ⟨h, 0, none⟩ = some (.pointer (some ⟨A, 0, none⟩)) := hp.hb.at_ 0
  clear hp hr hg
  have ha := as_yes nb
  go_enter Tryz.func26, Tryz.ntmps26
  go_wp2_with (first | (go_at_call 58; ((with_reducible refine HG.out.mono ?_); rintro e w4 ⟨rfl, h4⟩; subst w4; simp only [bodyV])))
  go_ret
  exact ⟨rfl, rfl⟩
set_option maxRecDepth 100000 in
theorem obj_none {w : World} {B h A : Nat} {cv fv rv : Value} {d : AD} (hp : HpAt w B h A cv fv rv d) (r : Int) (hr : d.get r = none) : Calls Tryz.prog 26 #[.pointer (some ⟨h, 0, none⟩), .int .i64 r] w fun e w' => e = .returned (.pointer none) ∧ w' = w := by
  have hg := get_any B A cv fv rv d r w hp.ar
  rw [hr] at hg
  have HG := Veil.mk hg
  have h0 : w.cell? ⟨h, 0, none⟩ = some (.pointer (some ⟨A, 0, none⟩)) := hp.hb.at_ 0
  clear hp hr hg
  have ha := as_nil
  go_enter Tryz.func26, Tryz.ntmps26
  go_wp2_with (first | (go_at_call 58; ((with_reducible refine HG.out.mono ?_); rintro e w4 ⟨rfl, h4⟩; subst w4; simp only [bodyV])))
  go_ret
  exact ⟨rfl, rfl⟩
/-- Length, as its units lie. -/
abbrev lenB : ByteArray := ⟨#[0, 108, 0, 101, 0, 110, 0, 103, 0, 116, 0, 104]⟩
set_option maxRecDepth 100000 in
theorem isLen_plain {w : World} {o : Nat} {cl proto : Int} {cs : Bool} {pv ev fn : Value} {kd : Int} (hb : Box w o 99 (objF cl proto cs pv ev fn kd)) (hc : (cl == 1) = false) (k : Vt) : Calls Tryz.prog 71 #[.pointer (some ⟨o, 0, none⟩), valV k] w fun e w' => e = .returned (.bool false) ∧ Below w.heap.size w w' := by
  have b1 : Below w.heap.size w (w.alloc (.cells #[.int .i64 k.1, .int .i64 k.2.1, .string k.2.2] 30)) := (Below.refl _ _).alloc (Nat.le_refl _) _
  have c0 : (w.alloc (.cells #[.int .i64 k.1, .int .i64 k.2.1, .string k.2.2] 30)).cell? ⟨o, 0, none⟩ = some (.int .i64 cl) := (hb.below b1).at_ 0
  clear hb
  go_enter Tryz.func71, Tryz.ntmps71
  go_wp2
  go_ret
  exact ⟨rfl, b1⟩
set_option maxRecDepth 100000 in
theorem elem_plain {w : World} {o : Nat} {cl proto : Int} {cs : Bool} {pv ev fn : Value} {kd : Int} (hb : Box w o 99 (objF cl proto cs pv ev fn kd)) (hc : (cl == 1) = false) (k : Vt) : Calls Tryz.prog 50 #[.pointer (some ⟨o, 0, none⟩), valV k] w fun e w' => e = .returned (.int .i64 (-1)) ∧ Below w.heap.size w w' := by
  have b1 : Below w.heap.size w (w.alloc (.cells #[.int .i64 k.1, .int .i64 k.2.1, .string k.2.2] 30)) := (Below.refl _ _).alloc (Nat.le_refl _) _
  have c0 : (w.alloc (.cells #[.int .i64 k.1, .int .i64 k.2.1, .string k.2.2] 30)).cell? ⟨o, 0, none⟩ = some (.int .i64 cl) := (hb.below b1).at_ 0
  clear hb
  go_enter Tryz.func50, Tryz.ntmps50
  go_wp2
  go_ret
  exact ⟨rfl, b1⟩
/-- What an object's Props is: nothing, or a table with no open cursor. -/
def PrAt (B : Nat) (w : World) (pv : Value) (F : Nat → Prop) (O : List En) : Prop := (pv = .pointer none ∧ O = [] ∧ F = fun _ => False) ∨ ∃ t, pv = .pointer (some ⟨t, 0, none⟩) ∧ Tf B t F (O, []) w
theorem PrAt.on {B : Nat} {w w' : World} {pv : Value} {F : Nat → Prop} {O : List En} (h : PrAt B w pv F O) (hb : Below w.heap.size w w') : PrAt B w' pv F O := h.imp id (fun ⟨t, h1, h2⟩ => ⟨t, h1, h2.on hb⟩)
theorem PrAt.touch {B : Nat} {w w' : World} {pv : Value} {F S : Nat → Prop} {O : List En} (h : PrAt B w pv F O) (ht : Touch S w w') (hn : ∀ k, F k → ¬ S k) : PrAt B w' pv F O := h.imp id (fun ⟨t, h1, h2⟩ => ⟨t, h1, h2.touch ht hn⟩)
theorem PrAt.lt {B : Nat} {w : World} {pv : Value} {F : Nat → Prop} {O : List En} (h : PrAt B w pv F O) (k : Nat) (hk : F k) : B ≤ k ∧ k < w.heap.size := by
  rcases h with ⟨_, _, rfl⟩ | ⟨t, h1, h2⟩
  · exact hk.elim
  · exact h2.lt k hk
/-- What Get finds. -/
def GotP (O : List En) (k : Vt) (e : Ending) : Prop := (∃ x ∈ O, x.1 = keyT k ∧ e = .returned (.tuple #[valV x.2.1, .int .i64 x.2.2, .bool true])) ∨ (¬ hasK O (keyT k) ∧ e = .returned (.tuple #[zeroV, .int .i64 0, .bool false]))
theorem pget_any {B : Nat} {w : World} {pv : Value} {F : Nat → Prop} {O : List En} (h : PrAt B w pv F O) (k : Vt) (hk : k.2.2.size ≤ 1000) : Calls Tryz.prog 85 #[pv, valV k] w fun e w' => GotP O k e ∧ Below w.heap.size w w' := by
  rcases h with ⟨rfl, rfl, rfl⟩ | ⟨t, rfl, T, vs, vb, vc, hT, hG, ho, hF⟩
  · refine (get_nil k w).mono ?_
    rintro e w' ⟨rfl, hb⟩
    exact ⟨.inr ⟨(by rintro ⟨x, hx, _⟩; cases hx), rfl⟩, hb⟩
  · refine (tget_any B t T vs vb vc hG.inv k hk w hT).mono ?_
    rintro e w' ⟨hr, hb⟩
    rw [ho] at hr
    exact ⟨hr, hb⟩
end Go.Proofs.YtgdkjkfbknbgkaaGreatDoor
