/- Package heap: how a heap lies; New, Obj, Env, Make, Scope, Symbol. -/
import Derived.Test.YtgdkjkfbknbgkaaGreatDoorAc
namespace Go.Proofs.YtgdkjkfbknbgkaaGreatDoor
open Go Go.RowKit

theorem AFoot.lab {w : World} {B A : Nat} {cv fv rv : Value} {d : AD} (h : ArAt w B A cv fv rv d) {k : Nat} {e : TypeId} (hl : Lab w k e) (e1 : e ≠ 155) (e2 : e ≠ 137) (e3 : e ≠ 3) : ¬ AFoot A cv fv rv k := fun hk => by
  rcases hk with hk | hk | hk | hk
  · exact hl.ne h.box.lab e1 hk
  · exact hl.ne (own_lab h.co k hk) e2 rfl
  · exact hl.ne (own_lab h.fo k hk) e3 rfl
  · exact hl.ne (own_lab h.ro k hk) e3 rfl
abbrev objV (nb : Nat) : Value := .iface 40 (.pointer (some ⟨nb, 0, none⟩))
/-- A fresh object's cells. -/
abbrev obj0 (cl proto : Int) : Array Value := #[.int .i64 cl, .int .i64 proto, .bool false, .pointer none, .slice none 0 0, .slice none 0 0, .pointer none, .pointer none, .pointer none, .slice none 0 0, .nilIface, .int .i64 0, .int .i64 0, .int .i64 0, .int .i64 0, .nilIface]
/-- A heap: its box beside its arena. -/
structure HpAt (w : World) (B h A : Nat) (cv fv rv : Value) (d : AD) : Prop where
  hb : Box w h 102 #[.pointer (some ⟨A, 0, none⟩), .int .i64 0]
  ar : ArAt w B A cv fv rv d
  hB : B ≤ h
set_option maxRecDepth 100000 in
theorem heap_new (w : World) : Calls Tryz.prog 57 #[] w fun e w' => ∃ h, e = .returned (.pointer (some ⟨h, 0, none⟩)) ∧ Below w.heap.size w w' ∧ HpAt w' w.heap.size h w.heap.size (.slice none 0 0) (.slice none 0 0) (.slice none 0 0) emptyD := by
  have HN := Veil.mk (new_any w)
  obtain ⟨A, hA⟩ : ∃ A, w.heap.size = A := ⟨_, rfl⟩
  rw [hA] at HN ⊢
  have HA := Veil.mk hA
  clear hA
  go_enter Tryz.func57, Tryz.ntmps57
  go_wp2_with (first | (go_at_call 91; ((with_reducible refine HN.out.mono ?_); rintro e w4 ⟨rfl, hb4, hs4, ha4⟩)))
  have bx := Box.new w4 102 #[.pointer (some ⟨A, 0, none⟩), .int .i64 0]
  have b5 : Below w4.heap.size w4 (w4.alloc (.cells #[.pointer (some ⟨A, 0, none⟩), .int .i64 0] 102)) := (Below.refl _ _).alloc (Nat.le_refl _) _
  go_ret
  exact ⟨_, rfl, hb4.trans (b5.mono (by omega)), bx, ha4.on b5, by omega⟩
set_option maxHeartbeats 1000000 in
set_option maxRecDepth 100000 in
theorem heap_make {w : World} {B h A : Nat} {cv fv rv : Value} {d : AD} (hp : HpAt w B h A cv fv rv d) (cl proto : Int) (hf : d.free = []) (hc : d.count < 1000000) (hl : d.cells.length < 1000000) :
    Calls Tryz.prog 13 #[.pointer (some ⟨h, 0, none⟩), .int .i64 cl, .int .i64 proto] w fun e w' => e = .returned (.tuple #[.int .i64 ((d.cells.length : Int) + 1), .pointer (some ⟨w.heap.size, 0, none⟩)]) ∧ Box w' w.heap.size 99 (obj0 cl proto) ∧ Touch (AFoot A cv fv rv) w w' ∧ ∃ cv' fv' rv', HpAt w' B h A cv' fv' rv' ⟨d.cells ++ [some (40, w.heap.size)], [], d.count + 1, d.roots⟩ ∧ ∀ k, AFoot A cv' fv' rv' k → AFoot A cv fv rv k ∨ w.heap.size ≤ k := by
  have bb : Below w.heap.size w (w.alloc (.cells (obj0 cl proto) 99)) := (Below.refl _ _).alloc (Nat.le_refl _) _
  have bx := Box.new w 99 (obj0 cl proto)
  have a1 := hp.ar.on bb
  have HM := Veil.mk (make_new B A cv fv rv d (40, w.heap.size) _ a1 hf (by omega) hl)
  have h0 : (w.alloc (.cells (obj0 cl proto) 99)).cell? ⟨h, 0, none⟩ = some (.pointer (some ⟨A, 0, none⟩)) := (hp.hb.below bb).at_ 0
  have HP := Veil.mk (And.intro hp (And.intro bb (And.intro bx (And.intro a1 hf))))
  have hl0 : (0 : Int) ≤ (d.cells.length : Int) := by omega
  have hne : ((d.cells.length : Int) + 1 = 0) = False := by simp; omega
  clear hp bb bx a1 hf
  go_enter Tryz.func13, Tryz.ntmps13
  have em : d.mk2 (40, w.heap.size) = (⟨d.cells ++ [some (40, w.heap.size)], d.free, d.count + 1, d.roots⟩, d.cells.length + 1) := by
    unfold AD.mk2
    rw [HP.out.2.2.2.2]
    rfl
  have HM2 : Veil (Calls Tryz.prog 33 #[.pointer (some ⟨A, 0, none⟩), nodeV (40, w.heap.size)] (w.alloc (.cells (obj0 cl proto) 99)) fun e w' => e = .returned (.int .i64 ((d.cells.length : Int) + 1)) ∧ ArPost B A ⟨d.cells ++ [some (40, w.heap.size)], d.free, d.count + 1, d.roots⟩ (AFoot A cv fv rv) (w.alloc (.cells (obj0 cl proto) 99)) w') := ⟨by
    refine HM.out.mono ?_
    rintro e w' ⟨h1, h2⟩
    rw [em] at h1 h2
    exact ⟨h1, h2⟩⟩
  clear HM em
  go_upto_region 4 with (fail)
  go_wp2_with (first | (go_at_call 33; ((with_reducible refine HM2.out.mono ?_); rintro e w4 ⟨rfl, hp4⟩)))
  obtain ⟨hp, bb, bx, a1, hf⟩ := HP.out
  obtain ⟨cv4, fv4, rv4, p1, p2, p3⟩ := hp4
  rw [hf] at p1
  refine bodyPost_ret (v := .tuple #[.int .i64 ((d.cells.length : Int) + 1), .pointer (some ⟨w.heap.size, 0, none⟩)]) (by simp [results, Tryz.results13, go_sem]) rfl ⟨rfl, bx.touch p2 (AFoot.lab a1 bx.lab (by decide) (by decide) (by decide)), (Touch.of_below bb).trans p2, cv4, fv4, rv4, ⟨(hp.hb.below bb).touch p2 (AFoot.lab a1 (hp.hb.below bb).lab (by decide) (by decide) (by decide)), p1, hp.hB⟩, fun k hk => (p3 k hk).imp id (fun h => by rw [World.size_alloc] at h; omega)⟩
end Go.Proofs.YtgdkjkfbknbgkaaGreatDoor
