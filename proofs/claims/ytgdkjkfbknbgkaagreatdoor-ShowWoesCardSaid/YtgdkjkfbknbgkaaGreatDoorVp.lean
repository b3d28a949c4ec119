/- Package vm: native functions; what is shown of functions. -/
import Derived.Test.YtgdkjkfbknbgkaaGreatDoorVo
namespace Go.Proofs.YtgdkjkfbknbgkaaGreatDoor
open Go Go.RowKit

section
variable {W W' : World} {h A m : Nat} {f : Nat → Int} {os : List OS} {ts ts1 ts2 : List TO}
/-- A cell of a value's block is written. -/
theorem MP.putv (H : MP W h A m f ts) {g : Nat} (hl : Lab W g 30) (i : Nat) (u : Value) : MP (W.setCell ⟨g, i, none⟩ u) h A m f ts := by
  have ht : Touch (fun k => k = g) W (W.setCell ⟨g, i, none⟩ u) := Touch.put (S := fun k => k = g) rfl _ _
  have hA : ¬ A = g := fun e => by
    obtain ⟨cv, fv, rv, hp⟩ := H.mm.hp
    exact hp.ar.box.lab.ne hl (by decide) e
  refine ⟨H.mm.touch ht (fun k hk => ?_), fun t h9 => (H.pr t h9).touch ht (fun k hk e => ?_), fun t h9 k hk => ⟨fun h7 => (H.sep t h9 k hk).1 (FO.touch H.mm.alt ht hA k h7), (H.sep t h9 k hk).2⟩, H.dis⟩
  · subst hk
    obtain ⟨cv, fv, rv, hp⟩ := H.mm.hp
    refine ⟨fun h9 => AFoot.lab hp.ar hl (by decide) (by decide) (by decide) ((FO.of hp.ar k).1 h9), hl.ne hp.hb.lab (by decide), hl.ne H.mm.mb.lab (by decide), fun o ho => hl.ne (H.mm.ob o ho).lab (by decide)⟩
  · subst e
    exact (H.pr t h9).not_lab hl (by decide) hk
/-- An object's function and kind are set. -/
theorem MP.setFn {t : TO} (H : MP W h A m f (ts1 ++ t :: ts2)) (fn : Value) (kd : Int) : MP ((W.setCell ⟨t.b, 10, none⟩ fn).setCell ⟨t.b, 13, none⟩ (.int .i64 kd)) h A m f (ts1 ++ ⟨t.b, t.cl, t.proto, t.pv, t.ev, fn, kd, t.F, t.O⟩ :: ts2) ∧ Bk A W ((W.setCell ⟨t.b, 10, none⟩ fn).setCell ⟨t.b, 13, none⟩ (.int .i64 kd)) := by
  have hm : t ∈ ts1 ++ t :: ts2 := by simp
  have hb := H.mem_b hm
  have ht : Touch (fun k => k = t.b) W ((W.setCell ⟨t.b, 10, none⟩ fn).setCell ⟨t.b, 13, none⟩ (.int .i64 kd)) := (Touch.put (S := fun k => k = t.b) rfl _ _).trans (Touch.put (S := fun k => k = t.b) rfl _ _)
  refine H.step t.pv t.ev fn kd t.F t.O (ht.mono (fun k hk => .inl hk)) ((hb.put 10 fn).put 13 (.int .i64 kd)) ((H.pr t hm).touch ht (fun k hk e => ?_)) (fun k hk => .inl hk)
  subst e
  exact (H.pr t hm).not_lab hb.lab (by decide) hk
set_option maxHeartbeats 1000000 in
set_option maxRecDepth 100000 in
theorem MP.native (H : MP W h A m f ts) (id n : Int) (nm : ByteArray) (mk : Bool) (hs : nm.size ≤ 16777216) (hl : ts.length < 100000) : Calls Tryz.prog 19 #[.pointer (some ⟨m, 0, none⟩), .int .i64 id, .string nm, .int .i64 n, .bool mk] W fun e w' => e = .returned (valV (9, (ts.length : Int) + 1, ⟨#[]⟩)) ∧ ∃ b pv F, MP w' h A m f (ts ++ [⟨b, 2, f 1, pv, .slice none 0 0, (.iface 125 (.agg #[.bool mk])), id, F, [(kLen, (3, n, ⟨#[]⟩), 4), (kName, (7, 0, ⟨(uOf nm).toArray⟩), 4)]⟩]) ∧ Bk A W w' := by
  obtain ⟨vb, hvb⟩ : ∃ vb, W.heap.size = vb := ⟨_, rfl⟩
  obtain ⟨W0, hW0⟩ : ∃ W0, W.alloc (.cells #[.int .i64 0, .int .i64 0, .string ⟨#[]⟩] 30) = W0 := ⟨_, rfl⟩
  have b1 := Box.new W 30 #[.int .i64 0, .int .i64 0, .string ⟨#[]⟩]
  have bb : Below W.heap.size W (W.alloc (.cells #[.int .i64 0, .int .i64 0, .string ⟨#[]⟩] 30)) := (Below.refl _ _).alloc (Nat.le_refl _) _
  rw [hW0] at b1 bb
  rw [hvb] at b1
  have HW0 := Veil.mk (And.intro hW0 hvb)
  have HA : Veil (A < W.heap.size) := ⟨H.mm.alt⟩
  have HF := Veil.mk ((H.on bb).function nm n hs hl)
  have HX := Veil.mk (And.intro b1 bb)
  clear hW0 hvb b1 bb H hs hl
  go_enter Tryz.func19, Tryz.ntmps19
  go_upto_region 1 with (fail)
  rw [HW0.out.1, HW0.out.2]
  go_upto_region 4 with (go_at_call 46; ((with_reducible refine HF.out.mono ?_); rintro e w3 ⟨b, rfl, pv, F, hm3, hb3⟩; have H3 := Veil.mk (And.intro hm3 hb3); clear hm3 hb3))
  have hbx := H3.out.1.mem_b (t := ⟨b, 2, f 1, pv, .slice none 0 0, .nilIface, 0, F, [(kLen, (3, n, ⟨#[]⟩), 4), (kName, (7, 0, ⟨(uOf nm).toArray⟩), 4)]⟩) (by simp)
  have c10 : w3.cell? ⟨b, 10, none⟩ = some .nilIface := hbx.at_ 10
  have c13 : w3.cell? ⟨b, 13, none⟩ = some (.int .i64 0) := hbx.at_ 13
  have f10 := hbx.free 10
  have f13 := hbx.free 13
  go_upto_region 5 with (fail)
  have HS4 := Veil.mk (H3.out.1.setFn (t := ⟨b, 2, f 1, pv, .slice none 0 0, .nilIface, 0, F, [(kLen, (3, n, ⟨#[]⟩), 4), (kName, (7, 0, ⟨(uOf nm).toArray⟩), 4)]⟩) (ts2 := []) (.iface 125 (.agg #[.bool mk])) id)
  have HB4 := Veil.mk (H3.out.2.trans HS4.out.2)
  have hv4 := HB4.out.box HX.out.1
  have HV4 := Veil.mk hv4
  clear hv4 hbx c10 c13 f10 f13
  generalize ((w3.setCell ⟨b, 10, none⟩ (.iface 125 (.agg #[.bool mk]))).setCell ⟨b, 13, none⟩ (.int .i64 id)) = w4 at HS4 HB4 HV4 ⊢
  have HVO := Veil.mk (object_mk ((ts.length : Int) + 1) w4)
  go_wp2_with (go_at_call 18; ((with_reducible refine HVO.out.mono ?_); rintro e w5 ⟨rfl, hb5⟩; have HB5 := Veil.mk (And.intro hb5 (HV4.out.below hb5)); have v0 : w5.cell? ⟨vb, 0, none⟩ = some (.int .i64 0) := HB5.out.2.at_ 0; have v1 : w5.cell? ⟨vb, 1, none⟩ = some (.int .i64 0) := HB5.out.2.at_ 1; have v2 : w5.cell? ⟨vb, 2, none⟩ = some (.string ⟨#[]⟩) := HB5.out.2.at_ 2; have g0 := HB5.out.2.free 0; have g1 := HB5.out.2.free 1; have g2 := HB5.out.2.free 2; clear hb5))
  have hr6 := ((HB5.out.2.put 0 (.int .i64 9)).put 1 (.int .i64 ((ts.length : Int) + 1))).put 2 (.string ⟨#[]⟩)
  have y0 := hr6.at_ 0
  have y1 := hr6.at_ 1
  have y2 := hr6.at_ 2
  have hm6 := (((HS4.out.1.on HB5.out.1).putv HB5.out.2.lab 0 (.int .i64 9)).putv (HB5.out.2.put 0 _).lab 1 (.int .i64 ((ts.length : Int) + 1))).putv ((HB5.out.2.put 0 _).put 1 _).lab 2 (.string ⟨#[]⟩)
  have hvb : W.heap.size = vb := HW0.out.2
  have hA := HA.out
  have hA4 : A ≤ w4.heap.size := Nat.le_of_lt HS4.out.1.mm.alt
  have hb05 : Bk A W w5 := ((Bk.of_below (Nat.le_of_lt hA) HX.out.2).trans HB4.out).trans (Bk.of_below hA4 HB5.out.1)
  refine bodyPost_ret (v := valV (9, (ts.length : Int) + 1, ⟨#[]⟩)) (by simp [results, Tryz.results19, go_sem, y0, y1, y2]) rfl ⟨rfl, b, pv, F, hm6, ((hb05.bel.setCell (p := ⟨vb, 0, none⟩) (by show A ≤ vb; omega) _).setCell (p := ⟨vb, 1, none⟩) (by show A ≤ vb; omega) _).setCell (p := ⟨vb, 2, none⟩) (by show A ≤ vb; omega) _, fun k hl => ?_⟩
  have hk : k < vb := by rw [← hvb]; exact lab_lt hl
  have hne : ∀ (w9 : World) i u, (w9.setCell ⟨vb, i, none⟩ u).heap[k]? = w9.heap[k]? := fun w9 i u => Below.heap_setCell w9 ⟨vb, i, none⟩ u k (fun e => by have e : k = vb := e; omega)
  rw [hne, hne, hne]
  exact hb05.kv k hl
end
end Go.Proofs.YtgdkjkfbknbgkaaGreatDoor
