/- ShowKinds: the region with both values in one array on both sides. -/
import Derived.Test.YtgdkjkfbknbgkaaGreatDoorKk
namespace Go.Proofs.YtgdkjkfbknbgkaaGreatDoor
open Go Go.RowKit
attribute [local go_sem] Oper.semAt_some

theorem wanted_of {ops : Array Oper} {o : Oper} {j s : Nat} {tmps : Array Value} (hg : o.guard = some (j, true)) (hd : (ops[j]?).bind (·.dst) = some s) (ht : tmps[s]? = some (.bool true)) : Region.wanted o (yielded ops tmps) = true := by
  unfold Region.wanted yielded
  rw [hg]
  simp only [hd, Option.bind_some, ht]
  rfl
/-- Where the region stands. -/
structure RK (WD : World) (B h A m : Nat) (f : Nat → Int) (os : List OS) (v v2 : Vt) (x y : RVt) (d : Nat → Bool) (us : Nat → Value) (w : World) : Prop where
  kp : Kp arT WD w
  bel : Below B WD w
  m0 : d 29 = false → Y.MM w h A m f os
  m1 : d 29 = true → ∃ b ev, Y.MM w h A m f (os ++ [(b, objC 1 (f 2) false (.pointer none) ev)]) ∧ RowV w ev [v, v2]
  s28 : d 28 = true → ∃ g, us 28 = .slice (some ⟨g, 0, none⟩) 2 2 ∧ RowV w (.slice (some ⟨g, 0, none⟩) 2 2) [v, v2]
  s33 : d 33 = true → ∃ g, us 33 = .slice (some ⟨g, 0, none⟩) 2 2 ∧ RRowF (fun _ => True) w (us 33) [x, y]
  s34 : d 34 = true → d 33 = true ∧ us 34 = .agg (aObj (us 33))
  s35 : d 35 = true → d 33 = true ∧ ∃ g, us 35 = .pointer (some ⟨g, 0, none⟩) ∧ Box w g 79 (aObj (us 33))
  s36 : d 36 = true → d 35 = true ∧ us 36 = .agg #[.int .i64 9, .int .i64 0, .string ⟨#[]⟩, us 35]
section
variable {WD : World} {B h A m : Nat} {f : Nat → Int} {os : List OS} {v v2 : Vt} {x y : RVt} {d : Nat → Bool} {us : Nat → Value} {w w' : World}
theorem RRowF.kp {F : Nat → Prop} {ev : Value} {l : List RVt} (hr : RRowF F w ev l) (hk : Kp arT w w') : RRowF F w' ev l := (Pres.kp hk rfl rfl rfl).rrow hr (fun _ h => h)
theorem RK.rest (H : RK WD B h A m f os v v2 x y d us w) (i : Nat) (u : Value) (hi : d i = false) (hk : Kp arT w w') : (i ≠ 28 → upd d i true 28 = true → ∃ g, upd us i u 28 = .slice (some ⟨g, 0, none⟩) 2 2 ∧ RowV w' (.slice (some ⟨g, 0, none⟩) 2 2) [v, v2]) ∧ (i ≠ 33 → upd d i true 33 = true → ∃ g, upd us i u 33 = .slice (some ⟨g, 0, none⟩) 2 2 ∧ RRowF (fun _ => True) w' (upd us i u 33) [x, y]) ∧ (i ≠ 34 → upd d i true 34 = true → upd d i true 33 = true ∧ upd us i u 34 = .agg (aObj (upd us i u 33))) ∧ (i ≠ 35 → upd d i true 35 = true → upd d i true 33 = true ∧ ∃ g, upd us i u 35 = .pointer (some ⟨g, 0, none⟩) ∧ Box w' g 79 (aObj (upd us i u 33))) ∧ (i ≠ 36 → upd d i true 36 = true → upd d i true 35 = true ∧ upd us i u 36 = .agg #[.int .i64 9, .int .i64 0, .string ⟨#[]⟩, upd us i u 35]) := by
  have key : ∀ j, d j = true → upd d i true j = true ∧ upd us i u j = us j := fun j hj => by
    have : j ≠ i := fun e => by subst e; rw [hj] at hi; cases hi
    rw [upd_ne _ _ this, upd_ne _ _ this]
    exact ⟨hj, rfl⟩
  refine ⟨fun hn e => ?_, fun hn e => ?_, fun hn e => ?_, fun hn e => ?_, fun hn e => ?_⟩
  · rw [upd_ne _ _ (Ne.symm hn)] at e
    obtain ⟨g, h1, h2⟩ := H.s28 e
    rw [(key 28 e).2]
    exact ⟨g, h1, h2.kp hk rfl⟩
  · rw [upd_ne _ _ (Ne.symm hn)] at e
    obtain ⟨g, h1, h2⟩ := H.s33 e
    rw [(key 33 e).2]
    exact ⟨g, h1, h2.kp hk⟩
  · rw [upd_ne _ _ (Ne.symm hn)] at e
    obtain ⟨h1, h2⟩ := H.s34 e
    rw [(key 34 e).2, (key 33 h1).2]
    exact ⟨(key 33 h1).1, h2⟩
  · rw [upd_ne _ _ (Ne.symm hn)] at e
    obtain ⟨h1, g, h2, h3⟩ := H.s35 e
    rw [(key 35 e).2, (key 33 h1).2]
    exact ⟨(key 33 h1).1, g, h2, hk.box h3 rfl⟩
  · rw [upd_ne _ _ (Ne.symm hn)] at e
    obtain ⟨h1, h2⟩ := H.s36 e
    rw [(key 36 e).2, (key 35 h1).2]
    exact ⟨(key 35 h1).1, h2⟩
theorem RK.mm (H : RK WD B h A m f os v v2 x y d us w) (i : Nat) (h29 : i ≠ 29) (hb : Below w.heap.size w w') : (upd d i true 29 = false → Y.MM w' h A m f os) ∧ (upd d i true 29 = true → ∃ b ev, Y.MM w' h A m f (os ++ [(b, objC 1 (f 2) false (.pointer none) ev)]) ∧ RowV w' ev [v, v2]) := by
  refine ⟨fun e => ?_, fun e => ?_⟩
  · rw [upd_ne _ _ (Ne.symm h29)] at e
    exact (H.m0 e).on hb
  · rw [upd_ne _ _ (Ne.symm h29)] at e
    obtain ⟨b, ev, h1, h2⟩ := H.m1 e
    exact ⟨b, ev, h1.on hb, h2.on hb⟩
theorem RK.alt (H : RK WD B h A m f os v v2 x y d us w) : A < w.heap.size := by
  cases e : d 29 with
  | false => exact (H.m0 e).alt
  | true => obtain ⟨b, ev, hq, -⟩ := H.m1 e; exact hq.alt
theorem RK.below (H : RK WD B h A m f os v v2 x y d us w) (i : Nat) (u : Value) (hi : d i = false) (hn : i ≠ 28 ∧ i ≠ 29 ∧ i ≠ 33 ∧ i ≠ 34 ∧ i ≠ 35 ∧ i ≠ 36) (hB : B ≤ A) (hb : Below w.heap.size w w') : RK WD B h A m f os v v2 x y (upd d i true) (upd us i u) w' := by
  obtain ⟨q1, q2, q3, q4, q5⟩ := H.rest i u hi (Kp.of_below hb)
  obtain ⟨p1, p2⟩ := H.mm i hn.2.1 hb
  exact ⟨H.kp.trans (Kp.of_below hb), H.bel.trans (hb.mono (Nat.le_of_lt (Nat.lt_of_le_of_lt hB H.alt))), p1, p2, q1 hn.1, q2 hn.2.2.1, q3 hn.2.2.2.1, q4 hn.2.2.2.2.1, q5 hn.2.2.2.2.2⟩
theorem RK.pure (H : RK WD B h A m f os v v2 x y d us w) (i : Nat) (u : Value) (hi : d i = false) (hn : i ≠ 28 ∧ i ≠ 29 ∧ i ≠ 33 ∧ i ≠ 34 ∧ i ≠ 35 ∧ i ≠ 36) (hB : B ≤ A) : RK WD B h A m f os v v2 x y (upd d i true) (upd us i u) w := H.below i u hi hn hB (Below.refl _ _)
theorem RK.p28 (H : RK WD B h A m f os v v2 x y d us w) (hi : d 28 = false) (hB : B ≤ A) : RK WD B h A m f os v v2 x y (upd d 28 true) (upd us 28 (.slice (some ⟨w.heap.size, 0, none⟩) 2 2)) (w.alloc (.cells #[.int .i64 v.1, .int .i64 v.2.1, .string v.2.2, .int .i64 v2.1, .int .i64 v2.2.1, .string v2.2.2] 30)) := by
  have hb : Below w.heap.size w (w.alloc (.cells #[.int .i64 v.1, .int .i64 v.2.1, .string v.2.2, .int .i64 v2.1, .int .i64 v2.2.1, .string v2.2.2] 30)) := (Below.refl _ _).alloc (Nat.le_refl _) _
  obtain ⟨q1, q2, q3, q4, q5⟩ := H.rest 28 (.slice (some ⟨w.heap.size, 0, none⟩) 2 2) hi (Kp.of_below hb)
  obtain ⟨p1, p2⟩ := H.mm 28 (by decide) hb
  exact ⟨H.kp.trans (Kp.of_below hb), H.bel.trans (hb.mono (Nat.le_of_lt (Nat.lt_of_le_of_lt hB H.alt))), p1, p2, fun _ => ⟨w.heap.size, upd_same _ _ _, RowV.box [v, v2] 2 rfl (Box.new w 30 _)⟩, q2 (by decide), q3 (by decide), q4 (by decide), q5 (by decide)⟩
theorem RK.p29 (H : RK WD B h A m f os v v2 x y d us w) (u : Value) (hi : d 29 = false) (hB : B ≤ A) {b : Nat} {ev : Value} (hm : Y.MM w' h A m f (os ++ [(b, objC 1 (f 2) false (.pointer none) ev)])) (hr : RowV w' ev [v, v2]) (hk : Kp arT w w') (hb : Below A w w') : RK WD B h A m f os v v2 x y (upd d 29 true) (upd us 29 u) w' := by
  obtain ⟨q1, q2, q3, q4, q5⟩ := H.rest 29 u hi hk
  exact ⟨H.kp.trans hk, H.bel.trans (hb.mono hB), fun e => (by rw [upd_same] at e; cases e), fun _ => ⟨b, ev, hm, hr⟩, q1 (by decide), q2 (by decide), q3 (by decide), q4 (by decide), q5 (by decide)⟩
theorem RK.p33 (H : RK WD B h A m f os v v2 x y d us w) (hi : d 33 = false) (hB : B ≤ A) : RK WD B h A m f os v v2 x y (upd d 33 true) (upd us 33 (.slice (some ⟨w.heap.size, 0, none⟩) 2 2)) (w.alloc (.cells #[.int .i64 x.1.1, .int .i64 x.1.2.1, .string x.1.2.2, .pointer x.2, .int .i64 y.1.1, .int .i64 y.1.2.1, .string y.1.2.2, .pointer y.2] 33)) := by
  have hb : Below w.heap.size w (w.alloc (.cells #[.int .i64 x.1.1, .int .i64 x.1.2.1, .string x.1.2.2, .pointer x.2, .int .i64 y.1.1, .int .i64 y.1.2.1, .string y.1.2.2, .pointer y.2] 33)) := (Below.refl _ _).alloc (Nat.le_refl _) _
  obtain ⟨q1, q2, q3, q4, q5⟩ := H.rest 33 (.slice (some ⟨w.heap.size, 0, none⟩) 2 2) hi (Kp.of_below hb)
  obtain ⟨p1, p2⟩ := H.mm 33 (by decide) hb
  have hbx := Box.new w 33 #[.int .i64 x.1.1, .int .i64 x.1.2.1, .string x.1.2.2, .pointer x.2, .int .i64 y.1.1, .int .i64 y.1.2.1, .string y.1.2.2, .pointer y.2]
  refine ⟨H.kp.trans (Kp.of_below hb), H.bel.trans (hb.mono (Nat.le_of_lt (Nat.lt_of_le_of_lt hB H.alt))), p1, p2, q1 (by decide), fun _ => ⟨w.heap.size, upd_same _ _ _, ?_⟩, q3 (by decide), q4 (by decide), q5 (by decide)⟩
  rw [upd_same]
  refine ⟨some ⟨w.heap.size, 0, none⟩, 2, rfl, fun e => (by cases e), fun ad had => ⟨w.heap.size, by injection had with had; exact had.symm, trivial, hbx.lab, fun j u hj => ?_⟩⟩
  rw [hbx.at_ j, ← Array.getElem?_toList]
  exact hj
theorem RK.p34 (H : RK WD B h A m f os v v2 x y d us w) (hi : d 34 = false) (h33 : d 33 = true) : RK WD B h A m f os v v2 x y (upd d 34 true) (upd us 34 (.agg (aObj (us 33)))) w := by
  obtain ⟨q1, q2, q3, q4, q5⟩ := H.rest 34 (.agg (aObj (us 33))) hi (Kp.refl)
  obtain ⟨p1, p2⟩ := H.mm 34 (by decide) (Below.refl _ _)
  refine ⟨H.kp, H.bel, p1, p2, q1 (by decide), q2 (by decide), fun _ => ?_, q4 (by decide), q5 (by decide)⟩
  rw [upd_same, upd_ne _ _ (by decide), upd_ne _ _ (by decide)]
  exact ⟨h33, rfl⟩
theorem RK.p35 (H : RK WD B h A m f os v v2 x y d us w) (hi : d 35 = false) (h33 : d 33 = true) (hB : B ≤ A) (e : Value) (he : us 33 = e) : RK WD B h A m f os v v2 x y (upd d 35 true) (upd us 35 (.pointer (some ⟨w.heap.size, 0, none⟩))) (w.alloc (.cells (aObj e) 79)) := by
  have hb : Below w.heap.size w (w.alloc (.cells (aObj e) 79)) := (Below.refl _ _).alloc (Nat.le_refl _) _
  obtain ⟨q1, q2, q3, q4, q5⟩ := H.rest 35 (.pointer (some ⟨w.heap.size, 0, none⟩)) hi (Kp.of_below hb)
  obtain ⟨p1, p2⟩ := H.mm 35 (by decide) hb
  refine ⟨H.kp.trans (Kp.of_below hb), H.bel.trans (hb.mono (Nat.le_of_lt (Nat.lt_of_le_of_lt hB H.alt))), p1, p2, q1 (by decide), q2 (by decide), q3 (by decide), fun _ => ?_, q5 (by decide)⟩
  rw [upd_same, upd_ne _ _ (by decide), upd_ne _ _ (by decide), he]
  exact ⟨h33, w.heap.size, rfl, Box.new _ _ _⟩
theorem RK.p36 (H : RK WD B h A m f os v v2 x y d us w) (hi : d 36 = false) (h35 : d 35 = true) : RK WD B h A m f os v v2 x y (upd d 36 true) (upd us 36 (.agg #[.int .i64 9, .int .i64 0, .string ⟨#[]⟩, us 35])) w := by
  obtain ⟨q1, q2, q3, q4, q5⟩ := H.rest 36 (.agg #[.int .i64 9, .int .i64 0, .string ⟨#[]⟩, us 35]) hi (Kp.refl)
  obtain ⟨p1, p2⟩ := H.mm 36 (by decide) (Below.refl _ _)
  refine ⟨H.kp, H.bel, p1, p2, q1 (by decide), q2 (by decide), q3 (by decide), q4 (by decide), fun _ => ?_⟩
  rw [upd_same, upd_ne _ _ (by decide), upd_ne _ _ (by decide)]
  exact ⟨h35, rfl⟩
theorem RK.start (hm : Y.MM WD h A m f os) : RK WD B h A m f os v v2 x y (fun _ => false) us WD :=
  ⟨Kp.refl, Below.refl _ _, fun _ => hm, fun e => (by cases e), fun e => (by cases e), fun e => (by cases e), fun e => (by cases e), fun e => (by cases e), fun e => (by cases e)⟩
end
/-- Both values in one array: what is shown of it by the program. -/
theorem two_shown {F : Nat → Prop} {W w' : World} {h A m : Nat} {f : Nat → Int} {os : List OS} {v v2 : Vt} {x y : RVt} {s t : ByteArray} {b : Nat} {ev : Value} (hs1 : s.size ≤ 1000000) (ht1 : t.size ≤ 1000000) (H : Y.MM w' h A m f (os ++ [(b, objC 1 (f 2) false (.pointer none) ev)])) (hr : RowV w' ev [v, v2]) (hT : M.Tb w') (hk : Kp arT W w') (hs : Sh F W os 2 v x s) (ht : Sh F W os 2 v2 y t) : Calls Tryz.prog 11 #[.pointer (some ⟨m, 0, none⟩), valV (9, (os.length : Int) + 1, ⟨#[]⟩)] w' fun e w9 => e = .returned (.string (arrS [s, t])) ∧ Below w'.heap.size w' w9 := by
  have hpre : ∀ (i : Nat) (o : OS), os[i]? = some o → (os ++ [(b, objC 1 (f 2) false (.pointer none) ev)])[i]? = some o := fun i o hi => by
    rw [List.getElem?_append_left (List.getElem?_eq_some_iff.1 hi).1]
    exact hi
  have h1 := Sh.shown H hT 2 v x s (Sh.go (Pres.kp hk rfl rfl rfl) hpre (fun _ h => h) 2 v x s hs)
  have h2 := Sh.shown H hT 2 v2 y t (Sh.go (Pres.kp hk rfl rfl rfl) hpre (fun _ h => h) 2 v2 y t ht)
  have hi : (os ++ [(b, objC 1 (f 2) false (.pointer none) ev)])[os.length]? = some (b, objC 1 (f 2) false (.pointer none) ev) := by
    rw [List.getElem?_append_right (Nat.le_refl _), Nat.sub_self]
    rfl
  have hob := H.ob (b, objC 1 (f 2) false (.pointer none) ev) (List.mem_of_getElem? hi)
  rw [Y.oty_obj (by show (16 : Nat) ≠ 3; decide)] at hob
  refine show_shown H.cell0 H.mb.lt _ _ (.inr ⟨[v, v2], [s, t], ⟨rfl, by simp, b, objC 1 (f 2) false (.pointer none) ev, ev, fun W2 hb => (H.on hb).obj os.length _ hi (by show (16 : Nat) ≠ 3; decide), hob, rfl, rfl, hr⟩, rfl, ?_, fun i z p hz hp => ?_, rfl⟩)
  · have := join_len3 [s, t] (by simp) (fun p hp => by simp at hp; rcases hp with rfl | rfl <;> assumption)
    omega
  · match i, hz, hp with
    | 0, hz, hp => cases hz; cases hp; exact h1
    | 1, hz, hp => cases hz; cases hp; exact h2
    | i + 2, hz, hp => simp at hz
/-- Both values in one array: what is shown of it by the document. -/
theorem two_rshow {F : Nat → Prop} {W w' : World} {os : List OS} {v v2 : Vt} {x y : RVt} {s t : ByteArray} {g : Nat} {ev : Value} (hs1 : s.size ≤ 1000000) (ht1 : t.size ≤ 1000000) (hbx : Box w' g 79 (aObj ev)) (hr : RRowF (fun _ => True) w' ev [x, y]) (hT : M.Tb w') (hk : Kp arT W w') (hs : Sh F W os 2 v x s) (ht : Sh F W os 2 v2 y t) : Calls Tryz.prog 12 #[RV (9, 0, ⟨#[]⟩) (some ⟨g, 0, none⟩), .int .i64 0] w' fun e w9 => e = .returned (.string (arrS [s, t])) ∧ Below w'.heap.size w' w9 := by
  have h1 := fun W2 hb => Sh.rshow hT 2 (by decide) v x s (Sh.go (Pres.kp hk rfl rfl rfl) (fun _ _ h => h) (fun _ h => h) 2 v x s hs) W2 hb
  have h2 := fun W2 hb => Sh.rshow hT 2 (by decide) v2 y t (Sh.go (Pres.kp hk rfl rfl rfl) (fun _ _ h => h) (fun _ h => h) 2 v2 y t ht) W2 hb
  have hp2 : ∀ p ∈ [s, t], p.size ≤ 1000000 := fun p hp => by simp at hp; rcases hp with rfl | rfl <;> assumption
  refine rshow_obj (9, 0, ⟨#[]⟩) (some ⟨g, 0, none⟩) 0 rfl _ w' ⟨fun W2 hb2 => ?_⟩
  have hbx2 := hbx.below hb2
  refine robj_arr g 0 (by decide) [x, y] [s, t] rfl (by simp) ev W2 hbx2.lt (hbx2.at_ 0) (hbx2.at_ 3) ((Pres.on hb2).rrow hr (fun _ h => h)).row (accS_size [s, t] (by simp) hp2) (fun p hp => Nat.le_trans (hp2 p hp) (by decide)) (fun j z p hj hp W3 hb3 => ?_)
  have hb := hb2.trans (hb3.mono hb2.size)
  match j, hj, hp with
  | 0, hj, hp => cases hj; cases hp; exact h1 W3 hb
  | 1, hj, hp => cases hj; cases hp; exact h2 W3 hb
  | j + 2, hj, hp => simp at hj
end Go.Proofs.YtgdkjkfbknbgkaaGreatDoor
