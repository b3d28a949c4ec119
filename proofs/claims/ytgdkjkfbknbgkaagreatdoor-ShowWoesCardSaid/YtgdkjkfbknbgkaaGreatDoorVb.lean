/- Package vm: how a machine lies; the law's machine. -/
import Derived.Test.YtgdkjkfbknbgkaaGreatDoorVa
import Derived.Test.YtgdkjkfbknbgkaaGreatDoorHb
import Derived.Test.YtgdkjkfbknbgkaaGreatDoorIn
namespace Go.Proofs.YtgdkjkfbknbgkaaGreatDoor
open Go Go.RowKit

abbrev hostV : Value := .iface 85 (.agg #[])
/-- A machine's cells: its prototypes are f 0 to f 20. -/
abbrev machV (hp : Value) (f : Nat → Int) (hv : Value) : Array Value := #[hp, .int .i64 (f 0), .int .i64 (f 1), .int .i64 (f 2), .int .i64 (f 3), .int .i64 (f 4), .int .i64 (f 5), .int .i64 (f 6), .int .i64 (f 7), .int .i64 (f 8), .int .i64 (f 9), .int .i64 (f 10), .int .i64 (f 11), .int .i64 (f 12), .int .i64 (f 13), .int .i64 (f 14), .int .i64 (f 15), .int .i64 (f 16), .int .i64 (f 17), .int .i64 (f 18), .int .i64 (f 19), .int .i64 (f 20), .int .i64 0, .int .i64 0, .int .i64 0, .string ⟨#[]⟩, hv, .int .i64 4194304, .int .i64 20, .int .i64 10000, .slice none 0 0, .bool false, .slice none 0 0, .int .i64 0, .slice none 0 0, .int .i64 0, .int .i64 0, .slice none 0 0, .slice none 0 0, .slice none 0 0, .slice none 0 0, .bool false, .int .i64 0, .slice none 0 0, .slice none 0 0, .slice none 0 0, .slice none 0 0, .map none]
theorem machV_0 (hp hv : Value) : machV hp (fun _ => 0) hv = machC hp hv := rfl
theorem machV_at (hp hv : Value) (f : Nat → Int) : ∀ k, k < 21 → (machV hp f hv)[1 + k]? = some (.int .i64 (f k))
  | 0, _ => rfl
  | 1, _ => rfl
  | 2, _ => rfl
  | 3, _ => rfl
  | 4, _ => rfl
  | 5, _ => rfl
  | 6, _ => rfl
  | 7, _ => rfl
  | 8, _ => rfl
  | 9, _ => rfl
  | 10, _ => rfl
  | 11, _ => rfl
  | 12, _ => rfl
  | 13, _ => rfl
  | 14, _ => rfl
  | 15, _ => rfl
  | 16, _ => rfl
  | 17, _ => rfl
  | 18, _ => rfl
  | 19, _ => rfl
  | 20, _ => rfl
  | k + 21, h => absurd h (by omega)
theorem machV_put (hp hv : Value) (f : Nat → Int) (x : Int) : ∀ k, k < 21 → (machV hp f hv).setIfInBounds (1 + k) (.int .i64 x) = machV hp (fun j => if j = k then x else f j) hv
  | 0, _ => rfl
  | 1, _ => rfl
  | 2, _ => rfl
  | 3, _ => rfl
  | 4, _ => rfl
  | 5, _ => rfl
  | 6, _ => rfl
  | 7, _ => rfl
  | 8, _ => rfl
  | 9, _ => rfl
  | 10, _ => rfl
  | 11, _ => rfl
  | 12, _ => rfl
  | 13, _ => rfl
  | 14, _ => rfl
  | 15, _ => rfl
  | 16, _ => rfl
  | 17, _ => rfl
  | 18, _ => rfl
  | 19, _ => rfl
  | 20, _ => rfl
  | k + 21, h => absurd h (by omega)
theorem lab_lt {w : World} {k : Nat} {t : TypeId} (h : Lab w k t) : k < w.heap.size := by
  obtain ⟨cs, fr, h⟩ := h
  exact lt_of_block h
/-- What stays: all blocks whose label is none of ts. -/
def Kp (ts : List TypeId) (w w' : World) : Prop := ∀ k t, Lab w k t → ts.contains t = false → w'.heap[k]? = w.heap[k]?
section
variable {ts : List TypeId} {w w1 w2 : World}
theorem Kp.refl : Kp ts w w := fun _ _ _ _ => rfl
theorem Kp.trans (h : Kp ts w w1) (h2 : Kp ts w1 w2) : Kp ts w w2 := fun k t hl ht => by
  have e := h k t hl ht
  obtain ⟨cs, fr, hb⟩ := hl
  exact (h2 k t ⟨cs, fr, e.trans hb⟩ ht).trans e
theorem Kp.of_below (h : Below w.heap.size w w1) : Kp ts w w1 := fun k t hl _ => by
  obtain ⟨cs, fr, hb⟩ := hl
  exact h.block k (lt_of_block hb)
theorem Kp.box (h : Kp ts w w1) {g : Nat} {t : TypeId} {cs : Array Value} (hb : Box w g t cs) (ht : ts.contains t = false) : Box w1 g t cs := (h g t hb.lab ht).trans hb
theorem Kp.put {g : Nat} {t : TypeId} (hb : Lab w g t) (ht : ts.contains t = true) (i : Nat) (u : Value) : Kp ts w (w.setCell ⟨g, i, none⟩ u) := fun k t2 hl h2 => Below.heap_setCell w ⟨g, i, none⟩ u k (fun e => by
  have e : k = g := e
  subst e
  by_cases c : t2 = t
  · subst c; rw [ht] at h2; cases h2
  · exact hl.ne hb c rfl)
theorem Kp.mono {ts2 : List TypeId} (h : Kp ts w w1) (hs : ∀ t, ts2.contains t = false → ts.contains t = false) : Kp ts2 w w1 := fun k t hl ht => h k t hl (hs t ht)
end
abbrev arT : List TypeId := [155, 137, 3]
/-- An object: its block and its cells. -/
abbrev OS := Nat × Array Value
/-- A machine whose heap has these objects, none freed. -/
structure MM (W : World) (h A m : Nat) (f : Nat → Int) (os : List OS) : Prop where
  hp : ∃ cv fv rv, HpAt W A h A cv fv rv ⟨os.map fun o => some (40, o.1), [], os.length, []⟩
  mb : Box W m 61 (machV (.pointer (some ⟨h, 0, none⟩)) f hostV)
  ob : ∀ o ∈ os, Box W o.1 99 o.2
  am : A ≤ m
  al : ∀ o ∈ os, A ≤ o.1
  nd : (os.map Prod.fst).Nodup
/-- The arena's own blocks, as the world has them. -/
def FO (W : World) (A k : Nat) : Prop := ∃ cv fv rv c, Box W A 155 #[cv, fv, c, rv] ∧ AFoot A cv fv rv k
theorem FO.of {W : World} {A B : Nat} {cv fv rv : Value} {d : AD} (h : ArAt W B A cv fv rv d) (k : Nat) : FO W A k ↔ AFoot A cv fv rv k := by
  constructor
  · rintro ⟨cv', fv', rv', c, hb, hk⟩
    have e := (show W.heap[A]? = _ from h.box).symm.trans hb
    injection e with e
    injection e with e
    have e := congrArg Array.toList e
    injection e with e1 e
    injection e with e2 e
    injection e with _ e
    injection e with e3 _
    subst e1 e2 e3
    exact hk
  · exact fun hk => ⟨cv, fv, rv, _, h.box, hk⟩
/-- What is not the arena's own stays; what is its own then was, or is new. -/
structure Kq (A : Nat) (W W' : World) : Prop where
  blk : ∀ k, k < W.heap.size → ¬ FO W A k → W'.heap[k]? = W.heap[k]?
  foot : ∀ k, FO W' A k → FO W A k ∨ W.heap.size ≤ k
  size : W.heap.size ≤ W'.heap.size
theorem Kq.trans {A : Nat} {W W1 W2 : World} (h : Kq A W W1) (h2 : Kq A W1 W2) : Kq A W W2 :=
  ⟨fun k hk hn => (h2.blk k (Nat.lt_of_lt_of_le hk h.size) (fun hf => (h.foot k hf).elim hn (fun h9 => by omega))).trans (h.blk k hk hn), fun k hk => (h2.foot k hk).elim (h.foot k) (fun h9 => .inr (Nat.le_trans h.size h9)), Nat.le_trans h.size h2.size⟩
theorem Kq.of_below {A : Nat} {W W1 : World} (hA : A < W.heap.size) (h : Below W.heap.size W W1) : Kq A W W1 :=
  ⟨fun k hk _ => h.block k hk, fun k hk => .inl (by
    obtain ⟨cv, fv, rv, c, hb, hk⟩ := hk
    exact ⟨cv, fv, rv, c, (h.block A hA).symm.trans hb, hk⟩), h.size⟩
theorem Kq.new {A g : Nat} {W W1 : World} (h : Kq A W W1) (hA : A < W.heap.size) (hg : W.heap.size ≤ g) (i : Nat) (u : Value) : Kq A W (W1.setCell ⟨g, i, none⟩ u) := by
  have hne : ∀ k, k < W.heap.size → (W1.setCell ⟨g, i, none⟩ u).heap[k]? = W1.heap[k]? := fun k hk => Below.heap_setCell W1 ⟨g, i, none⟩ u k (fun e => by have e : k = g := e; omega)
  refine ⟨fun k hk hn => (hne k hk).trans (h.blk k hk hn), fun k hk => h.foot k ?_, by simpa [World.setCell] using h.size⟩
  obtain ⟨cv, fv, rv, c, hb, hk⟩ := hk
  exact ⟨cv, fv, rv, c, (hne A hA).symm.trans hb, hk⟩
section
variable {W W' : World} {h A m : Nat} {f : Nat → Int} {os : List OS}
theorem MM.alt (H : MM W h A m f os) : A < W.heap.size := by
  obtain ⟨cv, fv, rv, hp⟩ := H.hp
  exact hp.ar.box.lt
theorem MM.on (H : MM W h A m f os) (hb : Below W.heap.size W W') : MM W' h A m f os := by
  obtain ⟨⟨cv, fv, rv, hp⟩, mb, ob, am, al, nd⟩ := H
  exact ⟨⟨cv, fv, rv, hp.hb.below hb, hp.ar.on hb, hp.hB⟩, mb.below hb, fun o ho => (ob o ho).below hb, am, al, nd⟩
/-- A new object. -/
theorem MM.make (H : MM W h A m f os) (cl proto : Int) (hl : os.length < 1000000) : Calls Tryz.prog 13 #[.pointer (some ⟨h, 0, none⟩), .int .i64 cl, .int .i64 proto] W fun e w' => e = .returned (.tuple #[.int .i64 ((os.length : Int) + 1), .pointer (some ⟨W.heap.size, 0, none⟩)]) ∧ MM w' h A m f (os ++ [(W.heap.size, obj0 cl proto)]) ∧ Below A W w' ∧ Kp arT W w' ∧ Kq A W w' := by
  obtain ⟨⟨cv, fv, rv, hp⟩, mb, ob, am, al, nd⟩ := H
  refine (heap_make hp cl proto rfl (by show os.length < _; omega) (by rw [List.length_map]; omega)).mono ?_
  rintro e w' ⟨he, hbo, ht, cv', fv', rv', hp', hF⟩
  rw [show (⟨os.map fun o => some (40, o.1), [], os.length, []⟩ : AD).cells.length = os.length from List.length_map ..] at he
  have keep : ∀ b (t : TypeId) cs, Box W b t cs → t ≠ 155 → t ≠ 137 → t ≠ 3 → Box w' b t cs := fun b t cs hx e1 e2 e3 => hx.touch ht (AFoot.lab hp.ar hx.lab e1 e2 e3)
  refine ⟨he, ⟨⟨cv', fv', rv', ?_⟩, keep _ _ _ mb (by decide) (by decide) (by decide), fun o ho => ?_, am, fun o ho => ?_, ?_⟩, ht.below (Nat.le_of_lt (Nat.lt_of_le_of_lt hp.ar.ha hp.ar.box.lt)) (fun k hk => (AFoot.lt hp.ar hk).1), fun k t hl ht2 => ht.block k (lab_lt hl) (AFoot.lab hp.ar hl (fun e => (by subst e; cases ht2)) (fun e => (by subst e; cases ht2)) (fun e => (by subst e; cases ht2))), ⟨fun k hk hn => ht.block k hk (fun h9 => hn ((FO.of hp.ar k).2 h9)), fun k hk => (hF k ((FO.of hp'.ar k).1 hk)).imp (FO.of hp.ar k).2 id, ht.size⟩⟩
  · rw [List.map_append, List.length_append]
    exact hp'
  · rcases List.mem_append.1 ho with h9 | h9
    · exact keep _ _ _ (ob o h9) (by decide) (by decide) (by decide)
    · rw [List.mem_singleton.1 h9]
      exact hbo
  · rcases List.mem_append.1 ho with h9 | h9
    · exact al o h9
    · rw [List.mem_singleton.1 h9]
      exact Nat.le_of_lt (Nat.lt_of_le_of_lt am mb.lt)
  · rw [List.map_append, List.nodup_append]
    refine ⟨nd, by simp, fun x hx y hy e => ?_⟩
    obtain ⟨o, ho, rfl⟩ := List.mem_map.1 hx
    have := (ob o ho).lt
    have : y = W.heap.size := by simpa using hy
    omega
/-- A prototype's cell is written. -/
theorem MM.proto (H : MM W h A m f os) (k : Nat) (hk : k < 21) (x : Int) : MM (W.setCell ⟨m, 1 + k, none⟩ (.int .i64 x)) h A m (fun j => if j = k then x else f j) os := by
  obtain ⟨⟨cv, fv, rv, hp⟩, mb, ob, am, al, nd⟩ := H
  have ht : Touch (fun b => b = m) W (W.setCell ⟨m, 1 + k, none⟩ (.int .i64 x)) := Touch.put (S := fun b => b = m) rfl _ _
  refine ⟨⟨cv, fv, rv, hp.hb.touch ht (fun e => hp.hb.lab.ne mb.lab (by decide) e), hp.ar.touch ht (fun b hb e => ?_), hp.hB⟩, ?_, fun o ho => (ob o ho).touch ht (fun e => (ob o ho).lab.ne mb.lab (by decide) e), am, al, nd⟩
  · subst e
    exact AFoot.lab hp.ar mb.lab (by decide) (by decide) (by decide) hb
  · have := mb.put (1 + k) (.int .i64 x)
    rw [machV_put _ _ _ _ k hk] at this
    exact this
theorem MM.obj (H : MM W h A m f os) (i : Nat) (o : OS) (ho : os[i]? = some o) : Calls Tryz.prog 26 #[.pointer (some ⟨h, 0, none⟩), .int .i64 ((i : Int) + 1)] W fun e w' => e = .returned (.pointer (some ⟨o.1, 0, none⟩)) ∧ w' = W := by
  obtain ⟨⟨cv, fv, rv, hp⟩, mb, ob, am, al, nd⟩ := H
  refine obj_some hp _ o.1 ?_
  have hi : i < os.length := (List.getElem?_eq_some_iff.1 ho).1
  unfold AD.get
  rw [if_pos ⟨by omega, by show (i : Int) + 1 ≤ ((os.map _).length : Nat); rw [List.length_map]; omega⟩, show ((i : Int) + 1 - 1).toNat = i by omega]
  show (os.map _)[i]?.getD none = _
  rw [List.getElem?_map, ho]
  rfl
end
def prF (i : Nat) : Nat → Int := fun k => if k < i then (k : Int) + 1 else 0
theorem prF_next (i : Nat) : (fun j => if j = i then ((i : Int) + 1) else prF i j) = prF (i + 1) := by
  funext j
  unfold prF
  by_cases e : j = i
  · subst e
    rw [if_pos rfl, if_pos (by omega)]
  · rw [if_neg e]
    by_cases h : j < i
    · rw [if_pos h, if_pos (by omega)]
    · rw [if_neg h, if_neg (by omega)]
/-- The prototypes' objects. -/
def McSt (h A m i : Nat) (os : List OS) (WD : World) : Nat → (Nat → Value) → World → Prop
  | 0 => fun _ w => w = WD
  | 1 => fun _ w => MM w h A m (prF i) (os ++ [(WD.heap.size, obj0 0 0)]) ∧ Below A WD w
  | _ => fun _ w => MM w h A m (prF (i + 1)) (os ++ [(WD.heap.size, obj0 0 0)]) ∧ Below A WD w
structure PrL (w W : World) (h A m i : Nat) (os : List OS) : Prop where
  mm : MM W h A m (prF i) os
  len : os.length = i
  pl : ∀ o ∈ os, o.2 = obj0 0 0
  bel : Below w.heap.size w W
  lo : w.heap.size ≤ A
theorem PrL.next {w WD W : World} {h A m i : Nat} {os : List OS} (H : PrL w WD h A m i os) (hm : MM W h A m (prF (i + 1)) (os ++ [(WD.heap.size, obj0 0 0)])) (hb : Below A WD W) : PrL w W h A m (i + 1) (os ++ [(WD.heap.size, obj0 0 0)]) := by
  refine ⟨hm, by rw [List.length_append, H.len]; rfl, fun o ho => ?_, H.bel.trans (hb.mono H.lo), H.lo⟩
  rcases List.mem_append.1 ho with h9 | h9
  · exact H.pl o h9
  · rw [List.mem_singleton.1 h9]
set_option maxHeartbeats 4000000 in
set_option maxRecDepth 100000 in
theorem machine_any (w : World) : Calls Tryz.prog 9 #[] w fun e w' => ∃ h A m os, e = .returned (.pointer (some ⟨m, 0, none⟩)) ∧ PrL w w' h A m 21 os := by
  have HVN := Veil.mk (vm_new w)
  go_enter Tryz.func9, Tryz.ntmps9
  go_upto_region 2 with (go_at_call 25; ((with_reducible refine HVN.out.mono ?_); rintro e w1 ⟨h, A, m, rfl, hA, hm, hp1, hx1, hb1⟩))
  have H0 : Veil (PrL w w1 h A m 0 []) := ⟨⟨⟨⟨_, _, _, hp1⟩, by rw [show prF 0 = fun _ => 0 from (by funext k; unfold prF; rw [if_neg (by omega)]), machV_0]; exact hx1, fun o ho => (by cases ho), hm, fun o ho => (by cases ho), by simp⟩, rfl, fun o ho => (by cases ho), hb1, hA⟩⟩
  have c0 : w1.cell? ⟨m, 0, none⟩ = some (.pointer (some ⟨h, 0, none⟩)) := hx1.at_ 0
  clear hp1 hb1 hA hm hx1 HVN
  go_wp2
  clear c0
  go_loopw [17] (fun i wr => ∃ (k : Nat) (os : List OS), k ≤ 21 ∧ i = .int .i64 (k : Int) ∧ PrL w wr h A m k os) (fun i _ => 21 - (intOf i).toNat)
  case atStart => exact ⟨0, [], by omega, rfl, H0.out⟩
  case round =>
    clear H0
    obtain ⟨i, os, hi, rfl, hpl⟩ := hrel
    have hi0 : (0 : Int) ≤ (i : Int) := by omega
    by_cases hlt : i < 21
    · have hlt' : (i : Int) < 21 := by omega
      have hpl2 := Veil.mk hpl
      clear hpl hi
      go_upto_region 7 with (fail)
      obtain ⟨WD, hWD⟩ : ∃ WD, wr.drew = WD := ⟨_, rfl⟩
      have HPD : Veil (PrL w WD h A m i os) := ⟨by rw [← hWD]; exact ⟨hpl2.out.mm.on (Below.refl _ _).drew, hpl2.out.len, hpl2.out.pl, blw2 hpl2.out.bel (Below.refl _ _).drew, hpl2.out.lo⟩⟩
      have HMA : Veil (Calls Tryz.prog 13 #[.pointer (some ⟨h, 0, none⟩), .int .i64 0, .int .i64 0] WD fun e w' => e = .returned (.tuple #[.int .i64 ((i : Int) + 1), .pointer (some ⟨WD.heap.size, 0, none⟩)]) ∧ MM w' h A m (prF i) (os ++ [(WD.heap.size, obj0 0 0)]) ∧ Below A WD w') := ⟨by
        refine (HPD.out.mm.make 0 0 (by rw [HPD.out.len]; omega)).mono ?_
        rintro e w' ⟨he, h1, h2, -⟩
        rw [HPD.out.len] at he
        exact ⟨he, h1, h2⟩⟩
      have HWD := Veil.mk hWD
      clear hWD hpl2
      refine wp_region_chain (some (· = .pointer (some ⟨m, 0, none⟩)) :: some (· = .int .i64 (i : Int)) :: some (· = .pointer (some ⟨m, 0, none⟩)) :: some (· = .pointer (some ⟨m, 0, none⟩)) :: some (· = .pointer (some ⟨m, 0, none⟩)) :: some (· = .pointer (some ⟨h, 0, none⟩)) :: some (· = (.tuple #[.int .i64 ((i : Int) + 1), .pointer (some ⟨WD.heap.size, 0, none⟩)])) :: some (· = (.tuple #[.int .i64 ((i : Int) + 1), .pointer (some ⟨WD.heap.size, 0, none⟩)])) :: some (· = .int .i64 ((i : Int) + 1)) :: some (· = .pointer (some ⟨WD.heap.size, 0, none⟩)) :: some (· = .pointer (some ⟨m, 0, none⟩)) :: some (· = .pointer (some ⟨m, 1, none⟩)) :: some (· = .pointer (some ⟨m, 1 + i, none⟩)) :: none :: [] : List (Option (Value → Prop))) (LPh [6, 13] (McSt h A m i os WD)) [some 21, some 22, some 23, some 24, some 25, some 26, some 27, some 20, some 28, some 29, some 30, some 31, some 32, none] (curV' _ [some 21, some 22, some 23, some 24, some 25, some 26, some 27, some 20, some 28, some 29, some 30, some 31, some 32, none]) (by kernel_rfl) rfl rfl (puts_cur _ _) (LPh.start (show wr.drew = WD from HWD.out)) ?_ (by kernel_rfl) ?_
      · refine Steps.cons rfl (fun bb aa w' hbs hb0 hbp hI K hK => ?_) ?_
        · obtain ⟨us, hus, ha, hI⟩ := hI
          obtain ⟨u0, u1, u2, u3, u4, u5, u6, u7, u8, u9, u10, u11, u12, u13, rfl⟩ := lenA14 hus
          have HI := Veil.mk hI
          clear hI
          rw [ha]
          simp only [puts, setAll, List.setIfInBounds_toArray, List.set_cons_zero, List.set_cons_succ]
          go_simp
          exact hK _ _ (chain_step HI.out hus hbs 0 _ (by show 0 < 14; decide) rfl hbp (val_of rfl rfl) (HI.out.ph.step 0 _ (by decide) (by decide)) (by simp only [puts, setAll, List.set_cons_zero, List.set_cons_succ, List.setIfInBounds_toArray]))
        refine Steps.cons rfl (fun bb aa w' hbs hb0 hbp hI K hK => ?_) ?_
        · obtain ⟨us, hus, ha, hI⟩ := hI
          obtain ⟨u0, u1, u2, u3, u4, u5, u6, u7, u8, u9, u10, u11, u12, u13, rfl⟩ := lenA14 hus
          have HI := Veil.mk hI
          clear hI
          rw [ha]
          simp only [puts, setAll, List.setIfInBounds_toArray, List.set_cons_zero, List.set_cons_succ]
          go_simp
          exact hK _ _ (chain_step HI.out hus hbs 1 _ (by show 1 < 14; decide) rfl hbp (val_of rfl rfl) (HI.out.ph.step 1 _ (by decide) (by decide)) (by simp only [puts, setAll, List.set_cons_zero, List.set_cons_succ, List.setIfInBounds_toArray]))
        refine Steps.cons rfl (fun bb aa w' hbs hb0 hbp hI K hK => ?_) ?_
        · obtain ⟨us, hus, ha, hI⟩ := hI
          obtain ⟨u0, u1, u2, u3, u4, u5, u6, u7, u8, u9, u10, u11, u12, u13, rfl⟩ := lenA14 hus
          have HI := Veil.mk hI
          clear hI
          rw [ha]
          simp only [puts, setAll, List.setIfInBounds_toArray, List.set_cons_zero, List.set_cons_succ]
          go_simp
          exact hK _ _ (chain_step HI.out hus hbs 2 _ (by show 2 < 14; decide) rfl hbp (val_of rfl rfl) (HI.out.ph.step 2 _ (by decide) (by decide)) (by simp only [puts, setAll, List.set_cons_zero, List.set_cons_succ, List.setIfInBounds_toArray]))
        refine Steps.cons rfl (fun bb aa w' hbs hb0 hbp hI K hK => ?_) ?_
        · obtain ⟨us, hus, ha, hI⟩ := hI
          obtain ⟨u0, u1, u2, u3, u4, u5, u6, u7, u8, u9, u10, u11, u12, u13, rfl⟩ := lenA14 hus
          have e2 : u2 = .pointer (some ⟨m, 0, none⟩) := hI.val 2 _ rfl (gen_after 2 (by kernel_rfl) hbp)
          subst e2
          have HI := Veil.mk hI
          clear hI
          rw [ha]
          simp only [puts, setAll, List.setIfInBounds_toArray, List.set_cons_zero, List.set_cons_succ]
          go_simp
          exact hK _ _ (chain_step HI.out hus hbs 3 _ (by show 3 < 14; decide) rfl hbp (val_of rfl rfl) (HI.out.ph.step 3 _ (by decide) (by decide)) (by simp only [puts, setAll, List.set_cons_zero, List.set_cons_succ, List.setIfInBounds_toArray]))
        refine Steps.cons rfl (fun bb aa w' hbs hb0 hbp hI K hK => ?_) ?_
        · obtain ⟨us, hus, ha, hI⟩ := hI
          obtain ⟨u0, u1, u2, u3, u4, u5, u6, u7, u8, u9, u10, u11, u12, u13, rfl⟩ := lenA14 hus
          have e3 : u3 = .pointer (some ⟨m, 0, none⟩) := hI.val 3 _ rfl (gen_after 3 (by kernel_rfl) hbp)
          subst e3
          have HI := Veil.mk hI
          clear hI
          rw [ha]
          simp only [puts, setAll, List.setIfInBounds_toArray, List.set_cons_zero, List.set_cons_succ]
          go_simp
          exact hK _ _ (chain_step HI.out hus hbs 4 _ (by show 4 < 14; decide) rfl hbp (val_of rfl rfl) (HI.out.ph.step 4 _ (by decide) (by decide)) (by simp only [puts, setAll, List.set_cons_zero, List.set_cons_succ, List.setIfInBounds_toArray]))
        refine Steps.cons rfl (fun bb aa w' hbs hb0 hbp hI K hK => ?_) ?_
        · obtain ⟨us, hus, ha, hI⟩ := hI
          obtain ⟨u0, u1, u2, u3, u4, u5, u6, u7, u8, u9, u10, u11, u12, u13, rfl⟩ := lenA14 hus
          have e4 : u4 = .pointer (some ⟨m, 0, none⟩) := hI.val 4 _ rfl (gen_after 4 (by kernel_rfl) hbp)
          subst e4
          have gb := (hI.bwd [5] 6 5 (by kernel_rfl) rfl hb0)
          have hst := hI.ph.btw1 0 (.inl rfl) (.inr ⟨6, rfl, gb⟩)
          have hst' : WD = w' := (show w' = WD from hst).symm
          clear hst
          subst hst'
          have c0 : WD.cell? ⟨m, 0, none⟩ = some (.pointer (some ⟨h, 0, none⟩)) := HPD.out.mm.mb.at_ 0
          clear gb
          have HI := Veil.mk hI
          clear hI
          rw [ha]
          simp only [puts, setAll, List.setIfInBounds_toArray, List.set_cons_zero, List.set_cons_succ]
          go_simp
          exact hK _ _ (chain_step HI.out hus hbs 5 _ (by show 5 < 14; decide) rfl hbp (val_of rfl rfl) (HI.out.ph.step 5 _ (by decide) (by decide)) (by simp only [puts, setAll, List.set_cons_zero, List.set_cons_succ, List.setIfInBounds_toArray]))
        refine Steps.cons rfl (fun bb aa w' hbs hb0 hbp hI K hK => ?_) ?_
        · obtain ⟨us, hus, ha, hI⟩ := hI
          obtain ⟨u0, u1, u2, u3, u4, u5, u6, u7, u8, u9, u10, u11, u12, u13, rfl⟩ := lenA14 hus
          have e5 : u5 = .pointer (some ⟨h, 0, none⟩) := hI.val 5 _ rfl (gen_after 5 (by kernel_rfl) hbp)
          subst e5
          have gb := hb0
          have hst := hI.ph.btw1 0 (.inl rfl) (.inr ⟨6, rfl, gb⟩)
          have hst' : WD = w' := (show w' = WD from hst).symm
          clear hst
          subst hst'
          clear gb
          have HI := Veil.mk hI
          clear hI
          rw [ha]
          simp only [puts, setAll, List.setIfInBounds_toArray, List.set_cons_zero, List.set_cons_succ]
          go_simp
          go_at_call 13
          refine HMA.out.mono ?_
          rintro e9 w9 ⟨rfl, hm9⟩
          go_simp
          exact hK _ _ (chain_step HI.out hus hbs 6 _ (by show 6 < 14; decide) rfl hbp (val_of rfl rfl) (HI.out.ph.next 0 6 _ rfl hb0 (.inl rfl) (by decide) (hm9)) (by simp only [puts, setAll, List.set_cons_zero, List.set_cons_succ, List.setIfInBounds_toArray]))
        refine Steps.cons rfl (fun bb aa w' hbs hb0 hbp hI K hK => ?_) ?_
        · obtain ⟨us, hus, ha, hI⟩ := hI
          obtain ⟨u0, u1, u2, u3, u4, u5, u6, u7, u8, u9, u10, u11, u12, u13, rfl⟩ := lenA14 hus
          have e6 : u6 = (.tuple #[.int .i64 ((i : Int) + 1), .pointer (some ⟨WD.heap.size, 0, none⟩)]) := hI.val 6 _ rfl (gen_after 6 (by kernel_rfl) hbp)
          subst e6
          have HI := Veil.mk hI
          clear hI
          rw [ha]
          simp only [puts, setAll, List.setIfInBounds_toArray, List.set_cons_zero, List.set_cons_succ]
          go_simp
          exact hK _ _ (chain_step HI.out hus hbs 7 _ (by show 7 < 14; decide) rfl hbp (val_of rfl rfl) (HI.out.ph.step 7 _ (by decide) (by decide)) (by simp only [puts, setAll, List.set_cons_zero, List.set_cons_succ, List.setIfInBounds_toArray]))
        refine Steps.cons rfl (fun bb aa w' hbs hb0 hbp hI K hK => ?_) ?_
        · obtain ⟨us, hus, ha, hI⟩ := hI
          obtain ⟨u0, u1, u2, u3, u4, u5, u6, u7, u8, u9, u10, u11, u12, u13, rfl⟩ := lenA14 hus
          have e7 : u7 = (.tuple #[.int .i64 ((i : Int) + 1), .pointer (some ⟨WD.heap.size, 0, none⟩)]) := hI.val 7 _ rfl (gen_after 7 (by kernel_rfl) hbp)
          subst e7
          have HI := Veil.mk hI
          clear hI
          rw [ha]
          simp only [puts, setAll, List.setIfInBounds_toArray, List.set_cons_zero, List.set_cons_succ]
          go_simp
          exact hK _ _ (chain_step HI.out hus hbs 8 _ (by show 8 < 14; decide) rfl hbp (val_of rfl rfl) (HI.out.ph.step 8 _ (by decide) (by decide)) (by simp only [puts, setAll, List.set_cons_zero, List.set_cons_succ, List.setIfInBounds_toArray]))
        refine Steps.cons rfl (fun bb aa w' hbs hb0 hbp hI K hK => ?_) ?_
        · obtain ⟨us, hus, ha, hI⟩ := hI
          obtain ⟨u0, u1, u2, u3, u4, u5, u6, u7, u8, u9, u10, u11, u12, u13, rfl⟩ := lenA14 hus
          have e7 : u7 = (.tuple #[.int .i64 ((i : Int) + 1), .pointer (some ⟨WD.heap.size, 0, none⟩)]) := hI.val 7 _ rfl (gen_after 7 (by kernel_rfl) hbp)
          subst e7
          have HI := Veil.mk hI
          clear hI
          rw [ha]
          simp only [puts, setAll, List.setIfInBounds_toArray, List.set_cons_zero, List.set_cons_succ]
          go_simp
          exact hK _ _ (chain_step HI.out hus hbs 9 _ (by show 9 < 14; decide) rfl hbp (val_of rfl rfl) (HI.out.ph.step 9 _ (by decide) (by decide)) (by simp only [puts, setAll, List.set_cons_zero, List.set_cons_succ, List.setIfInBounds_toArray]))
        refine Steps.cons rfl (fun bb aa w' hbs hb0 hbp hI K hK => ?_) ?_
        · obtain ⟨us, hus, ha, hI⟩ := hI
          obtain ⟨u0, u1, u2, u3, u4, u5, u6, u7, u8, u9, u10, u11, u12, u13, rfl⟩ := lenA14 hus
          have e0 : u0 = .pointer (some ⟨m, 0, none⟩) := hI.val 0 _ rfl (gen_after 0 (by kernel_rfl) hbp)
          subst e0
          have HI := Veil.mk hI
          clear hI
          rw [ha]
          simp only [puts, setAll, List.setIfInBounds_toArray, List.set_cons_zero, List.set_cons_succ]
          go_simp
          exact hK _ _ (chain_step HI.out hus hbs 10 _ (by show 10 < 14; decide) rfl hbp (val_of rfl rfl) (HI.out.ph.step 10 _ (by decide) (by decide)) (by simp only [puts, setAll, List.set_cons_zero, List.set_cons_succ, List.setIfInBounds_toArray]))
        refine Steps.cons rfl (fun bb aa w' hbs hb0 hbp hI K hK => ?_) ?_
        · obtain ⟨us, hus, ha, hI⟩ := hI
          obtain ⟨u0, u1, u2, u3, u4, u5, u6, u7, u8, u9, u10, u11, u12, u13, rfl⟩ := lenA14 hus
          have e10 : u10 = .pointer (some ⟨m, 0, none⟩) := hI.val 10 _ rfl (gen_after 10 (by kernel_rfl) hbp)
          subst e10
          have HI := Veil.mk hI
          clear hI
          rw [ha]
          simp only [puts, setAll, List.setIfInBounds_toArray, List.set_cons_zero, List.set_cons_succ]
          go_simp
          exact hK _ _ (chain_step HI.out hus hbs 11 _ (by show 11 < 14; decide) rfl hbp (val_of rfl rfl) (HI.out.ph.step 11 _ (by decide) (by decide)) (by simp only [puts, setAll, List.set_cons_zero, List.set_cons_succ, List.setIfInBounds_toArray]))
        refine Steps.cons rfl (fun bb aa w' hbs hb0 hbp hI K hK => ?_) ?_
        · obtain ⟨us, hus, ha, hI⟩ := hI
          obtain ⟨u0, u1, u2, u3, u4, u5, u6, u7, u8, u9, u10, u11, u12, u13, rfl⟩ := lenA14 hus
          have e11 : u11 = .pointer (some ⟨m, 1, none⟩) := hI.val 11 _ rfl (gen_after 11 (by kernel_rfl) hbp)
          subst e11
          have e1 : u1 = .int .i64 (i : Int) := hI.val 1 _ rfl (gen_after 1 (by kernel_rfl) hbp)
          subst e1
          have ga := (gen_after 6 (by kernel_rfl) hbp)
          have gb := (hI.bwd [12] 13 12 (by kernel_rfl) rfl hb0)
          have hst := hI.ph.btw1 1 (.inr ⟨6, rfl, ga⟩) (.inr ⟨13, rfl, gb⟩)
          clear hst
          have hix : ((1 : Nat) + i) = 1 + i := rfl
          clear ga gb
          have HI := Veil.mk hI
          clear hI
          rw [ha]
          simp only [puts, setAll, List.setIfInBounds_toArray, List.set_cons_zero, List.set_cons_succ]
          go_simp
          exact hK _ _ (chain_step HI.out hus hbs 12 _ (by show 12 < 14; decide) rfl hbp (val_of rfl rfl) (HI.out.ph.step 12 _ (by decide) (by decide)) (by simp only [puts, setAll, List.set_cons_zero, List.set_cons_succ, List.setIfInBounds_toArray]))
        refine Steps.cons rfl (fun bb aa w' hbs hb0 hbp hI K hK => ?_) ?_
        · obtain ⟨us, hus, ha, hI⟩ := hI
          obtain ⟨u0, u1, u2, u3, u4, u5, u6, u7, u8, u9, u10, u11, u12, u13, rfl⟩ := lenA14 hus
          have e12 : u12 = .pointer (some ⟨m, 1 + i, none⟩) := hI.val 12 _ rfl (gen_after 12 (by kernel_rfl) hbp)
          subst e12
          have e8 : u8 = .int .i64 ((i : Int) + 1) := hI.val 8 _ rfl (gen_after 8 (by kernel_rfl) hbp)
          subst e8
          have ga := (gen_after 6 (by kernel_rfl) hbp)
          have gb := hb0
          have hst := hI.ph.btw1 1 (.inr ⟨6, rfl, ga⟩) (.inr ⟨13, rfl, gb⟩)
          have HSW := Veil.mk (show MM w' h A m (prF i) (os ++ [(WD.heap.size, obj0 0 0)]) ∧ Below A WD w' from hst)
          have c0 : w'.cell? ⟨m, 1 + i, none⟩ = some (.int .i64 (prF i i)) := by rw [HSW.out.1.mb.at_ (1 + i)]; exact machV_at _ _ _ i hlt
          have f0 := HSW.out.1.mb.free (1 + i)
          clear hst
          have HGA := Veil.mk ga
          clear ga gb
          have HI := Veil.mk hI
          clear hI
          rw [ha]
          simp only [puts, setAll, List.setIfInBounds_toArray, List.set_cons_zero, List.set_cons_succ]
          go_simp
          exact hK _ _ (chain_step HI.out hus hbs 13 undef (by show 13 < 14; decide) rfl hbp (none_of rfl) (HI.out.ph.next 1 13 _ rfl hb0 (.inr ⟨6, rfl, HGA.out⟩) (by decide) (by show MM _ h A m (prF (i + 1)) _ ∧ _; rw [← prF_next i]; exact ⟨HSW.out.1.proto i hlt _, HSW.out.2.trans ((Touch.put (S := fun b => b = m) rfl _ _).below (by have := HSW.out.2.size; have := HPD.out.mm.mb.lt; have := HPD.out.mm.am; omega) (fun k hk => by rw [hk]; exact HPD.out.mm.am))⟩)) (by simp only [puts, setAll, List.set_cons_zero, List.set_cons_succ, List.setIfInBounds_toArray]))
        exact Steps.nil
      · intro us wE hus dd hD2 hJ
        obtain ⟨p0, p1, p2, p3, p4, p5, p6, p7, p8, p9, p10, p11, p12, p13, rfl⟩ := lenA14 hus
        have q1 := hJ.ph.all (fun c hc => hD2 c (by
          have : c = 6 ∨ c = 13 := by simpa using hc
          show c < 14
          omega))
        have e0 : p0 = .pointer (some ⟨m, 0, none⟩) := hJ.val 0 _ rfl (hD2 0 (by show 0 < 14; decide))
        subst e0
        have e1 : p1 = .int .i64 (i : Int) := hJ.val 1 _ rfl (hD2 1 (by show 1 < 14; decide))
        subst e1
        have e2 : p2 = .pointer (some ⟨m, 0, none⟩) := hJ.val 2 _ rfl (hD2 2 (by show 2 < 14; decide))
        subst e2
        have e3 : p3 = .pointer (some ⟨m, 0, none⟩) := hJ.val 3 _ rfl (hD2 3 (by show 3 < 14; decide))
        subst e3
        have e4 : p4 = .pointer (some ⟨m, 0, none⟩) := hJ.val 4 _ rfl (hD2 4 (by show 4 < 14; decide))
        subst e4
        have e5 : p5 = .pointer (some ⟨h, 0, none⟩) := hJ.val 5 _ rfl (hD2 5 (by show 5 < 14; decide))
        subst e5
        have e6 : p6 = (.tuple #[.int .i64 ((i : Int) + 1), .pointer (some ⟨WD.heap.size, 0, none⟩)]) := hJ.val 6 _ rfl (hD2 6 (by show 6 < 14; decide))
        subst e6
        have e7 : p7 = (.tuple #[.int .i64 ((i : Int) + 1), .pointer (some ⟨WD.heap.size, 0, none⟩)]) := hJ.val 7 _ rfl (hD2 7 (by show 7 < 14; decide))
        subst e7
        have e8 : p8 = .int .i64 ((i : Int) + 1) := hJ.val 8 _ rfl (hD2 8 (by show 8 < 14; decide))
        subst e8
        have e9 : p9 = .pointer (some ⟨WD.heap.size, 0, none⟩) := hJ.val 9 _ rfl (hD2 9 (by show 9 < 14; decide))
        subst e9
        have e10 : p10 = .pointer (some ⟨m, 0, none⟩) := hJ.val 10 _ rfl (hD2 10 (by show 10 < 14; decide))
        subst e10
        have e11 : p11 = .pointer (some ⟨m, 1, none⟩) := hJ.val 11 _ rfl (hD2 11 (by show 11 < 14; decide))
        subst e11
        have e12 : p12 = .pointer (some ⟨m, 1 + i, none⟩) := hJ.val 12 _ rfl (hD2 12 (by show 12 < 14; decide))
        subst e12
        clear hJ hD2
        have HQ := Veil.mk (show MM wE h A m (prF (i + 1)) (os ++ [(WD.heap.size, obj0 0 0)]) ∧ Below A WD wE from q1)
        clear q1
        simp only [puts, setAll, List.setIfInBounds_toArray, List.set_cons_zero, List.set_cons_succ]
        have HE0 : wE.cell? ⟨m, 0, none⟩ = some (.pointer (some ⟨h, 0, none⟩)) := HQ.out.1.mb.at_ 0
        have HE1 : wE.cell? ⟨m, 1 + i, none⟩ = some (.int .i64 ((i : Int) + 1)) := by rw [HQ.out.1.mb.at_ (1 + i), machV_at _ _ _ i hlt]; unfold prF; rw [if_pos (by omega)]
        have HOB := Veil.mk (fun W (hW : Below wE.heap.size wE W) => (HQ.out.1.on hW).obj i (WD.heap.size, obj0 0 0) (by rw [List.getElem?_append_right (by rw [HPD.out.len]; omega), HPD.out.len]; simp))
        obtain ⟨WF, hWF⟩ : ∃ WF, wE.drew = WF := ⟨_, rfl⟩
        have HE0 : WF.cell? ⟨m, 0, none⟩ = some (.pointer (some ⟨h, 0, none⟩)) := by rw [← hWF]; exact HE0
        have HE1 : WF.cell? ⟨m, 1 + i, none⟩ = some (.int .i64 ((i : Int) + 1)) := by rw [← hWF]; exact HE1
        have HO := HOB.out WF (by rw [← hWF]; exact (Below.refl _ _).drew)
        have HO := Veil.mk HO
        have HX : Veil (MM WF h A m (prF (i + 1)) (os ++ [(WD.heap.size, obj0 0 0)]) ∧ Below A WD WF) := ⟨by rw [← hWF]; exact ⟨HQ.out.1.on (Below.refl _ _).drew, HQ.out.2.drew⟩⟩
        have HWF := Veil.mk hWF
        clear hWF HQ HOB HMA
        go_upto_region 8 with (fail)
        have HC8 := Veil.mk (And.intro HE0 HE1)
        clear HE0 HE1
        refine wp_region_chain (some (· = .pointer (some ⟨m, 0, none⟩)) :: some (· = .pointer (some ⟨m, 0, none⟩)) :: some (· = .pointer (some ⟨m, 0, none⟩)) :: some (· = .pointer (some ⟨h, 0, none⟩)) :: some (· = .pointer (some ⟨m, 0, none⟩)) :: some (· = .int .i64 (i : Int)) :: some (· = .pointer (some ⟨m, 0, none⟩)) :: some (· = .pointer (some ⟨m, 1, none⟩)) :: some (· = .pointer (some ⟨m, 1 + i, none⟩)) :: some (· = .int .i64 ((i : Int) + 1)) :: some (· = .pointer (some ⟨WD.heap.size, 0, none⟩)) :: some (· = .bool false) :: [] : List (Option (Value → Prop))) (LPh [] (fun _ _ w => w = WF)) [some 33, some 34, some 35, some 36, some 37, some 38, some 39, some 40, some 41, some 42, some 43, some 44] (curV' _ [some 33, some 34, some 35, some 36, some 37, some 38, some 39, some 40, some 41, some 42, some 43, some 44]) (by kernel_rfl) rfl rfl (puts_cur _ _) (LPh.start (show wE.drew = WF from HWF.out)) ?_ (by kernel_rfl) ?_
        · refine Steps.cons rfl (fun bb aa w' hbs hb0 hbp hI K hK => ?_) ?_
          · obtain ⟨us, hus, ha, hI⟩ := hI
            obtain ⟨u0, u1, u2, u3, u4, u5, u6, u7, u8, u9, u10, u11, rfl⟩ := lenA12 hus
            have HI := Veil.mk hI
            clear hI
            rw [ha]
            simp only [puts, setAll, List.setIfInBounds_toArray, List.set_cons_zero, List.set_cons_succ]
            go_simp
            exact hK _ _ (chain_step HI.out hus hbs 0 _ (by show 0 < 12; decide) rfl hbp (val_of rfl rfl) (HI.out.ph.step 0 _ (by decide) (by decide)) (by simp only [puts, setAll, List.set_cons_zero, List.set_cons_succ, List.setIfInBounds_toArray]))
          refine Steps.cons rfl (fun bb aa w' hbs hb0 hbp hI K hK => ?_) ?_
          · obtain ⟨us, hus, ha, hI⟩ := hI
            obtain ⟨u0, u1, u2, u3, u4, u5, u6, u7, u8, u9, u10, u11, rfl⟩ := lenA12 hus
            have e0 : u0 = .pointer (some ⟨m, 0, none⟩) := hI.val 0 _ rfl (gen_after 0 (by kernel_rfl) hbp)
            subst e0
            have HI := Veil.mk hI
            clear hI
            rw [ha]
            simp only [puts, setAll, List.setIfInBounds_toArray, List.set_cons_zero, List.set_cons_succ]
            go_simp
            exact hK _ _ (chain_step HI.out hus hbs 1 _ (by show 1 < 12; decide) rfl hbp (val_of rfl rfl) (HI.out.ph.step 1 _ (by decide) (by decide)) (by simp only [puts, setAll, List.set_cons_zero, List.set_cons_succ, List.setIfInBounds_toArray]))
          refine Steps.cons rfl (fun bb aa w' hbs hb0 hbp hI K hK => ?_) ?_
          · obtain ⟨us, hus, ha, hI⟩ := hI
            obtain ⟨u0, u1, u2, u3, u4, u5, u6, u7, u8, u9, u10, u11, rfl⟩ := lenA12 hus
            have e1 : u1 = .pointer (some ⟨m, 0, none⟩) := hI.val 1 _ rfl (gen_after 1 (by kernel_rfl) hbp)
            subst e1
            have HI := Veil.mk hI
            clear hI
            rw [ha]
            simp only [puts, setAll, List.setIfInBounds_toArray, List.set_cons_zero, List.set_cons_succ]
            go_simp
            exact hK _ _ (chain_step HI.out hus hbs 2 _ (by show 2 < 12; decide) rfl hbp (val_of rfl rfl) (HI.out.ph.step 2 _ (by decide) (by decide)) (by simp only [puts, setAll, List.set_cons_zero, List.set_cons_succ, List.setIfInBounds_toArray]))
          refine Steps.cons rfl (fun bb aa w' hbs hb0 hbp hI K hK => ?_) ?_
          · obtain ⟨us, hus, ha, hI⟩ := hI
            obtain ⟨u0, u1, u2, u3, u4, u5, u6, u7, u8, u9, u10, u11, rfl⟩ := lenA12 hus
            have e2 : u2 = .pointer (some ⟨m, 0, none⟩) := hI.val 2 _ rfl (gen_after 2 (by kernel_rfl) hbp)
            subst e2
            have hst := hI.ph.btw1 0 (.inl rfl) (.inl rfl)
            have hst' : WF = w' := (show w' = WF from hst).symm
            clear hst
            subst hst'
            have c0 := HC8.out.1
            have HI := Veil.mk hI
            clear hI
            rw [ha]
            simp only [puts, setAll, List.setIfInBounds_toArray, List.set_cons_zero, List.set_cons_succ]
            go_simp
            exact hK _ _ (chain_step HI.out hus hbs 3 _ (by show 3 < 12; decide) rfl hbp (val_of rfl rfl) (HI.out.ph.step 3 _ (by decide) (by decide)) (by simp only [puts, setAll, List.set_cons_zero, List.set_cons_succ, List.setIfInBounds_toArray]))
          refine Steps.cons rfl (fun bb aa w' hbs hb0 hbp hI K hK => ?_) ?_
          · obtain ⟨us, hus, ha, hI⟩ := hI
            obtain ⟨u0, u1, u2, u3, u4, u5, u6, u7, u8, u9, u10, u11, rfl⟩ := lenA12 hus
            have HI := Veil.mk hI
            clear hI
            rw [ha]
            simp only [puts, setAll, List.setIfInBounds_toArray, List.set_cons_zero, List.set_cons_succ]
            go_simp
            exact hK _ _ (chain_step HI.out hus hbs 4 _ (by show 4 < 12; decide) rfl hbp (val_of rfl rfl) (HI.out.ph.step 4 _ (by decide) (by decide)) (by simp only [puts, setAll, List.set_cons_zero, List.set_cons_succ, List.setIfInBounds_toArray]))
          refine Steps.cons rfl (fun bb aa w' hbs hb0 hbp hI K hK => ?_) ?_
          · obtain ⟨us, hus, ha, hI⟩ := hI
            obtain ⟨u0, u1, u2, u3, u4, u5, u6, u7, u8, u9, u10, u11, rfl⟩ := lenA12 hus
            have HI := Veil.mk hI
            clear hI
            rw [ha]
            simp only [puts, setAll, List.setIfInBounds_toArray, List.set_cons_zero, List.set_cons_succ]
            go_simp
            exact hK _ _ (chain_step HI.out hus hbs 5 _ (by show 5 < 12; decide) rfl hbp (val_of rfl rfl) (HI.out.ph.step 5 _ (by decide) (by decide)) (by simp only [puts, setAll, List.set_cons_zero, List.set_cons_succ, List.setIfInBounds_toArray]))
          refine Steps.cons rfl (fun bb aa w' hbs hb0 hbp hI K hK => ?_) ?_
          · obtain ⟨us, hus, ha, hI⟩ := hI
            obtain ⟨u0, u1, u2, u3, u4, u5, u6, u7, u8, u9, u10, u11, rfl⟩ := lenA12 hus
            have e4 : u4 = .pointer (some ⟨m, 0, none⟩) := hI.val 4 _ rfl (gen_after 4 (by kernel_rfl) hbp)
            subst e4
            have HI := Veil.mk hI
            clear hI
            rw [ha]
            simp only [puts, setAll, List.setIfInBounds_toArray, List.set_cons_zero, List.set_cons_succ]
            go_simp
            exact hK _ _ (chain_step HI.out hus hbs 6 _ (by show 6 < 12; decide) rfl hbp (val_of rfl rfl) (HI.out.ph.step 6 _ (by decide) (by decide)) (by simp only [puts, setAll, List.set_cons_zero, List.set_cons_succ, List.setIfInBounds_toArray]))
          refine Steps.cons rfl (fun bb aa w' hbs hb0 hbp hI K hK => ?_) ?_
          · obtain ⟨us, hus, ha, hI⟩ := hI
            obtain ⟨u0, u1, u2, u3, u4, u5, u6, u7, u8, u9, u10, u11, rfl⟩ := lenA12 hus
            have e6 : u6 = .pointer (some ⟨m, 0, none⟩) := hI.val 6 _ rfl (gen_after 6 (by kernel_rfl) hbp)
            subst e6
            have HI := Veil.mk hI
            clear hI
            rw [ha]
            simp only [puts, setAll, List.setIfInBounds_toArray, List.set_cons_zero, List.set_cons_succ]
            go_simp
            exact hK _ _ (chain_step HI.out hus hbs 7 _ (by show 7 < 12; decide) rfl hbp (val_of rfl rfl) (HI.out.ph.step 7 _ (by decide) (by decide)) (by simp only [puts, setAll, List.set_cons_zero, List.set_cons_succ, List.setIfInBounds_toArray]))
          refine Steps.cons rfl (fun bb aa w' hbs hb0 hbp hI K hK => ?_) ?_
          · obtain ⟨us, hus, ha, hI⟩ := hI
            obtain ⟨u0, u1, u2, u3, u4, u5, u6, u7, u8, u9, u10, u11, rfl⟩ := lenA12 hus
            have e7 : u7 = .pointer (some ⟨m, 1, none⟩) := hI.val 7 _ rfl (gen_after 7 (by kernel_rfl) hbp)
            subst e7
            have e5 : u5 = .int .i64 (i : Int) := hI.val 5 _ rfl (gen_after 5 (by kernel_rfl) hbp)
            subst e5
            have HI := Veil.mk hI
            clear hI
            rw [ha]
            simp only [puts, setAll, List.setIfInBounds_toArray, List.set_cons_zero, List.set_cons_succ]
            go_simp
            exact hK _ _ (chain_step HI.out hus hbs 8 _ (by show 8 < 12; decide) rfl hbp (val_of rfl rfl) (HI.out.ph.step 8 _ (by decide) (by decide)) (by simp only [puts, setAll, List.set_cons_zero, List.set_cons_succ, List.setIfInBounds_toArray]))
          refine Steps.cons rfl (fun bb aa w' hbs hb0 hbp hI K hK => ?_) ?_
          · obtain ⟨us, hus, ha, hI⟩ := hI
            obtain ⟨u0, u1, u2, u3, u4, u5, u6, u7, u8, u9, u10, u11, rfl⟩ := lenA12 hus
            have e8 : u8 = .pointer (some ⟨m, 1 + i, none⟩) := hI.val 8 _ rfl (gen_after 8 (by kernel_rfl) hbp)
            subst e8
            have hst := hI.ph.btw1 0 (.inl rfl) (.inl rfl)
            have hst' : WF = w' := (show w' = WF from hst).symm
            clear hst
            subst hst'
            have c0 := HC8.out.2
            have HI := Veil.mk hI
            clear hI
            rw [ha]
            simp only [puts, setAll, List.setIfInBounds_toArray, List.set_cons_zero, List.set_cons_succ]
            go_simp
            exact hK _ _ (chain_step HI.out hus hbs 9 _ (by show 9 < 12; decide) rfl hbp (val_of rfl rfl) (HI.out.ph.step 9 _ (by decide) (by decide)) (by simp only [puts, setAll, List.set_cons_zero, List.set_cons_succ, List.setIfInBounds_toArray]))
          refine Steps.cons rfl (fun bb aa w' hbs hb0 hbp hI K hK => ?_) ?_
          · obtain ⟨us, hus, ha, hI⟩ := hI
            obtain ⟨u0, u1, u2, u3, u4, u5, u6, u7, u8, u9, u10, u11, rfl⟩ := lenA12 hus
            have e3 : u3 = .pointer (some ⟨h, 0, none⟩) := hI.val 3 _ rfl (gen_after 3 (by kernel_rfl) hbp)
            subst e3
            have e9 : u9 = .int .i64 ((i : Int) + 1) := hI.val 9 _ rfl (gen_after 9 (by kernel_rfl) hbp)
            subst e9
            have hst := hI.ph.btw1 0 (.inl rfl) (.inl rfl)
            have hst' : WF = w' := (show w' = WF from hst).symm
            clear hst
            subst hst'
            have HI := Veil.mk hI
            clear hI
            rw [ha]
            simp only [puts, setAll, List.setIfInBounds_toArray, List.set_cons_zero, List.set_cons_succ]
            go_simp
            go_at_call 26
            refine HO.out.mono ?_
            rintro e9 w9 ⟨rfl, h9⟩
            subst w9
            go_simp
            exact hK _ _ (chain_step HI.out hus hbs 10 _ (by show 10 < 12; decide) rfl hbp (val_of rfl rfl) (HI.out.ph.step 10 _ (by decide) (by decide)) (by simp only [puts, setAll, List.set_cons_zero, List.set_cons_succ, List.setIfInBounds_toArray]))
          refine Steps.cons rfl (fun bb aa w' hbs hb0 hbp hI K hK => ?_) ?_
          · obtain ⟨us, hus, ha, hI⟩ := hI
            obtain ⟨u0, u1, u2, u3, u4, u5, u6, u7, u8, u9, u10, u11, rfl⟩ := lenA12 hus
            have e10 : u10 = .pointer (some ⟨WD.heap.size, 0, none⟩) := hI.val 10 _ rfl (gen_after 10 (by kernel_rfl) hbp)
            subst e10
            have HI := Veil.mk hI
            clear hI
            rw [ha]
            simp only [puts, setAll, List.setIfInBounds_toArray, List.set_cons_zero, List.set_cons_succ]
            go_simp
            exact hK _ _ (chain_step HI.out hus hbs 11 _ (by show 11 < 12; decide) rfl hbp (val_of rfl rfl) (HI.out.ph.step 11 _ (by decide) (by decide)) (by simp only [puts, setAll, List.set_cons_zero, List.set_cons_succ, List.setIfInBounds_toArray]))
          exact Steps.nil
        · intro us wE hus dd hD2 hJ
          obtain ⟨p0, p1, p2, p3, p4, p5, p6, p7, p8, p9, p10, p11, rfl⟩ := lenA12 hus
          have q1 := hJ.ph.all (fun c hc => by cases hc)
          have e0 : p0 = .pointer (some ⟨m, 0, none⟩) := hJ.val 0 _ rfl (hD2 0 (by show 0 < 12; decide))
          subst e0
          have e1 : p1 = .pointer (some ⟨m, 0, none⟩) := hJ.val 1 _ rfl (hD2 1 (by show 1 < 12; decide))
          subst e1
          have e2 : p2 = .pointer (some ⟨m, 0, none⟩) := hJ.val 2 _ rfl (hD2 2 (by show 2 < 12; decide))
          subst e2
          have e3 : p3 = .pointer (some ⟨h, 0, none⟩) := hJ.val 3 _ rfl (hD2 3 (by show 3 < 12; decide))
          subst e3
          have e4 : p4 = .pointer (some ⟨m, 0, none⟩) := hJ.val 4 _ rfl (hD2 4 (by show 4 < 12; decide))
          subst e4
          have e5 : p5 = .int .i64 (i : Int) := hJ.val 5 _ rfl (hD2 5 (by show 5 < 12; decide))
          subst e5
          have e6 : p6 = .pointer (some ⟨m, 0, none⟩) := hJ.val 6 _ rfl (hD2 6 (by show 6 < 12; decide))
          subst e6
          have e7 : p7 = .pointer (some ⟨m, 1, none⟩) := hJ.val 7 _ rfl (hD2 7 (by show 7 < 12; decide))
          subst e7
          have e8 : p8 = .pointer (some ⟨m, 1 + i, none⟩) := hJ.val 8 _ rfl (hD2 8 (by show 8 < 12; decide))
          subst e8
          have e9 : p9 = .int .i64 ((i : Int) + 1) := hJ.val 9 _ rfl (hD2 9 (by show 9 < 12; decide))
          subst e9
          have e10 : p10 = .pointer (some ⟨WD.heap.size, 0, none⟩) := hJ.val 10 _ rfl (hD2 10 (by show 10 < 12; decide))
          subst e10
          have e11 : p11 = .bool false := hJ.val 11 _ rfl (hD2 11 (by show 11 < 12; decide))
          subst e11
          clear hJ hD2
          have hq : wE = WF := q1
          clear q1
          simp only [puts, setAll, List.setIfInBounds_toArray, List.set_cons_zero, List.set_cons_succ]
          subst hq
          have HREL : Veil (PrL w wE h A m (i + 1) (os ++ [(WD.heap.size, obj0 0 0)])) := ⟨HPD.out.next HX.out.1 HX.out.2⟩
          clear HC8 HO HX HWF HPD HWD
          go_wp2
          go_roundw
          case rel => exact ⟨i + 1, _, by omega, by go_num, HREL.out⟩
          case measure => simp [intOf]; omega

    · obtain rfl : i = 21 := by omega
      have HL := Veil.mk hpl
      clear hpl hlt hi hi0
      go_wp2
      go_ret
      exact ⟨h, A, m, os, rfl, HL.out⟩
end Go.Proofs.YtgdkjkfbknbgkaaGreatDoor
