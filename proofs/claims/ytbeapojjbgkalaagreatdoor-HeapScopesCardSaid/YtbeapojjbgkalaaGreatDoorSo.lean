/- HeapScopes: two environments and a symbol; what a collection leaves. -/
import Derived.Test.YtbeapojjbgkalaaGreatDoorSn
import Derived.Test.YtbeapojjbgkalaaGreatDoorKe
import Derived.Test.YtbeapojjbgkalaaGreatDoorWe
namespace Go.Proofs.YtbeapojjbgkalaaGreatDoor
open Go Go.RowKit

def toE (e2 : Nat) (b : Bd) : List Int := if b = envB e2 then [1] else []
theorem toE_1 {e1 e2 : Nat} (h : e1 ≠ e2) : toE e2 (envB e1) = upL 0 := by
  unfold toE
  rw [if_neg (fun e => h (by injection e))]
  rfl
theorem toE_2 (e2 : Nat) : toE e2 (envB e2) = upL 1 := by
  unfold toE
  rw [if_pos rfl]
  rfl
section
variable {e1 e2 m : Nat}
theorem cell_0 {b : Bd} (h : (⟨[some (envB e1), some (envB e2), some (markB m)], [], 3, [2]⟩ : AD).cells[0]? = some (some b)) : b = envB e1 := by
  have h2 : some (some (envB e1)) = some (some b) := h
  injection h2 with h2
  injection h2 with h2
  exact h2.symm
theorem cell_1 {b : Bd} (h : (⟨[some (envB e1), some (envB e2), some (markB m)], [], 3, [2]⟩ : AD).cells[1]? = some (some b)) : b = envB e2 := by
  have h2 : some (some (envB e2)) = some (some b) := h
  injection h2 with h2
  injection h2 with h2
  exact h2.symm
theorem cell_2 {b : Bd} (h : (⟨[some (envB e1), some (envB e2), some (markB m)], [], 3, [2]⟩ : AD).cells[2]? = some (some b)) : b = markB m := by
  have h2 : some (some (markB m)) = some (some b) := h
  injection h2 with h2
  injection h2 with h2
  exact h2.symm
theorem reach_two (hne : e1 ≠ e2) {k : Nat} (h : Reach (⟨[some (envB e1), some (envB e2), some (markB m)], [], 3, [2]⟩ : AD) (toE e2) [2] k) : k = 0 ∨ k = 1 := by
  induction h with
  | root r hr _ =>
    have : r = 2 := by simpa using hr
    subst this
    exact .inr rfl
  | step j x _ hx _ ih =>
    rcases ih with rfl | rfl
    · have h2 : x ∈ toE e2 (envB e1) := hx
      rw [toE_1 hne] at h2
      cases h2
    · have h2 : x ∈ toE e2 (envB e2) := hx
      rw [toE_2] at h2
      have h3 : x ∈ [(1 : Int)] := h2
      have : x = 1 := by simpa using h3
      subst this
      exact .inl rfl
theorem reach_1 : Reach (⟨[some (envB e1), some (envB e2), some (markB m)], [], 3, [2]⟩ : AD) (toE e2) [2] 1 := Reach.root (d := (⟨[some (envB e1), some (envB e2), some (markB m)], [], 3, [2]⟩ : AD)) (2 : Int) (by simp) rfl
theorem reach_0 : Reach (⟨[some (envB e1), some (envB e2), some (markB m)], [], 3, [2]⟩ : AD) (toE e2) [2] 0 := Reach.step (d := (⟨[some (envB e1), some (envB e2), some (markB m)], [], 3, [2]⟩ : AD)) 1 (1 : Int) reach_1 (by
  show (1 : Int) ∈ toE e2 (envB e2)
  rw [toE_2]
  show (1 : Int) ∈ [(1 : Int)]
  simp) rfl
theorem marks_two (hne : e1 ≠ e2) {M : List Bool} (hl : M.length = 3) (hM : ∀ k : Nat, M[k]? = some true ↔ Reach (⟨[some (envB e1), some (envB e2), some (markB m)], [], 3, [2]⟩ : AD) (toE e2) [2] k) : M = [true, true, false] := by
  match M, hl with
  | [a, b, c], _ =>
    have h0 : a = true := by
      have := (hM 0).2 reach_0
      simpa using this
    have h1 : b = true := by
      have := (hM 1).2 reach_1
      simpa using this
    have h2 : c = false := by
      cases c with
      | false => rfl
      | true =>
        have := reach_two hne ((hM 2).1 rfl)
        omega
    rw [h0, h1, h2]
theorem fr_two : frL (⟨[some (envB e1), some (envB e2), some (markB m)], [], 3, [2]⟩ : AD) [true, true, false] 3 = [3] := by kernel_rfl
theorem scopes_collect (hne : e1 ≠ e2) {w : World} {B h A g1 g2 n : Nat} {cv fv rv : Value} (hp : HpAt w B h A cv fv rv (⟨[some (envB e1), some (envB e2), some (markB m)], [], 3, [2]⟩ : AD)) (a1 : EnvAt w e1 g1 n 0) (a2 : EnvAt w e2 g2 1 1) (hn : n ≤ 1000) :
    Calls Tryz.prog 21 #[.pointer (some ⟨A, 0, none⟩), .nilFunc] w fun e w' => ∃ frv, e = .returned frv ∧ ∃ fv', HpAt w' B h A cv fv' rv ⟨[some (envB e1), some (envB e2), none], [3], 2, [2]⟩ ∧ Touch (SwF A cv fv) w w' := by
  refine (collect_plain B A cv fv rv (⟨[some (envB e1), some (envB e2), some (markB m)], [], 3, [2]⟩ : AD) (by show 3 < 1000000; omega) (by show 0 < 1000000; omega) (by show 1 < 1000000; omega) (toE e2) rfl w hp.ar (fun k b hk => ?_) (fun k b hr hk => ?_)).mono ?_
  · match k, hk with
    | 0, hk => rw [cell_0 hk]; exact plb_env _
    | 1, hk => rw [cell_1 hk]; exact plb_env _
    | 2, hk => rw [cell_2 hk]; exact plb_mark _
    | k + 3, hk => cases hk
  · rcases reach_two hne hr with rfl | rfl
    · rw [cell_0 hk, toE_1 hne]
      exact fol_env a1 (by omega) a1.box.lt a1.row.lt
    · rw [cell_1 hk, toE_2]
      exact fol_env a2 (by omega) a2.box.lt a2.row.lt
  · rintro e w' ⟨M, frv, fv', hl, hM, rfl, hrow, har, ht, ho⟩
    obtain rfl := marks_two hne hl hM
    refine ⟨frv, rfl, fv', ⟨hp.hb.touch ht (fun hk => ?_), ?_, hp.hB⟩, ht⟩
    · rcases hk with hk | hk | hk
      · exact hp.hb.lab.ne hp.ar.box.lab (by decide) hk
      · exact hp.hb.lab.ne (own_lab hp.ar.co h hk) (by decide) rfl
      · exact hp.hb.lab.ne (own_lab hp.ar.fo h hk) (by decide) rfl
    · have e9 : (⟨[some (envB e1), some (envB e2), some (markB m)], [], 3, [2]⟩ : AD).swept (frL (⟨[some (envB e1), some (envB e2), some (markB m)], [], 3, [2]⟩ : AD) [true, true, false] (⟨[some (envB e1), some (envB e2), some (markB m)], [], 3, [2]⟩ : AD).cells.length) = ⟨[some (envB e1), some (envB e2), none], [3], 2, [2]⟩ := by
        show (⟨[some (envB e1), some (envB e2), some (markB m)], [], 3, [2]⟩ : AD).swept (frL (⟨[some (envB e1), some (envB e2), some (markB m)], [], 3, [2]⟩ : AD) [true, true, false] 3) = _
        rw [fr_two]
        rfl
      rw [e9] at har
      exact har
end
theorem val_x (w : World) : Calls Tryz.prog 15 #[.string ⟨#[120]⟩] w fun e w' => e = .returned (valV (7, 0, ⟨#[0, 120]⟩)) ∧ Below w.heap.size w w' :=
  W.val_const _ [0, 120] (by decide) (show Hid _ from (by decide +kernel : W.ofB ⟨#[120]⟩ = [0, 120])) w
/-- The law's state. -/
structure SS (w0 : World) (B h A : Nat) (cv fv rv : Value) (e1 g1 n e2 g2 m : Nat) (rs : List Int) (W : World) : Prop where
  hp : HpAt W B h A cv fv rv (⟨[some (envB e1), some (envB e2), some (markB m)], [], 3, rs⟩ : AD)
  a1 : EnvAt W e1 g1 n 0
  a2 : EnvAt W e2 g2 1 1
  ne : e1 ≠ e2
  lo : w0.heap.size ≤ B
  bel : Below w0.heap.size w0 W
section
variable {w0 W W' : World} {B h A e1 g1 n e2 g2 m : Nat} {cv fv rv : Value} {rs : List Int}
theorem SS.on (H : SS w0 B h A cv fv rv e1 g1 n e2 g2 m rs W) (hb : Below W.heap.size W W') : SS w0 B h A cv fv rv e1 g1 n e2 g2 m rs W' :=
  ⟨H.hp.on hb, H.a1.on hb, H.a2.on hb, H.ne, H.lo, H.bel.trans (hb.mono H.bel.size)⟩
theorem SS.env1 (H : SS w0 B h A cv fv rv e1 g1 n e2 g2 m rs W) : Calls Tryz.prog 16 #[.pointer (some ⟨h, 0, none⟩), .int .i64 1] W fun e w' => e = .returned (.pointer (some ⟨e1, 0, none⟩)) ∧ w' = W := env_some H.hp 1 e1 rfl
theorem SS.env2 (H : SS w0 B h A cv fv rv e1 g1 n e2 g2 m rs W) : Calls Tryz.prog 16 #[.pointer (some ⟨h, 0, none⟩), .int .i64 2] W fun e w' => e = .returned (.pointer (some ⟨e2, 0, none⟩)) ∧ w' = W := env_some H.hp 2 e2 rfl
theorem SS.cnt (H : SS w0 B h A cv fv rv e1 g1 n e2 g2 m rs W) : Calls Tryz.prog 17 #[.pointer (some ⟨A, 0, none⟩)] W fun e w' => e = .returned (.int .i64 3) ∧ w' = W := count_any B A cv fv rv _ W H.hp.ar
theorem SS.of (H : SS w0 B h A cv fv rv e1 g1 n e2 g2 m rs W) : Calls Tryz.prog 18 #[.pointer (some ⟨h, 0, none⟩), valV (9, 1, ⟨#[]⟩)] W fun e w' => e = .returned (.pointer none) ∧ Below W.heap.size W w' := of_9 H.hp (9, 1, ⟨#[]⟩) rfl e1 rfl
theorem SS.push (H : SS w0 B h A cv fv rv e1 g1 n e2 g2 m [] W) (x : Nat) (hx : W.cell? ⟨x, 0, none⟩ = some (.int .i64 2)) : Calls Tryz.prog 20 #[.pointer (some ⟨A, 0, none⟩), .slice (some ⟨x, 0, none⟩) 1 1] W fun e w' => e = .returned (.tuple #[]) ∧ ∃ cv' fv' rv', SS w0 B h A cv' fv' rv' e1 g1 n e2 g2 m [2] w' := by
  refine (push_one B A cv fv rv _ x 2 W H.hp.ar hx (by show 0 < 1000000; omega)).mono ?_
  rintro e w' ⟨rfl, cv', fv', rv', p1, p2, p3⟩
  exact ⟨rfl, cv', fv', rv', ⟨H.hp.hb.touch p2 (AFoot.lab H.hp.ar H.hp.hb.lab (by decide) (by decide) (by decide)), p1, H.hp.hB⟩,
    H.a1.touch p2 (AFoot.lab H.hp.ar H.a1.box.lab (by decide) (by decide) (by decide)) (AFoot.lab H.hp.ar H.a1.row.lab (by decide) (by decide) (by decide)),
    H.a2.touch p2 (AFoot.lab H.hp.ar H.a2.box.lab (by decide) (by decide) (by decide)) (AFoot.lab H.hp.ar H.a2.row.lab (by decide) (by decide) (by decide)), H.ne, H.lo, H.bel.trans (p2.below H.bel.size (fun k hk => by have := (AFoot.lt H.hp.ar hk).1; have := H.lo; omega))⟩
theorem SS.col (H : SS w0 B h A cv fv rv e1 g1 n e2 g2 m [2] W) (hn : n ≤ 1000) : Calls Tryz.prog 21 #[.pointer (some ⟨A, 0, none⟩), .nilFunc] W fun e w' => ∃ frv, e = .returned frv ∧ ∃ fv', HpAt w' B h A cv fv' rv ⟨[some (envB e1), some (envB e2), none], [3], 2, [2]⟩ ∧ Below w0.heap.size w0 w' := by
  refine (scopes_collect H.ne H.hp H.a1 H.a2 hn).mono ?_
  rintro e w' ⟨frv, h1, fv', h2, h3⟩
  refine ⟨frv, h1, fv', h2, H.bel.trans (h3.below H.bel.size (fun k hk => ?_))⟩
  have := H.lo
  have h4 : AFoot A cv fv rv k := by
    rcases hk with hk | hk | hk
    · exact .inl hk
    · exact .inr (.inl hk)
    · exact .inr (.inr (.inl hk))
  have := (AFoot.lt H.hp.ar h4).1
  omega
end
set_option maxHeartbeats 4000000 in
set_option maxRecDepth 100000 in
theorem scopes_law (n0 : Int) (w : World) : Calls Tryz.prog 4 #[.int .i64 n0] w fun e w' => e = .returned (.bool true) ∧ Below w.heap.size w w' := by
  obtain ⟨n, hn, y1, y2, y3, y4⟩ := rem_nat n0 50 (by omega)
  have y1 : (n0.tmod 50 + 50).tmod 50 = (n : Int) := y1
  have y2 : (n0.tmod 50 + 50) % 50 = (n : Int) := y2
  have y3 : 0 < n0.tmod 50 + 50 := y3
  have y4 : n0.tmod 50 < 50 := y4
  have hn9 : (n : Int) < 50 := by omega
  have HFT : Veil (∀ w, Calls Tryz.prog 5 #[] w fun e w' => e = .returned (.bool true) ∧ Below w.heap.size w w') := ⟨fit_any⟩
  have HVX := Veil.mk val_x
  go_enter Tryz.func4, Tryz.ntmps4
  go_upto_region 4 with (first | (go_at_call 5; ((with_reducible refine (HFT.out _).mono ?_); rintro e9 w1 ⟨rfl, hb1⟩)))
  clear y1 y2 y3 y4
  have HNW := Veil.mk (heap_new w1)
  have HB1 := Veil.mk hb1
  clear hb1
  go_upto_region 5 with (first | (go_at_call 6; ((with_reducible refine HNW.out.mono ?_); rintro e9 w2 ⟨h, rfl, hb2, hp2⟩)))
  obtain ⟨B, hB⟩ : ∃ B, w1.heap.size = B := ⟨_, rfl⟩
  rw [hB] at hp2
  have HB2 := Veil.mk (show Below w.heap.size w w2 ∧ w.heap.size ≤ B ∧ B ≤ w2.heap.size from ⟨blw2 HB1.out hb2, by have := HB1.out.size; omega, by rw [← hB]; exact hb2.size⟩)
  have H1 : Veil (Calls Tryz.prog 13 #[.pointer (some ⟨h, 0, none⟩), .int .i64 (n : Int), .int .i64 0] w2 fun e w' => e = .returned (.int .i64 1) ∧ ∃ e1 g1 cv fv rv, HpAt w' B h B cv fv rv ⟨[some (envB e1)], [], 1, []⟩ ∧ EnvAt w' e1 g1 n 0 ∧ Below w.heap.size w w') := ⟨by
    refine (scope_any hp2 rfl (by decide) (by decide) n (by omega) 0).mono ?_
    rintro e w' ⟨rfl, wd, h1, h2, h3, h4, cv, fv, rv, h5, -⟩
    refine ⟨rfl, _, _, cv, fv, rv, h5, h3, (blw2 HB2.out.1 h1).trans (h4.below (by have := HB2.out.1.size; omega) (fun k hk => ?_))⟩
    have := (AFoot.lt (hp2.on h1).ar hk).1
    have := HB2.out.2.1
    omega⟩
  clear hb2 hp2 hB HNW HB1
  go_upto_region 6 with (go_at_call 13; ((with_reducible refine H1.out.mono ?_); rintro e9 w3 ⟨rfl, e1, g1, cv1, fv1, rv1, hp3, he1, hb3⟩))
  have H2 : Veil (Calls Tryz.prog 13 #[.pointer (some ⟨h, 0, none⟩), .int .i64 1, .int .i64 1] w3 fun e w' => e = .returned (.int .i64 2) ∧ ∃ e2 g2 cv fv rv, HpAt w' B h B cv fv rv ⟨[some (envB e1), some (envB e2)], [], 2, []⟩ ∧ EnvAt w' e1 g1 n 0 ∧ EnvAt w' e2 g2 1 1 ∧ e1 ≠ e2 ∧ Below w.heap.size w w') := ⟨by
    refine (scope_any hp3 rfl (by show 1 < 1000000; omega) (by show 1 < 1000000; omega) 1 (by omega) 1).mono ?_
    rintro e w' ⟨rfl, wd, h1, h2, h3, h4, cv, fv, rv, h5, -⟩
    have p3 := hp3.on h1
    have q1 := he1.on h1
    refine ⟨rfl, _, _, cv, fv, rv, h5, q1.touch h4 (AFoot.lab p3.ar q1.box.lab (by decide) (by decide) (by decide)) (AFoot.lab p3.ar q1.row.lab (by decide) (by decide) (by decide)), h3, ?_, (blw2 hb3 h1).trans (h4.below (by have := hb3.size; omega) (fun k hk => ?_))⟩
    · have := he1.box.lt
      omega
    · have := (AFoot.lt p3.ar hk).1
      have := HB2.out.2.1
      omega⟩
  clear hp3 he1 hb3 H1
  go_upto_region 7 with (go_at_call 13; ((with_reducible refine H2.out.mono ?_); rintro e9 w4 ⟨rfl, e2, g2, cv2, fv2, rv2, hp4, hq1, hq2, hne, hb4⟩))
  have H3 : Veil (∀ W, Below w4.heap.size w4 W → Calls Tryz.prog 14 #[.pointer (some ⟨h, 0, none⟩), valV (7, 0, ⟨#[0, 120]⟩)] W fun e w' => e = .returned (valV (8, 3, ⟨#[]⟩)) ∧ ∃ m cv fv rv, SS w B h B cv fv rv e1 g1 n e2 g2 m [] w') := ⟨fun W hb => by
    have p4 := hp4.on hb
    have q1 := hq1.on hb
    have q2 := hq2.on hb
    refine (symbol_any p4 rfl (by show 2 < 1000000; omega) (by show 2 < 1000000; omega) (7, 0, ⟨#[0, 120]⟩)).mono ?_
    rintro e w' ⟨rfl, h4, m, cv, fv, rv, h5, -⟩
    have off : ∀ k e, Lab W k e → e ≠ 106 → e ≠ 87 → e ≠ 3 → k < W.heap.size → ¬ (AFoot B cv2 fv2 rv2 k ∨ W.heap.size ≤ k) := fun k e hl x1 x2 x3 hk hx => by
      rcases hx with hx | hx
      · exact AFoot.lab p4.ar hl x1 x2 x3 hx
      · omega
    refine ⟨rfl, m, cv, fv, rv, h5, q1.touch h4 (off _ _ q1.box.lab (by decide) (by decide) (by decide) q1.box.lt) (off _ _ q1.row.lab (by decide) (by decide) (by decide) q1.row.lt), q2.touch h4 (off _ _ q2.box.lab (by decide) (by decide) (by decide) q2.box.lt) (off _ _ q2.row.lab (by decide) (by decide) (by decide) q2.row.lt), hne, HB2.out.2.1, (blw2 hb4 hb).trans (h4.below (by have := hb4.size; have := hb.size; omega) (fun k hk => ?_))⟩
    rcases hk with hk | hk
    · have := (AFoot.lt p4.ar hk).1
      have := HB2.out.2.1
      omega
    · have := hb4.size
      have := hb.size
      omega⟩
  clear hp4 hq1 hq2 hne hb4 H2
  go_upto_region 8 with (first | (go_at_call 15; ((with_reducible refine (HVX.out _).mono ?_); rintro e9 w5 ⟨rfl, hb5⟩)) | (go_at_call 14; ((with_reducible refine (H3.out _ hb5).mono ?_); rintro e9 w6 ⟨rfl, m, cv, fv, rv, hss⟩)))
  obtain ⟨W7, hW7⟩ : ∃ W7, w6.alloc (.cells #[.int .i64 8, .int .i64 3, .string ⟨#[]⟩] 43) = W7 := ⟨_, rfl⟩
  obtain ⟨sb, hsb⟩ : ∃ sb, w6.heap.size = sb := ⟨_, rfl⟩
  have bx := Box.new w6 43 #[.int .i64 8, .int .i64 3, .string ⟨#[]⟩]
  have hal : Below w6.heap.size w6 (w6.alloc (.cells #[.int .i64 8, .int .i64 3, .string ⟨#[]⟩] 43)) := (Below.refl _ _).alloc (Nat.le_refl _) _
  have hs7 := hss.on hal
  rw [hW7] at bx hs7 ⊢
  rw [hsb] at bx ⊢
  have s0 : W7.cell? ⟨sb, 0, none⟩ = some (.int .i64 8) := bx.at_ 0
  have s1 : W7.cell? ⟨sb, 1, none⟩ = some (.int .i64 3) := bx.at_ 1
  have s2 : W7.cell? ⟨sb, 2, none⟩ = some (.string ⟨#[]⟩) := bx.at_ 2
  have a0 : W7.cell? ⟨e1, 0, none⟩ = some (.slice (some ⟨g1, 0, none⟩) n n) := hs7.a1.box.at_ 0
  have a1 : W7.cell? ⟨e1, 1, none⟩ = some (.int .i64 0) := hs7.a1.box.at_ 1
  have a2 : W7.cell? ⟨e2, 1, none⟩ = some (.int .i64 1) := hs7.a2.box.at_ 1
  have h0 : W7.cell? ⟨h, 0, none⟩ = some (.pointer (some ⟨B, 0, none⟩)) := hs7.hp.hb.at_ 0
  have HC := Veil.mk hs7
  have HO8 := Veil.mk (fun w => of_8 h (8, 3, ⟨#[]⟩) rfl w)
  have HOM := Veil.mk (fun w => object_mk 1 w)
  clear hW7 hsb bx hal hs7 hss hb5 H3 HB2
  go_upto_region 10 with (first | (go_at_call 16; first | ((with_reducible refine HC.out.env1.mono ?_); rintro e9 w9 ⟨rfl, h9⟩; subst w9) | ((with_reducible refine HC.out.env2.mono ?_); rintro e9 w9 ⟨rfl, h9⟩; subst w9)) | (go_at_call 17; ((with_reducible refine HC.out.cnt.mono ?_); rintro e9 w9 ⟨rfl, h9⟩; subst w9)) | (go_at_call 18; first | ((with_reducible refine (HO8.out _).mono ?_); rintro e9 wv ⟨rfl, hbv⟩; replace HC := Veil.mk (HC.out.on hbv); clear hbv) | ((with_reducible refine HC.out.of.mono ?_); rintro e9 wv ⟨rfl, hbv⟩; replace HC := Veil.mk (HC.out.on hbv); clear hbv)) | (go_at_call 19; ((with_reducible refine (HOM.out _).mono ?_); rintro e9 wv ⟨rfl, hbv⟩; replace HC := Veil.mk (HC.out.on hbv); clear hbv)))
  clear s0 s1 s2 a0 a1 a2 h0 HO8 HOM
  obtain ⟨WA, rfl⟩ : ∃ WA : World, WA = wv := ⟨wv, rfl⟩
  have a0 : WA.cell? ⟨e1, 0, none⟩ = some (.slice (some ⟨g1, 0, none⟩) n n) := HC.out.a1.box.at_ 0
  go_wp2_with (go_at_call 16; ((with_reducible refine HC.out.env1.mono ?_); rintro e9 w9 ⟨rfl, h9⟩; subst w9))
  go_loopw [86] (fun i wr => ∃ j : Nat, j ≤ n ∧ i = .int .i64 (j : Int) ∧ Below WA.heap.size WA wr) (fun i _ => n - (intOf i).toNat)
  case atStart => exact ⟨0, by omega, rfl, Below.refl _ _⟩
  case round =>
    clear a0
    obtain ⟨j, hj, rfl, hbr⟩ := hrel
    have hj0 : (0 : Int) ≤ (j : Int) := by omega
    by_cases hlt : j < n
    · have hlt' : (j : Int) < (n : Int) := by omega
      obtain ⟨c0, c1, c2⟩ := (HC.out.a1.row.on hbr).cell j hlt
      have hal : Below WA.heap.size WA (wr.alloc (.cells #[.int .i64 10, .int .i64 0, .string ⟨#[]⟩] 43)) := hbr.alloc hbr.size _
      go_upto_region 13 with (fail)
      obtain ⟨W1, hW1⟩ : ∃ W1, wr.alloc (.cells #[.int .i64 10, .int .i64 0, .string ⟨#[]⟩] 43) = W1 := ⟨_, rfl⟩
      have bx := Box.new wr 43 #[.int .i64 10, .int .i64 0, .string ⟨#[]⟩]
      obtain ⟨kb, hkb⟩ : ∃ kb, wr.heap.size = kb := ⟨_, rfl⟩
      rw [hW1] at hal bx ⊢
      rw [hkb] at bx ⊢
      have x0 : W1.cell? ⟨kb, 0, none⟩ = some (.int .i64 10) := bx.at_ 0
      clear c0 c1 c2 hbr bx hW1 hkb
      go_wp2
      exact ⟨⟨j + 1, by omega, by go_num, hal⟩, by simp [intOf]; omega⟩
    · obtain rfl : j = n := by omega
      have hlt' : ¬ (j : Int) < (j : Int) := by omega
      replace HC := Veil.mk (HC.out.on hbr)
      have h0 : wr.cell? ⟨h, 0, none⟩ = some (.pointer (some ⟨B, 0, none⟩)) := HC.out.hp.hb.at_ 0
      have hal : Below wr.heap.size wr (wr.alloc (.cells #[.int .i64 2] 3)) := (Below.refl _ _).alloc (Nat.le_refl _) _
      have hx : (wr.alloc (.cells #[.int .i64 2] 3)).cell? ⟨wr.heap.size, 0, none⟩ = some (.int .i64 2) := (Box.new wr 3 #[.int .i64 2]).at_ 0
      have HPU := Veil.mk ((HC.out.on hal).push wr.heap.size hx)
      have hn3 : j ≤ 1000 := by omega
      clear hal hx hbr hlt hj
      go_upto_region 17 with (go_at_call 20; ((with_reducible refine HPU.out.mono ?_); rintro e9 wp ⟨rfl, cv9, fv9, rv9, hs9⟩))
      have h1 : wp.cell? ⟨h, 0, none⟩ = some (.pointer (some ⟨B, 0, none⟩)) := hs9.hp.hb.at_ 0
      have HCO := Veil.mk (hs9.col hn3)
      clear h0 hs9 HC HPU
      go_upto_region 18 with (go_at_call 21; ((with_reducible refine HCO.out.mono ?_); rintro e9 wc ⟨frv, rfl, fv8, hp8, hb8⟩))
      have h2 : wc.cell? ⟨h, 0, none⟩ = some (.pointer (some ⟨B, 0, none⟩)) := hp8.hb.at_ 0
      have HCN : Veil (Calls Tryz.prog 17 #[.pointer (some ⟨B, 0, none⟩)] wc fun e w' => e = .returned (.int .i64 2) ∧ w' = wc) := ⟨count_any B B _ _ _ _ wc hp8.ar⟩
      have HEN : Veil (Calls Tryz.prog 16 #[.pointer (some ⟨h, 0, none⟩), .int .i64 1] wc fun e w' => e = .returned (.pointer (some ⟨e1, 0, none⟩)) ∧ w' = wc) := ⟨env_some hp8 1 e1 rfl⟩
      have HBE := Veil.mk hb8
      clear h1 hp8 hb8
      go_wp2_with (first | (go_at_call 17; ((with_reducible refine HCN.out.mono ?_); rintro e9 w9 ⟨rfl, h9⟩; subst w9)) | (go_at_call 16; ((with_reducible refine HEN.out.mono ?_); rintro e9 w9 ⟨rfl, h9⟩; subst w9)))
      go_ret
      exact ⟨rfl, HBE.out⟩
end Go.Proofs.YtbeapojjbgkalaaGreatDoor
