/- The laws' example: two cells that hold one another go. -/
import Derived.Test.YtkkbfadfgdjkdaaAs
namespace Go.Proofs.Ytkkbfadfgdjkdaa
open Go Go.RowKit

theorem Sys.congr {B A : Nat} {d : AD} {to_ to2 : Nat → List Int} {en en2 : Nat → Int} {cv fv rv : Value} {w : World} (h : Sys B A d to_ en cv fv rv w) (he : ∀ (k nb : Nat), d.cells[k]? = some (some nb) → to2 nb = to_ nb ∧ en2 nb = en nb) : Sys B A d to2 en2 cv fv rv w :=
  ⟨h.ar, fun k nb hk => by rw [(he k nb hk).1, (he k nb hk).2]; exact h.nodes k nb hk, h.low⟩
/-- A node that was just made. -/
theorem node_new {w : World} {nb : Nat} {X : Nat → Prop} {en : Int} (h : Box w nb 30 #[.slice none 0 0, .slice none 0 0, .slice none 0 0, .int .i64 en]) : NodeAt w nb [] en w.heap.size X none 0 0 :=
  ⟨h, Ints.nil w, by omega, h.lt, (fun b ⟨o, ho⟩ => nomatch ho), (fun b ⟨o, ho⟩ => nomatch ho)⟩
theorem ints_one {w : World} {b : Nat} {r : Int} (h : Box w b 3 #[.int .i64 r]) : Ints w (some ⟨b, 0, none⟩) 1 [r] :=
  ⟨rfl, fun _ => ⟨b, 0, rfl, h.lt, h.lab, fun i hi => by
    obtain rfl : i = 0 := by omega
    exact h.at_ 0⟩⟩
theorem node_one {w : World} {nb b : Nat} {X : Nat → Prop} {en r : Int} (h : Box w nb 30 #[.slice (some ⟨b, 0, none⟩) 1 1, .slice none 0 0, .slice none 0 0, .int .i64 en]) (hb : Box w b 3 #[.int .i64 r]) (hX : ¬ X b) : NodeAt w nb [r] en w.heap.size X (some ⟨b, 0, none⟩) 1 1 :=
  ⟨h, ints_one hb, by omega, h.lt, (fun c ⟨o, ho⟩ => by cases ho; exact hb.lt), (fun c ⟨o, ho⟩ => by cases ho; exact hX)⟩
theorem new_sys {w' : World} {B A : Nat} (h : ArAt w' B A (.slice none 0 0) (.slice none 0 0) (.slice none 0 0) emptyD) (to_ : Nat → List Int) (en : Nat → Int) : Sys B A emptyD to_ en (.slice none 0 0) (.slice none 0 0) (.slice none 0 0) w' :=
  ⟨h, (fun _ _ hk => nomatch hk), (fun _ _ hk => nomatch hk)⟩
set_option maxHeartbeats 4000000 in
set_option maxRecDepth 100000 in
theorem fit_any (w : World) : Calls Try.prog 8 #[] w fun e w' => e = .returned (.bool true) ∧ Below w.heap.size w w' := by
  obtain ⟨A, hA⟩ : ∃ A, w.heap.size = A := ⟨_, rfl⟩
  have HN : Veil (Calls Try.prog 9 #[] w fun e w' => e = .returned (.pointer (some ⟨A, 0, none⟩)) ∧ Below A w w' ∧ A < w'.heap.size ∧ ArAt w' A A (.slice none 0 0) (.slice none 0 0) (.slice none 0 0) emptyD) := ⟨by rw [← hA]; exact new_any w⟩
  rw [hA]
  go_enter Try.func8, Try.ntmps8
  go_upto_region 3 with (first | (go_at_call 9; ((with_reducible refine HN.out.mono ?_); rintro e w1 ⟨rfl, hb1, hs1, ha1⟩)))
  obtain ⟨nx, hnx⟩ : ∃ nx, w1.heap.size = nx := ⟨_, rfl⟩
  have bx2 := Box.new w1 30 #[.slice none 0 0, .slice none 0 0, .slice none 0 0, .int .i64 0]
  have bb2 : Below w1.heap.size w1 (w1.alloc (.cells #[.slice none 0 0, .slice none 0 0, .slice none 0 0, .int .i64 0] 30)) := (Below.refl _ _).alloc (Nat.le_refl _) _
  have s2 := (new_sys ha1 (fun _ => []) (fun _ => 0)).below bb2
  have hbA2 : Below A w (w1.alloc (.cells #[.slice none 0 0, .slice none 0 0, .slice none 0 0, .int .i64 0] 30)) := hb1.trans (bb2.mono (by omega))
  generalize w1.alloc (.cells #[.slice none 0 0, .slice none 0 0, .slice none 0 0, .int .i64 0] 30) = w2 at bx2 s2 hbA2 ⊢
  rw [hnx] at bx2 ⊢
  have HM1 := Veil.mk (sys_make s2 nx (node_new bx2) (by omega) (.inl rfl) (by decide) (by decide) (by decide))
  have HK2 := Veil.mk (And.intro bx2 (And.intro hbA2 s2))
  clear bb2 bx2 s2 hbA2 ha1 hb1 HN
  go_upto_region 4 with (first | (go_at_call 10; ((with_reducible refine HM1.out.mono ?_); rintro e w3 ⟨rfl, cv3, fv3, rv3, hp3⟩)))
  have e1 : emptyD.mk2 nx = (⟨[some nx], [], 1, []⟩, 1) := rfl
  rw [e1] at hp3 ⊢
  obtain ⟨bx2, hbA2, s2⟩ := HK2.out
  have hw3 : w2.heap.size ≤ w3.heap.size := hp3.touch.size
  have bx3 := bx2.touch hp3.touch (AFoot.lab s2.ar bx2.lab (by decide) (by decide) (by decide))
  have hbA3 : Below A w w3 := hbA2.trans (hp3.touch.below (by have := bx2.lt; omega) (fun k hk => (AFoot.lt s2.ar hk).1))
  have s3 := hp3.sys
  obtain ⟨b4, hb4⟩ : ∃ b4, w3.heap.size = b4 := ⟨_, rfl⟩
  have bb4 : Below w3.heap.size w3 ((w3.alloc (.cells #[.int .i64 1] 3)).alloc (.cells #[.slice (some ⟨w3.heap.size, 0, none⟩) 1 1, .slice none 0 0, .slice none 0 0, .int .i64 0] 30)) := ((Below.refl _ _).alloc (Nat.le_refl _) _).alloc (by simp) _
  have br4 := (Box.new w3 3 #[.int .i64 1]).more (.cells #[.slice (some ⟨w3.heap.size, 0, none⟩) 1 1, .slice none 0 0, .slice none 0 0, .int .i64 0] 30)
  have by4 := Box.new (w3.alloc (.cells #[.int .i64 1] 3)) 30 #[.slice (some ⟨w3.heap.size, 0, none⟩) 1 1, .slice none 0 0, .slice none 0 0, .int .i64 0]
  rw [World.size_alloc] at by4
  have s4 := s3.below bb4
  have bx4 := bx3.below bb4
  have hbA4 := hbA3.trans (bb4.mono (by have := bx2.lt; omega))
  have hnx2 : nx < w2.heap.size := bx2.lt
  rw [hb4] at br4 by4 hw3 s4 bx4 hbA4
  obtain ⟨w4, hw4⟩ : ∃ w4, (w3.alloc (.cells #[.int .i64 1] 3)).alloc (.cells #[.slice (some ⟨b4, 0, none⟩) 1 1, .slice none 0 0, .slice none 0 0, .int .i64 0] 30) = w4 := ⟨_, rfl⟩
  rw [hw4] at br4 by4 s4 bx4 hbA4
  have hX4 : ¬ AFoot A cv3 fv3 rv3 b4 := fun hk => by have := (AFoot.lt s3.ar hk).2; omega
  have s4' : Sys A A ⟨[some nx], [], 1, []⟩ (fun b => if b = b4 + 1 then [1] else []) (fun _ => 0) cv3 fv3 rv3 w4 := s4.congr (fun k nb hk => by
    have : nb = nx := by
      have := List.mem_of_getElem? hk
      simpa using this
    subst this
    exact ⟨if_neg (by omega), rfl⟩)
  have hny : NodeAt w4 (b4 + 1) ((fun b => if b = b4 + 1 then [1] else []) (b4 + 1)) 0 w4.heap.size (AFoot A cv3 fv3 rv3) (some ⟨b4, 0, none⟩) 1 1 := by
    show NodeAt w4 (b4 + 1) (if b4 + 1 = b4 + 1 then [1] else []) 0 w4.heap.size (AFoot A cv3 fv3 rv3) (some ⟨b4, 0, none⟩) 1 1
    rw [if_pos rfl]
    exact node_one by4 br4 hX4
  have HM2 : Veil (Calls Try.prog 10 #[.pointer (some ⟨A, 0, none⟩), nodeV (b4 + 1)] ((w3.alloc (.cells #[.int .i64 1] 3)).alloc (.cells #[.slice (some ⟨b4, 0, none⟩) 1 1, .slice none 0 0, .slice none 0 0, .int .i64 0] 30)) fun e w' => e = .returned (.int .i64 2) ∧ ∃ cv' fv' rv', SysPost A A ⟨[some nx, some (b4 + 1)], [], 2, []⟩ (fun b => if b = b4 + 1 then [1] else []) (fun _ => 0) cv3 fv3 rv3 w4 cv' fv' rv' w') := ⟨by
    rw [hw4]
    exact sys_make s4' (b4 + 1) hny (by omega) (.inl rfl) (by show 1 < 4194304; omega) (by show 1 < 1000000; omega) (by show 0 < 1000000; omega)⟩
  have HK4 := Veil.mk (And.intro bx4 (And.intro hbA4 (And.intro s4' (And.intro br4 by4))))
  clear hw4 s4 s4' hny bx4 hbA4 br4 by4 bb4 bx3 hbA3 s3 hp3 bx2 hbA2 s2 HK2 HM1 e1 hX4
  go_upto_region 5 with (first | (go_at_call 10; ((with_reducible refine HM2.out.mono ?_); rintro e w5 ⟨rfl, cv5, fv5, rv5, hp5⟩)))
  obtain ⟨bx4, hbA4, s4, br4, by4⟩ := HK4.out
  have hw5 := hp5.touch.size
  have hlx := AFoot.lab s4.ar bx4.lab (by decide) (by decide) (by decide)
  have hly := AFoot.lab s4.ar by4.lab (by decide) (by decide) (by decide)
  have bx5 := bx4.touch hp5.touch hlx
  have hbA5 : Below A w w5 := hbA4.trans (hp5.touch.below (by have := bx4.lt; omega) (fun k hk => (AFoot.lt s4.ar hk).1))
  have s5 := hp5.sys
  have hb4l : b4 + 1 < w4.heap.size := by4.lt
  obtain ⟨b5, hb5⟩ : ∃ b5, w5.heap.size = b5 := ⟨_, rfl⟩
  have bb6 : Below w5.heap.size w5 (w5.alloc (.cells #[.int .i64 2] 3)) := (Below.refl _ _).alloc (Nat.le_refl _) _
  have br6 := Box.new w5 3 #[.int .i64 2]
  have s6 := s5.below bb6
  have bx6 := bx5.below bb6
  have hbA6 := hbA5.trans (bb6.mono (by omega))
  rw [hb5] at br6
  have x0 : (w5.alloc (.cells #[.int .i64 2] 3)).cell? ⟨nx, 0, none⟩ = some (.slice none 0 0) := bx6.at_ 0
  have x0f := bx6.free 0
  have HK5 := Veil.mk (And.intro s6 (And.intro bx6 (And.intro hbA6 (And.intro br6 s5))))
  clear bx4 hbA4 s4 br4 by4 hlx hly bx5 hbA5 s5 bb6 br6 s6 bx6 hbA6 hp5 HK4 HM2
  go_upto_region 6 with (fail)
  obtain ⟨s6, bx6, hbA6, br6, s5⟩ := HK5.out
  obtain ⟨w6, hw6⟩ : ∃ w6, w5.alloc (.cells #[.int .i64 2] 3) = w6 := ⟨_, rfl⟩
  rw [hw6] at s6 bx6 hbA6 br6 ⊢
  have tp : Touch (fun k => k = nx) w6 (w6.setCell ⟨nx, 0, none⟩ (.slice (some ⟨b5, 0, none⟩) 1 1)) := Touch.put (S := fun k => k = nx) rfl _ _
  have lx := bx6.lab
  have bx7 : Box (w6.setCell ⟨nx, 0, none⟩ (.slice (some ⟨b5, 0, none⟩) 1 1)) nx 30 #[.slice (some ⟨b5, 0, none⟩) 1 1, .slice none 0 0, .slice none 0 0, .int .i64 0] := bx6.put 0 _
  have br7 := br6.touch tp (fun e => br6.lab.ne lx (by decide) e)
  have hX5 : ¬ AFoot A cv5 fv5 rv5 b5 := fun hk => by have := (AFoot.lt s5.ar hk).2; omega
  have ar7 := s6.ar.touch tp (fun k hk e => AFoot.lab s6.ar lx (by decide) (by decide) (by decide) (by rw [← e]; exact hk))
  have hbA7 : Below A w (w6.setCell ⟨nx, 0, none⟩ (.slice (some ⟨b5, 0, none⟩) 1 1)) := hbA6.setCell (p := ⟨nx, 0, none⟩) (by show A ≤ nx; omega) _
  have hsz : (w6.setCell ⟨nx, 0, none⟩ (.slice (some ⟨b5, 0, none⟩) 1 1)).heap.size = w6.heap.size := by simp [World.setCell]
  have s7 : Sys A A ⟨[some nx, some (b4 + 1)], [], 2, []⟩ (fun b => if b = b4 + 1 then [1] else [2]) (fun _ => 0) cv5 fv5 rv5 (w6.setCell ⟨nx, 0, none⟩ (.slice (some ⟨b5, 0, none⟩) 1 1)) := by
    refine ⟨ar7, fun k nb hk => ?_, s6.low⟩
    have hm := List.mem_of_getElem? hk
    simp only [List.mem_cons, Option.some.injEq, List.not_mem_nil, or_false] at hm
    rcases hm with rfl | rfl
    · refine ⟨some ⟨b5, 0, none⟩, 1, 1, ?_⟩
      show NodeAt _ nb (if nb = b4 + 1 then [1] else [2]) 0 _ _ _ 1 1
      rw [if_neg (by omega)]
      exact node_one bx7 br7 hX5
    · obtain ⟨a, na, ca, hx⟩ := s6.nodes k (b4 + 1) hk
      refine ⟨a, na, ca, ?_⟩
      have h9 := hx.touchN tp (by omega) (fun b _ hl e => hl.ne lx (by decide) e)
      rw [← hsz] at h9
      show NodeAt _ (b4 + 1) (if b4 + 1 = b4 + 1 then [1] else [2]) 0 _ _ a na ca
      have h10 : NodeAt _ (b4 + 1) (if b4 + 1 = b4 + 1 then [1] else []) 0 _ _ a na ca := h9
      rw [if_pos rfl] at h10 ⊢
      exact h10
  generalize w6.setCell ⟨nx, 0, none⟩ (.slice (some ⟨b5, 0, none⟩) 1 1) = w7 at s7 bx7 hbA7 ⊢
  have HC := Veil.mk (sys_collect s7 (by show 2 < 1000000; omega) (by show 0 < 1000000; omega) (by show 0 < 1000000; omega) (fun _ => ⟨by omega, by omega⟩) rfl)
  have HK7 := Veil.mk (And.intro s7 (And.intro bx7 hbA7))
  clear s6 bx6 hbA6 br6 s5 tp lx bx7 br7 hX5 ar7 hbA7 s7 HK5 hw6 hsz x0 x0f
  go_upto_region 7 with (first | (go_at_call 12; ((with_reducible refine HC.out.mono ?_); rintro e w8 ⟨M, frv, fv8, rfl, hc⟩)))
  have hd1 : deadB ⟨[some nx, some (b4 + 1)], [], 2, []⟩ M (((0 : Nat) : Int) + 1) = true := (deadB_iff hc.len hc.reach 0).2 ⟨⟨nx, rfl⟩, no_reach 0⟩
  have hd2 : deadB ⟨[some nx, some (b4 + 1)], [], 2, []⟩ M (((1 : Nat) : Int) + 1) = true := (deadB_iff hc.len hc.reach 1).2 ⟨⟨b4 + 1, rfl⟩, no_reach 1⟩
  have hfr : frL ⟨[some nx, some (b4 + 1)], [], 2, []⟩ M 2 = [1, 2] := by
    rw [frL_yes hd2, frL_yes hd1]
    rfl
  have hgn : gnL ⟨[some nx, some (b4 + 1)], [], 2, []⟩ M 2 = [nx, b4 + 1] := by
    rw [gnL_yes hd2 (nb := b4 + 1) rfl, gnL_yes hd1 (nb := nx) rfl]
    rfl
  have hro := hc.row
  have hs8 := hc.sys
  have hall := hc.all
  have h2 : (⟨[some nx, some (b4 + 1)], [], 2, []⟩ : AD).cells.length = 2 := rfl
  rw [h2, hfr] at hro hs8
  rw [hgn] at hs8
  rw [h2, hgn] at hall
  obtain ⟨ao, cap, rfl, -, -, -⟩ := slice_own hro
  have hcn := Veil.mk (count_any _ A _ _ _ _ w8 hs8.ar)
  obtain ⟨a8, na8, ca8, hx8⟩ := hall 0 nx rfl
  have hen8 : enK (fun _ => 0) [nx, b4 + 1] nx = 1 := by
    unfold enK
    rw [List.count_cons_self, List.count_cons_of_ne (by omega)]
    rfl
  have y3 : w8.cell? ⟨nx, 3, none⟩ = some (.int .i64 1) := by
    rw [hx8.box.at_ 3]
    show some (Value.int .i64 (enK (fun _ => 0) [nx, b4 + 1] nx)) = _
    rw [hen8]
  have HP : Veil (Below A w w8) := ⟨HK7.out.2.2.trans hc.below⟩
  replace hcn : Veil (Calls Try.prog 13 #[.pointer (some ⟨A, 0, none⟩)] w8 fun e w' => e = .returned (.int .i64 0) ∧ w' = w8) := hcn
  clear hc hro hs8 hall hx8 hd1 hd2 hfr hgn hen8
  go_wp2_with (first | (go_at_call 13; ((with_reducible refine hcn.out.mono ?_); rintro e9 w9 ⟨rfl, h9⟩; subst w9)))
  go_ret
  exact ⟨rfl, HP.out⟩
end Go.Proofs.Ytkkbfadfgdjkdaa
