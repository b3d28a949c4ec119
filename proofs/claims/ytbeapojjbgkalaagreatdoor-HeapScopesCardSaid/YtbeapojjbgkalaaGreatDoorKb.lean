/- fit: Concat of three rows, two, one and no key. -/
import Derived.Test.YtbeapojjbgkalaaGreatDoorKa
import Derived.Lib.AppendZeros
import Derived.Lib.Walk
import Derived.Deep.Upon
namespace Go.Proofs.YtbeapojjbgkalaaGreatDoor
open Go Go.RowKit

theorem Tryz.infoV : (Tryz.prog.info? 43).map (fun i => (i.zero, i.size, i.bytes)) = some (some (.agg #[.int .i64 0, .int .i64 0, .string ⟨#[]⟩]), 3, 32) := by kernel_rfl
set_option maxRecDepth 100000 in
theorem grow_3 (w : World) : Calls Tryz.prog 83 #[.slice none 0 0, .int .i64 3] w fun e w' => ∃ g cap, e = .returned (.slice (some ⟨g, 0, none⟩) 0 cap) ∧ w'.ownsRow w.heap.size 43 3 (.slice (some ⟨g, 0, none⟩) 0 cap) 0 [] ∧ Below w.heap.size w w' := by
  obtain ⟨i0, hi, hz0, hz1, hz2⟩ := info_parts Tryz.infoV
  have hrz := fun ty => Lib.run_append_nil_zeros (P := Tryz.prog) w 34 3 ty 43 i0 _ .i64 .i64 Tryz.underlying34 Tryz.underlying3 hi hz0 3 (by omega) (by omega) (by omega) (by rw [hz2]; omega)
  obtain ⟨G, hG⟩ : ∃ G, G = grownCap w 3 0 43 := ⟨_, rfl⟩
  have hg1 : 3 ≤ G := by rw [hG]; exact grownCap_ge _ _ _ _
  have hg2 : G ≤ maxLen := by rw [hG]; exact grownCap_le_maxLen _ _ _ _ (by unfold maxLen; omega)
  rw [← hG] at hrz
  obtain ⟨cs, hcs⟩ : ∃ cs, cs = Builtin.zeroCells (Value.agg #[.int .i64 0, .int .i64 0, .string ⟨#[]⟩]).cells 3 ++ Builtin.zeroCells (Value.agg #[.int .i64 0, .int .i64 0, .string ⟨#[]⟩]).cells (G - 3) := ⟨_, rfl⟩
  have hsz : cs.size = G * 3 := by
    rw [hcs]
    simp [Builtin.zeroCells, Value.cells]
    omega
  rw [← hcs] at hrz
  have bb : Below w.heap.size w (w.drew.alloc (.cells cs 43)) := (Below.refl _ _).drew.alloc (Nat.le_refl _) _
  have bx : Box (w.drew.alloc (.cells cs 43)) w.heap.size 43 cs := Box.new w.drew _ _
  have hD : Veil ((w.drew.alloc (.cells cs 43)).ownsRow w.heap.size 43 3 (.slice (some ⟨w.heap.size, 0, none⟩) 0 G) 0 [] ∧ Below w.heap.size w (w.drew.alloc (.cells cs 43))) := ⟨⟨rfl, .inr ⟨_, G, cs, rfl, Nat.le_refl _, bx, Nat.zero_le _, hg2, hsz, rfl⟩⟩, bb⟩
  unfold maxLen at hg2
  have hg3 : (G : Int) ≤ 9223372036854775807 := by omega
  clear hG hcs hsz bb bx hi hz0 hz1 hz2
  go_enter Tryz.func83, Tryz.ntmps83
  go_wp2_with (at_builtin; refine Lib.wpList_append_run _ rfl _ _ _ _ rfl _ _ rfl rfl _ _ (hrz _) ?_)
  all_goals (go_ret; exact ⟨_, _, rfl, hD.out.1, hD.out.2⟩)
/-- The key length, in a row. -/
abbrev lenC : List Value := [.int .i64 7, .int .i64 0, .string lenB]
theorem own_news {w : World} {B g n cap size : Nat} {e : TypeId} {xs : List Value} (h : w.ownsRow B e size (.slice (some ⟨g, 0, none⟩) n cap) n xs) : ∀ j u, xs[j]? = some u → w.cell? ((⟨g, 0, none⟩ : Addr).add j) = some u := by
  intro j u hj
  have hl := (List.getElem?_eq_some_iff.1 hj).1
  have h1 := h.cellAt j (by rw [← h.1]; exact hl)
  have e : ((⟨g, 0, none⟩ : Addr).add j) = ⟨g, j, none⟩ := by
    unfold Addr.add; split
    · simp [*]
    · simp
  rw [e, h1, hj]
set_option maxRecDepth 100000 in
set_option maxHeartbeats 1000000 in
theorem concat_fit {w : World} {B x g1 c1 g2 c2 : Nat} (hx : Box w x 34 #[.slice (some ⟨g1, 0, none⟩) 2 c1, .slice (some ⟨g2, 0, none⟩) 1 c2, .slice none 0 0]) (r1 : w.ownsRow B 43 3 (.slice (some ⟨g1, 0, none⟩) 2 c1) 2 ks2) (r2 : w.ownsRow B 43 3 (.slice (some ⟨g2, 0, none⟩) 1 c2) 1 lenC) :
    Calls Tryz.prog 46 #[.slice (some ⟨x, 0, none⟩) 3 3] w fun e w' => ∃ g cap, e = .returned (.slice (some ⟨g, 0, none⟩) 3 cap) ∧ w'.ownsRow w.heap.size 43 3 (.slice (some ⟨g, 0, none⟩) 3 cap) 3 (ks2 ++ lenC) ∧ Below w.heap.size w w' := by
  obtain ⟨i0, hi, hz0, hz1, hz2⟩ := info_parts Tryz.infoV
  have c0 : w.cell? ⟨x, 0, none⟩ = some (.slice (some ⟨g1, 0, none⟩) 2 c1) := hx.at_ 0
  have c1' : w.cell? ⟨x, 1, none⟩ = some (.slice (some ⟨g2, 0, none⟩) 1 c2) := hx.at_ 1
  have c2' : w.cell? ⟨x, 2, none⟩ = some (.slice none 0 0) := hx.at_ 2
  have HR := Veil.mk (And.intro hx (And.intro r1 r2))
  have HG := Veil.mk (fun w => grow_3 w)
  have KE : Veil (∀ w', Touch (fun k => w.heap.size ≤ k) w w' → Box w' x 34 #[.slice (some ⟨g1, 0, none⟩) 2 c1, .slice (some ⟨g2, 0, none⟩) 1 c2, .slice none 0 0] ∧ w'.ownsRow B 43 3 (.slice (some ⟨g1, 0, none⟩) 2 c1) 2 ks2 ∧ w'.ownsRow B 43 3 (.slice (some ⟨g2, 0, none⟩) 1 c2) 1 lenC) :=
    ⟨fun w' ht => ⟨hx.touch ht (fun h => by have := hx.lt; omega), own_touch r1 ht (fun k hk h => by have := (own_lt r1 k hk).2; omega), own_touch r2 ht (fun k hk h => by have := (own_lt r2 k hk).2; omega)⟩⟩
  clear hx r1 r2
  go_enter Tryz.func46, Tryz.ntmps46
  go_wp2
  refine wp_loop_rounds 4 ?_
  rw [rounds_succ]
  go_wp2
  rw [rounds_succ]
  go_wp2
  rw [rounds_succ]
  go_wp2
  rw [rounds_succ]
  go_wp2_with (go_at_call 83; ((with_reducible refine (HG.out _).mono ?_); rintro e w1 ⟨g, cap, rfl, ho1, hb1⟩))
  have ht0 : Touch (fun k => w.heap.size ≤ k) w w1 := Touch.of_below hb1
  obtain ⟨x0, a0, b0⟩ := KE.out _ ht0
  have d0 : w1.cell? ⟨x, 0, none⟩ = some (.slice (some ⟨g1, 0, none⟩) 2 c1) := x0.at_ 0
  have d1 : w1.cell? ⟨x, 1, none⟩ = some (.slice (some ⟨g2, 0, none⟩) 1 c2) := x0.at_ 1
  have d2 : w1.cell? ⟨x, 2, none⟩ = some (.slice none 0 0) := x0.at_ 2
  have HO0 := Veil.mk ho1
  have HN0 := Veil.mk (own_news a0)
  have HS0 := Veil.mk ht0.size
  have HT0 := Veil.mk ht0
  have hcap0 : (0 : Int) ≤ (cap : Int) := by omega
  clear c0 c1' c2' x0 a0 b0 ht0 ho1 hb1 HG HR
  go_wp2
  refine wp_loop_rounds 4 ?_
  rw [rounds_succ]
  go_wp2_with (at_builtin; refine wpList_append_lies _ rfl (.tmp 31) (.tmp 32) 34 rfl w.heap.size 43 i0 (.agg #[.int .i64 0, .int .i64 0, .string ⟨#[]⟩]) 3 32 Tryz.underlying34 hi hz0 hz1 hz2 rfl (by decide) _ 0 [] rfl HO0.out ⟨g1, 0, none⟩ 2 _ ks2 rfl rfl HN0.out (by simp [Value.oneCell']) (by decide) (by unfold maxLen; omega) (by omega) HS0.out _ rfl ?_; intro q0 p0 w2 ho0 hgr0 hbk0 hgl0; refine Hid.out ?_)
  have hq0 := (own_lt HO0.out g rfl).1
  have ht1 : Touch (fun k => w.heap.size ≤ k) w w2 := HT0.out.trans (Touch.of_grown hgr0 (fun k hk => by cases hk; exact hq0))
  replace ho0 : w2.ownsRow w.heap.size 43 3 (.slice (some ⟨q0, 0, none⟩) 2 p0) 2 ks2 := ho0
  obtain ⟨x1, a1, b1⟩ := KE.out _ ht1
  have d0 : w2.cell? ⟨x, 0, none⟩ = some (.slice (some ⟨g1, 0, none⟩) 2 c1) := x1.at_ 0
  have d1 : w2.cell? ⟨x, 1, none⟩ = some (.slice (some ⟨g2, 0, none⟩) 1 c2) := x1.at_ 1
  have d2 : w2.cell? ⟨x, 2, none⟩ = some (.slice none 0 0) := x1.at_ 2
  have HO1 := Veil.mk ho0
  have HN1 := Veil.mk (own_news b1)
  have HS1 := Veil.mk ht1.size
  have HT1 := Veil.mk ht1
  clear d0 d1 d2 x1 a1 b1 ht1 ho0 hgr0 hbk0 HO0 HN0 HS0 HT0
  obtain ⟨x1, a1, b1⟩ := KE.out _ HT1.out
  have d0 : w2.cell? ⟨x, 0, none⟩ = some (.slice (some ⟨g1, 0, none⟩) 2 c1) := x1.at_ 0
  have d1 : w2.cell? ⟨x, 1, none⟩ = some (.slice (some ⟨g2, 0, none⟩) 1 c2) := x1.at_ 1
  have d2 : w2.cell? ⟨x, 2, none⟩ = some (.slice none 0 0) := x1.at_ 2
  clear x1 a1 b1
  refine Lib.hid ?_
  go_wp2
  rw [rounds_succ]
  go_wp2_with (at_builtin; refine wpList_append_lies _ rfl (.tmp 31) (.tmp 32) 34 rfl w.heap.size 43 i0 (.agg #[.int .i64 0, .int .i64 0, .string ⟨#[]⟩]) 3 32 Tryz.underlying34 hi hz0 hz1 hz2 rfl (by decide) _ 2 ks2 rfl HO1.out ⟨g2, 0, none⟩ 1 _ lenC rfl rfl HN1.out (by simp [Value.oneCell']) (by decide) (by unfold maxLen; omega) (by omega) HS1.out _ rfl ?_; intro q1 p1 w3 ho1 hgr1 hbk1 hgl1; refine Hid.out ?_)
  have hq1 := (own_lt HO1.out q0 rfl).1
  have ht2 : Touch (fun k => w.heap.size ≤ k) w w3 := HT1.out.trans (Touch.of_grown hgr1 (fun k hk => by cases hk; exact hq1))
  replace ho1 : w3.ownsRow w.heap.size 43 3 (.slice (some ⟨q1, 0, none⟩) 3 p1) 3 (ks2 ++ lenC) := ho1
  clear d0 d1 d2
  obtain ⟨x2, a2, b2⟩ := KE.out _ ht2
  have d0 : w3.cell? ⟨x, 0, none⟩ = some (.slice (some ⟨g1, 0, none⟩) 2 c1) := x2.at_ 0
  have d1 : w3.cell? ⟨x, 1, none⟩ = some (.slice (some ⟨g2, 0, none⟩) 1 c2) := x2.at_ 1
  have d2 : w3.cell? ⟨x, 2, none⟩ = some (.slice none 0 0) := x2.at_ 2
  have hle : 3 ≤ p1 := by
    obtain ⟨ao, cp, e1, e2, -⟩ := slice_own ho1
    injection e1 with _ _ e1
    omega
  have hrz := fun ty => run_append_nothing (P := Tryz.prog) w3 34 34 ty 43 i0 Tryz.underlying34 hi (some ⟨q1, 0, none⟩) 3 p1 hle (.slice none 0 0) (Src.ofNil _ Tryz.underlying34 0)
  have HO2 := Veil.mk ho1
  have HT2 := Veil.mk ht2
  clear x2 a2 b2 ht2 ho1 hgr1 hbk1 HO1 HN1 HS1 HT1 hle
  refine Lib.hid ?_
  go_wp2
  rw [rounds_succ]
  go_wp2_with (at_builtin; refine Lib.wpList_append_run _ rfl _ _ _ _ rfl _ _ rfl rfl _ _ (hrz _) ?_)
  rw [rounds_succ]
  go_wp2
  go_ret
  exact ⟨_, _, rfl, HO2.out, HT2.out.below (Nat.le_refl _) (fun _ h => h)⟩
end Go.Proofs.YtbeapojjbgkalaaGreatDoor
