/- CodeConstants: what the law reads behind Emit. -/
import Derived.Test.YtbkgophgclpijaaDoorCc
import Derived.Deep.RegionHeld3
namespace Go.Proofs.YtbkgophgclpijaaDoor
open Go.RowKit

theorem EmitPost.undrew {F base n : Nat} {v8 v9 v10 : Value} {l : List (Int × Int × Int)} {o p q : Int} {w : World} {e : Ending} {w' : World} (h : EmitPost F base n v8 v9 v10 l o p q w.drew e w') : EmitPost F base n v8 v9 v10 l o p q w e w' := by
  obtain ⟨he, g, cap, a, b, c, d⟩ := h
  exact ⟨he, g, cap, a, b, ⟨c.os, c.tape, c.output, c.size, c.block⟩, d⟩
theorem emit_facts {W2 wr w2 : World} {F n : Nat} {v8 v9 v10 : Value} {l : List (Int × Int × Int)} {o p q : Int} {e : Ending} (hln : l.length = n) (hbox : Box wr F 53 (fcells v8 v9 v10)) (hown : wr.ownsRow W2.heap.size 61 3 v8 n (flat l)) (ho : Only W2 wr F)
    (hE : EmitPost F W2.heap.size n v8 v9 v10 l o p q (wr.alloc (.cells #[.int .i64 o, .int .i64 p, .int .i64 q] 58)) e w2) :
    e = .returned (.int .i64 (n : Int)) ∧ ∃ g cap, w2.cell? ⟨F, 8, none⟩ = some (.slice (some ⟨g, 0, none⟩) (n + 1) cap) ∧ w2.cell? ⟨g, n * 3, none⟩ = some (.int .i64 o) ∧ w2.cell? ⟨g, n * 3 + 1, none⟩ = some (.int .i64 p) ∧ w2.cell? ⟨g, n * 3 + 2, none⟩ = some (.int .i64 q) ∧
      Box w2 wr.heap.size 58 #[.int .i64 o, .int .i64 p, .int .i64 q] ∧ Box w2 F 53 (fcells (.slice (some ⟨g, 0, none⟩) (n + 1) cap) v9 v10) ∧ w2.ownsRow W2.heap.size 61 3 (.slice (some ⟨g, 0, none⟩) (n + 1) cap) (n + 1) (flat (l ++ [(o, p, q)])) ∧ Only W2 w2 F := by
  obtain ⟨he, g, cap, hb, hw, ht, hg⟩ := hE
  have hat : (l ++ [(o, p, q)])[n]? = some (o, p, q) := by rw [← hln]; simp
  obtain ⟨h1, h2, h3⟩ := flat_at hat
  have c1 := hw.cells (g := g) rfl _ _ h1
  have c2 := hw.cells (g := g) rfl _ _ h2
  have c3 := hw.cells (g := g) rfl _ _ h3
  rw [addr_add] at c1 c2 c3
  have hnew := Box.new wr 58 #[.int .i64 o, .int .i64 p, .int .i64 q]
  have hown1 := hown.alloc (.cells #[.int .i64 o, .int .i64 p, .int .i64 q] 58)
  refine ⟨he, g, cap, hb.at_ 8, c1, c2, c3, ?_, hb, hw, ?_⟩
  · exact hnew.touch ht (fun hs => by
      rcases hs with hs | hs
      · exact Box.other hnew (hbox.more _) (by decide) hs
      · exact hnew.apart hown1 (by decide) hs.symm)
  · have ha := ho.alloc (.cells #[.int .i64 o, .int .i64 p, .int .i64 q] 58)
    refine ⟨ht.os.trans ha.os, ht.tape.trans ha.tape, ht.output.trans ha.output, Nat.le_trans ha.size ht.size, fun k hk hne => (ht.block k (Nat.lt_of_lt_of_le hk ha.size) (fun hs => ?_)).trans (ha.block k hk hne)⟩
    rcases hs with hs | hs
    · exact hne (by rw [hs])
    · have := (hown.lt k hs).1; omega

theorem wpAnyH_mono {P : Program} {md : Region.Mode} {ops : Array Oper} {Q : Exit → Act → World → Prop} {S S' : World → Prop} (hS : ∀ w, S' w → S w) : ∀ (fuel : Nat) (listed : Array Bool) (a : Act) (w : World), wpAnyH P md ops Q S' fuel listed a w → wpAnyH P md ops Q S fuel listed a w
  | 0, _, _, _, h => h
  | fuel + 1, _, _, _, h => ⟨h.1, fun i hi => wpOp_mono (fun a' w' h' => ⟨hS _ h'.1, wpAnyH_mono hS fuel _ a' w' h'.2⟩) (h.2 i hi)⟩
end Go.Proofs.YtbkgophgclpijaaDoor
