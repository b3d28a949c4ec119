/- OtableAll: what its walk needs. -/
import Derived.Test.YthlhchaapdhbfaaHc
import Derived.Test.YthlhchaapdhbfaaHd
import Derived.Test.YthlhchaapdhbfaaHg
import Derived.Test.YthlhchaapdhbfaaHq
namespace Go.Proofs.Ythlhchaapdhbfaa
open Go Go.RowKit

theorem play04 (B gb t gm : Nat) (F : Nat → Prop) (O : Ob) (l : List Re) (cl : Int) (vl vc vd : Value) (cs : List Cu) (hl : l.length < 20000) (hcs : cs.length < 900) (hc0 : 0 ≤ cl) (hc1 : cl < 10000) (c : CallD) (r : Nat) (hr : r < 4) (hk : (c.kind.tmod 7 + 7) % 7 = (r : Int)) (h7 : 0 < c.kind.tmod 7 + 7) (h8 : c.kind.tmod 7 < 7) (hlen : c.len ≤ 100) (hlt : ∀ u ∈ c.l, u < 65536) (w : World) (hnum : W.Nums .u16 w c.a c.len c.l) (h : BS w B gb t gm F O l cl vl vc vd cs) :
    Calls Try.prog 35 #[.pointer (some ⟨gb, 0, none⟩), callV c] w (PlayQ B gb t gm l cl vc vd cs w) := by
  rcases (by omega : r = 0 ∨ r = 1 ∨ r = 2 ∨ r = 3) with rfl | rfl | rfl | rfl
  · exact play_put B gb t gm F O l cl vl vc vd cs hl hcs hc0 hc1 c hk h7 h8 hlen hlt w hnum h
  · exact play_del B gb t gm F O l cl vl vc vd cs hl hcs hc0 hc1 c hk h7 h8 hlen hlt w hnum h
  · exact play_get B gb t gm F O l cl vl vc vd cs hl hcs hc0 hc1 c hk h7 h8 hlen hlt w hnum h
  · exact play_clear B gb t gm F O l cl vl vc vd cs hl hcs hc0 hc1 c hk h7 h8 hlen hlt w hnum h
theorem all_fn (t : Nat) (w : World) : Calls Try.prog 36 #[.pointer (some ⟨t, 0, none⟩)] w fun e w' => e = .returned (.func (.func 67) #[] #[.pointer (some ⟨w.heap.size, 0, none⟩)]) ∧ w' = w.alloc (.cells #[.pointer (some ⟨t, 0, none⟩)] 65) := by
  go_enter Try.func36, Try.ntmps36
  go_wp2
  go_ret
  exact ⟨rfl, rfl⟩
set_option maxRecDepth 100000 in
theorem stoq_any (B t : Nat) (T : Tab) (vs vb vc : Value) (hs : T.sl.length < 1000000) (hc : T.cur.length < 1000000) (w : World) (h : TabAt w B t T vs vb vc) : Calls Try.prog 37 #[.pointer (some ⟨t, 0, none⟩)] w fun e w' => e = .returned (.int .i64 ((T.sl.length : Int) + (T.cur.length : Int))) ∧ ∃ n, w' = w.drewN n := by
  obtain ⟨sa, ca, rfl, _, _, _⟩ := slice_own h.os
  obtain ⟨sc, cc, rfl, _, _, _⟩ := slice_own h.oc
  have c0 : w.cell? ⟨t, 0, none⟩ = some (.slice sa T.sl.length ca) := h.box.at_ 0
  have c3 : w.cell? ⟨t, 3, none⟩ = some (.slice sc T.cur.length cc) := h.box.at_ 3
  have e1 : IntKind.i64.wrap ((T.sl.length : Int) + (T.cur.length : Int)) = (T.sl.length : Int) + (T.cur.length : Int) := IntWalk.i64_in _ (by omega)
  clear h
  go_enter Try.func37, Try.ntmps37
  go_wp2
  go_quiet (fail)
  go_wp2
  go_ret
  exact ⟨rfl, _, rfl⟩
theorem stoq_tf {B t : Nat} {F : Nat → Prop} {O : Ob} {w : World} (h : Tf B t F O w) (h1 : O.1.length < 40000) (h2 : O.2.length < 100000) : ∃ s : Nat, s ≤ 2 * O.1.length + 8 + O.2.length ∧ 
    ∀ nd, Calls Try.prog 37 #[.pointer (some ⟨t, 0, none⟩)] (w.drewN nd) fun e w' => e = .returned (.int .i64 (s : Int)) ∧ ∃ n, w' = (w.drewN nd).drewN n := by
  obtain ⟨T, vs, vb, vc, hT, hG, ho, rfl⟩ := h
  obtain ⟨s1, s2⟩ := obs_sizes hG ho
  have hsl := hG.slack
  refine ⟨T.sl.length + T.cur.length, by omega, fun nd => (stoq_any B t T vs vb vc (by omega) (by omega) _ (hT.on (below_drewN (Below.refl _ w) nd))).mono ?_⟩
  rintro e w' ⟨rfl, hb⟩
  exact ⟨by simp, hb⟩
/-- The entries that are there. -/
def pres (l : List Re) : List Re := l.filter fun x => !x.gone
theorem liveR_pres (l : List Re) : liveR l = (pres l).map fun x => (x.key, x.val, x.fl) := rfl
theorem pres_take {l : List Re} {p : Nat} {x : Re} (hx : l[p]? = some x) : pres (l.take (p + 1)) = pres (l.take p) ++ (if x.gone then [] else [x]) := by
  unfold pres
  rw [List.take_add_one, hx, List.filter_append]
  cases hg : x.gone <;> simp [hg]
theorem pres_le (l : List Re) (p : Nat) : (pres (l.take p)).length ≤ p := Nat.le_trans (List.length_filter_le _ _) (by rw [List.length_take]; omega)
/-- What the first loop keeps. -/
def AllL (w2 : World) (gb t gm n : Nat) (i : Value) (wr : World) : Prop := ∃ (p : Nat) (F : Nat → Prop) (O : Ob) (l : List Re) (cl : Int) (vl : Value), p ≤ n ∧ i = .int .i64 (p : Int) ∧ BS wr w2.heap.size gb t gm F O l cl vl noRow noRow [] ∧ l.length ≤ p ∧ 0 ≤ cl ∧ cl ≤ p ∧ Below w2.heap.size w2 wr
/-- What the second loop keeps. -/
def WantL (Wa : World) (l : List Re) (bw : Nat) (i : Value) (wr : World) : Prop := ∃ (p : Nat) (lw : List Re) (vw : Value), p ≤ l.length ∧ i = .int .i64 (p : Int) ∧ lw = pres (l.take p) ∧ Box wr bw 68 #[vw] ∧ wr.ownsRow Wa.heap.size 84 8 vw lw.length (reFlat lw) ∧ Below Wa.heap.size Wa wr
theorem res_all {t : Array Value} {br : Nat} {W : World} {b : Bool} (h4 : t[4]? = some (.pointer (some ⟨br, 0, none⟩))) (hc : W.cell? ⟨br, 0, none⟩ = some (.bool b)) : (results Try.f9 t).run Try.prog W = .ok (.bool b) W := by
  simp [results, Try.f9, go_sem, hc, h4]
/-- The law ends at once. -/
theorem fin_all {n : Nat} {t : Array Value} {br : Nat} {w W : World} (h4 : t[4]? = some (.pointer (some ⟨br, 0, none⟩))) (hc : W.cell? ⟨br, 0, none⟩ = some (.bool true)) (hB : Below w.heap.size w W) :
    bodyPostM Fence.wide n Try.prog Try.f9 (fun e w' => e = .returned (.bool true) ∧ Below w.heap.size w w') Exit.ret { tmps := t, defers := [] } W :=
  ⟨.bool true, res_all h4 hc, rfl, hB⟩
/-- .. behind its range. -/
theorem fin_all2 {n : Nat} {t : Array Value} {br D : Nat} {w W : World} (h4 : t[4]? = some (.pointer (some ⟨br, 0, none⟩))) (hc : W.cell? ⟨br, 0, none⟩ = some (.bool true)) (hK : W.heap[D]? = some (.deferred (some []))) (hD : w.heap.size ≤ D) (hB : Below w.heap.size w W) :
    bodyPostM Fence.wide n Try.prog Try.f9 (fun e w' => e = .returned (.bool true) ∧ Below w.heap.size w w') Exit.ret { tmps := t, defers := [{ target := .collected D, args := #[] }] } W := by
  refine ⟨by simp, .inl ⟨_, _, rfl, run_takeDeferred hK, ?_⟩⟩
  have hc5 := cell_kept hc (grownBy_putObj' W D (.deferred none)) (fun r e => by cases e; exact ⟨_, hK, rfl⟩)
  exact ⟨.bool true, res_all h4 hc5, rfl, hB.trans (belowK_b (w := w) (Nat.le_refl _) W D _ _ hD hK rfl rfl)⟩
/-- What the range's rounds keep. -/
structure RgI (w : World) (gb t gm : Nat) (N0 bi bs br bw : Nat) (stop : Int) (vw : Value) (P : List Re) (k : Nat) (W : World) : Prop where
  bI : Box W bi 3 #[.int .i64 (k : Int)]
  bS : Box W bs 3 #[.int .i64 stop]
  bR : Box W br 4 #[.bool false]
  bW : Box W bw 68 #[vw]
  bG : Box W gb 74 #[.pointer (some ⟨t, 0, none⟩), .pointer (some ⟨gm, 0, none⟩), noRow, noRow]
  ow : W.ownsRow N0 84 8 vw P.length (reFlat P)
  bel : Below w.heap.size w W
section
variable {w : World} {gb t gm : Nat} {N0 bi bs br bw : Nat} {stop : Int} {vw : Value} {P : List Re} {k : Nat} {W W' : World}
theorem RgI.touch {F : Nat → Prop} {lo N : Nat} (h : RgI w gb t gm N0 bi bs br bw stop vw P k W) (ht : Touch (fun k => F k ∨ N ≤ k) W W') (hF : ∀ k, F k → lo ≤ k ∧ k < N0) (h1 : bs < lo ∧ br < lo ∧ lo ≤ N) (h2 : N0 ≤ bi ∧ bi < N ∧ N0 ≤ bw ∧ bw < N) (hlo : w.heap.size ≤ lo) (ho : ∀ k, vw.ownBlock = some k → k < N) (hg : ¬ F gb ∧ gb < N) : RgI w gb t gm N0 bi bs br bw stop vw P k W' := by
  have no : ∀ b, b < N → (b < lo ∨ N0 ≤ b) → ¬ (F b ∨ N ≤ b) := fun b hb hc hd => by
    rcases hd with hd | hd
    · have := hF b hd; omega
    · omega
  have hW := h.bel.size
  refine ⟨h.bI.touch ht (no _ (by omega) (by omega)), h.bS.touch ht (no _ (by omega) (by omega)), h.bR.touch ht (no _ (by omega) (by omega)), h.bW.touch ht (no _ (by omega) (by omega)), h.bG.touch ht (fun hk => hk.elim hg.1 (fun h2 => by omega)), own_touch h.ow ht (fun k hk => no k (ho k hk) (.inr (own_lt h.ow k hk).1)), h.bel.trans (ht.below hW (fun k hk => by
    rcases hk with hk | hk
    · have := hF k hk; omega
    · omega))⟩
theorem RgI.on (h : RgI w gb t gm N0 bi bs br bw stop vw P k W) (hb : Below W.heap.size W W') : RgI w gb t gm N0 bi bs br bw stop vw P k W' :=
  ⟨h.bI.on hb h.bI.lt, h.bS.on hb h.bS.lt, h.bR.on hb h.bR.lt, h.bW.on hb h.bW.lt, h.bG.on hb h.bG.lt, own_touch h.ow (Touch.of_below (S := fun _ => False) hb) (fun _ _ h => h), h.bel.trans (hb.mono h.bel.size)⟩
theorem RgI.step (h : RgI w gb t gm N0 bi bs br bw stop vw P k W) (hne : bs ≠ bi) (hw : w.heap.size ≤ bi) : RgI w gb t gm N0 bi bs br bw stop vw P (k + 1) (W.setCell ⟨bi, 0, none⟩ (.int .i64 ((k : Int) + 1))) := by
  have tp : Touch (fun b => b = bi) W (W.setCell ⟨bi, 0, none⟩ (.int .i64 ((k : Int) + 1))) := Touch.put (S := fun b => b = bi) rfl _ _
  have hb := h.bI.put 0 (.int .i64 ((k : Int) + 1))
  refine ⟨hb, h.bS.touch tp hne, h.bR.touch tp (fun e => h.bR.lab.ne h.bI.lab (by decide) e), h.bW.touch tp (fun e => h.bW.lab.ne h.bI.lab (by decide) e), h.bG.touch tp (fun e => h.bG.lab.ne h.bI.lab (by decide) e), own_touch h.ow tp (fun k hk e => (own_lab h.ow k hk).ne h.bI.lab (by decide) e), h.bel.trans (tp.below h.bel.size (fun k hk => by rw [hk]; exact hw))⟩
theorem RgI.ent {r n cap : Nat} (h : W.ownsRow N0 84 8 (.slice (some ⟨r, 0, none⟩) n cap) P.length (reFlat P)) (i : Nat) (s : Re) (hs : P[i]? = some s) : ReAt W r i s := by
  have key : ∀ c u, c < 8 → (reC s)[c]? = some u → W.cell? ⟨r, i * 8 + c, none⟩ = some u := fun c u hc hu => by
    have := h.cells (g := r) rfl (i * 8 + c) u (by rw [reFlat_at P i s hs c hc]; exact hu)
    rwa [add_off] at this
  exact ⟨key 0 _ (by omega) rfl, key 1 _ (by omega) rfl, key 2 _ (by omega) rfl, key 3 _ (by omega) rfl, key 4 _ (by omega) rfl, key 5 _ (by omega) rfl, key 6 _ (by omega) rfl, key 7 _ (by omega) rfl⟩
end
/-- What the assignment to the loop's variables leaves. -/
def AxD (a : Act) (x : En) (a' : Act) (W : World) : Prop := ∃ b c, Box W b 82 #[.int .i64 x.1.1, .int .i64 x.1.2.1, .string x.1.2.2] ∧ Box W c 82 #[.int .i64 x.2.1.1, .int .i64 x.2.1.2.1, .string x.2.1.2.2] ∧
  a' = { tmps := (((a.tmps.setIfInBounds 70 (valV x.1)).setIfInBounds 71 (valV x.2.1)).setIfInBounds 13 (.pointer (some ⟨b, 0, none⟩))).setIfInBounds 14 (.pointer (some ⟨c, 0, none⟩)), defers := [] }
theorem not_loop {w : World} {l k : Nat} {e : TypeId} (hl : ∃ o, w.heap[l]? = some (.loop o)) (h : Lab w k e) : k ≠ l := by
  rintro rfl
  obtain ⟨o, ho⟩ := hl
  obtain ⟨cs, fr, h⟩ := h
  rw [ho] at h
  cases h
theorem AxD.touch {a : Act} {x : En} {a' : Act} {A B : World} {l : Nat} (h : AxD a x a' A) (ht : Touch (fun k => k = l) A B) (hl : ∃ o, A.heap[l]? = some (.loop o)) : AxD a x a' B := by
  obtain ⟨b, c, h1, h2, h3⟩ := h
  exact ⟨b, c, h1.touch ht (not_loop hl h1.lab), h2.touch ht (not_loop hl h2.lab), h3⟩
theorem AllP.touch {B t : Nat} {O : Ob} {A A' : World} {l : Nat} (h : AllP B t O A) (ht : Touch (fun k => k = l) A A') (hl : ∃ o, A.heap[l]? = some (.loop o)) : AllP B t O A' := by
  obtain ⟨F', L, hT, hp⟩ := h
  refine ⟨F', L, hT.touch ht (fun k hk e => ?_), hp⟩
  rcases hT.lab k hk with h1 | h1 | h1 | h1 | ⟨_, _, h1⟩
  · exact not_loop hl h1 e
  · exact not_loop hl h1 e
  · exact not_loop hl h1 e
  · exact not_loop hl h1 e
  · exact not_loop hl h1.lab e
end Go.Proofs.Ythlhchaapdhbfaa
