/- Package heap: Chain along a chain of plain objects. -/
import Derived.Test.YtbeapojjbgkalaaDoorHf
namespace Go.Proofs.YtbeapojjbgkalaaDoor
open Go Go.RowKit
attribute [local go_sem] Oper.semAt_some

/-- Between two rounds of Chain. -/
structure CI (w : World) (N b4 b6 b7 : Nat) (r e : Int) (ok : Bool) (W : World) : Prop where
  bel : Below N w W
  r4 : Box W b4 3 #[.int .i64 r]
  r6 : Box W b6 4 #[.bool ok]
  r7 : Box W b7 3 #[.int .i64 e]
theorem CI.touch {w W W' : World} {N b4 b6 b7 : Nat} {r e : Int} {ok : Bool} {S : Nat → Prop} (h : CI w N b4 b6 b7 r e ok W) (hN : N ≤ W.heap.size) (ht : Touch S W W') (hl : ∀ k, S k → N ≤ k) (h4 : ¬ S b4) (h6 : ¬ S b6) (h7 : ¬ S b7) : CI w N b4 b6 b7 r e ok W' :=
  ⟨h.bel.trans (ht.below hN hl), h.r4.touch ht h4, h.r6.touch ht h6, h.r7.touch ht h7⟩
theorem CI.sete {w W : World} {N b4 b6 b7 : Nat} {r e : Int} {ok : Bool} (h : CI w N b4 b6 b7 r e ok W) (h7 : N ≤ b7) (n47 : b4 ≠ b7) (e' : Int) : CI w N b4 b6 b7 r e' ok (W.setCell ⟨b7, 0, none⟩ (.int .i64 e')) := by
  have t1 := Touch.put (S := fun j => j = b7) (w := W) rfl 0 (.int .i64 e')
  exact ⟨h.bel.trans (t1.below (by have := h.r7.lt; omega) (fun j hj => by omega)), h.r4.touch t1 n47, h.r6.touch t1 (h.r6.lab.ne h.r7.lab (by decide)), h.r7.put 0 _⟩
theorem CI.setok {w W : World} {N b4 b6 b7 : Nat} {r e : Int} {ok : Bool} (h : CI w N b4 b6 b7 r e ok W) (h6 : N ≤ b6) (ok' : Bool) : CI w N b4 b6 b7 r e ok' (W.setCell ⟨b6, 0, none⟩ (.bool ok')) := by
  have t1 := Touch.put (S := fun j => j = b6) (w := W) rfl 0 (.bool ok')
  exact ⟨h.bel.trans (t1.below (by have := h.r6.lt; omega) (fun j hj => by omega)), h.r4.touch t1 (h.r4.lab.ne h.r6.lab (by decide)), h.r6.put 0 _, h.r7.touch t1 (h.r7.lab.ne h.r6.lab (by decide))⟩
theorem fin_chain {n : Nat} {t : Array Value} {w W : World} {N b4 b6 b7 D : Nat} {r e : Int} {ok : Bool} (h : CI w N b4 b6 b7 r e ok W) (h6 : t[6]? = some (.pointer (some ⟨b6, 0, none⟩))) (hK : W.heap[D]? = some (.deferred (some []))) (hD : N ≤ D) (hN : N ≤ W.heap.size) :
    bodyPostM Fence.wide n Tryd.prog Tryd.f27 (fun e w' => e = .returned (.bool ok) ∧ Below N w w') Exit.ret { tmps := t, defers := [{ target := .collected D, args := #[] }] } W := by
  refine ⟨by simp, .inl ⟨_, _, rfl, run_takeDeferred hK, ?_⟩⟩
  have tp := Touch.putObj (S := fun j => j = D) (w := W) rfl (.deferred none)
  have nD : ¬ b6 = D := fun hj => by
    have := (show W.heap[b6]? = _ from h.r6).symm.trans (hj ▸ hK)
    simp at this
  have a6 := h.r6.touch tp nD
  have hb := h.bel.trans (tp.below hN (fun j hj => by omega))
  generalize W.putObj D (.deferred none) = W9 at a6 hb ⊢
  have y0 : W9.cell? ⟨b6, 0, none⟩ = some (.bool ok) := a6.at_ 0
  exact ⟨.bool ok, by simp [results, Tryd.results27, go_sem, h6, y0], rfl, hb⟩
def AxC (a : Act) (x : Nat × Nat) (a' : Act) (_ : World) : Prop := a' = { tmps := ((((a.tmps.setIfInBounds 14 (.int .i64 (x.1 : Int))).setIfInBounds 15 (.pointer (some ⟨x.2, 0, none⟩))).setIfInBounds 8 (.int .i64 (x.1 : Int))).setIfInBounds 9 (.pointer (some ⟨x.2, 0, none⟩))), defers := [] }
set_option maxHeartbeats 4000000 in
set_option maxRecDepth 100000 in
theorem hchain_any {w : World} {B h A : Nat} {cv fv rv : Value} {nbs : List Nat} {pv : Nat → Value} {F : Nat → Nat → Prop} {O : Nat → List En} (H : HS w B h A cv fv rv nbs pv F O) (p : Nat) (hp : p ≤ nbs.length) (hsm : nbs.length < 1000000) (r : Int) (ok : Bool) (hok : ok = !decide (0 < r ∧ r ≤ (p : Int))) :
    Calls Tryd.prog 27 #[.pointer (some ⟨h, 0, none⟩), .int .i64 r, .int .i64 (p : Int)] w fun e w' => e = .returned (.bool ok) ∧ Below w.heap.size w w' := by
  obtain ⟨N, hN⟩ : ∃ N, w.heap.size = N := ⟨_, rfl⟩
  have b4 := ((Box.new w 3 #[.int .i64 r]).more (.cells #[.bool false] 4)).more (.cells #[.int .i64 (p : Int)] 3)
  have b6 := (Box.new (w.alloc (.cells #[.int .i64 r] 3)) 4 #[.bool false]).more (.cells #[.int .i64 (p : Int)] 3)
  have b7 := Box.new ((w.alloc (.cells #[.int .i64 r] 3)).alloc (.cells #[.bool false] 4)) 3 #[.int .i64 (p : Int)]
  have bb : Below w.heap.size w (((w.alloc (.cells #[.int .i64 r] 3)).alloc (.cells #[.bool false] 4)).alloc (.cells #[.int .i64 (p : Int)] 3)) := (((Below.refl _ _).alloc (Nat.le_refl _) _).alloc (by simp) _).alloc (by simp; omega) _
  rw [World.size_alloc] at b6
  rw [World.size_alloc, World.size_alloc] at b7
  obtain ⟨W0, hW0⟩ : ∃ W0, (((w.alloc (.cells #[.int .i64 r] 3)).alloc (.cells #[.bool false] 4)).alloc (.cells #[.int .i64 (p : Int)] 3)) = W0 := ⟨_, rfl⟩
  rw [hW0] at b4 b6 b7 bb
  rw [hN] at b4 b6 b7 bb ⊢
  have HW0 := Veil.mk (And.intro hW0 hN)
  have hF0 : CI w N N (N + 1) (N + 1 + 1) r (p : Int) false W0 := ⟨bb, b4, b6, b7⟩
  have HCH := Veil.mk (chain_any (p : Int) (some ⟨h, 0, none⟩) W0)
  have hsz0 := b7.lt
  have HF0 := Veil.mk (And.intro hF0 hsz0)
  have HH := Veil.mk (And.intro H (And.intro hp hsm))
  have HON : Veil (∀ W, Below N w W → HS W B h A cv fv rv nbs pv F O) := ⟨fun W hb => H.on (by rw [hN]; exact hb)⟩
  have HLT : Veil (∀ j, HFoot h A cv fv rv nbs j → j < N) := ⟨fun j hj => by rw [← hN]; exact H.hk.lt hj⟩
  have HOK := Veil.mk hok
  clear H b4 b6 b7 bb hW0 hN hF0 hsz0 hok
  refine (callsIn_wide (n := 6)).1 (callsIn_of_wp_marks Tryd.func27 rfl trivial (wpIn_wide.2 ?_) rfl)
  simp only [Tryd.ntmps27, List.size_toArray, List.length_cons, List.length_nil, Nat.reduceAdd, Nat.reduceSub, Array.replicate_succ, Array.replicate_zero, List.push_toArray, List.append_toArray, List.nil_append, List.cons_append]
  go_upto_region 2 with (fail)
  rw [HW0.out.1, HW0.out.2]
  go_wp2_with (first | (go_at_call 51; ((with_reducible refine HCH.out.mono ?_); rintro e w2 ⟨rfl, bh, br, hb2⟩)))
  obtain ⟨hF0, hsz0⟩ := HF0.out
  obtain ⟨H, hr, hsm⟩ := HH.out
  obtain ⟨hb, hhb⟩ : ∃ hb, W0.heap.size = hb := ⟨_, rfl⟩
  have hF2 := hF0.touch (S := fun _ => False) (by omega) (Touch.of_below hb2) (fun _ h => h.elim) (fun h => h) (fun h => h) (fun h => h)
  rw [hhb] at bh br hb2 ⊢
  have hl1 := bh.lt
  have hl2 := br.lt
  have hfl := HLT.out
  refine wpIn_wide.1 (wpIn_rangeFunc_tab (n := 6) (by omega) (gf := 68) (lb := #[.pointer (some ⟨hb, 0, none⟩), .pointer (some ⟨hb + 1, 0, none⟩)]) rfl (enters_of Tryd.func68 (by kernel_rfl) rfl) (encs := fun x : Nat × Nat => #[.int .i64 (x.1 : Int), .pointer (some ⟨x.2, 0, none⟩)]) (F := fun j => j = hb + 1) (G := fun j => j = hb ∨ HFoot h A cv fv rv nbs j) (S := fun xs => xs = chL nbs p) (Sp := fun pre => pre <+: chL nbs p) (Pt := fun _ => True) (fun j hj => by omega) ?hseq
    (fun _ _ _ _ h _ _ => h) (fun _ => rfl) (fun j => j = N + 1 ∨ j = N + 1 + 1) (fun j hj => ⟨by omega, by omega, fun h => by
      rcases h with h | h
      · omega
      · have := hfl j h; omega⟩) (fun j hj => by
      rcases hj with h | h
      · omega
      · have := hfl j h; omega) (fun pre W => CI w N N (N + 1) (N + 1 + 1) r ((p : Int) - pre.length) false W ∧ w2.heap.size ≤ W.heap.size ∧ pre.length ≤ p ∧ ¬ ((p : Int) - pre.length < r ∧ r ≤ p)) (fun c _ W => c = .ret ∧ w2.heap.size ≤ W.heap.size ∧ (0 < r ∧ r ≤ (p : Int)) ∧ ∃ e, CI w N N (N + 1) (N + 1 + 1) r e false W)
    ?hI ?hIx ⟨by simpa using hF2, Nat.le_refl _, by simp, by simp⟩ AxC (fun _ _ _ _ _ h _ _ => h) ?assign ?body ?done ?stop)
  case hseq =>
    intro W hbW
    exact chain_stops 5 (by omega) hb (hb + 1) p hr hsm W (HON.out W (hF2.bel.trans (hbW.mono (by omega)))).hk (bh.on hbW bh.lt) (br.on hbW br.lt) (fun h => by have := hfl _ h; omega)
  case hI =>
    rintro pre A' B' ⟨h1, h2, h3⟩ ht
    exact ⟨h1.touch (by omega) ht (fun j hj => by omega) (by omega) (by omega) (by omega), by have := ht.size; omega, h3⟩
  case hIx =>
    rintro c pre A' B' ⟨hc, h2, h3, e, h1⟩ ht
    exact ⟨hc, by have := ht.size; omega, h3, e, h1.touch (by omega) ht (fun j hj => by omega) (by omega) (by omega) (by omega)⟩
  case assign =>
    intro l pre x W K hI hK
    gi_wp2
    exact hK _ _ (Touch.refl _ _) hI rfl
  case body =>
    rintro l pre x a' W ⟨hF, hsz, hpl, hno⟩ rfl hsp
    simp only [List.setIfInBounds_toArray, List.set_cons_zero, List.set_cons_succ]
    have hHW := HON.out W hF.bel
    have hle : pre.length + 1 ≤ p := by
      have := hsp.length_le
      rw [chL_len, List.length_append] at this
      simpa using this
    obtain ⟨q, hq⟩ : ∃ q, p = pre.length + q + 1 := ⟨p - pre.length - 1, by omega⟩
    have hx : x = (q + 1, nbs[q]?.getD 0) := by
      obtain ⟨s, hs⟩ := hsp
      have h1 := chL_get nbs p pre.length q hq
      rw [← hs] at h1
      rw [List.append_assoc, List.getElem?_append_right (Nat.le_refl _), Nat.sub_self] at h1
      exact Option.some.inj h1
    have hqn : q < nbs.length := by omega
    obtain ⟨nb, hnb⟩ : ∃ nb, nbs[q]?.getD 0 = nb := ⟨_, rfl⟩
    have hnb2 : nbs[q]? = some nb := by rw [List.getElem?_eq_getElem hqn] at hnb ⊢; exact congrArg some hnb
    rw [hnb] at hx
    subst hx
    have o1 : W.cell? ⟨nb, 1, none⟩ = some (.int .i64 (q : Int)) := (hHW.hk.ob q nb hnb2).at_ 1
    have r4 : W.cell? ⟨N, 0, none⟩ = some (.int .i64 r) := hF.r4.at_ 0
    have r6 : W.cell? ⟨N + 1, 0, none⟩ = some (.bool false) := hF.r6.at_ 0
    have r6f := hF.r6.free 0
    have r7 : W.cell? ⟨N + 1 + 1, 0, none⟩ = some (.int .i64 ((p : Int) - pre.length)) := hF.r7.at_ 0
    have r7f := hF.r7.free 0
    have HFW := Veil.mk hF
    have HQ := Veil.mk (And.intro hq (And.intro hpl hno))
    have hlen : ((pre ++ [(q + 1, nb)]).length : Int) = (pre.length : Int) + 1 := by simp
    have HLN := Veil.mk hlen
    have hlen2 : (pre ++ [(q + 1, nb)]).length = pre.length + 1 := by simp
    have HLN2 := Veil.mk hlen2
    clear hF hHW hq hpl hno hle hsp hlen hlen2 H hb2 bh br hF0 hF2
    by_cases e : ((q : Int) + 1) = r
    · have e2 : (((q : Int) + 1) == r) = true := beq_iff_eq.2 e
      have HE := Veil.mk e
      clear e
      gi_wp2
      have d1 := HFW.out.setok (by omega) false
      obtain ⟨hq, hpl, hno⟩ := HQ.out
      have he := HE.out
      exact ⟨Touch.put (S := fun j => j = N + 1 ∨ j = N + 1 + 1) (.inl rfl) _ _, rfl, by simpa [World.setCell] using hsz, by omega, _, d1⟩
    · have e2 : (((q : Int) + 1) == r) = false := beq_eq_false_iff_ne.2 e
      have HE := Veil.mk e
      clear e
      gi_wp2
      have d1 := HFW.out.sete (by omega) (by omega) (q : Int)
      obtain ⟨hq, hpl, hno⟩ := HQ.out
      have he := HE.out
      have h1 := HLN.out
      have h2 := HLN2.out
      refine ⟨Touch.put (S := fun j => j = N + 1 ∨ j = N + 1 + 1) (.inr rfl) _ _, ?_, by simpa [World.setCell] using hsz, by omega, by omega⟩
      rw [h1, show (p : Int) - ((pre.length : Int) + 1) = (q : Int) by omega]
      exact d1
  case done =>
    rintro D xs W hD rfl ⟨hF, hsz, -, hno⟩ - hK
    rw [chL_len] at hno
    rw [chL_len, show (p : Int) - (p : Int) = 0 by omega] at hF
    have hk : ok = true := by
      rw [HOK.out]
      simp only [Bool.not_eq_true', decide_eq_false_iff_not]
      omega
    subst hk
    have r6 : W.cell? ⟨N + 1, 0, none⟩ = some (.bool false) := hF.r6.at_ 0
    have r6f := hF.r6.free 0
    have r7 : W.cell? ⟨N + 1 + 1, 0, none⟩ = some (.int .i64 0) := hF.r7.at_ 0
    have HFIN := Veil.mk (And.intro hF (And.intro hsz hK))
    clear hF hsz hK hno HOK H hb2 bh br hF0 hF2
    go_wp2
    obtain ⟨hF, hsz, hK⟩ := HFIN.out
    have d1 := hF.setok (by omega) true
    have tp := Touch.put (S := fun j => j = N + 1) (w := W) rfl 0 (.bool true)
    exact fin_chain d1 rfl ((tp.block D (Array.getElem?_eq_some_iff.1 hK).1 (by omega)).trans hK) (by omega) (by have := tp.size; omega)
  case stop =>
    rintro D c pre W hD - ⟨rfl, hsz, hno, e, hF⟩ - hK
    have hk : ok = false := by
      rw [HOK.out]
      simp only [Bool.not_eq_false', decide_eq_true_eq]
      exact hno
    subst hk
    have HFIN := Veil.mk (And.intro hF (And.intro hsz hK))
    clear hF hsz hK hno HOK H hb2 bh br hF0 hF2
    gi_wp2
    obtain ⟨hF, hsz, hK⟩ := HFIN.out
    exact fin_chain hF rfl hK (by omega) (by omega)
end Go.Proofs.YtbeapojjbgkalaaDoor
