/- Package heap: Find along a chain of plain objects. -/
import Derived.Test.YtbeapojjbgkalaaDoorHd
import Derived.Test.YtbeapojjbgkalaaDoorHe
namespace Go.Proofs.YtbeapojjbgkalaaDoor
open Go Go.RowKit
attribute [local go_sem] Oper.semAt_some

/-- A heap of plain objects with their properties. -/
structure HS (w : World) (B h A : Nat) (cv fv rv : Value) (nbs : List Nat) (pv : Nat → Value) (F : Nat → Nat → Prop) (O : Nat → List En) : Prop where
  hk : HK w B h A cv fv rv nbs pv
  pr : ∀ i, i < nbs.length → PrAt B w (pv i) (F i) (O i)
  al : ∀ i, i < nbs.length → ∀ x ∈ O i, x.2.2 = 7
  ap : ∀ i j, i < nbs.length → j < nbs.length → i ≠ j → ∀ k, F i k → ¬ F j k
  aa : ∀ i, i < nbs.length → ∀ k, F i k → ¬ HFoot h A cv fv rv nbs k
  nd : nbs.Nodup
theorem HS.on {w w' : World} {B h A : Nat} {cv fv rv : Value} {nbs : List Nat} {pv : Nat → Value} {F : Nat → Nat → Prop} {O : Nat → List En} (H : HS w B h A cv fv rv nbs pv F O) (hb : Below w.heap.size w w') : HS w' B h A cv fv rv nbs pv F O :=
  ⟨H.hk.on hb, fun i hi => (H.pr i hi).on hb, H.al, H.ap, H.aa, H.nd⟩
/-- What is found along the chain from number r on. -/
def findO (O : Nat → List En) (k : Vt) : Nat → Vt × Int × Bool
  | 0 => ((0, 0, ⟨#[]⟩), 0, false)
  | r + 1 => if (lookO (O r) k).2.2 = true then lookO (O r) k else findO O k r
/-- Between two rounds of Find. -/
structure FI (w : World) (N b5 b6 b7 b8 : Nat) (k v : Vt) (f : Int) (ok : Bool) (W : World) : Prop where
  bel : Below N w W
  k5 : Box W b5 45 #[.int .i64 k.1, .int .i64 k.2.1, .string k.2.2]
  r6 : Box W b6 45 #[.int .i64 v.1, .int .i64 v.2.1, .string v.2.2]
  r7 : Box W b7 3 #[.int .i64 f]
  r8 : Box W b8 4 #[.bool ok]
theorem FI.touch {w W W' : World} {N b5 b6 b7 b8 : Nat} {k v : Vt} {f : Int} {ok : Bool} {S : Nat → Prop} (h : FI w N b5 b6 b7 b8 k v f ok W) (hN : N ≤ W.heap.size) (ht : Touch S W W') (hl : ∀ k, S k → N ≤ k) (h5 : ¬ S b5) (h6 : ¬ S b6) (h7 : ¬ S b7) (h8 : ¬ S b8) : FI w N b5 b6 b7 b8 k v f ok W' :=
  ⟨h.bel.trans (ht.below hN hl), h.k5.touch ht h5, h.r6.touch ht h6, h.r7.touch ht h7, h.r8.touch ht h8⟩
theorem FI.done {w W : World} {N b5 b6 b7 b8 : Nat} {k v0 : Vt} {f0 : Int} {ok0 : Bool} (h : FI w N b5 b6 b7 b8 k v0 f0 ok0 W) (h6 : N ≤ b6) (h7 : N ≤ b7) (h8 : N ≤ b8) (n1 : b5 ≠ b6) (v : Vt) (f : Int) (ok : Bool) :
    FI w N b5 b6 b7 b8 k v f ok (((((W.setCell ⟨b6, 0, none⟩ (.int .i64 v.1)).setCell ⟨b6, 1, none⟩ (.int .i64 v.2.1)).setCell ⟨b6, 2, none⟩ (.string v.2.2)).setCell ⟨b7, 0, none⟩ (.int .i64 f)).setCell ⟨b8, 0, none⟩ (.bool ok)) ∧
    Touch (fun j => j = b6 ∨ j = b7 ∨ j = b8) W (((((W.setCell ⟨b6, 0, none⟩ (.int .i64 v.1)).setCell ⟨b6, 1, none⟩ (.int .i64 v.2.1)).setCell ⟨b6, 2, none⟩ (.string v.2.2)).setCell ⟨b7, 0, none⟩ (.int .i64 f)).setCell ⟨b8, 0, none⟩ (.bool ok)) := by
  have n67 : b6 ≠ b7 := h.r6.lab.ne h.r7.lab (by decide)
  have n68 : b6 ≠ b8 := h.r6.lab.ne h.r8.lab (by decide)
  have n78 : b7 ≠ b8 := h.r7.lab.ne h.r8.lab (by decide)
  have n57 : b5 ≠ b7 := h.k5.lab.ne h.r7.lab (by decide)
  have n58 : b5 ≠ b8 := h.k5.lab.ne h.r8.lab (by decide)
  have t1 := ((Touch.put (S := fun j => j = b6) (w := W) rfl 0 (.int .i64 v.1)).trans (Touch.put (S := fun j => j = b6) rfl 1 (.int .i64 v.2.1))).trans (Touch.put (S := fun j => j = b6) rfl 2 (.string v.2.2))
  have a6 := ((h.r6.put 0 (.int .i64 v.1)).put 1 (.int .i64 v.2.1)).put 2 (.string v.2.2)
  have a5 := h.k5.touch t1 n1
  have a7 := h.r7.touch t1 (fun e => n67 e.symm)
  have a8 := h.r8.touch t1 (fun e => n68 e.symm)
  have hb1 := h.bel.trans (t1.below (by have := h.r6.lt; omega) (fun j hj => by omega))
  generalize ((W.setCell ⟨b6, 0, none⟩ (.int .i64 v.1)).setCell ⟨b6, 1, none⟩ (.int .i64 v.2.1)).setCell ⟨b6, 2, none⟩ (.string v.2.2) = W1 at t1 a6 a5 a7 a8 hb1 ⊢
  have t2 := Touch.put (S := fun j => j = b7) (w := W1) rfl 0 (.int .i64 f)
  have c6 := a6.touch t2 n67
  have c5 := a5.touch t2 n57
  have c8 := a8.touch t2 (fun e => n78 e.symm)
  have c7 := a7.put 0 (.int .i64 f)
  have hb2 := hb1.trans (t2.below (by have := a6.lt; omega) (fun j hj => by omega))
  generalize W1.setCell ⟨b7, 0, none⟩ (.int .i64 f) = W2 at t2 c6 c5 c8 c7 hb2 ⊢
  have t3 := Touch.put (S := fun j => j = b8) (w := W2) rfl 0 (.bool ok)
  exact ⟨⟨hb2.trans (t3.below (by have := c6.lt; omega) (fun j hj => by omega)), c5.touch t3 n58, c6.touch t3 n68, c7.touch t3 n78, c8.put 0 _⟩, (t1.mono (fun j hj => .inl hj)).trans ((t2.mono (fun j hj => .inr (.inl hj))).trans (t3.mono (fun j hj => .inr (.inr hj))))⟩
theorem fin_find {n : Nat} {t : Array Value} {w W : World} {N b5 b6 b7 b8 D : Nat} {k v : Vt} {f : Int} {ok : Bool} (h : FI w N b5 b6 b7 b8 k v f ok W) (h6 : t[6]? = some (.pointer (some ⟨b6, 0, none⟩))) (h7 : t[7]? = some (.pointer (some ⟨b7, 0, none⟩))) (h8 : t[8]? = some (.pointer (some ⟨b8, 0, none⟩))) (hK : W.heap[D]? = some (.deferred (some []))) (hD : N ≤ D) (hN : N ≤ W.heap.size) :
    bodyPostM Fence.wide n Tryd.prog Tryd.f26 (fun e w' => e = .returned (.tuple #[valV v, .int .i64 f, .bool ok]) ∧ Below N w w') Exit.ret { tmps := t, defers := [{ target := .collected D, args := #[] }] } W := by
  refine ⟨by simp, .inl ⟨_, _, rfl, run_takeDeferred hK, ?_⟩⟩
  have tp := Touch.putObj (S := fun j => j = D) (w := W) rfl (.deferred none)
  have nD : ∀ (j : Nat) (e : TypeId) (cs : Array Value), Box W j e cs → ¬ j = D := fun j e cs hb hj => by
    subst hj
    have := (show W.heap[j]? = _ from hb).symm.trans hK
    simp at this
  have a6 := h.r6.touch tp (nD _ _ _ h.r6)
  have a7 := h.r7.touch tp (nD _ _ _ h.r7)
  have a8 := h.r8.touch tp (nD _ _ _ h.r8)
  have hb := h.bel.trans (tp.below hN (fun j hj => by omega))
  generalize W.putObj D (.deferred none) = W9 at a6 a7 a8 hb ⊢
  have y0 : W9.cell? ⟨b6, 0, none⟩ = some (.int .i64 v.1) := a6.at_ 0
  have y1 : W9.cell? ⟨b6, 1, none⟩ = some (.int .i64 v.2.1) := a6.at_ 1
  have y2 : W9.cell? ⟨b6, 2, none⟩ = some (.string v.2.2) := a6.at_ 2
  have y7 : W9.cell? ⟨b7, 0, none⟩ = some (.int .i64 f) := a7.at_ 0
  have y8 : W9.cell? ⟨b8, 0, none⟩ = some (.bool ok) := a8.at_ 0
  exact ⟨.tuple #[valV v, .int .i64 f, .bool ok], by simp [results, Tryd.results26, go_sem, h6, h7, h8, y0, y1, y2, y7, y8], rfl, hb⟩
def AxH (a : Act) (x : Nat × Nat) (a' : Act) (_ : World) : Prop := a' = { tmps := ((a.tmps.setIfInBounds 17 (.int .i64 (x.1 : Int))).setIfInBounds 18 (.pointer (some ⟨x.2, 0, none⟩))).setIfInBounds 10 (.pointer (some ⟨x.2, 0, none⟩)), defers := [] }
/-- Nothing is found in the first of the chain. -/
def FNo (O : Nat → List En) (k : Vt) (r : Nat) (pre : List (Nat × Nat)) : Prop := ∃ q, r = pre.length + q ∧ findO O k r = findO O k q
set_option maxHeartbeats 4000000 in
set_option maxRecDepth 100000 in
theorem hfind_any {w : World} {B h A : Nat} {cv fv rv : Value} {nbs : List Nat} {pv : Nat → Value} {F : Nat → Nat → Prop} {O : Nat → List En} (H : HS w B h A cv fv rv nbs pv F O) (r : Nat) (hr : r ≤ nbs.length) (hsm : nbs.length < 1000000) (k : Vt) (hk : k.2.2.size ≤ 1000) :
    Calls Tryd.prog 26 #[.pointer (some ⟨h, 0, none⟩), .int .i64 (r : Int), valV k] w fun e w' => e = .returned (.tuple #[valV (findO O (keyT k) r).1, .int .i64 (findO O (keyT k) r).2.1, .bool (findO O (keyT k) r).2.2]) ∧ Below w.heap.size w w' := by
  obtain ⟨⟨v9, f9, ok9⟩, hz⟩ : ∃ z, findO O (keyT k) r = z := ⟨_, rfl⟩
  rw [hz]
  have HZ := Veil.mk hz
  clear hz
  obtain ⟨N, hN⟩ : ∃ N, w.heap.size = N := ⟨_, rfl⟩
  have b5 := (((Box.new w 45 #[.int .i64 k.1, .int .i64 k.2.1, .string k.2.2]).more (.cells #[.int .i64 0, .int .i64 0, .string ⟨#[]⟩] 45)).more (.cells #[.int .i64 0] 3)).more (.cells #[.bool false] 4)
  have b6 := ((Box.new (w.alloc (.cells #[.int .i64 k.1, .int .i64 k.2.1, .string k.2.2] 45)) 45 #[.int .i64 0, .int .i64 0, .string ⟨#[]⟩]).more (.cells #[.int .i64 0] 3)).more (.cells #[.bool false] 4)
  have b7 := (Box.new ((w.alloc (.cells #[.int .i64 k.1, .int .i64 k.2.1, .string k.2.2] 45)).alloc (.cells #[.int .i64 0, .int .i64 0, .string ⟨#[]⟩] 45)) 3 #[.int .i64 0]).more (.cells #[.bool false] 4)
  have b8 := Box.new (((w.alloc (.cells #[.int .i64 k.1, .int .i64 k.2.1, .string k.2.2] 45)).alloc (.cells #[.int .i64 0, .int .i64 0, .string ⟨#[]⟩] 45)).alloc (.cells #[.int .i64 0] 3)) 4 #[.bool false]
  have bb : Below w.heap.size w ((((w.alloc (.cells #[.int .i64 k.1, .int .i64 k.2.1, .string k.2.2] 45)).alloc (.cells #[.int .i64 0, .int .i64 0, .string ⟨#[]⟩] 45)).alloc (.cells #[.int .i64 0] 3)).alloc (.cells #[.bool false] 4)) := ((((Below.refl _ _).alloc (Nat.le_refl _) _).alloc (by simp) _).alloc (by simp; omega) _).alloc (by simp; omega) _
  rw [World.size_alloc] at b6
  rw [World.size_alloc, World.size_alloc] at b7
  rw [World.size_alloc, World.size_alloc, World.size_alloc] at b8
  obtain ⟨W0, hW0⟩ : ∃ W0, ((((w.alloc (.cells #[.int .i64 k.1, .int .i64 k.2.1, .string k.2.2] 45)).alloc (.cells #[.int .i64 0, .int .i64 0, .string ⟨#[]⟩] 45)).alloc (.cells #[.int .i64 0] 3)).alloc (.cells #[.bool false] 4)) = W0 := ⟨_, rfl⟩
  rw [hW0] at b5 b6 b7 b8 bb
  rw [hN] at b5 b6 b7 b8 bb ⊢
  have HW0 := Veil.mk (And.intro hW0 hN)
  have hF0 : FI w N N (N + 1) (N + 1 + 1) (N + 1 + 1 + 1) k (0, 0, ⟨#[]⟩) 0 false W0 := ⟨bb, b5, b6, b7, b8⟩
  have HCH := Veil.mk (chain_any (r : Int) (some ⟨h, 0, none⟩) W0)
  have hsz0 := b8.lt
  have HF0 := Veil.mk (And.intro hF0 hsz0)
  have HH := Veil.mk (And.intro H (And.intro hr hsm))
  have HON : Veil (∀ W, Below N w W → HS W B h A cv fv rv nbs pv F O) := ⟨fun W hb => H.on (by rw [hN]; exact hb)⟩
  have HLT : Veil (∀ j, HFoot h A cv fv rv nbs j → j < N) := ⟨fun j hj => by rw [← hN]; exact H.hk.lt hj⟩
  clear H b5 b6 b7 b8 bb hW0 hN hF0 hsz0
  refine (callsIn_wide (n := 6)).1 (callsIn_of_wp_marks Tryd.func26 rfl trivial (wpIn_wide.2 ?_) rfl)
  simp only [Tryd.ntmps26, List.size_toArray, List.length_cons, List.length_nil, Nat.reduceAdd, Nat.reduceSub, Array.replicate_succ, Array.replicate_zero, List.push_toArray, List.append_toArray, List.nil_append, List.cons_append]
  go_upto_region 1 with (fail)
  rw [HW0.out.1, HW0.out.2]
  go_wp2_with (first | (go_at_call 51; ((with_reducible refine HCH.out.mono ?_); rintro e w2 ⟨rfl, bh, br, hb2⟩)))
  obtain ⟨hF0, hsz0⟩ := HF0.out
  obtain ⟨H, hr, hsm⟩ := HH.out
  obtain ⟨hb, hhb⟩ : ∃ hb, W0.heap.size = hb := ⟨_, rfl⟩
  have hF2 := hF0.touch (S := fun _ => False) (by omega) (Touch.of_below hb2) (fun _ h => h.elim) (fun h => h) (fun h => h) (fun h => h) (fun h => h)
  rw [hhb] at bh br hb2 ⊢
  have hl1 := bh.lt
  have hl2 := br.lt
  have hfl := HLT.out
  refine wpIn_wide.1 (wpIn_rangeFunc_tab (n := 6) (by omega) (gf := 68) (lb := #[.pointer (some ⟨hb, 0, none⟩), .pointer (some ⟨hb + 1, 0, none⟩)]) rfl (enters_of Tryd.func68 (by kernel_rfl) rfl) (encs := fun x : Nat × Nat => #[.int .i64 (x.1 : Int), .pointer (some ⟨x.2, 0, none⟩)]) (F := fun j => j = hb + 1) (G := fun j => j = hb ∨ HFoot h A cv fv rv nbs j) (S := fun xs => xs = chL nbs r) (Sp := fun pre => pre <+: chL nbs r) (Pt := fun _ => True) (fun j hj => by omega) ?hseq
    (fun _ _ _ _ h _ _ => h) (fun _ => rfl) (fun j => j = N + 1 ∨ j = N + 1 + 1 ∨ j = N + 1 + 1 + 1) (fun j hj => ⟨by omega, by omega, fun h => by
      rcases h with h | h
      · omega
      · have := hfl j h; omega⟩) (fun j hj => by
      rcases hj with h | h
      · omega
      · have := hfl j h; omega) (fun pre W => FI w N N (N + 1) (N + 1 + 1) (N + 1 + 1 + 1) k (0, 0, ⟨#[]⟩) 0 false W ∧ w2.heap.size ≤ W.heap.size ∧ FNo O (keyT k) r pre) (fun c _ W => c = .ret ∧ w2.heap.size ≤ W.heap.size ∧ ∃ v f, findO O (keyT k) r = (v, f, true) ∧ FI w N N (N + 1) (N + 1 + 1) (N + 1 + 1 + 1) k v f true W)
    ?hI ?hIx ⟨hF2, Nat.le_refl _, r, by simp, rfl⟩ AxH (fun _ _ _ _ _ h _ _ => h) ?assign ?body ?done ?stop)
  case hseq =>
    intro W hbW
    exact chain_stops 5 (by omega) hb (hb + 1) r hr hsm W (HON.out W (hF2.bel.trans (hbW.mono (by omega)))).hk (bh.on hbW bh.lt) (br.on hbW br.lt) (fun h => by have := hfl _ h; omega)
  case hI =>
    rintro pre A' B' ⟨h1, h2, h3⟩ ht
    exact ⟨h1.touch (by omega) ht (fun j hj => by omega) (by omega) (by omega) (by omega) (by omega), by have := ht.size; omega, h3⟩
  case hIx =>
    rintro c pre A' B' ⟨hc, h2, v, f, h3, h1⟩ ht
    exact ⟨hc, by have := ht.size; omega, v, f, h3, h1.touch (by omega) ht (fun j hj => by omega) (by omega) (by omega) (by omega) (by omega)⟩
  case assign =>
    intro l pre x W K hI hK
    gi_wp2
    exact hK _ _ (Touch.refl _ _) hI rfl
  case body =>
    rintro l pre x a' W ⟨hF, hsz, q0, hq0, hfo⟩ rfl hsp
    simp only [List.setIfInBounds_toArray, List.set_cons_zero, List.set_cons_succ]
    have hHW := HON.out W hF.bel
    have hle : pre.length + 1 ≤ r := by
      have := hsp.length_le
      rw [chL_len, List.length_append] at this
      simpa using this
    obtain ⟨q, hq⟩ : ∃ q, r = pre.length + q + 1 := ⟨r - pre.length - 1, by omega⟩
    have hx : x = (q + 1, nbs[q]?.getD 0) := by
      obtain ⟨s, hs⟩ := hsp
      have h1 := chL_get nbs r pre.length q hq
      rw [← hs] at h1
      rw [List.append_assoc, List.getElem?_append_right (Nat.le_refl _), Nat.sub_self] at h1
      exact Option.some.inj h1
    have hqn : q < nbs.length := by omega
    obtain ⟨nb, hnb⟩ : ∃ nb, nbs[q]?.getD 0 = nb := ⟨_, rfl⟩
    have hnb2 : nbs[q]? = some nb := by rw [List.getElem?_eq_getElem hqn] at hnb ⊢; exact congrArg some hnb
    rw [hnb] at hx
    subst hx
    have hq1 : q0 = q + 1 := by omega
    subst hq1
    have HOW0 := own_plain (hHW.hk.ob q nb hnb2) rfl (hHW.pr q hqn) k hk
    obtain ⟨⟨v, f, ok⟩, hl⟩ : ∃ z, lookO (O q) (keyT k) = z := ⟨_, rfl⟩
    rw [hl] at HOW0
    have hfs : findO O (keyT k) (q + 1) = if ok = true then (v, f, ok) else findO O (keyT k) q := by
      show (if (lookO (O q) (keyT k)).2.2 = true then lookO (O q) (keyT k) else findO O (keyT k) q) = _
      rw [hl]
    have HOW := Veil.mk HOW0
    have HFW := Veil.mk hF
    have hfree6 := hF.r6.free 0
    have x0 : W.cell? ⟨N, 0, none⟩ = some (.int .i64 k.1) := hF.k5.at_ 0
    have x1 : W.cell? ⟨N, 1, none⟩ = some (.int .i64 k.2.1) := hF.k5.at_ 1
    have x2 : W.cell? ⟨N, 2, none⟩ = some (.string k.2.2) := hF.k5.at_ 2
    have HQ := Veil.mk (And.intro hq (And.intro hfo hfs))
    have hNW : N ≤ W.heap.size := by omega
    clear HOW0 hHW hl hfs hq hfo hF hq0 hle hsp hfree6 H hb2 bh br hF0 hF2
    cases ok with
    | false =>
      gi_wp2_with (first | (refine ⟨trivial, ?_⟩; gi_at_call 23; ((with_reducible refine ((callsIn_wide.2 HOW.out).inRound l).mono ?_); rintro e W' ⟨rfl, hb'⟩)))
      have hbw : Below W.heap.size W (W'.alloc (.cells #[.int .i64 v.1, .int .i64 v.2.1, .string v.2.2] 45)) := hb'.alloc hb'.size _
      obtain ⟨hq, hfo, hfs⟩ := HQ.out
      exact ⟨Touch.of_below hbw, HFW.out.touch (S := fun _ => False) hNW (Touch.of_below hbw) (fun _ h => h.elim) (fun h => h) (fun h => h) (fun h => h) (fun h => h), Nat.le_trans hsz hbw.size, q, by rw [List.length_append]; simp; omega, hfo.trans hfs⟩
    | true =>
      gi_wp2_with (first | (refine ⟨trivial, ?_⟩; gi_at_call 23; ((with_reducible refine ((callsIn_wide.2 HOW.out).inRound l).mono ?_); rintro e W' ⟨rfl, hb'⟩; refine Hid.out ?_)))
      have hbw : Below W.heap.size W (W'.alloc (.cells #[.int .i64 v.1, .int .i64 v.2.1, .string v.2.2] 45)) := hb'.alloc hb'.size _
      have hF1 := HFW.out.touch (S := fun _ => False) hNW (Touch.of_below hbw) (fun _ h => h.elim) (fun h => h) (fun h => h) (fun h => h) (fun h => h)
      have p6 : (W'.alloc (.cells #[.int .i64 v.1, .int .i64 v.2.1, .string v.2.2] 45)).cell? ⟨N + 1, 0, none⟩ = some (.int .i64 0) := hF1.r6.at_ 0
      have p61 : (W'.alloc (.cells #[.int .i64 v.1, .int .i64 v.2.1, .string v.2.2] 45)).cell? ⟨N + 1, 1, none⟩ = some (.int .i64 0) := hF1.r6.at_ 1
      have p62 : (W'.alloc (.cells #[.int .i64 v.1, .int .i64 v.2.1, .string v.2.2] 45)).cell? ⟨N + 1, 2, none⟩ = some (.string ⟨#[]⟩) := hF1.r6.at_ 2
      have p7 : (W'.alloc (.cells #[.int .i64 v.1, .int .i64 v.2.1, .string v.2.2] 45)).cell? ⟨N + 1 + 1, 0, none⟩ = some (.int .i64 0) := hF1.r7.at_ 0
      have p8 : (W'.alloc (.cells #[.int .i64 v.1, .int .i64 v.2.1, .string v.2.2] 45)).cell? ⟨N + 1 + 1 + 1, 0, none⟩ = some (.bool false) := hF1.r8.at_ 0
      have q6 := hF1.r6.free 0
      have q61 := hF1.r6.free 1
      have q62 := hF1.r6.free 2
      have q7 := hF1.r7.free 0
      have q8 := hF1.r8.free 0
      have bn := Box.new W' 45 #[.int .i64 v.1, .int .i64 v.2.1, .string v.2.2]
      have t0 : (W'.alloc (.cells #[.int .i64 v.1, .int .i64 v.2.1, .string v.2.2] 45)).cell? ⟨W'.heap.size, 0, none⟩ = some (.int .i64 v.1) := bn.at_ 0
      have t1 : (W'.alloc (.cells #[.int .i64 v.1, .int .i64 v.2.1, .string v.2.2] 45)).cell? ⟨W'.heap.size, 1, none⟩ = some (.int .i64 v.2.1) := bn.at_ 1
      have t2 : (W'.alloc (.cells #[.int .i64 v.1, .int .i64 v.2.1, .string v.2.2] 45)).cell? ⟨W'.heap.size, 2, none⟩ = some (.string v.2.2) := bn.at_ 2
      have HFIN := Veil.mk (And.intro hbw hF1)
      clear x0 x1 x2 hbw bn hF1 hb'
      refine Lib.hid ?_
      gi_wp2
      obtain ⟨d1, d2⟩ := HFIN.out.2.done (by omega) (by omega) (by omega) (by omega) v f true
      obtain ⟨hq, hfo, hfs⟩ := HQ.out
      exact ⟨(Touch.of_below HFIN.out.1).trans d2, rfl, Nat.le_trans hsz (Nat.le_trans HFIN.out.1.size d2.size), v, f, hfo.trans (hfs.trans (by simp)), d1⟩
  case done =>
    rintro D xs W hD rfl ⟨hF, hsz, q0, hq0, hfo⟩ - hK
    have hq1 : q0 = 0 := by rw [chL_len] at hq0; omega
    have hfo2 : findO O (keyT k) r = ((0, 0, ⟨#[]⟩), 0, false) := by rw [hfo, hq1]; rfl
    have e9 := HZ.out.symm.trans hfo2
    simp only [Prod.mk.injEq] at e9
    obtain ⟨rfl, rfl, rfl⟩ := e9
    have p6 : W.cell? ⟨N + 1, 0, none⟩ = some (.int .i64 0) := hF.r6.at_ 0
    have p61 : W.cell? ⟨N + 1, 1, none⟩ = some (.int .i64 0) := hF.r6.at_ 1
    have p62 : W.cell? ⟨N + 1, 2, none⟩ = some (.string ⟨#[]⟩) := hF.r6.at_ 2
    have p7 : W.cell? ⟨N + 1 + 1, 0, none⟩ = some (.int .i64 0) := hF.r7.at_ 0
    have p8 : W.cell? ⟨N + 1 + 1 + 1, 0, none⟩ = some (.bool false) := hF.r8.at_ 0
    have q6 := hF.r6.free 0
    have q61 := hF.r6.free 1
    have q62 := hF.r6.free 2
    have q7 := hF.r7.free 0
    have q8 := hF.r8.free 0
    have HFIN := Veil.mk (And.intro hF (And.intro hsz hK))
    clear hF hsz hK hfo hfo2 hq0 hq1 HZ H hb2 bh br hF0 hF2
    go_wp2
    obtain ⟨hF, hsz, hK⟩ := HFIN.out
    obtain ⟨d1, d2⟩ := hF.done (by omega) (by omega) (by omega) (by omega) (0, 0, ⟨#[]⟩) 0 false
    exact fin_find d1 rfl rfl rfl ((d2.block D (Array.getElem?_eq_some_iff.1 hK).1 (by omega)).trans hK) (by omega) (Nat.le_trans (by omega) d2.size)
  case stop =>
    rintro D c pre W hD - ⟨rfl, hsz, v, f, hfo, hF⟩ - hK
    have e9 := HZ.out.symm.trans hfo
    simp only [Prod.mk.injEq] at e9
    obtain ⟨rfl, rfl, rfl⟩ := e9
    have HFIN := Veil.mk (And.intro hF (And.intro hsz hK))
    clear hF hsz hK hfo H hb2 bh br hF0 hF2 HZ
    gi_wp2
    obtain ⟨hF, hsz, hK⟩ := HFIN.out
    exact fin_find hF rfl rfl rfl hK (by omega) (by omega)
end Go.Proofs.YtbeapojjbgkalaaDoor
