/- Tables: the function that All hands back, as a function to be ranged over. -/
import Derived.Test.YthlhchaapdhbfaaHe
import Derived.Test.YthlhchaapdhbfaaHf
import Derived.Sort.LoopGhostIn
namespace Go.Proofs.Ythlhchaapdhbfaa
open Go Go.RowKit
attribute [local go_sem] Oper.semAt_some

theorem AbT.same {α : Type} {F F' : Nat → Prop} {N : Nat} {J : List α → World → Prop} (h : AbT F N J) (hf : ∀ k, F' k → F k ∨ N ≤ k) {s : List α} {A B : World} (hs : J s A) (ht : Touch F' A B) : J s B := h s A B hs (ht.mono hf)
/-- What the table is when the loop is over: as it was, its cursors in whatever order. -/
def AllP (B t : Nat) (O : Ob) (W' : World) : Prop := ∃ F' L, Tf B t F' (O.1, L) W' ∧ L.Perm O.2
/-- Where the iterator stands between two rounds. -/
def AllR (B t c : Nat) (F : Nat → Prop) (O : Ob) (N : Nat) (J : List En → World → Prop) (k : Nat) (wr : World) : Prop := ∃ (pre rest : List En) (F' : Nat → Prop), k = rest.length + 1 ∧ O.1 = pre ++ rest ∧ J pre wr ∧ Tf B t F' (O.1, O.2 ++ [(c, rest)]) wr ∧ ∀ k, F' k → F k ∨ N ≤ k
theorem perm_shut {α : Type} {x : α} {L M : List α} (h : (x :: L).Perm (M ++ [x])) : L.Perm M := (h.trans (List.perm_append_singleton x M)).cons_inv
set_option maxRecDepth 100000 in
set_option maxHeartbeats 2000000 in
theorem all_stops (n : Nat) (hn : 2 ≤ n) (B t Bs : Nat) (F : Nat → Prop) (O : Ob) (h1 : O.1.length < 40000) (h2 : O.2.length < 90000) (W : World) (hT : Tf B t F O W) (hbx : Box W Bs 65 #[.pointer (some ⟨t, 0, none⟩)]) :
    TabStops n Try.prog 67 #[.pointer (some ⟨Bs, 0, none⟩)] (fun x : En => #[valV x.1, valV x.2.1]) F (fun xs => xs = O.1) (fun pre => pre <+: O.1) (AllP B t O) W := by
  intro l J Jx hJ hJx hY h0
  have hn1 : 1 ≤ n := by omega
  have hn2 : 1 ≤ n - 1 := by omega
  have c0 : W.cell? ⟨Bs, 0, none⟩ = some (.pointer (some ⟨t, 0, none⟩)) := hbx.at_ 0
  have HC := Veil.mk (cursor_tf hT (by omega))
  have HYY := Veil.mk hY
  have HF := Veil.mk (fun k (hk : F k) => (hT.lt k hk))
  clear hY hbx
  refine callsIn_of_wp_defers Try.func67 rfl trivial ?_ rfl
  simp only [Try.ntmps67, List.size_toArray, List.length_cons, List.length_nil, Nat.reduceAdd, Nat.reduceSub, Array.replicate_succ, Array.replicate_zero, List.push_toArray, List.append_toArray, List.nil_append, List.cons_append]
  gi_wp2_with (first | (refine ⟨trivial, ?_⟩; gi_at_call 38; refine (callsIn_wide.2 HC.out).mono ?_; rintro e w1 ⟨rfl, F1, hT1, hs1⟩))
  have hBW := hT.le
  have f1 : ∀ k, F1 k → F k ∨ W.heap.size ≤ k := hs1.fresh
  have j1 : J [] w1 := hJ _ _ _ h0 (hs1.touch.mono (fun k hk => .inl hk))
  obtain ⟨N, hN⟩ : ∃ N, W.heap.size = N := ⟨_, rfl⟩
  rw [hN] at hJ hJx hT1 f1 ⊢
  clear hs1 h0 c0 HC hT
  have HYY2 : Veil (∀ (pre : List En) (x : En) (W1 : World), J pre W1 → (pre ++ [x]) <+: O.1 → YieldAt Fence.wide (n - 1) Try.prog l #[valV x.1, valV x.2.1] W1 fun e W' => (e = .returned (.bool true) ∧ J (pre ++ [x]) W' ∧ Touch (fun k => k < N ∧ ¬ F k) W1 W') ∨ (e = .returned (.bool false) ∧ Jx (pre ++ [x]) W' ∧ Touch (fun k => k < N ∧ ¬ F k) W1 W')) := ⟨by rw [← hN]; exact HYY.out⟩
  have HR0 := Veil.mk (show AllR B t N F O N J (O.1.length + 1) w1 from ⟨[], O.1, F1, rfl, rfl, j1, hT1, f1⟩)
  clear HYY hT1 f1 j1 HF hBW
  gi_wp2
  gi_loopg [] (O.1.length + 1) (fun k wr => AllR B t N F O N J k wr)
  case atStart => exact HR0.out
  case round =>
    obtain ⟨pre, rest, F', rfl, hsp, hJp, hT, hfr⟩ := hrel
    clear HR0
    cases rest with
    | nil =>
      have HE := Veil.mk (end_tf hT h1 (by simp; omega) N (by simp))
      have HSP := Veil.mk (And.intro hsp (And.intro hJp hfr))
      clear hsp hJp hT hfr
      gi_wp2_with (first | (refine ⟨trivial, ?_⟩; gi_at_call 42; ((with_reducible refine (callsIn_wide.2 HE.out).mono ?_); rintro e w4 ⟨rfl, hsh⟩; have HSH := Veil.mk hsh; clear hsh)))
      all_goals
        refine ⟨fun _ h => (by cases h), ?_⟩
        gi_wp2
        have hb2 : Below w4.heap.size w4 ((w4.alloc (.cells #[.int .i64 0, .int .i64 0, .string ⟨#[]⟩] 82)).alloc (.cells #[.int .i64 0, .int .i64 0, .string ⟨#[]⟩] 82)) := ((Below.refl _ _).alloc (Nat.le_refl _) _).alloc (by simp) _
        obtain ⟨F5, L5, hT5, hs5, hp5, a5, b5, hb5⟩ := HSH.out
        refine leavesIn_cons (f := 47) (args := #[.pointer (some ⟨N, 0, none⟩)]) (by simp) (fun _ => hn1) (by simp [go_sem]) (fun _ _ => trivial) ?_
        refine (closeD_shut (n - 1) .returning N _ _ _ (hb5.on hb2 hb5.lt)).mono ?_
        rintro e u' w'' ⟨rfl, rfl, rfl⟩
        refine ⟨_, results_none rfl _ _ _, ⟨_, rfl⟩, ⟨F5, L5, hT5.on hb2, perm_shut hp5⟩, .inl ⟨pre, by rw [HSP.out.1, List.append_nil], ?_⟩⟩
        exact hJ.same (F' := fun k => F k ∨ N ≤ k) (fun k hk => hk) (hJ.same HSP.out.2.2 HSP.out.2.1 hs5.touch) (Touch.of_below hb2)
    | cons x r =>
      have hg : (O.2 ++ [(N, x :: r)])[O.2.length]? = some (N, x :: r) := by simp
      have HE := Veil.mk (next_tf hT h1 O.2.length N x r hg)
      have hlen : (pre ++ [x]) <+: O.1 := ⟨r, by rw [hsp]; simp⟩
      have HSP := Veil.mk (And.intro hsp (And.intro hJp hfr))
      clear hsp hJp hT hfr hg
      gi_wp2_with (first | (refine ⟨trivial, ?_⟩; gi_at_call 42; ((with_reducible refine (callsIn_wide.2 HE.out).mono ?_); rintro e w4 ⟨rfl, hT4, ht4⟩; have hal := ((Below.refl w4.heap.size w4).alloc (Nat.le_refl _) (.cells #[.int .i64 x.1.1, .int .i64 x.1.2.1, .string x.1.2.2] 82)).alloc (by simp) (.cells #[.int .i64 x.2.1.1, .int .i64 x.2.1.2.1, .string x.2.1.2.2] 82); have hJ4 := hJ.same (F' := fun k => F k ∨ N ≤ k) (fun k hk => hk) (hJ.same HSP.out.2.2 HSP.out.2.1 ht4) (Touch.of_below hal); obtain ⟨fn, tmps, assign, body, hy, hR⟩ := HYY2.out pre x _ hJ4 hlen; have HT4 := Veil.mk (And.intro hT4 hal); clear hT4 hal hJ4 ht4)))
      refine hR.mono ?_
      have hT4 := HT4.out.1.on HT4.out.2
      have hset : (O.2 ++ [(N, x :: r)]).set O.2.length (N, r) = O.2 ++ [(N, r)] := by rw [List.set_append_right _ _ (Nat.le_refl _), Nat.sub_self]; rfl
      rw [hset] at hT4
      have H4 := Veil.mk hT4
      clear hR hy hT4 hset HT4
      generalize (w4.alloc (.cells #[.int .i64 x.1.1, .int .i64 x.1.2.1, .string x.1.2.2] 82)).alloc (.cells #[.int .i64 x.2.1.1, .int .i64 x.2.1.2.1, .string x.2.1.2.2] 82) = W4 at H4
      rintro e W' (⟨rfl, hJ', ht⟩ | ⟨rfl, hJx', ht⟩)
      · have hT5 := H4.out.touch ht (fun k hk h => (HSP.out.2.2 k hk).elim h.2 (fun h2 => by omega))
        have HD := Veil.mk (show AllR B t N F O N J (r.length + 1) W' from ⟨pre ++ [x], r, F', rfl, by rw [HSP.out.1]; simp, hJ', hT5, HSP.out.2.2⟩)
        clear hT5 hJ' ht
        gi_wp2
        gi_roundg (r.length + 1)
        case rel => exact HD.out
        case measure => simp
      · have hT5 := H4.out.touch ht (fun k hk h => (HSP.out.2.2 k hk).elim h.2 (fun h2 => by omega))
        have HD := Veil.mk (And.intro hT5 hJx')
        clear hT5 hJx' ht
        gi_wp2
        refine leavesIn_cons (f := 47) (args := #[.pointer (some ⟨N, 0, none⟩)]) (by simp) (fun _ => hn1) (by simp [go_sem]) (fun _ _ => trivial) ?_
        refine (closeD_tf (n - 1) .returning HD.out.1 (by simp; omega) N r (by simp)).mono ?_
        rintro e u' w'' ⟨rfl, rfl, F5, L5, hT5, hs5, hp5, a5, b5, hb5⟩
        refine ⟨_, results_none rfl _ _ _, ⟨_, rfl⟩, ⟨F5, L5, hT5, perm_shut hp5⟩, .inr ⟨pre ++ [x], ⟨r, by rw [HSP.out.1]; simp⟩, ?_⟩⟩
        exact hJx.same HSP.out.2.2 HD.out.2 hs5.touch
end Go.Proofs.Ythlhchaapdhbfaa
