/- Package heap: environments and symbols: empties, eachOf of empties, Each of an environment. -/
import Derived.Test.YtbeapojjbgkalaaGreatDoorSk
import Derived.Test.YtbeapojjbgkalaaGreatDoorKb
import Derived.Stop.Asserts
namespace Go.Proofs.YtbeapojjbgkalaaGreatDoor
open Go Go.RowKit
attribute [local go_sem] Oper.semAt_some

/-- A row's cells hold these values. -/
def TpX (l : List Value) (cap : Nat) (xs : Nat → Vt) : Prop := l.length = cap * 3 ∧ ∀ i, i < cap → l[i * 3]? = some (.int .i64 (xs i).1) ∧ l[i * 3 + 1]? = some (.int .i64 (xs i).2.1) ∧ l[i * 3 + 2]? = some (.string (xs i).2.2)
abbrev zV : Vt := (0, 0, ⟨#[]⟩)
abbrev zC : Array Value := #[.int .i64 0, .int .i64 0, .string ⟨#[]⟩]
theorem TpX.of_mod {l : List Value} (cap : Nat) (hl : l.length = cap * 3) (h : ∀ j, j < cap * 3 → l[j]? = some (zC[j % 3]!)) : TpX l cap (fun _ => zV) := by
  refine ⟨hl, fun i hi => ?_⟩
  refine ⟨(h (i * 3) (by omega)).trans ?_, (h (i * 3 + 1) (by omega)).trans ?_, (h (i * 3 + 2) (by omega)).trans ?_⟩
  · rw [show i * 3 % 3 = 0 by omega]; rfl
  · rw [show (i * 3 + 1) % 3 = 1 by omega]; rfl
  · rw [show (i * 3 + 2) % 3 = 2 by omega]; rfl
theorem made_tp (n : Nat) : TpX (madeCells zC (n * 3)).toList n (fun _ => zV) := by
  refine TpX.of_mod n (by simp [madeCells]) fun j hj => ?_
  simp [madeCells, hj]
abbrev eV : Vt := (10, 0, ⟨#[]⟩)
def eR (k j : Nat) : Vt := if j < k then eV else zV
theorem eR_lt {k j : Nat} (h : j < k) : eR k j = eV := if_pos h
theorem eR_ge {k j : Nat} (h : ¬ j < k) : eR k j = zV := if_neg h
theorem tp_step {l : List Value} {n : Nat} {k : Nat} (h : TpX l n (eR k)) (hk : k < n) : TpX (l.set (k * 3) (.int .i64 10)) n (eR (k + 1)) := by
  refine ⟨by rw [List.length_set]; exact h.1, fun j hj => ?_⟩
  have hl := h.1
  obtain ⟨h0, h1, h2⟩ := h.2 j hj
  by_cases e : j = k
  · subst e
    rw [eR_ge (by omega)] at h0 h1 h2
    rw [eR_lt (by omega)]
    exact ⟨by rw [List.getElem?_set_self (by omega)], by rw [List.getElem?_set_ne (by omega)]; exact h1, by rw [List.getElem?_set_ne (by omega)]; exact h2⟩
  · have ee : eR (k + 1) j = eR k j := by
      by_cases c : j < k
      · rw [eR_lt c, eR_lt (by omega)]
      · rw [eR_ge c, eR_ge (by omega)]
    rw [ee]
    exact ⟨by rw [List.getElem?_set_ne (by omega)]; exact h0, by rw [List.getElem?_set_ne (by omega)]; exact h1, by rw [List.getElem?_set_ne (by omega)]; exact h2⟩
/-- A row of n empties. -/
def EmR (w : World) (g n : Nat) : Prop := ∃ cs, Box w g 43 cs ∧ TpX cs.toList n (fun _ => eV)
theorem EmR.touch {w w' : World} {g n : Nat} {S : Nat → Prop} (h : EmR w g n) (ht : Touch S w w') (hn : ¬ S g) : EmR w' g n := by
  obtain ⟨cs, hb, hx⟩ := h
  exact ⟨cs, hb.touch ht hn, hx⟩
theorem EmR.on {w w' : World} {g n : Nat} (h : EmR w g n) (hb : Below w.heap.size w w') : EmR w' g n := h.touch (S := fun _ => False) (Touch.of_below hb) (fun h => h)
theorem EmR.lab {w : World} {g n : Nat} (h : EmR w g n) : Lab w g 43 := by
  obtain ⟨cs, hb, _⟩ := h
  exact hb.lab
theorem EmR.lt {w : World} {g n : Nat} (h : EmR w g n) : g < w.heap.size := by
  obtain ⟨cs, hb, _⟩ := h
  exact hb.lt
theorem EmR.cell {w : World} {g n : Nat} (h : EmR w g n) (i : Nat) (hi : i < n) : w.cell? ⟨g, i * 3, none⟩ = some (.int .i64 10) ∧ w.cell? ⟨g, i * 3 + 1, none⟩ = some (.int .i64 0) ∧ w.cell? ⟨g, i * 3 + 2, none⟩ = some (.string ⟨#[]⟩) := by
  obtain ⟨cs, hb, hx⟩ := h
  obtain ⟨h0, h1, h2⟩ := hx.2 i hi
  exact ⟨(hb.at_ _).trans (by simpa using h0), (hb.at_ _).trans (by simpa using h1), (hb.at_ _).trans (by simpa using h2)⟩
set_option maxHeartbeats 2000000 in
set_option maxRecDepth 100000 in
theorem empties_any (n : Nat) (hn : n ≤ 1000000) (w : World) : Calls Tryz.prog 52 #[.int .i64 (n : Int)] w fun e w' => e = .returned (.slice (some ⟨w.heap.size, 0, none⟩) n n) ∧ Below w.heap.size w w' ∧ EmR w' w.heap.size n ∧ w'.heap.size = w.heap.size + 1 := by
  obtain ⟨i0, hi, hz0, hz1, hz2⟩ := info_parts Tryz.infoV
  have hmk := run_make (P := Tryz.prog) w 34 43 i0 _ Tryz.underlying34 hi hz0 .i64 .i64 (n : Int) (n : Int) (by omega) (by omega) (by rw [hz2]; omega) (by omega)
  rw [hz1] at hmk
  have hmk2 : (Instr.makeSlice 34 (.int .i64 (n : Int)) (.int .i64 (n : Int))).run Tryz.prog w = .ok (.slice (some ⟨w.heap.size, 0, none⟩) n n) (w.alloc (.cells (madeCells zC (n * 3)) 43)) := hmk
  obtain ⟨W0, hW0⟩ : ∃ W0, w.alloc (.cells (madeCells zC (n * 3)) 43) = W0 := ⟨_, rfl⟩
  obtain ⟨g, hg⟩ : ∃ g, w.heap.size = g := ⟨_, rfl⟩
  have bx := Box.new w 43 (madeCells zC (n * 3))
  have hb0 : Below w.heap.size w (w.alloc (.cells (madeCells zC (n * 3)) 43)) := (Below.refl _ _).alloc (Nat.le_refl _) _
  have hs0 : (w.alloc (.cells (madeCells zC (n * 3)) 43)).heap.size = w.heap.size + 1 := by simp
  rw [hW0] at bx hb0 hs0 hmk2
  rw [hg] at bx hb0 hs0 hmk2 ⊢
  have H0 : Veil (Below g w W0 ∧ (∃ cs, Box W0 g 43 cs ∧ TpX cs.toList n (eR 0)) ∧ W0.heap.size = g + 1) := ⟨hb0, ⟨_, bx, by
    have := made_tp n
    have e : eR 0 = fun _ => zV := by
      funext j
      exact eR_ge (by omega)
    rw [e]
    exact this⟩, hs0⟩
  have HG : Veil (w.heap.size = g) := ⟨hg⟩
  have hnn : (n : Int) ≤ 1000000 := by omega
  clear hmk hi hz0 hz1 hz2 bx hb0 hs0 hg hW0
  go_enter Tryz.func52, Tryz.ntmps52
  go_wp2
  go_loopw [9] (fun i wr => ∃ k : Nat, k ≤ n ∧ i = .int .i64 (k : Int) ∧ Below g w wr ∧ (∃ cs, Box wr g 43 cs ∧ TpX cs.toList n (eR k)) ∧ wr.heap.size = g + 1) (fun i _ => n - (intOf i).toNat)
  case atStart => exact ⟨0, by omega, rfl, H0.out⟩
  case round =>
    clear hmk2
    obtain ⟨k, hk, rfl, hb, ⟨cs, hbx, htp⟩, hsz⟩ := hrel
    have hk0 : (0 : Int) ≤ (k : Int) := by omega
    by_cases hlt : k < n
    · have hlt' : (k : Int) < (n : Int) := by omega
      have c0 : wr.cell? ⟨g, k * 3, none⟩ = some (.int .i64 0) := by
        have h0 := (htp.2 k hlt).1
        rw [eR_ge (by omega)] at h0
        exact (hbx.at_ _).trans (by simpa using h0)
      have f0 := hbx.free (k * 3)
      have HR : Veil (Below g w (wr.setCell ⟨g, k * 3, none⟩ (.int .i64 10)) ∧ (∃ cs, Box (wr.setCell ⟨g, k * 3, none⟩ (.int .i64 10)) g 43 cs ∧ TpX cs.toList n (eR (k + 1))) ∧ (wr.setCell ⟨g, k * 3, none⟩ (.int .i64 10)).heap.size = g + 1) :=
        ⟨hb.setCell (p := ⟨g, k * 3, none⟩) (Nat.le_refl _) _, ⟨_, hbx.put _ _, by simpa using tp_step htp hlt⟩, by simpa using hsz⟩
      clear hb hbx htp hsz H0
      go_wp2
      exact ⟨⟨k + 1, by omega, by go_num, HR.out⟩, by simp [intOf]; omega⟩
    · obtain rfl : k = n := by omega
      have hlt' : ¬ (k : Int) < (k : Int) := by omega
      have HE : Veil (Below g w wr ∧ EmR wr g k ∧ wr.heap.size = g + 1) := ⟨hb, ⟨cs, hbx, htp.1, fun i hi => by
        have := htp.2 i hi
        rw [eR_lt hi] at this
        exact this⟩, hsz⟩
      clear hb hbx htp hsz H0 hlt hk
      go_wp2
      go_ret
      exact ⟨rfl, HE.out⟩
set_option maxRecDepth 100000 in
theorem ref_empty (w : World) : Calls Tryz.prog 56 #[valV eV] w fun e w' => e = .returned (.int .i64 0) ∧ Below w.heap.size w w' := by
  have b1 : Below w.heap.size w (w.alloc (.cells #[.int .i64 10, .int .i64 0, .string ⟨#[]⟩] 43)) := (Below.refl _ _).alloc (Nat.le_refl _) _
  go_enter Tryz.func56, Tryz.ntmps56
  go_wp2
  go_ret
  exact ⟨rfl, b1⟩
set_option maxHeartbeats 2000000 in
set_option maxRecDepth 100000 in
theorem eachOf_empty (g n c : Nat) (hn : n ≤ 1000000) (fv : Value) (w : World) (h : EmR w g n) : Calls Tryz.prog 157 #[.slice (some ⟨g, 0, none⟩) n c, fv] w fun e w' => e = .returned (.bool true) ∧ Below w.heap.size w w' := by
  have HE := Veil.mk h
  have hnn : (n : Int) ≤ 1000000 := by omega
  clear h
  go_enter Tryz.func157, Tryz.ntmps157
  go_wp2
  go_loopw [10] (fun i wr => ∃ k : Nat, k ≤ n ∧ i = .int .i64 (k : Int) ∧ Below w.heap.size w wr) (fun i _ => n - (intOf i).toNat)
  case atStart => exact ⟨0, by omega, rfl, Below.refl _ _⟩
  case round =>
    obtain ⟨k, hk, rfl, hb⟩ := hrel
    have hk0 : (0 : Int) ≤ (k : Int) := by omega
    by_cases hlt : k < n
    · have hlt' : (k : Int) < (n : Int) := by omega
      obtain ⟨c0, c1, c2⟩ := (HE.out.on hb).cell k hlt
      have hal : Below w.heap.size w (wr.alloc (.cells #[.int .i64 10, .int .i64 0, .string ⟨#[]⟩] 43)) := hb.alloc hb.size _
      go_upto_region 4 with (fail)
      obtain ⟨W1, hW1⟩ : ∃ W1, wr.alloc (.cells #[.int .i64 10, .int .i64 0, .string ⟨#[]⟩] 43) = W1 := ⟨_, rfl⟩
      have bx := Box.new wr 43 #[.int .i64 10, .int .i64 0, .string ⟨#[]⟩]
      obtain ⟨kb, hkb⟩ : ∃ kb, wr.heap.size = kb := ⟨_, rfl⟩
      rw [hW1] at hal bx ⊢
      rw [hkb] at bx ⊢
      have x0 : W1.cell? ⟨kb, 0, none⟩ = some (.int .i64 10) := bx.at_ 0
      have x1 : W1.cell? ⟨kb, 1, none⟩ = some (.int .i64 0) := bx.at_ 1
      have x2 : W1.cell? ⟨kb, 2, none⟩ = some (.string ⟨#[]⟩) := bx.at_ 2
      have HRF := Veil.mk (ref_empty W1)
      have HAL := Veil.mk hal
      clear c0 c1 c2 hb hal bx hW1 hkb
      go_wp2_with (go_at_call 56; ((with_reducible refine HRF.out.mono ?_); rintro e9 w9 ⟨rfl, h9⟩))
      have h10 := HAL.out.trans (h9.mono HAL.out.size)
      exact ⟨⟨k + 1, by omega, by go_num, h10⟩, by simp [intOf]; omega⟩
    · obtain rfl : k = n := by omega
      have hlt' : ¬ (k : Int) < (k : Int) := by omega
      go_wp2
      go_ret
      exact ⟨rfl, hb⟩
abbrev envB (e : Nat) : Bd := (48, e)
abbrev markB (e : Nat) : Bd := (99, e)
theorem plb_env (e : Nat) : PlB (envB e) := ⟨fun W => run_typeAssert_lacksB Tryz.underlying141 (by kernel_rfl) (by kernel_rfl) _ _ W, fun W => run_typeAssert_lacksB Tryz.underlying144 (by kernel_rfl) (by kernel_rfl) _ _ W, fun W => run_typeAssert_lacksB Tryz.underlying148 (by kernel_rfl) (by kernel_rfl) _ _ W⟩
theorem plb_mark (e : Nat) : PlB (markB e) := ⟨fun W => run_typeAssert_lacksB Tryz.underlying141 (by kernel_rfl) (by kernel_rfl) _ _ W, fun W => run_typeAssert_lacksB Tryz.underlying144 (by kernel_rfl) (by kernel_rfl) _ _ W, fun W => run_typeAssert_lacksB Tryz.underlying148 (by kernel_rfl) (by kernel_rfl) _ _ W⟩
/-- An environment of n empties. -/
structure EnvAt (w : World) (e g n : Nat) (up : Int) : Prop where
  box : Box w e 47 #[.slice (some ⟨g, 0, none⟩) n n, .int .i64 up]
  row : EmR w g n
theorem EnvAt.touch {w w' : World} {e g n : Nat} {up : Int} {S : Nat → Prop} (h : EnvAt w e g n up) (ht : Touch S w w') (h1 : ¬ S e) (h2 : ¬ S g) : EnvAt w' e g n up := ⟨h.box.touch ht h1, h.row.touch ht h2⟩
theorem EnvAt.on {w w' : World} {e g n : Nat} {up : Int} (h : EnvAt w e g n up) (hb : Below w.heap.size w w') : EnvAt w' e g n up := ⟨h.box.below hb, h.row.on hb⟩
theorem EnvAt.onN {w w' : World} {e g n N : Nat} {up : Int} (h : EnvAt w e g n up) (he : e < N) (hg : g < N) (hb : Below N w w') : EnvAt w' e g n up := h.touch (Touch.of_belowN hb) (by omega) (by omega)
def upL (up : Int) : List Int := if up = 0 then [] else [up]
set_option maxRecDepth 100000 in
set_option maxHeartbeats 2000000 in
theorem env_stops (m : Nat) (hm : 2 ≤ m) (e g n : Nat) (hn : n ≤ 1000000) (up : Int) (W : World) (h : EnvAt W e g n up) :
    ReadStops m Tryz.prog 158 #[.pointer (some ⟨e, 0, none⟩)] #[] (fun x : Int => #[.int .i64 x]) (fun k => k = e ∨ k = g) (fun xs => xs = upL up) (fun pre => pre <+: upL up) W := by
  intro l J Jx hJ hJx hY h0
  have c0 : W.cell? ⟨e, 0, none⟩ = some (.slice (some ⟨g, 0, none⟩) n n) := h.box.at_ 0
  have c1 : W.cell? ⟨e, 1, none⟩ = some (.int .i64 up) := h.box.at_ 1
  have hm1 : 1 ≤ m := by omega
  have hm2 : 1 ≤ m - 1 := by omega
  refine callsIn_of_wp Tryz.func158 rfl trivial ?_ rfl
  simp only [Tryz.ntmps158, List.size_toArray, List.length_cons, List.length_nil, Nat.reduceAdd, Nat.reduceSub, Array.replicate_succ, Array.replicate_zero, List.push_toArray, List.append_toArray, List.nil_append, List.cons_append, List.append_nil]
  by_cases hu : up = 0
  · subst hu
    have HEO := Veil.mk (eachOf_empty g n n hn (.func (.yield l) #[] #[]) W h.row)
    clear h
    gi_wp2
    refine ⟨fun _ h => (by cases h), ?_⟩
    gi_wp2_with (first | (refine ⟨trivial, ?_⟩; gi_at_call 157; refine (callsIn_wide.2 HEO.out).mono ?_; rintro e9 w9 ⟨rfl, hb9⟩))
    refine bodyPost_end (results_none rfl _ _ _) rfl ?_
    exact ⟨⟨_, rfl⟩, .inl ⟨_, by unfold upL; rw [if_pos rfl], hJ _ _ _ h0 hb9⟩⟩
  · have hu2 : (up == 0) = false := beq_eq_false_iff_ne.2 hu
    have hL : upL up = [up] := by unfold upL; rw [if_neg hu]
    have hpre : [] ++ [up] <+: upL up := by rw [hL]; exact List.prefix_refl _
    obtain ⟨fn, tmps, assign, body, hy, hR⟩ := hY [] up W h0 hpre
    gi_wp2
    refine hR.mono ?_
    rintro e9 W3 (⟨rfl, hJ3, hk3⟩ | ⟨rfl, hJx3⟩)
    · have h3 := h.touch hk3 (fun hn => hn (.inl rfl)) (fun hn => hn (.inr rfl))
      have d0 : W3.cell? ⟨e, 0, none⟩ = some (.slice (some ⟨g, 0, none⟩) n n) := h3.box.at_ 0
      have HEO := Veil.mk (eachOf_empty g n n hn (.func (.yield l) #[] #[]) W3 h3.row)
      clear c0 c1 hk3 h3 h
      gi_wp2_with (first | (refine ⟨trivial, ?_⟩; gi_at_call 157; refine (callsIn_wide.2 HEO.out).mono ?_; rintro e9 w9 ⟨rfl, hb9⟩))
      refine bodyPost_end (results_none rfl _ _ _) rfl ?_
      exact ⟨⟨_, rfl⟩, .inl ⟨_, hL.symm, hJ _ _ _ hJ3 hb9⟩⟩
    · gi_wp2
      refine bodyPost_end (results_none rfl _ _ _) rfl ?_
      exact ⟨⟨_, rfl⟩, .inr ⟨_, hpre, hJx3⟩⟩
theorem env_invoke (e l : Nat) (W : World) : (invoke (.fn (.method "Each") #[]) #[nodeV (envB e), .func (.yield l) #[] #[]]).run Tryz.prog W = .ok (.enter 158 (#[.pointer (some ⟨e, 0, none⟩)] ++ #[.func (.yield l) #[] #[]] ++ #[])) W := by kernel_rfl
theorem fol_env {N e g n : Nat} {up : Int} {W0 : World} (h : EnvAt W0 e g n up) (hn : n ≤ 1000000) (he : e < N) (hg : g < N) : FolB N W0 (envB e) (upL up) :=
  ⟨158, fun k => k = e ∨ k = g, fun j hj => by rcases hj with rfl | rfl <;> assumption, fun l W => env_invoke e l W, fun W hb => env_stops 5 (by omega) e g n hn up W (h.onN he hg hb)⟩
end Go.Proofs.YtbeapojjbgkalaaGreatDoor
