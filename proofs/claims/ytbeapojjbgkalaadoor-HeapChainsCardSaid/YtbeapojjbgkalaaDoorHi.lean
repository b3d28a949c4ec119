/- HeapChains: the walk. -/
import Derived.Test.YtbeapojjbgkalaaDoorHh
import Derived.Test.YtbeapojjbgkalaaDoorQa
import Derived.Test.YtbeapojjbgkalaaDoorIl
import Derived.Test.YtbeapojjbgkalaaDoorIr
namespace Go.Proofs.YtbeapojjbgkalaaDoor
open Go Go.RowKit

theorem CJ.back {l : List Oper} {ks : List (Option (Value → Prop))} {Ph : (Nat → Bool) → (Nat → Value) → World → Prop} {d : Nat → Bool} {us : Nat → Value} {w : World} (h : CJ l ks Ph d us w) (i j : Nat) {o : Oper} (ho : l[i]? = some o) (ha : (o.after.any fun e => Region.binds .any e && e.on == j) = true) (hi : d i = true) : d j = true := by
  cases hj : d j with
  | true => rfl
  | false => rw [h.before i j ho ha hj] at hi; cases hi
theorem LPh.le {cs : List Nat} {St : Nat → (Nat → Value) → World → Prop} {d : Nat → Bool} {us : Nat → Value} {w : World} (h : LPh cs St d us w) (j c : Nat) (hc : cs[j]? = some c) (hd : d c = false) : ∃ s, s ≤ j ∧ St s (fun j => us (cs.getD j 1000000)) w := by
  obtain ⟨s, h1, h2, h3⟩ := h
  refine ⟨s, ?_, h3⟩
  rcases Nat.lt_or_ge j s with hlt | hge
  · have := (h2 j c hc).2 hlt
    rw [hd] at this
    cases this
  · exact hge
theorem conv_one (w3 : World) (c : UInt8) : Sem.run Tryd.prog (convert 63 9 (.slice (some ⟨w3.heap.size, 0, none⟩) 1 1)) (w3.alloc (.cells #[.int .u8 (c.toNat : Int)] 5)) = .ok (.string ⟨#[c]⟩) (w3.alloc (.cells #[.int .u8 (c.toNat : Int)] 5)) :=
  run_convert_bytes_back (P := Tryd.prog) (w3.alloc (.cells #[.int .u8 (c.toNat : Int)] 5)) 63 9 5 ⟨w3.heap.size, 0, none⟩ 1 [c] Tryd.underlying63 Tryd.underlying5 Tryd.underlying9 (fun j hj => by
    have hj0 : j = 0 := by
      have : j < 1 := hj
      omega
    subst hj0
    exact news_at w3 _ rfl [.int .u8 (c.toNat : Int)] _ 0 _ rfl)
abbrev keyB (b : UInt8) : Vt := (7, 0, ⟨#[0, b]⟩)
/-- Where the region of a Define stands. -/
def DSt (B nb q : Nat) (F : Nat → Nat → Prop) (O : Nat → List En) (bc : UInt8) (WD : World) : Nat → (Nat → Value) → World → Prop
  | 0 => fun _ w => w = WD
  | 1 => fun _ w => w = WD.alloc (.cells #[.int .u8 (bc.toNat : Int)] 5)
  | 2 => fun _ w => Below WD.heap.size WD w
  | _ => fun _ w' => ∃ w pv' F', Below WD.heap.size WD w ∧ Box w' nb 38 (objC 0 (q : Int) false pv' (.slice none 0 0)) ∧ PrAt B w' pv' F' (putO (O q, []) (keyT (keyB bc)) (3, (q : Int) + 1, ⟨#[]⟩) 7).1 ∧ Touch (fun b => b = nb ∨ F q b) w w' ∧ ∀ b, F' b → F q b ∨ w.heap.size ≤ b
theorem DSt.hk {w : World} {B h A : Nat} {cv fv rv : Value} {nbs : List Nat} {pv : Nat → Value} {nb q : Nat} {bc : UInt8} {F : Nat → Nat → Prop} {O : Nat → List En} {WD : World} (H : HK WD B h A cv fv rv nbs pv) {s : Nat} (hs : s ≤ 1) {f : Nat → Value} (hst : DSt B nb q F O bc WD s f w) : HK w B h A cv fv rv nbs pv := by
  match s, hs, hst with
  | 0, _, hst => rw [show w = WD from hst]; exact H
  | 1, _, hst => rw [show w = WD.alloc _ from hst]; exact H.on ((Below.refl _ _).alloc (Nat.le_refl _) _)
theorem PrAt.not_lab {B : Nat} {w : World} {pv : Value} {F : Nat → Prop} {O : List En} (h : PrAt B w pv F O) {g : Nat} {e : TypeId} (hl : Lab w g e) (he : e ≠ 73 ∧ e ≠ 80 ∧ e ≠ 3 ∧ e ≠ 32 ∧ e ≠ 133) : ¬ F g := by
  rcases h with ⟨_, _, rfl⟩ | ⟨t, _, h⟩
  · exact id
  · exact h.not_lab hl he
theorem val_key (c : Nat) (hc : c < 4) (w : World) : Calls Tryd.prog 21 #[.string ⟨#[UInt8.ofNat (97 + c)]⟩] w fun e w' => e = .returned (valV (keyV c)) ∧ Below w.heap.size w w' := by
  have h : ∀ c < 4, W.ofB ⟨#[UInt8.ofNat (97 + c)]⟩ = [0, UInt8.ofNat (97 + c)] := by decide +kernel
  exact W.val_const _ _ (by show (1 : Nat) ≤ _; omega) (show Hid _ from h c hc) w
abbrev nrA (nr : Nat → Nat) : Array Value := #[.int .i64 (nr 0 : Int), .int .i64 (nr 1 : Int), .int .i64 (nr 2 : Int), .int .i64 (nr 3 : Int)]
theorem nrA_get (nr : Nat → Nat) (c : Nat) (hc : c < 4) : (nrA nr)[c]? = some (.int .i64 (nr c : Int)) := by
  match c, hc with
  | 0, _ => rfl
  | 1, _ => rfl
  | 2, _ => rfl
  | 3, _ => rfl
theorem nrA_set (nr : Nat → Nat) (c v : Nat) (hc : c < 4) : (nrA nr).setIfInBounds c (.int .i64 (v : Int)) = nrA (upN nr c v) := by
  match c, hc with
  | 0, _ => rfl
  | 1, _ => rfl
  | 2, _ => rfl
  | 3, _ => rfl
theorem index_four (nr : Nat → Nat) (c : Nat) (hc : c < 4) (w : World) : (Instr.index 60 (.agg (nrA nr)) (.int .i64 (c : Int))).run Tryd.prog w = .ok (.int .i64 (nr c : Int)) w := by
  match c, hc with
  | 0, _ => simp [Instr.index, run_underlying Tryd.underlying60, asIntOf, go_sem]
  | 1, _ => simp [Instr.index, run_underlying Tryd.underlying60, asIntOf, go_sem]
  | 2, _ => simp [Instr.index, run_underlying Tryd.underlying60, asIntOf, go_sem]
  | 3, _ => simp [Instr.index, run_underlying Tryd.underlying60, asIntOf, go_sem]
theorem HS.touch {w w' : World} {B h A : Nat} {cv fv rv : Value} {nbs : List Nat} {pv : Nat → Value} {F : Nat → Nat → Prop} {O : Nat → List En} {S : Nat → Prop} (H : HS w B h A cv fv rv nbs pv F O) (ht : Touch S w w') (h1 : ∀ k, HFoot h A cv fv rv nbs k → ¬ S k) (h2 : ∀ i, i < nbs.length → ∀ k, F i k → ¬ S k) : HS w' B h A cv fv rv nbs pv F O :=
  ⟨H.hk.touch ht h1, fun i hi => (H.pr i hi).touch ht (h2 i hi), H.al, H.ap, H.aa, H.nd⟩
theorem HS.not_four {w : World} {B h A : Nat} {cv fv rv : Value} {nbs : List Nat} {pv : Nat → Value} {F : Nat → Nat → Prop} {O : Nat → List En} (H : HS w B h A cv fv rv nbs pv F O) {g : Nat} (hl : Lab w g 60) : ¬ HFoot h A cv fv rv nbs g ∧ ∀ i, i < nbs.length → ¬ F i g := by
  refine ⟨?_, fun i hi => (H.pr i hi).not_lab hl (by decide)⟩
  rintro (e | e | e)
  · exact hl.ne H.hk.hp.hb.lab (by decide) e
  · exact AFoot.lab H.hk.hp.ar hl (by decide) (by decide) (by decide) e
  · obtain ⟨i, hi⟩ := List.mem_iff_getElem?.1 e
    exact hl.ne (H.hk.ob i g hi).lab (by decide) rfl
/-- What the loop over the calls keeps. -/
structure LS (w : World) (B h A n : Nat) (cv fv rv : Value) (nbs : List Nat) (b9 k : Nat) (wr : World) : Prop where
  st : ∃ pv F O nr, HS wr B h A cv fv rv nbs pv F O ∧ NR n k O nr ∧ Box wr b9 60 (nrA nr)
  bel : Below w.heap.size w wr
set_option maxHeartbeats 4000000 in
set_option maxRecDepth 100000 in
theorem chains_law (n0 : Int) (a : Option Addr) (m cap : Nat) (l : List Int) (ask : Int) (w : World) (hN : IntsR w a m l) :
    Calls Tryd.prog 5 #[.int .i64 n0, .slice a m cap, .int .i64 ask] w fun e w' => e = .returned (.bool true) ∧ Below w.heap.size w w' := by
  obtain ⟨p0, hp0, hx1, hx2, hx3, hx4⟩ := rem_nat n0 20 (by omega)
  have hx1 : (n0.tmod 20 + 20).tmod 20 = (p0 : Int) := hx1
  have hx2 : (n0.tmod 20 + 20) % 20 = (p0 : Int) := hx2
  have hx3 : 0 < n0.tmod 20 + 20 := hx3
  have hx4 : n0.tmod 20 < 20 := hx4
  have hp0' : (p0 : Int) < 20 := by omega
  have HN := Veil.mk hN
  have hml := hN.1
  have HFT : Veil (∀ w, Calls Tryd.prog 6 #[] w fun e w' => e = .returned (.bool true) ∧ Below w.heap.size w w') := ⟨fit_any⟩
  clear hN
  by_cases hm : 50 < m
  · have hm' : (50 : Int) < (m : Int) := by omega
    go_enter Tryd.func5, Tryd.ntmps5
    go_wp2_with (first | (go_at_call 6; ((with_reducible refine (HFT.out _).mono ?_); rintro e9 w1 ⟨rfl, hb1⟩)))
    go_ret
    exact ⟨rfl, hb1⟩
  have hm' : ¬ (50 : Int) < (m : Int) := by omega
  go_enter Tryd.func5, Tryd.ntmps5
  go_upto_region 3 with (first | (go_at_call 6; ((with_reducible refine (HFT.out _).mono ?_); rintro e9 w1 ⟨rfl, hb1⟩)))
  have HNW := Veil.mk (heap_new w1)
  have HB1 := Veil.mk hb1
  clear hb1
  go_upto_region 7 with (first | (go_at_call 7; ((with_reducible refine HNW.out.mono ?_); rintro e9 w2 ⟨h, rfl, hb2, hp2⟩)))
  obtain ⟨B, hB⟩ : ∃ B, w1.heap.size = B := ⟨_, rfl⟩
  rw [hB] at hp2
  have HB2 := Veil.mk (show Below w.heap.size w w2 ∧ w.heap.size ≤ B from ⟨blw2 HB1.out hb2, by have := HB1.out.size; omega⟩)
  have HK0 : Veil (HK w2 B h B (.slice none 0 0) (.slice none 0 0) (.slice none 0 0) [] (fun _ => .pointer none)) := ⟨⟨hp2, fun i b hi => by cases hi⟩⟩
  clear hb2 hp2 hB HNW HB1
  obtain ⟨n, hn⟩ : ∃ n : Nat, n = p0 + 1 := ⟨_, rfl⟩
  have hnz : (0 : Int) < (n : Int) := by omega
  have hn20 : n ≤ 20 := by omega
  have HNN := Veil.mk hn
  clear hn
  skip
  go_wp2
  go_loopw [8, 32] (fun u i wr => ∃ (k : Nat) (nbs : List Nat) (cv fv rv : Value), k ≤ n ∧ nbs.length = k ∧ u = .int .i64 (k : Int) ∧ i = .int .i64 (k : Int) ∧ HK wr B h B cv fv rv nbs (fun _ => .pointer none) ∧ nbs.Nodup ∧ Below w.heap.size w wr ∧ ∀ b ∈ nbs, w.heap.size ≤ b) (fun _ i _ => n - (intOf i).toNat)
  case atStart => exact ⟨0, [], _, _, _, by omega, rfl, rfl, rfl, HK0.out, List.nodup_nil, HB2.out.1, fun b hb => by cases hb⟩
  case round =>
    obtain ⟨k, nbs, cv, fv, rv, hk, hkl, rfl, rfl, hK, hnd, hbw, hlo⟩ := hrel
    have hk0 : (0 : Int) ≤ (k : Int) := by omega
    by_cases hlt : k < n
    · have hlt' : (k : Int) < (p0 : Int) + 1 := by have := HNN.out; omega
      have HMK : Veil (Calls Tryd.prog 8 #[.pointer (some ⟨h, 0, none⟩), .int .i64 0, .int .i64 (k : Int)] wr fun e w' => e = .returned (.tuple #[.int .i64 ((k : Int) + 1), .pointer (some ⟨wr.heap.size, 0, none⟩)]) ∧ ∃ cv' fv' rv', HK w' B h B cv' fv' rv' (nbs ++ [wr.heap.size]) (fun _ => .pointer none) ∧ Touch (AFoot B cv fv rv) wr w') := ⟨by
        refine (heap_make hK.hp 0 (k : Int) rfl (by show nbs.length < _; omega) (by rw [List.length_map]; omega)).mono ?_
        rintro e w' ⟨he, hbo, ht, cv', fv', rv', hp', -⟩
        have hml2 : (⟨nbs.map objB, [], nbs.length, []⟩ : AD).cells.length = k := by show (nbs.map objB).length = k; rw [List.length_map, hkl]
        rw [hml2] at he
        exact ⟨he, cv', fv', rv', hK.make (by rw [hkl]; exact hbo) ht hp', ht⟩⟩
      have HQ := Veil.mk (And.intro hK (And.intro hnd (And.intro hbw (And.intro hkl hlo))))
      clear hK hnd hbw hlo
      go_wp2_with (go_at_call 8; ((with_reducible refine HMK.out.mono ?_); rintro e9 w4 ⟨rfl, cv', fv', rv', hK4, ht4⟩))
      obtain ⟨hK, hnd, hbw, hkl, hlo⟩ := HQ.out
      have HREL : Veil ((nbs ++ [wr.heap.size]).length = k + 1 ∧ HK w4 B h B cv' fv' rv' (nbs ++ [wr.heap.size]) (fun _ => .pointer none) ∧ (nbs ++ [wr.heap.size]).Nodup ∧ Below w.heap.size w w4 ∧ ∀ b ∈ nbs ++ [wr.heap.size], w.heap.size ≤ b) := ⟨by rw [List.length_append, hkl]; rfl, hK4, by
        rw [List.nodup_append]
        refine ⟨hnd, by simp, fun x hx y hy e => ?_⟩
        have := hK.lt (.inr (.inr hx))
        rw [List.mem_singleton] at hy
        omega, hbw.trans (ht4.below hbw.size (fun j hj => by have := (AFoot.lt hK.hp.ar hj).1; have := HB2.out.2; omega)), fun b hb => by
        rcases List.mem_append.1 hb with h9 | h9
        · exact hlo b h9
        · rw [List.mem_singleton.1 h9]; exact hbw.size⟩
      clear hK hnd hbw hlo hK4 ht4 HQ HMK
      go_roundw
      case rel => exact ⟨k + 1, _, cv', fv', rv', by omega, HREL.out.1, by go_num, by go_num, HREL.out.2⟩
      case measure => simp [intOf]; omega
    · obtain rfl : k = n := by omega
      have hlt' : ¬ (k : Int) < (p0 : Int) + 1 := by have := HNN.out; omega
      clear hlt hk hk0 HK0
      obtain ⟨W1, hW1⟩ : ∃ W1, wr.alloc (.cells #[.int .i64 0, .int .i64 0, .int .i64 0, .int .i64 0] 60) = W1 := ⟨_, rfl⟩
      obtain ⟨b9, hb9⟩ : ∃ b9, wr.heap.size = b9 := ⟨_, rfl⟩
      have bx9 := Box.new wr 60 #[.int .i64 0, .int .i64 0, .int .i64 0, .int .i64 0]
      have hal9 : Below wr.heap.size wr (wr.alloc (.cells #[.int .i64 0, .int .i64 0, .int .i64 0, .int .i64 0] 60)) := (Below.refl _ _).alloc (Nat.le_refl _) _
      rw [hW1] at bx9 hal9
      have HLS : Veil (LS w B h B k cv fv rv nbs b9 0 W1) := ⟨⟨⟨_, _, _, fun _ => 0, HS.start (hK.on hal9) hnd, NR.start k, by rw [← hb9]; exact bx9⟩, hbw.trans (hal9.mono hbw.size)⟩⟩
      have HFX := Veil.mk (And.intro hkl (And.intro hnd (And.intro hW1 hb9)))
      have HLO := Veil.mk hlo
      have HB19 : Veil (w.heap.size ≤ wr.heap.size) := ⟨hbw.size⟩
      clear hlo hK hnd hbw bx9 hal9 hkl hW1 hb9
      go_upto_region 13 with (fail)
      rw [HFX.out.2.2.1, HFX.out.2.2.2]
      go_wp2
      go_loopw [44] (fun i wr => ∃ j : Nat, j ≤ m ∧ i = .int .i64 (j : Int) ∧ LS w B h B k cv fv rv nbs b9 j wr) (fun i _ => m - (intOf i).toNat)
      case atStart => exact ⟨0, by omega, rfl, HLS.out⟩
      case round =>
        clear HLS
        obtain ⟨j, hj, rfl, hls⟩ := hrel
        have hj0 : (0 : Int) ≤ (j : Int) := by omega
        by_cases hlt : j < m
        · have hlt' : (j : Int) < (m : Int) := by omega
          have hI := HN.out.on hls.bel
          obtain ⟨bl, ol, rfl, -, hcl⟩ := hI.2 (by omega)
          have hcj := hcl j hlt
          obtain ⟨x, hx⟩ : ∃ x, l[j]?.getD 0 = x := ⟨_, rfl⟩
          rw [hx] at hcj
          have HL2 := Veil.mk hls
          clear hls hI hcl hx
          go_upto_region 16 with (fail)
          have hne : ((p0 : Int) + 1 == 0) = false := beq_eq_false_iff_ne.2 (by omega)
          have hne2 : (p0 : Int) + 1 ≠ 0 := by omega
          go_region
          obtain ⟨c, hc, hc4⟩ := mask 2 (by omega) x
          obtain ⟨q0, hq0, -⟩ := mask 8 (by omega) (x / 4)
          have hc : bits .and .i64 x 3 = (c : Int) := hc
          have hq0 : bits .and .i64 (x / 4) 255 = (q0 : Int) := hq0
          obtain ⟨q, hqd⟩ : ∃ q : Nat, q = q0 % (p0 + 1) := ⟨_, rfl⟩
          have hqn : q < k := by rw [hqd, HNN.out]; exact Nat.mod_lt _ (by omega)
          have e13 : wrap64 ((bits .and .i64 (x / 4) 255).tmod ((p0 : Int) + 1) + 1) = (q : Int) + 1 := by
            rw [hq0, show (p0 : Int) + 1 = ((p0 + 1 : Nat) : Int) by omega, Int.tmod_eq_emod_of_nonneg (by omega), ← Int.natCast_emod, ← hqd]
            unfold wrap64
            omega
          rw [hc, e13]
          have hc4 : c < 4 := hc4
          clear hc hq0 hqd e13 hne hne2 hcj
          obtain ⟨⟨pv, F, O, nr, hs, hnr, hb9⟩, hbw⟩ := HL2.out
          obtain ⟨WC, hWC⟩ : ∃ WC, wr.drew = WC := ⟨_, rfl⟩
          have hbd : Below wr.heap.size wr wr.drew := (Below.refl _ _).drew
          have hsC := hs.on hbd
          have hb9C := hb9.on hbd hb9.lt
          have hbwC := hbw.trans (hbd.mono hbw.size)
          rw [hWC] at hsC hb9C hbwC ⊢
          have HC := Veil.mk (And.intro hsC (And.intro hb9C hbwC))
          have HNR := Veil.mk hnr
          have HC4 := Veil.mk hc4
          have HQN := Veil.mk (show q < nbs.length by rw [HFX.out.1]; exact hqn)
          have HQN9 := Veil.mk hqn
          obtain ⟨bc, hbc⟩ : ∃ bc, UInt8.ofNat (97 + c) = bc := ⟨_, rfl⟩
          have HKB : Veil (keyB bc = keyV c) := ⟨by rw [← hbc]⟩
          have HVL : Veil (∀ w, Calls Tryd.prog 21 #[.string ⟨#[bc]⟩] w fun e w' => e = .returned (valV (keyB bc)) ∧ Below w.heap.size w w') := ⟨by rw [← hbc]; exact val_key c hc4⟩
          have HBC : Veil (IntKind.u8.wrap (IntKind.i64.wrap (97 + (c : Int))) = (bc.toNat : Int)) := ⟨by
            rw [← hbc]
            have h : ∀ c : Nat, c < 4 → IntKind.u8.wrap (IntKind.i64.wrap (97 + (c : Int))) = ((UInt8.ofNat (97 + c)).toNat : Int) := by decide +kernel
            exact h c hc4⟩
          have hc0 : (0 : Int) ≤ (c : Int) := by omega
          have hc40 : (c : Int) < 4 := by omega
          have hq1 : (0 : Int) ≤ (q : Int) + 1 := by omega
          have hq2 : (q : Int) + 1 ≤ 20 := by omega
          clear hbc hs hnr hb9 hbw hWC hbd hsC hb9C hbwC HL2 hc4
          go_upto_region 17 with (fail)
          obtain ⟨WD, hWD⟩ : ∃ WD, WC.drew = WD := ⟨_, rfl⟩
          have HSD : Veil (HS WD B h B cv fv rv nbs pv F O) := ⟨by rw [← hWD]; exact HC.out.1.on (Below.refl _ _).drew⟩
          have HB9 : Veil (Box WD b9 60 (nrA nr)) := ⟨by rw [← hWD]; exact HC.out.2.1.drew⟩
          have HBD2 : Veil (B ≤ WD.heap.size) := ⟨by have := HSD.out.hk.hp.ar.ha; have := HSD.out.hk.hp.ar.box.lt; omega⟩
          have HBWD : Veil (Below w.heap.size w WD) := ⟨by rw [← hWD]; exact HC.out.2.2.drew⟩
          obtain ⟨nb, hnb⟩ : ∃ nb, nbs[q]?.getD 0 = nb := ⟨_, rfl⟩
          have HNB : Veil (objB (nbs[q]?.getD 0) = objB nb) := ⟨by rw [hnb]⟩
          have HNB2 : Veil (nbs[q]? = some nb) := ⟨by have := HQN.out; rw [List.getElem?_eq_getElem this] at hnb ⊢; exact congrArg some hnb⟩
          have HWD := Veil.mk hWD
          clear hWD hnb HC
          refine wp_region_chain ([some (· = .pointer (some ⟨h, 0, none⟩)), some (· = .int .i64 ((q : Int) + 1)), some (· = .pointer (some ⟨nb, 0, none⟩)), some (· = .int .i64 (c : Int)), some (· = .int .i64 (IntKind.i64.wrap (97 + (c : Int)))), some (· = .int .u8 (bc.toNat : Int)), some (· = .slice (some ⟨WD.heap.size, 0, none⟩) 1 1), some (· = .string ⟨#[bc]⟩), some (· = valV (keyB bc)), some (· = .int .i64 ((q : Int) + 1)), some (· = .agg #[.int .i64 3, .int .i64 ((q : Int) + 1), .string ⟨#[]⟩]), some (· = .bool true)] : List (Option (Value → Prop))) (LPh [6, 8, 11] (DSt B nb q F O bc WD)) [some 56, some 57, some 58, some 59, some 60, some 61, some 62, some 63, some 64, some 65, some 66, some 67] (curV' _ [some 56, some 57, some 58, some 59, some 60, some 61, some 62, some 63, some 64, some 65, some 66, some 67]) (by kernel_rfl) rfl rfl (puts_cur _ _) (LPh.start (show WC.drew = WD from HWD.out)) ?_ (by kernel_rfl) ?_
          · refine Steps.cons rfl (fun bb aa w' hbs hb0 hbp hI K hK => ?_) ?_
            · obtain ⟨us, hus, ha, hI⟩ := hI
              obtain ⟨u0, u1, u2, u3, u4, u5, u6, u7, u8, u9, u10, u11, rfl⟩ := len12 hus
              have HI := Veil.mk hI
              clear hI
              rw [ha]
              simp only [puts, setAll, List.setIfInBounds_toArray, List.set_cons_zero, List.set_cons_succ]
              go_simp
              exact hK _ _ (chain_step HI.out hus hbs 0 _ (by show 0 < 12; decide) rfl hbp (val_of rfl rfl) (HI.out.ph.step 0 _ (by decide) (by decide)) (by simp only [puts, setAll, List.set_cons_zero, List.set_cons_succ, List.setIfInBounds_toArray]))
            refine Steps.cons rfl (fun bb aa w' hbs hb0 hbp hI K hK => ?_) ?_
            · obtain ⟨us, hus, ha, hI⟩ := hI
              obtain ⟨u0, u1, u2, u3, u4, u5, u6, u7, u8, u9, u10, u11, rfl⟩ := len12 hus
              have HI := Veil.mk hI
              clear hI
              rw [ha]
              simp only [puts, setAll, List.setIfInBounds_toArray, List.set_cons_zero, List.set_cons_succ]
              go_simp
              exact hK _ _ (chain_step HI.out hus hbs 1 _ (by show 1 < 12; decide) rfl hbp (val_of rfl rfl) (HI.out.ph.step 1 _ (by decide) (by decide)) (by simp only [puts, setAll, List.set_cons_zero, List.set_cons_succ, List.setIfInBounds_toArray]))
            refine Steps.cons rfl (fun bb aa w' hbs hb0 hbp hI K hK => ?_) ?_
            · obtain ⟨us, hus, ha, hI⟩ := hI
              obtain ⟨u0, u1, u2, u3, u4, u5, u6, u7, u8, u9, u10, u11, rfl⟩ := len12 hus
              have e0 : u0 = .pointer (some ⟨h, 0, none⟩) := hI.val 0 _ rfl (gen_after 0 (by kernel_rfl) hbp)
              subst e0
              have e1 : u1 = .int .i64 ((q : Int) + 1) := hI.val 1 _ rfl (gen_after 1 (by kernel_rfl) hbp)
              subst e1
              have h8 := hI.before 8 2 rfl (by kernel_rfl) hb0
              obtain ⟨sg, hsg, hstg⟩ := hI.ph.le 1 8 rfl h8
              have HKW := Veil.mk (DSt.hk HSD.out.hk hsg hstg)
              have HI := Veil.mk hI
              clear hI h8
              rw [ha]
              simp only [puts, setAll, List.setIfInBounds_toArray, List.set_cons_zero, List.set_cons_succ]
              go_simp
              go_at_call 15
              refine (obj_some HKW.out.hp _ nb (by rw [get_in q HQN.out, HNB.out])).mono ?_
              rintro e9 w9 ⟨rfl, h9⟩
              subst w9
              go_simp
              exact hK _ _ (chain_step HI.out hus hbs 2 _ (by show 2 < 12; decide) rfl hbp (val_of rfl rfl) (HI.out.ph.step 2 _ (by decide) (by decide)) (by simp only [puts, setAll, List.set_cons_zero, List.set_cons_succ, List.setIfInBounds_toArray]))
            refine Steps.cons rfl (fun bb aa w' hbs hb0 hbp hI K hK => ?_) ?_
            · obtain ⟨us, hus, ha, hI⟩ := hI
              obtain ⟨u0, u1, u2, u3, u4, u5, u6, u7, u8, u9, u10, u11, rfl⟩ := len12 hus
              have HI := Veil.mk hI
              clear hI
              rw [ha]
              simp only [puts, setAll, List.setIfInBounds_toArray, List.set_cons_zero, List.set_cons_succ]
              go_simp
              exact hK _ _ (chain_step HI.out hus hbs 3 _ (by show 3 < 12; decide) rfl hbp (val_of rfl rfl) (HI.out.ph.step 3 _ (by decide) (by decide)) (by simp only [puts, setAll, List.set_cons_zero, List.set_cons_succ, List.setIfInBounds_toArray]))
            refine Steps.cons rfl (fun bb aa w' hbs hb0 hbp hI K hK => ?_) ?_
            · obtain ⟨us, hus, ha, hI⟩ := hI
              obtain ⟨u0, u1, u2, u3, u4, u5, u6, u7, u8, u9, u10, u11, rfl⟩ := len12 hus
              have e3 : u3 = .int .i64 (c : Int) := hI.val 3 _ rfl (gen_after 3 (by kernel_rfl) hbp)
              subst e3
              have HI := Veil.mk hI
              clear hI
              rw [ha]
              simp only [puts, setAll, List.setIfInBounds_toArray, List.set_cons_zero, List.set_cons_succ]
              go_simp
              exact hK _ _ (chain_step HI.out hus hbs 4 _ (by show 4 < 12; decide) rfl hbp (val_of rfl rfl) (HI.out.ph.step 4 _ (by decide) (by decide)) (by simp only [puts, setAll, List.set_cons_zero, List.set_cons_succ, List.setIfInBounds_toArray]))
            refine Steps.cons rfl (fun bb aa w' hbs hb0 hbp hI K hK => ?_) ?_
            · obtain ⟨us, hus, ha, hI⟩ := hI
              obtain ⟨u0, u1, u2, u3, u4, u5, u6, u7, u8, u9, u10, u11, rfl⟩ := len12 hus
              have e4 : u4 = .int .i64 (IntKind.i64.wrap (97 + (c : Int))) := hI.val 4 _ rfl (gen_after 4 (by kernel_rfl) hbp)
              subst e4
              have HI := Veil.mk hI
              clear hI
              rw [ha]
              simp only [puts, setAll, List.setIfInBounds_toArray, List.set_cons_zero, List.set_cons_succ]
              go_simp
              rw [HBC.out]
              exact hK _ _ (chain_step HI.out hus hbs 5 _ (by show 5 < 12; decide) rfl hbp (val_of rfl rfl) (HI.out.ph.step 5 _ (by decide) (by decide)) (by simp only [puts, setAll, List.set_cons_zero, List.set_cons_succ, List.setIfInBounds_toArray]))
            refine Steps.cons rfl (fun bb aa w' hbs hb0 hbp hI K hK => ?_) ?_
            · obtain ⟨us, hus, ha, hI⟩ := hI
              obtain ⟨u0, u1, u2, u3, u4, u5, u6, u7, u8, u9, u10, u11, rfl⟩ := len12 hus
              have e5 : u5 = .int .u8 (bc.toNat : Int) := hI.val 5 _ rfl (gen_after 5 (by kernel_rfl) hbp)
              subst e5
              have hst := hI.ph.at_ 0 6 rfl hb0 (.inl rfl)
              have HST := Veil.mk (show w' = WD from hst)
              clear hst
              have HI := Veil.mk hI
              clear hI
              rw [ha]
              simp only [puts, setAll, List.setIfInBounds_toArray, List.set_cons_zero, List.set_cons_succ]
              go_simp
              exact hK _ _ (chain_step HI.out hus hbs 6 (.slice (some ⟨w'.heap.size, 0, none⟩) 1 1) (by show 6 < 12; decide) rfl hbp (val_of rfl (by rw [HST.out])) (HI.out.ph.next 0 6 _ rfl hb0 (.inl rfl) (by decide) (by show _ = WD.alloc _; rw [HST.out])) (by simp only [puts, setAll, List.set_cons_zero, List.set_cons_succ, List.setIfInBounds_toArray]))
            refine Steps.cons rfl (fun bb aa w' hbs hb0 hbp hI K hK => ?_) ?_
            · obtain ⟨us, hus, ha, hI⟩ := hI
              obtain ⟨u0, u1, u2, u3, u4, u5, u6, u7, u8, u9, u10, u11, rfl⟩ := len12 hus
              have e6 : u6 = .slice (some ⟨WD.heap.size, 0, none⟩) 1 1 := hI.val 6 _ rfl (gen_after 6 (by kernel_rfl) hbp)
              subst e6
              have h8 := hI.before 8 7 rfl (by kernel_rfl) hb0
              have hst := hI.ph.at_ 1 8 rfl h8 (.inr ⟨6, rfl, gen_after 6 (by kernel_rfl) hbp⟩)
              clear h8
              have e9 : w' = WD.alloc (.cells #[.int .u8 (bc.toNat : Int)] 5) := hst
              have hcv := conv_one WD bc
              rw [← e9] at hcv
              clear e9
              have HI := Veil.mk hI
              clear hI
              rw [ha]
              simp only [puts, setAll, List.setIfInBounds_toArray, List.set_cons_zero, List.set_cons_succ]
              go_simp
              exact hK _ _ (chain_step HI.out hus hbs 7 _ (by show 7 < 12; decide) rfl hbp (val_of rfl rfl) (HI.out.ph.step 7 _ (by decide) (by decide)) (by simp only [puts, setAll, List.set_cons_zero, List.set_cons_succ, List.setIfInBounds_toArray]))
            refine Steps.cons rfl (fun bb aa w' hbs hb0 hbp hI K hK => ?_) ?_
            · obtain ⟨us, hus, ha, hI⟩ := hI
              obtain ⟨u0, u1, u2, u3, u4, u5, u6, u7, u8, u9, u10, u11, rfl⟩ := len12 hus
              have e7 : u7 = .string ⟨#[bc]⟩ := hI.val 7 _ rfl (gen_after 7 (by kernel_rfl) hbp)
              subst e7
              have H6 := hI.back 7 6 rfl (by kernel_rfl) (gen_after 7 (by kernel_rfl) hbp)
              have hst := hI.ph.at_ 1 8 rfl hb0 (.inr ⟨6, rfl, H6⟩)
              have e9 : w' = WD.alloc (.cells #[.int .u8 (bc.toNat : Int)] 5) := hst
              have hal : Below WD.heap.size WD w' := by rw [e9]; exact (Below.refl _ _).alloc (Nat.le_refl _) _
              have HAL := Veil.mk hal
              clear e9 hal
              have HI := Veil.mk hI
              clear hI
              rw [ha]
              simp only [puts, setAll, List.setIfInBounds_toArray, List.set_cons_zero, List.set_cons_succ]
              go_simp
              go_at_call 21
              refine (HVL.out _).mono ?_
              rintro e9 w9 ⟨rfl, hb9⟩
              go_simp
              exact hK _ _ (chain_step HI.out hus hbs 8 (valV (keyB bc)) (by show 8 < 12; decide) rfl hbp (val_of rfl rfl) (HI.out.ph.next 1 8 _ rfl hb0 (.inr ⟨6, rfl, H6⟩) (by decide) (show Below _ _ _ from HAL.out.trans (hb9.mono HAL.out.size))) (by simp only [puts, setAll, List.set_cons_zero, List.set_cons_succ, List.setIfInBounds_toArray]))
            refine Steps.cons rfl (fun bb aa w' hbs hb0 hbp hI K hK => ?_) ?_
            · obtain ⟨us, hus, ha, hI⟩ := hI
              obtain ⟨u0, u1, u2, u3, u4, u5, u6, u7, u8, u9, u10, u11, rfl⟩ := len12 hus
              have HI := Veil.mk hI
              clear hI
              rw [ha]
              simp only [puts, setAll, List.setIfInBounds_toArray, List.set_cons_zero, List.set_cons_succ]
              go_simp
              exact hK _ _ (chain_step HI.out hus hbs 9 _ (by show 9 < 12; decide) rfl hbp (val_of rfl rfl) (HI.out.ph.step 9 _ (by decide) (by decide)) (by simp only [puts, setAll, List.set_cons_zero, List.set_cons_succ, List.setIfInBounds_toArray]))
            refine Steps.cons rfl (fun bb aa w' hbs hb0 hbp hI K hK => ?_) ?_
            · obtain ⟨us, hus, ha, hI⟩ := hI
              obtain ⟨u0, u1, u2, u3, u4, u5, u6, u7, u8, u9, u10, u11, rfl⟩ := len12 hus
              have e9 : u9 = .int .i64 ((q : Int) + 1) := hI.val 9 _ rfl (gen_after 9 (by kernel_rfl) hbp)
              subst e9
              have HI := Veil.mk hI
              clear hI
              rw [ha]
              simp only [puts, setAll, List.setIfInBounds_toArray, List.set_cons_zero, List.set_cons_succ]
              go_simp
              exact hK _ _ (chain_step HI.out hus hbs 10 _ (by show 10 < 12; decide) rfl hbp (val_of rfl rfl) (HI.out.ph.step 10 _ (by decide) (by decide)) (by simp only [puts, setAll, List.set_cons_zero, List.set_cons_succ, List.setIfInBounds_toArray]))
            refine Steps.cons rfl (fun bb aa w' hbs hb0 hbp hI K hK => ?_) ?_
            · obtain ⟨us, hus, ha, hI⟩ := hI
              obtain ⟨u0, u1, u2, u3, u4, u5, u6, u7, u8, u9, u10, u11, rfl⟩ := len12 hus
              have e2 : u2 = .pointer (some ⟨nb, 0, none⟩) := hI.val 2 _ rfl (gen_after 2 (by kernel_rfl) hbp)
              subst e2
              have e8 : u8 = valV (keyB bc) := hI.val 8 _ rfl (gen_after 8 (by kernel_rfl) hbp)
              subst e8
              have e10 : u10 = .agg #[.int .i64 3, .int .i64 ((q : Int) + 1), .string ⟨#[]⟩] := hI.val 10 _ rfl (gen_after 10 (by kernel_rfl) hbp)
              subst e10
              have hst := hI.ph.at_ 2 11 rfl hb0 (.inr ⟨8, rfl, gen_after 8 (by kernel_rfl) hbp⟩)
              have hbl : Below WD.heap.size WD w' := hst
              have hs9 := HSD.out.on hbl
              have HDF := Veil.mk (define_plain (hs9.hk.ob q nb HNB2.out) rfl (hs9.pr q HQN.out) (by have := hbl.size; have := HBD2.out; omega) (hs9.al q HQN.out) (by have := HNR.out.len q HQN9.out; omega) (keyB bc) (3, (q : Int) + 1, ⟨#[]⟩) (show (2 : Nat) ≤ 1000 by omega))
              have HBL := Veil.mk (And.intro hbl hs9)
              clear hbl hs9
              have HI := Veil.mk hI
              clear hI
              rw [ha]
              simp only [puts, setAll, List.setIfInBounds_toArray, List.set_cons_zero, List.set_cons_succ]
              go_simp
              go_at_call 25
              refine HDF.out.mono ?_
              rintro e9 w9 ⟨rfl, pv', F', hdf⟩
              go_simp
              exact hK _ _ (chain_step HI.out hus hbs 11 (.bool true) (by show 11 < 12; decide) rfl hbp (val_of rfl rfl) (HI.out.ph.next 2 11 _ rfl hb0 (.inr ⟨8, rfl, gen_after 8 (by kernel_rfl) hbp⟩) (by decide) ⟨_, pv', F', HBL.out.1, hdf⟩) (by simp only [puts, setAll, List.set_cons_zero, List.set_cons_succ, List.setIfInBounds_toArray]))
            exact Steps.nil
          · intro us w9 hus dd hD2 hJ
            obtain ⟨z0, z1, z2, z3, z4, z5, z6, z7, z8, z9, z10, z11, rfl⟩ := len12 hus
            obtain ⟨wq, pv', F', q1, q2, q3, q4, q5⟩ := hJ.ph.all (fun c hc => hD2 c (by
              have : c = 6 ∨ c = 8 ∨ c = 11 := by simpa using hc
              show c < 12
              omega))
            have hsq := HSD.out.on q1
            have hall : ∀ x ∈ (putO (O q, []) (keyT (keyB bc)) (3, (q : Int) + 1, ⟨#[]⟩) 7).1, x.2.2 = 7 := fun x hx => by
              rcases putO_mem hx with h | h
              · exact HSD.out.al q HQN.out x h
              · rw [h]
            have hs9 := hsq.define q nb HNB2.out q2 q3 q4 q5 hall
            rw [HKB.out, keyT_V] at hs9
            have hnr9 := HNR.out.define c q HC4.out HQN9.out
            have hb9w : Box w9 b9 60 (nrA nr) := (HB9.out.on q1 HB9.out.lt).touch q4 (by
              have hl := (HB9.out.on q1 HB9.out.lt).lab
              rintro (e | e)
              · exact hl.ne (hsq.hk.ob q nb HNB2.out).lab (by decide) e
              · exact (hsq.pr q HQN.out).not_lab hl (by decide) e)
            have hbw9 : Below w.heap.size w w9 := (HBWD.out.trans (q1.mono HBWD.out.size)).trans (q4.below (Nat.le_trans HBWD.out.size q1.size) (fun j hj => by
              rcases hj with e | e
              · rw [e]; exact HLO.out nb (List.mem_of_getElem? HNB2.out)
              · have := ((hsq.pr q HQN.out).lt j e).1; have := HB2.out.2; omega))
            have HX := Veil.mk (And.intro hs9 (And.intro hnr9 (And.intro hb9w hbw9)))
            have n0 : w9.cell? ⟨b9, c, none⟩ = some (.int .i64 (nr c : Int)) := (hb9w.at_ c).trans (nrA_get nr c HC4.out)
            have n0f := hb9w.free c
            clear hJ hD2 q1 q2 q3 q4 q5 hsq hall hs9 hnr9 hb9w hbw9
            simp only [puts, setAll, List.set_cons_zero, List.set_cons_succ, List.setIfInBounds_toArray]
            have hmx : (if (nr c : Int) < (q : Int) + 1 then (q : Int) + 1 else (nr c : Int)) = ((max (nr c) (q + 1) : Nat) : Int) := by
              split <;> omega
            go_wp2
            obtain ⟨hs9, hnr9, hb9w, hbw9⟩ := HX.out
            have tp := Touch.put (S := fun b => b = b9) (w := w9) rfl c (.int .i64 (max (nr c : Int) ((q : Int) + 1)))
            obtain ⟨f1, f2⟩ := hs9.not_four hb9w.lab
            have hb9p := hb9w.put c (.int .i64 (max (nr c : Int) ((q : Int) + 1)))
            rw [show (max (nr c : Int) ((q : Int) + 1)) = ((max (nr c) (q + 1) : Nat) : Int) by omega] at hb9p tp ⊢
            rw [nrA_set nr c _ HC4.out] at hb9p
            refine ⟨⟨j + 1, by omega, by go_num, ⟨⟨_, _, _, _, hs9.touch tp (fun b hb e => f1 (e ▸ hb)) (fun i hi b hb e => f2 i hi (e ▸ hb)), hnr9, hb9p⟩, hbw9.trans (tp.below hbw9.size (fun b hb => by
              rw [hb, ← HFX.out.2.2.2]
              have := HB19.out
              omega))⟩⟩, by simp [intOf]; omega⟩
        · obtain rfl : j = m := by omega
          obtain ⟨⟨pv, F, O, nr, hs, hnr, hb9⟩, hbw⟩ := hls
          have hlt' : ¬ (j : Int) < (j : Int) := by omega
          have m0 : wr.cell? ⟨b9, 0, none⟩ = some (.int .i64 (nr 0 : Int)) := hb9.at_ 0
          have m1 : wr.cell? ⟨b9, 1, none⟩ = some (.int .i64 (nr 1 : Int)) := hb9.at_ 1
          have m2 : wr.cell? ⟨b9, 2, none⟩ = some (.int .i64 (nr 2 : Int)) := hb9.at_ 2
          have m3 : wr.cell? ⟨b9, 3, none⟩ = some (.int .i64 (nr 3 : Int)) := hb9.at_ 3
          have HEN := Veil.mk (And.intro hs (And.intro hnr hbw))
          clear hs hnr hb9 hbw hj hj0 hlt
          obtain ⟨WE, rfl⟩ : ∃ WE : World, WE = wr := ⟨wr, rfl⟩
          go_wp2
          go_loopw [77] (fun i wz => ∃ c : Nat, c ≤ 4 ∧ i = .int .i64 (c : Int) ∧ Below WE.heap.size WE wz) (fun i _ => 4 - (intOf i).toNat)
          case atStart => exact ⟨0, by omega, rfl, Below.refl _ _⟩
          case round =>
            clear m0 m1 m2 m3
            obtain ⟨c, hc, rfl, hbz⟩ := hrel
            have hc0 : (0 : Int) ≤ (c : Int) := by omega
            by_cases hlt : c < 4
            · have hltc : (c : Int) < 4 := by omega
              have hget := index_four nr c hlt
              go_upto_region 23 with (fail)
              clear hget
              obtain ⟨bc, hbc⟩ : ∃ bc, UInt8.ofNat (97 + c) = bc := ⟨_, rfl⟩
              have HKB : Veil (keyB bc = keyV c) := ⟨by rw [← hbc]⟩
              have HVL : Veil (∀ w, Calls Tryd.prog 21 #[.string ⟨#[bc]⟩] w fun e w' => e = .returned (valV (keyB bc)) ∧ Below w.heap.size w w') := ⟨by rw [← hbc]; exact val_key c hlt⟩
              have hbcw : (bc.toNat : Int) = 97 + (c : Int) := by
                rw [← hbc]
                have h : ∀ c : Nat, c < 4 → ((UInt8.ofNat (97 + c)).toNat : Int) = 97 + (c : Int) := by decide +kernel
                exact h c hlt
              have hcv := conv_one wr bc
              rw [hbcw] at hcv
              have HAL : Veil (Below WE.heap.size WE (wr.alloc (.cells #[.int .u8 (97 + (c : Int))] 5))) := ⟨hbz.alloc hbz.size _⟩
              have HFD : Veil (∀ W, Below WE.heap.size WE W → Calls Tryd.prog 26 #[.pointer (some ⟨h, 0, none⟩), .int .i64 (k : Int), valV (keyB bc)] W fun e w' => e = .returned (.tuple #[valV (findO O (keyV c) k).1, .int .i64 (findO O (keyV c) k).2.1, .bool (findO O (keyV c) k).2.2]) ∧ Below W.heap.size W w') := ⟨fun W hb => by
                have h1 := hfind_any (HEN.out.1.on hb) k (by rw [HFX.out.1]; exact Nat.le_refl _) (by rw [HFX.out.1]; omega) (keyB bc) (show (2 : Nat) ≤ 1000 by omega)
                rw [HKB.out, keyT_V, ← HKB.out] at h1
                rw [HKB.out] at h1 ⊢
                exact h1⟩
              clear hbc hbz hbcw
              rcases HEN.out.2.1.find c hlt with ⟨hz, hf⟩ | ⟨hz, hf⟩
              · rw [hf] at HFD
                rw [hz]
                go_upto_region 24 with (first | (go_at_call 21; ((with_reducible refine (HVL.out _).mono ?_); rintro e9 w5 ⟨rfl, hb5⟩; have HB5 := Veil.mk (HAL.out.trans (hb5.mono HAL.out.size)); clear hb5)) | (go_at_call 26; ((with_reducible refine (HFD.out _ HB5.out).mono ?_); rintro e9 w6 ⟨rfl, hb6⟩)))
                have HB6 := Veil.mk (HB5.out.trans (hb6.mono HB5.out.size))
                clear hb6 hcv
                go_wp2
                exact ⟨⟨c + 1, by omega, by go_num, HB6.out.alloc HB6.out.size _⟩, by simp [intOf]; omega⟩
              · rw [hf] at HFD
                have hz' : (0 : Int) < (nr c : Int) := by omega
                go_upto_region 24 with (first | (go_at_call 21; ((with_reducible refine (HVL.out _).mono ?_); rintro e9 w5 ⟨rfl, hb5⟩; have HB5 := Veil.mk (HAL.out.trans (hb5.mono HAL.out.size)); clear hb5)) | (go_at_call 26; ((with_reducible refine (HFD.out _ HB5.out).mono ?_); rintro e9 w6 ⟨rfl, hb6⟩)))
                have HB6 := Veil.mk (HB5.out.trans (hb6.mono HB5.out.size))
                clear hb6 hcv
                go_wp2
                exact ⟨⟨c + 1, by omega, by go_num, HB6.out.alloc HB6.out.size _⟩, by simp [intOf]; omega⟩
            · obtain rfl : c = 4 := by omega
              clear hlt hc hc0
              obtain ⟨r, hr, y1, y2, y3, y4⟩ := rem_nat ask (p0 + 1) (by omega)
              have ee : ((p0 + 1 : Nat) : Int) = (p0 : Int) + 1 := by omega
              rw [ee] at y1 y2 y3 y4
              have hkk : k = p0 + 1 := HNN.out
              have HC1 : Veil (∀ W, Below WE.heap.size WE W → Calls Tryd.prog 27 #[.pointer (some ⟨h, 0, none⟩), .int .i64 ((r : Int) + 1), .int .i64 (k : Int)] W fun e w' => e = .returned (.bool false) ∧ Below W.heap.size W w') := ⟨fun W hb => hchain_any (HEN.out.1.on hb) k (by rw [HFX.out.1]; exact Nat.le_refl _) (by rw [HFX.out.1]; omega) _ false (by simp; omega)⟩
              have HC2 : Veil (∀ W, Below WE.heap.size WE W → Calls Tryd.prog 27 #[.pointer (some ⟨h, 0, none⟩), .int .i64 (k : Int), .int .i64 0] W fun e w' => e = .returned (.bool true) ∧ Below W.heap.size W w') := ⟨fun W hb => hchain_any (HEN.out.1.on hb) 0 (by omega) (by rw [HFX.out.1]; omega) _ true (by simp; omega)⟩
              have hr1 : (r : Int) + 1 ≤ (p0 : Int) + 1 := by omega
              have hr0 : (0 : Int) ≤ (r : Int) := by omega
              have HBZ := Veil.mk hbz
              by_cases e : r = p0
              · have e2 : ((r : Int) + 1 == (p0 : Int) + 1) = true := beq_iff_eq.2 (by omega)
                clear hbz hkk ee hr e
                go_wp2_with (go_at_call 27; first | ((with_reducible refine (HC1.out _ HBZ.out).mono ?_); rintro e9 w7 ⟨rfl, hb7⟩; have HB7 := Veil.mk (HBZ.out.trans (hb7.mono HBZ.out.size)); clear hb7) | ((with_reducible refine (HC2.out _ HB7.out).mono ?_); rintro e9 w8 ⟨rfl, hb8⟩))
                go_ret
                have hbw := HEN.out.2.2
                exact ⟨rfl, hbw.trans ((HB7.out.trans (hb8.mono HB7.out.size)).mono hbw.size)⟩
              · have e2 : ((r : Int) + 1 == (p0 : Int) + 1) = false := beq_eq_false_iff_ne.2 (by omega)
                have HC3 : Veil (∀ W, Below WE.heap.size WE W → Calls Tryd.prog 27 #[.pointer (some ⟨h, 0, none⟩), .int .i64 (k : Int), .int .i64 ((r : Int) + 1)] W fun e w' => e = .returned (.bool true) ∧ Below W.heap.size W w') := ⟨fun W hb => hchain_any (HEN.out.1.on hb) (r + 1) (by rw [HFX.out.1]; omega) (by rw [HFX.out.1]; omega) _ true (by simp; omega)⟩
                clear hbz hkk ee hr e
                go_wp2_with (go_at_call 27; first | ((with_reducible refine (HC1.out _ HBZ.out).mono ?_); rintro e9 w7 ⟨rfl, hb7⟩; have HB7 := Veil.mk (HBZ.out.trans (hb7.mono HBZ.out.size)); clear hb7) | ((with_reducible refine (HC2.out _ HB7.out).mono ?_); rintro e9 w8 ⟨rfl, hb8⟩; have HB8 := Veil.mk (HB7.out.trans (hb8.mono HB7.out.size)); clear hb8) | ((with_reducible refine (HC3.out _ HB8.out).mono ?_); rintro e9 w9 ⟨rfl, hb9⟩))
                go_ret
                have hbw := HEN.out.2.2
                exact ⟨rfl, hbw.trans ((HB8.out.trans (hb9.mono HB8.out.size)).mono hbw.size)⟩
end Go.Proofs.YtbeapojjbgkalaaDoor
