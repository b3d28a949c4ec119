/- ArenaChains: the walk. -/
import Derived.Test.YtkkbfadfgdjkdaaEb
import Derived.Test.YtkkbfadfgdjkdaaIr
namespace Go.Proofs.Ytkkbfadfgdjkdaa
open Go Go.RowKit

theorem len16 {α : Type} {us : List α} (h : us.length = 16) : ∃ a0 a1 a2 a3 a4 a5 a6 a7 a8 a9 a10 a11 a12 a13 a14 a15, us = [a0, a1, a2, a3, a4, a5, a6, a7, a8, a9, a10, a11, a12, a13, a14, a15] := by
  match us, h with
  | [a0, a1, a2, a3, a4, a5, a6, a7, a8, a9, a10, a11, a12, a13, a14, a15], _ => exact ⟨a0, a1, a2, a3, a4, a5, a6, a7, a8, a9, a10, a11, a12, a13, a14, a15, rfl⟩
theorem len19 {α : Type} {us : List α} (h : us.length = 19) : ∃ a0 a1 a2 a3 a4 a5 a6 a7 a8 a9 a10 a11 a12 a13 a14 a15 a16 a17 a18, us = [a0, a1, a2, a3, a4, a5, a6, a7, a8, a9, a10, a11, a12, a13, a14, a15, a16, a17, a18] := by
  match us, h with
  | [a0, a1, a2, a3, a4, a5, a6, a7, a8, a9, a10, a11, a12, a13, a14, a15, a16, a17, a18], _ => exact ⟨a0, a1, a2, a3, a4, a5, a6, a7, a8, a9, a10, a11, a12, a13, a14, a15, a16, a17, a18, rfl⟩
theorem at_val30 (k : Int) (n : Nat) (h0 : 0 < n) (h12 : n ≤ 30) : (wrap64 (k.tmod (n : Int) + (n : Int))).tmod (n : Int) = (atN k n : Int) := by
  have hb := tmod_bd k n (by omega)
  have e : wrap64 (k.tmod (n : Int) + (n : Int)) = k.tmod (n : Int) + (n : Int) := by unfold wrap64; omega
  have e2 : k.tmod (n : Int) % (n : Int) = k % (n : Int) := by
    have h3 := Int.mul_tdiv_add_tmod k (n : Int)
    have h4 := Int.add_mul_emod_self_left (k.tmod (n : Int)) (n : Int) (k.tdiv (n : Int))
    rw [← h4, show k.tmod (n : Int) + (n : Int) * k.tdiv (n : Int) = k by omega]
  rw [e, Int.tmod_eq_emod_of_nonneg (by omega), Int.add_emod_right, e2]
  have h0 := Int.emod_nonneg k (by omega : (n : Int) ≠ 0)
  unfold atN
  omega
theorem make_I (n : Nat) (hn : n ≤ 1000000) (W : World) : (Instr.makeSlice 22 (.int .i64 (n : Int)) (.int .i64 (n : Int))).run Try.prog W = .ok (.slice (some ⟨W.heap.size, 0, none⟩) n n) (W.alloc (.cells (madeCells (Value.int .i64 0).cells (n * 1)) 3)) := by
  obtain ⟨iI, hiI, hzI0, hzI1, hzI2⟩ := info_parts Try.infoI
  have := run_make (P := Try.prog) W 22 3 iI _ Try.underlying22 hiI hzI0 .i64 .i64 (n : Int) (n : Int) (by omega) (by omega) (by rw [hzI2]; omega) (by omega)
  rw [hzI1] at this
  simpa using this
theorem made_zero (n : Nat) : madeCells #[Value.int .i64 0] n = (numsV (List.replicate n 0)).toArray := by
  apply Array.ext'
  rw [toList_madeCells_one]
  simp
theorem nums_put (T : List Nat) (i v : Nat) : (numsV T).toArray.setIfInBounds i (.int .i64 (v : Int)) = (numsV (T.set i v)).toArray := by
  simp [List.map_set]
theorem nums_cell {w : World} {tb : Nat} {T : List Nat} (h : Box w tb 3 (numsV T).toArray) (i v : Nat) (hv : T[i]? = some v) : w.cell? ⟨tb, i, none⟩ = some (.int .i64 (v : Int)) := by
  rw [h.at_ i]
  simp [hv]
theorem key_cell {w : World} {B n g c : Nat} (h : w.ownsRow B 3 1 (.slice (some ⟨g, 0, none⟩) n c) n (numsV (upN n))) (i : Nat) (hi : i < n) : w.cell? ⟨g, i, none⟩ = some (.int .i64 ((i : Int) + 1)) := by
  rw [h.cellAt i (by omega), List.getElem?_map, upN_at hi]
  show some (Value.int .i64 ((i + 1 : Nat) : Int)) = _
  rw [show ((i + 1 : Nat) : Int) = (i : Int) + 1 by omega]
theorem ints_own {w : World} {B : Nat} {l : List Nat} {a : Option Addr} {c : Nat} (h : w.ownsRow B 3 1 (.slice a l.length c) l.length (numsV l)) : Ints w a l.length (l.map fun (x : Nat) => (x : Int)) := by
  obtain ⟨ao, cap, e, _, hg, _⟩ := slice_own h
  injection e with e1 e2 e3
  subst e1
  refine ⟨by rw [List.length_map], fun hn => ?_⟩
  obtain ⟨g, rfl⟩ := hg hn
  refine ⟨g, 0, rfl, (own_lt h g rfl).2, own_lab h g rfl, fun i hi => ?_⟩
  rw [Nat.zero_add, h.cellAt i (by omega), List.getElem?_map, List.getElem?_map, List.getElem?_eq_getElem hi]
  rfl
theorem nums_keys {w : World} {B B' n g ca cb : Nat} {a : Option Addr} (ha : w.ownsRow B 3 1 (.slice a (n + 1) ca) (n + 1) (numsV (upN (n + 1)))) (hb : w.ownsRow B' 3 1 (.slice (some ⟨g, 0, none⟩) (n + 1) cb) (n + 1) (numsV (upN (n + 1)))) (hn : n < 1000) :
    Calls Try.prog 14 #[.slice a (n + 1) ca, .slice (some ⟨g, 0, none⟩) (n + 1) cb] w fun e w' => e = .returned (.bool true) ∧ Below w.heap.size w w' := by
  have hl := upN_len (n + 1)
  have h1 := ints_own (l := upN (n + 1)) (a := a) (c := ca) (by rw [hl]; exact ha)
  have h2 := ints_own (l := upN (n + 1)) (a := some ⟨g, 0, none⟩) (c := cb) (by rw [hl]; exact hb)
  rw [hl] at h1 h2
  exact nums_same _ _ (n + 1) ca cb _ w h1 h2 (by omega)
/-- A slice value reads as these numbers. -/
def IntsR (w : World) (a : Option Addr) (n : Nat) (l : List Int) : Prop := l.length = n ∧ (0 < n → ∃ b o, a = some ⟨b, o, none⟩ ∧ b < w.heap.size ∧ ∀ i, i < n → w.cell? ⟨b, o + i, none⟩ = some (.int .i64 (l[i]?.getD 0)))
theorem IntsR.on {w w1 : World} {a : Option Addr} {n : Nat} {l : List Int} (h : IntsR w a n l) (hb : Below w.heap.size w w1) : IntsR w1 a n l :=
  ⟨h.1, fun hn => by
    obtain ⟨b, o, e, hlt, hc⟩ := h.2 hn
    exact ⟨b, o, e, by have := hb.size; omega, fun i hi => by rw [hb.cell (p := ⟨b, o + i, none⟩) hlt]; exact hc i hi⟩⟩
def SwSt (WD : World) (tb x y av bv : Nat) : Nat → (Nat → Value) → World → Prop
  | 0 => fun _ w => w = WD
  | 1 => fun _ w => w = WD.setCell ⟨tb, x, none⟩ (.int .i64 (bv : Int))
  | _ => fun _ w => w = (WD.setCell ⟨tb, x, none⟩ (.int .i64 (bv : Int))).setCell ⟨tb, y, none⟩ (.int .i64 (av : Int))
/-- A table's pairs. -/
def TBx (T : List Nat) (j : Nat) (w : World) (x : Nat) : Prop := ∃ t : Nat, T[j]? = some t ∧ Box w x 32 #[.int .i64 ((t : Int) + 1), .int .i64 ((t : Int) + 2)]
theorem tbx_more {T : List Nat} {j x : Nat} {w : World} (h : TBx T j w x) (o : Obj) : TBx T j (w.alloc o) x := by
  obtain ⟨t, h1, h2⟩ := h
  exact ⟨t, h1, h2.more o⟩
def TbSt (WD : World) (A n : Nat) (T : List Nat) (tb : Nat) (kv : Value) (j : Nat) (r : Int) : Nat → (Nat → Value) → World → Prop
  | 0 => fun _ w => w = WD
  | 1 => fun f w => ∃ x, f 0 = .slice (some ⟨x, 0, none⟩) 1 1 ∧ Below WD.heap.size WD w ∧ WD.heap.size ≤ x ∧ TBx T j w x
  | 2 => fun f w => ∃ x, f 1 = .agg #[.slice none 0 0, .slice (some ⟨x, 0, none⟩) 1 1, .slice none 0 0, .int .i64 0] ∧ Below WD.heap.size WD w ∧ WD.heap.size ≤ x ∧ TBx T j w x
  | 3 => fun f w => ∃ x nb, f 2 = .pointer (some ⟨nb, 0, none⟩) ∧ Below WD.heap.size WD w ∧ WD.heap.size ≤ x ∧ WD.heap.size ≤ nb ∧ TBx T j w x ∧ Box w nb 30 #[.slice none 0 0, .slice (some ⟨x, 0, none⟩) 1 1, .slice none 0 0, .int .i64 0]
  | 4 => fun f w => ∃ x nb, f 3 = nodeV nb ∧ Below WD.heap.size WD w ∧ WD.heap.size ≤ x ∧ WD.heap.size ≤ nb ∧ TBx T j w x ∧ Box w nb 30 #[.slice none 0 0, .slice (some ⟨x, 0, none⟩) 1 1, .slice none 0 0, .int .i64 0]
  | 5 => fun f w => f 4 = .int .i64 r ∧ ∃ nbs tab cv fv rv, Below A WD w ∧ Ch A n T tb kv (j + 1) (rootsL n j) nbs tab cv fv rv w
  | 6 => fun f w => ∃ x, f 5 = .slice (some ⟨x, 0, none⟩) 1 1 ∧ Box w x 3 #[.int .i64 r] ∧ ∃ nbs tab cv fv rv, Below A WD w ∧ Ch A n T tb kv (j + 1) (rootsL n j) nbs tab cv fv rv w
  | _ => fun _ w => ∃ nbs tab cv fv rv, Below A WD w ∧ Ch A n T tb kv (j + 1) (rootsL n (j + 1)) nbs tab cv fv rv w
def BelB (w : World) (e : Ending) (w' : World) : Prop := e = .returned (.bool true) ∧ Below w.heap.size w w'
set_option maxHeartbeats 8000000 in
set_option maxRecDepth 100000 in
theorem chains_law (n0 : Int) (a : Option Addr) (m cap : Nat) (l : List Int) (held : Bool) (w : World) (hN : IntsR w a m l) :
    Calls Try.prog 3 #[.int .i64 n0, .slice a m cap, .bool held] w (BelB w) := by
  obtain ⟨p0, hp0, hx1, hx2, hx3, hx4⟩ := rem_nat n0 30 (by omega)
  have hx1 : (n0.tmod 30 + 30).tmod 30 = (p0 : Int) := hx1
  have hx2 : (n0.tmod 30 + 30) % 30 = (p0 : Int) := hx2
  have hx3 : 0 < n0.tmod 30 + 30 := hx3
  have hx4 : n0.tmod 30 < 30 := hx4
  have hp0' : (p0 : Int) < 30 := by omega
  have HN := Veil.mk hN
  have HFT : Veil (∀ w, Calls Try.prog 8 #[] w fun e w' => e = .returned (.bool true) ∧ Below w.heap.size w w') := ⟨fit_any⟩
  clear hN
  go_enter Try.func3, Try.ntmps3
  go_upto_region 3 with (first | (go_at_call 8; ((with_reducible refine (HFT.out _).mono ?_); rintro e9 w2 ⟨rfl, hb2⟩)))
  have HB2 := Veil.mk hb2
  clear hb2 HFT
  go_upto_region 4 with (fail)
  obtain ⟨n, hn⟩ : ∃ n, p0 + 1 = n := ⟨_, rfl⟩
  have hn1 : (p0 : Int) + 1 = (n : Int) := by omega
  rw [hn1]
  have hn30 : n ≤ 30 := by omega
  have hn0 : 0 < n := by omega
  clear hp0 hp0' hn1 hn hx1 hx2 hx3 hx4
  by_cases hbig : 100 < m
  · have hbig' : (100 : Int) < (m : Int) := by omega
    go_wp2
    go_ret
    exact ⟨rfl, HB2.out⟩
  have hbig' : ¬ (100 : Int) < (m : Int) := by omega
  go_upto_region 6 with (fail)
  obtain ⟨A, hA⟩ : ∃ A, w2.heap.size = A := ⟨_, rfl⟩
  have HNW : Veil (Calls Try.prog 9 #[] w2 fun e w' => e = .returned (.pointer (some ⟨A, 0, none⟩)) ∧ Below A w2 w' ∧ A < w'.heap.size ∧ ArAt w' A A (.slice none 0 0) (.slice none 0 0) (.slice none 0 0) emptyD) := ⟨by
    rw [← hA]
    exact (new_any w2).mono fun e w' h => ⟨h.1, h.2.1, h.2.2.1, h.2.2.2⟩⟩
  go_upto_region 9 with (first | (go_at_call 9; ((with_reducible refine HNW.out.mono ?_); rintro e w3 ⟨rfl, hb3, hs3, ha3⟩)))
  have HK0 := Veil.mk (show K1 A 0 [] (.slice none 0 0) (.slice none 0 0) (.slice none 0 0) (.slice none 0 0) w3 from ⟨ha3, (fun nb h => nomatch h), ⟨rfl, .inl ⟨rfl, rfl⟩⟩, fun b hb => by cases hb⟩)
  have HB3 := Veil.mk (And.intro (HB2.out.trans (hb3.mono (by have := HB2.out.size; omega))) (And.intro hb3 (And.intro (show w.heap.size ≤ A by have := HB2.out.size; omega) HB2.out)))
  clear hb3 hs3 ha3 HNW hA HB2
  obtain ⟨i0, hi, hz0, hz1, hz2⟩ := info_parts Try.infoI
  go_loopw [8, 31] (fun kv i wr => ∃ (k : Nat) (nbs : List Nat) (cv fv rv : Value), k ≤ n + 1 ∧ i = .int .i64 (k : Int) ∧ nbs.length = k ∧ K1 A k nbs cv fv rv kv wr ∧ Below A w2 wr) (fun _ i _ => n + 1 - (intOf i).toNat)
  case atStart => exact ⟨0, [], _, _, _, Nat.zero_le _, rfl, rfl, HK0.out, HB3.out.2.1⟩
  case round =>
    obtain ⟨k, nbs, cv, fv, rv, hk, rfl, hnl, hs, hb⟩ := hrel
    have hk0 : (0 : Int) ≤ (k : Int) := by omega
    by_cases hlt : k < n + 1
    · have hlt' : (k : Int) < (n : Int) + 1 := by omega
      have hkb : (k : Int) < 1000 := by omega
      obtain ⟨v, hv⟩ : ∃ v : Int, ((k + 1 : Nat) : Int) = v := ⟨_, rfl⟩
      have HM := hs.make (by omega)
      rw [hnl, hv] at HM
      have HM := Veil.mk HM
      have HV := Veil.mk hv
      have HR := Veil.mk (And.intro hb (And.intro hnl hs.ge))
      clear hs hb HK0 hv hnl
      go_upto_region 10 with (fail)
      go_wp2_with (first | (go_at_call 10; ((with_reducible refine HM.out.mono ?_); rintro e w7 ⟨rfl, hb7, cv7, fv7, rv7, hs7⟩; have kr7 := hs7.kr; have hg7 := hs7.ge)) | (at_builtin; go_loud (refine wpList_append_lies _ rfl _ _ 22 rfl A 3 i0 (.int .i64 0) 1 8 Try.underlying22 hi hz0 hz1 hz2 rfl (by decide) _ _ _ rfl (kr7.alloc _) ⟨w7.heap.size, 0, none⟩ 1 1 [.int .i64 v] rfl rfl (news_at _ _ rfl _ _) (by simp [Value.oneCell']) (by decide) (by unfold maxLen; omega) (by omega) (by simp; omega) _ rfl ?_); intro g2 cap2 w8 hown2 hgrow2 hblk2 hg2; refine Hid.out ?_))
      have happ := hs7.app HV.out.symm hown2 hgrow2 hblk2
      have HE := Veil.mk (And.intro happ hb7)
      clear hown2 hgrow2 hblk2 hg2 happ hs7 hb7 kr7 hg7
      refine Lib.hid ?_
      go_wp2
      go_round
      case rel => exact ⟨k + 1, nbs ++ [wr.heap.size], cv7, fv7, rv7, by omega, by go_num, by rw [List.length_append, HR.out.2.1]; rfl, HE.out.1.2, (HR.out.1.trans HE.out.2).trans HE.out.1.1⟩
      case measure => simp [intOf]; omega
    · obtain rfl : k = n + 1 := by omega
      have hlt' : ¬ ((n + 1 : Nat) : Int) < (n : Int) + 1 := by omega
      obtain ⟨ak, ck, rfl, hck, hgk, hmk⟩ := slice_own hs.kr
      obtain ⟨gk, rfl⟩ := hgk (by omega)
      have hmi : ∀ W, (Instr.makeSlice 22 (.int .i64 (n : Int)) (.int .i64 (n : Int))).run Try.prog W = .ok (.slice (some ⟨W.heap.size, 0, none⟩) n n) (W.alloc (.cells (madeCells (Value.int .i64 0).cells (n * 1)) 3)) := fun W => make_I _ (by omega) W
      have HK := Veil.mk (And.intro hs (And.intro hb (And.intro hnl hs.ge)))
      clear hs hb hnl HK0 hgk
      go_upto_region 14 with (fail)
      rw [made_zero]
      obtain ⟨tb, htb⟩ : ∃ tb, wr.heap.size = tb := ⟨_, rfl⟩
      have bt0 := Box.new wr 3 (numsV (List.replicate n 0)).toArray
      have bb : Below wr.heap.size wr (wr.alloc (.cells (numsV (List.replicate n 0)).toArray 3)) := (Below.refl _ _).alloc (Nat.le_refl _) _
      rw [htb] at bt0 bb ⊢
      have HTB := Veil.mk htb
      generalize wr.alloc (.cells (numsV (List.replicate n 0)).toArray 3) = W3 at bt0 bb ⊢
      have HB4 := Veil.mk (And.intro bt0 bb)
      have HB4S : Veil (Below wr.heap.size wr W3 ∧ w.heap.size ≤ tb ∧ w.heap.size ≤ wr.heap.size) := ⟨by rw [HTB.out]; exact bb, by have h1 := HK.out.2.1.size; have h2 := HB3.out.2.2.1; have h3 := HTB.out; have h4 := HK.out.2.2.2; omega, by have h1 := HK.out.2.1.size; have h2 := HB3.out.2.2.1; have h3 := HTB.out; have h4 := HK.out.2.2.2; omega⟩
      clear bt0 bb htb hmi
      go_loopw [46] (fun iv wr => ∃ (k : Nat) (T : List Nat), k ≤ n ∧ iv = .int .i64 (k : Int) ∧ T.length = n ∧ (∀ j, j < k → T[j]? = some j) ∧ Box wr tb 3 (numsV T).toArray ∧ Below tb W3 wr) (fun i _ => n - (intOf i).toNat)
      case atStart => exact ⟨0, List.replicate n 0, Nat.zero_le _, rfl, List.length_replicate, fun j h => by omega, HB4.out.1, Below.refl _ _⟩
      case round =>
        obtain ⟨k, T, hk, rfl, hT, hTk, hbx, hb⟩ := hrel
        have hk0 : (0 : Int) ≤ (k : Int) := by omega
        by_cases hlt : k < n
        · have hlt' : (k : Int) < (n : Int) := by omega
          have hkb : (k : Int) < 1000 := by omega
          have c0 : ∃ v, wr.cell? ⟨tb, k, none⟩ = some v := ⟨_, nums_cell hbx k _ (List.getElem?_eq_getElem (by omega))⟩
          obtain ⟨v0, c0⟩ := c0
          have c0f := hbx.free k
          have hput := hbx.put k (.int .i64 (k : Int))
          rw [nums_put] at hput
          have HE := Veil.mk (And.intro hput (hb.setCell (p := ⟨tb, k, none⟩) (Nat.le_refl _) (.int .i64 (k : Int))))
          have HT := Veil.mk (And.intro hT hTk)
          clear hbx hb hput hT hTk HB4
          go_wp2
          go_round
          case rel =>
            obtain ⟨hT, hTk⟩ := HT.out
            refine ⟨k + 1, T.set k k, by omega, by go_num, by rw [List.length_set]; exact hT, fun j hj => ?_, HE.out.1, HE.out.2⟩
            by_cases e : j = k
            · subst e
              rw [List.getElem?_set_self (by omega)]
            · rw [List.getElem?_set_ne (fun h => e h.symm)]
              exact hTk j (by omega)
          case measure => simp [intOf]; omega
        · obtain rfl : k = n := by omega
          have hlt' : ¬ (k : Int) < (k : Int) := by omega
          have hTu : Turn k T := ⟨hT, fun i v h => by
            have h1 := (List.getElem?_eq_some_iff.1 h).1
            rw [hTk i (by omega)] at h
            injection h with h
            omega, fun v h => ⟨v, hTk v h⟩⟩
          have HT := Veil.mk (And.intro hTu (And.intro hbx hb))
          clear hT hTk hbx hb hTu HB4
          go_upto_region 19 with (fail)
          go_loopw [56] (fun iv wr => ∃ (j : Nat) (T : List Nat), j ≤ m ∧ iv = .int .i64 (j : Int) ∧ Turn k T ∧ Box wr tb 3 (numsV T).toArray ∧ Below tb W3 wr) (fun i _ => m - (intOf i).toNat)
          case atStart => exact ⟨0, T, Nat.zero_le _, rfl, HT.out⟩
          case round =>
            obtain ⟨j, T, hj, rfl, hTu, hbx, hb⟩ := hrel
            have hj0 : (0 : Int) ≤ (j : Int) := by omega
            have hWW : Below w.heap.size w wr := by
              obtain ⟨q1, q2, q3, q4⟩ := HK.out
              have z1 := HB3.out
              have z2 := HB4S.out
              have h1 : Below w.heap.size w w2 := z1.2.2.2
              have h2 := h1.trans (q2.mono z1.2.2.1)
              exact (h2.trans (z2.1.mono z2.2.2)).trans (hb.mono z2.2.1)
            by_cases hjt : j < m
            · have hjt' : (j : Int) < (m : Int) := by omega
              have hjb : (j : Int) < 1000 := by omega
              obtain ⟨b, o, rfl, -, hc⟩ := (HN.out.on hWW).2 (by omega)
              have c0 := hc j hjt
              obtain ⟨ov, hov⟩ : ∃ ov, l[j]?.getD 0 = ov := ⟨_, rfl⟩
              rw [hov] at c0
              have HS := Veil.mk (And.intro hTu (And.intro hbx hb))
              clear hc hov hTu hbx hb hWW HT
              have q0 : ¬ (k : Int) = 0 := by omega
              go_upto_region 21 with (fail)
              go_region
              obtain ⟨x, hx⟩ : ∃ x : Nat, j % k = x := ⟨_, rfl⟩
              have hjx : (j : Int) % (k : Int) = (x : Int) := by omega
              obtain ⟨y, hy⟩ : ∃ y : Nat, atN ov k = y := ⟨_, rfl⟩
              have hxk : x < k := by rw [← hx]; exact Nat.mod_lt _ hn0
              have hyk : y < k := by rw [← hy]; exact atN_lt ov hn0
              rw [at_val30 ov k hn0 hn30, hjx, hy]
              obtain ⟨W5, hW5⟩ : ∃ W5, wr.drew = W5 := ⟨_, rfl⟩
              obtain ⟨hTu, hbx, hb⟩ := HS.out
              have hbx5 : Box W5 tb 3 (numsV T).toArray := by rw [← hW5]; exact hbx.drew
              have hb5 : Below tb W3 W5 := by rw [← hW5]; exact hb.drew
              rw [hW5]
              clear hW5 hbx hb c0 hjx hx hy q0
              obtain ⟨WD, hWD⟩ : ∃ WD, W5.drew = WD := ⟨_, rfl⟩
              have hbxD : Box WD tb 3 (numsV T).toArray := by rw [← hWD]; exact hbx5.drew
              have hbD : Below tb W3 WD := by rw [← hWD]; exact hb5.drew
              have hTl := hTu.len
              obtain ⟨av, hav⟩ : ∃ av, T[x]? = some av := ⟨_, List.getElem?_eq_getElem (by omega)⟩
              obtain ⟨bv, hbv⟩ : ∃ bv, T[y]? = some bv := ⟨_, List.getElem?_eq_getElem (by omega)⟩
              have HCL := Veil.mk (And.intro (nums_cell hbxD x av hav) (And.intro (nums_cell hbxD y bv hbv) hbxD))
              have HSZ : Veil ((numsV T).toArray.size = k) := ⟨by simp [hTl]⟩
              have HTU := Veil.mk (hTu.swap hav hbv)
              have HWD := Veil.mk hWD
              have HBD := Veil.mk hbD
              have hx0 : (0 : Int) ≤ (x : Int) := by omega
              have hy0 : (0 : Int) ≤ (y : Int) := by omega
              have hxk' : (x : Int) < (k : Int) := by omega
              have hyk' : (y : Int) < (k : Int) := by omega
              have hk30 : (k : Int) ≤ 30 := by omega
              clear hTu hTl hav hbv hWD hbxD hbD hbx5 hb5 HS hlt hk hlt'
              go_upto_region 22 with (fail)
              refine wp_region_chain ([some (· = .slice (some ⟨tb, 0, none⟩) k k), some (· = .int .i64 (x : Int)), some (· = .slice (some ⟨tb, 0, none⟩) k k), some (· = .int .i64 (y : Int)), some (· = .slice (some ⟨tb, 0, none⟩) k k), some (· = .int .i64 (y : Int)), some (· = .pointer (some ⟨tb, y, none⟩)), some (· = .int .i64 (bv : Int)), some (· = .slice (some ⟨tb, 0, none⟩) k k), some (· = .int .i64 (x : Int)), some (· = .pointer (some ⟨tb, x, none⟩)), some (· = .int .i64 (av : Int)), some (· = .pointer (some ⟨tb, x, none⟩)), none, some (· = .pointer (some ⟨tb, y, none⟩)), none] : List (Option (Value → Prop))) (LPh [13, 15] (SwSt WD tb x y av bv)) [some 71, some 72, some 73, some 74, some 75, some 76, some 77, some 78, some 79, some 80, some 81, some 82, some 83, none, some 84, none] (curV' _ [some 71, some 72, some 73, some 74, some 75, some 76, some 77, some 78, some 79, some 80, some 81, some 82, some 83, none, some 84, none]) (by kernel_rfl) rfl rfl (puts_cur _ _) (LPh.start (show W5.drew = WD from HWD.out)) ?_ (by kernel_rfl) ?_
              · refine Steps.cons rfl (fun bb aa w' hbs hb0 hbp hI K hK => ?_) ?_
                · obtain ⟨us, hus, ha, hI⟩ := hI
                  obtain ⟨u0, u1, u2, u3, u4, u5, u6, u7, u8, u9, u10, u11, u12, u13, u14, u15, rfl⟩ := len16 hus
                  have HI := Veil.mk hI
                  clear hI
                  rw [ha]
                  simp only [puts, setAll, List.setIfInBounds_toArray, List.set_cons_zero, List.set_cons_succ]
                  go_simp
                  exact hK _ _ (chain_step HI.out hus hbs 0 _ (by show 0 < 16; decide) rfl hbp (val_of rfl rfl) (HI.out.ph.step 0 _ (by decide) (by decide)) (by simp only [puts, setAll, List.set_cons_zero, List.set_cons_succ, List.setIfInBounds_toArray]))
                refine Steps.cons rfl (fun bb aa w' hbs hb0 hbp hI K hK => ?_) ?_
                · obtain ⟨us, hus, ha, hI⟩ := hI
                  obtain ⟨u0, u1, u2, u3, u4, u5, u6, u7, u8, u9, u10, u11, u12, u13, u14, u15, rfl⟩ := len16 hus
                  have HI := Veil.mk hI
                  clear hI
                  rw [ha]
                  simp only [puts, setAll, List.setIfInBounds_toArray, List.set_cons_zero, List.set_cons_succ]
                  go_simp
                  exact hK _ _ (chain_step HI.out hus hbs 1 _ (by show 1 < 16; decide) rfl hbp (val_of rfl rfl) (HI.out.ph.step 1 _ (by decide) (by decide)) (by simp only [puts, setAll, List.set_cons_zero, List.set_cons_succ, List.setIfInBounds_toArray]))
                refine Steps.cons rfl (fun bb aa w' hbs hb0 hbp hI K hK => ?_) ?_
                · obtain ⟨us, hus, ha, hI⟩ := hI
                  obtain ⟨u0, u1, u2, u3, u4, u5, u6, u7, u8, u9, u10, u11, u12, u13, u14, u15, rfl⟩ := len16 hus
                  have HI := Veil.mk hI
                  clear hI
                  rw [ha]
                  simp only [puts, setAll, List.setIfInBounds_toArray, List.set_cons_zero, List.set_cons_succ]
                  go_simp
                  exact hK _ _ (chain_step HI.out hus hbs 2 _ (by show 2 < 16; decide) rfl hbp (val_of rfl rfl) (HI.out.ph.step 2 _ (by decide) (by decide)) (by simp only [puts, setAll, List.set_cons_zero, List.set_cons_succ, List.setIfInBounds_toArray]))
                refine Steps.cons rfl (fun bb aa w' hbs hb0 hbp hI K hK => ?_) ?_
                · obtain ⟨us, hus, ha, hI⟩ := hI
                  obtain ⟨u0, u1, u2, u3, u4, u5, u6, u7, u8, u9, u10, u11, u12, u13, u14, u15, rfl⟩ := len16 hus
                  have HI := Veil.mk hI
                  clear hI
                  rw [ha]
                  simp only [puts, setAll, List.setIfInBounds_toArray, List.set_cons_zero, List.set_cons_succ]
                  go_simp
                  exact hK _ _ (chain_step HI.out hus hbs 3 _ (by show 3 < 16; decide) rfl hbp (val_of rfl rfl) (HI.out.ph.step 3 _ (by decide) (by decide)) (by simp only [puts, setAll, List.set_cons_zero, List.set_cons_succ, List.setIfInBounds_toArray]))
                refine Steps.cons rfl (fun bb aa w' hbs hb0 hbp hI K hK => ?_) ?_
                · obtain ⟨us, hus, ha, hI⟩ := hI
                  obtain ⟨u0, u1, u2, u3, u4, u5, u6, u7, u8, u9, u10, u11, u12, u13, u14, u15, rfl⟩ := len16 hus
                  have HI := Veil.mk hI
                  clear hI
                  rw [ha]
                  simp only [puts, setAll, List.setIfInBounds_toArray, List.set_cons_zero, List.set_cons_succ]
                  go_simp
                  exact hK _ _ (chain_step HI.out hus hbs 4 _ (by show 4 < 16; decide) rfl hbp (val_of rfl rfl) (HI.out.ph.step 4 _ (by decide) (by decide)) (by simp only [puts, setAll, List.set_cons_zero, List.set_cons_succ, List.setIfInBounds_toArray]))
                refine Steps.cons rfl (fun bb aa w' hbs hb0 hbp hI K hK => ?_) ?_
                · obtain ⟨us, hus, ha, hI⟩ := hI
                  obtain ⟨u0, u1, u2, u3, u4, u5, u6, u7, u8, u9, u10, u11, u12, u13, u14, u15, rfl⟩ := len16 hus
                  have HI := Veil.mk hI
                  clear hI
                  rw [ha]
                  simp only [puts, setAll, List.setIfInBounds_toArray, List.set_cons_zero, List.set_cons_succ]
                  go_simp
                  exact hK _ _ (chain_step HI.out hus hbs 5 _ (by show 5 < 16; decide) rfl hbp (val_of rfl rfl) (HI.out.ph.step 5 _ (by decide) (by decide)) (by simp only [puts, setAll, List.set_cons_zero, List.set_cons_succ, List.setIfInBounds_toArray]))
                refine Steps.cons rfl (fun bb aa w' hbs hb0 hbp hI K hK => ?_) ?_
                · obtain ⟨us, hus, ha, hI⟩ := hI
                  obtain ⟨u0, u1, u2, u3, u4, u5, u6, u7, u8, u9, u10, u11, u12, u13, u14, u15, rfl⟩ := len16 hus
                  have e4 : u4 = .slice (some ⟨tb, 0, none⟩) k k := hI.val 4 _ rfl (gen_after 4 (by kernel_rfl) hbp)
                  subst e4
                  have e5 : u5 = .int .i64 (y : Int) := hI.val 5 _ rfl (gen_after 5 (by kernel_rfl) hbp)
                  subst e5
                  have HI := Veil.mk hI
                  clear hI
                  rw [ha]
                  simp only [puts, setAll, List.setIfInBounds_toArray, List.set_cons_zero, List.set_cons_succ]
                  go_simp
                  exact hK _ _ (chain_step HI.out hus hbs 6 _ (by show 6 < 16; decide) rfl hbp (val_of rfl rfl) (HI.out.ph.step 6 _ (by decide) (by decide)) (by simp only [puts, setAll, List.set_cons_zero, List.set_cons_succ, List.setIfInBounds_toArray]))
                refine Steps.cons rfl (fun bb aa w' hbs hb0 hbp hI K hK => ?_) ?_
                · obtain ⟨us, hus, ha, hI⟩ := hI
                  obtain ⟨u0, u1, u2, u3, u4, u5, u6, u7, u8, u9, u10, u11, u12, u13, u14, u15, rfl⟩ := len16 hus
                  have e6 : u6 = .pointer (some ⟨tb, y, none⟩) := hI.val 6 _ rfl (gen_after 6 (by kernel_rfl) hbp)
                  subst e6
                  have h13 := hI.before 13 7 rfl (by kernel_rfl) hb0
                  have hst := hI.ph.at_ 0 13 rfl h13 (.inl rfl)
                  clear h13
                  have c0 : w'.cell? ⟨tb, y, none⟩ = some (.int .i64 (bv : Int)) := by rw [show w' = WD from hst]; exact HCL.out.2.1
                  have HI := Veil.mk hI
                  clear hI
                  rw [ha]
                  simp only [puts, setAll, List.setIfInBounds_toArray, List.set_cons_zero, List.set_cons_succ]
                  go_simp
                  exact hK _ _ (chain_step HI.out hus hbs 7 _ (by show 7 < 16; decide) rfl hbp (val_of rfl rfl) (HI.out.ph.step 7 _ (by decide) (by decide)) (by simp only [puts, setAll, List.set_cons_zero, List.set_cons_succ, List.setIfInBounds_toArray]))
                refine Steps.cons rfl (fun bb aa w' hbs hb0 hbp hI K hK => ?_) ?_
                · obtain ⟨us, hus, ha, hI⟩ := hI
                  obtain ⟨u0, u1, u2, u3, u4, u5, u6, u7, u8, u9, u10, u11, u12, u13, u14, u15, rfl⟩ := len16 hus
                  have HI := Veil.mk hI
                  clear hI
                  rw [ha]
                  simp only [puts, setAll, List.setIfInBounds_toArray, List.set_cons_zero, List.set_cons_succ]
                  go_simp
                  exact hK _ _ (chain_step HI.out hus hbs 8 _ (by show 8 < 16; decide) rfl hbp (val_of rfl rfl) (HI.out.ph.step 8 _ (by decide) (by decide)) (by simp only [puts, setAll, List.set_cons_zero, List.set_cons_succ, List.setIfInBounds_toArray]))
                refine Steps.cons rfl (fun bb aa w' hbs hb0 hbp hI K hK => ?_) ?_
                · obtain ⟨us, hus, ha, hI⟩ := hI
                  obtain ⟨u0, u1, u2, u3, u4, u5, u6, u7, u8, u9, u10, u11, u12, u13, u14, u15, rfl⟩ := len16 hus
                  have HI := Veil.mk hI
                  clear hI
                  rw [ha]
                  simp only [puts, setAll, List.setIfInBounds_toArray, List.set_cons_zero, List.set_cons_succ]
                  go_simp
                  exact hK _ _ (chain_step HI.out hus hbs 9 _ (by show 9 < 16; decide) rfl hbp (val_of rfl rfl) (HI.out.ph.step 9 _ (by decide) (by decide)) (by simp only [puts, setAll, List.set_cons_zero, List.set_cons_succ, List.setIfInBounds_toArray]))
                refine Steps.cons rfl (fun bb aa w' hbs hb0 hbp hI K hK => ?_) ?_
                · obtain ⟨us, hus, ha, hI⟩ := hI
                  obtain ⟨u0, u1, u2, u3, u4, u5, u6, u7, u8, u9, u10, u11, u12, u13, u14, u15, rfl⟩ := len16 hus
                  have e8 : u8 = .slice (some ⟨tb, 0, none⟩) k k := hI.val 8 _ rfl (gen_after 8 (by kernel_rfl) hbp)
                  subst e8
                  have e9 : u9 = .int .i64 (x : Int) := hI.val 9 _ rfl (gen_after 9 (by kernel_rfl) hbp)
                  subst e9
                  have HI := Veil.mk hI
                  clear hI
                  rw [ha]
                  simp only [puts, setAll, List.setIfInBounds_toArray, List.set_cons_zero, List.set_cons_succ]
                  go_simp
                  exact hK _ _ (chain_step HI.out hus hbs 10 _ (by show 10 < 16; decide) rfl hbp (val_of rfl rfl) (HI.out.ph.step 10 _ (by decide) (by decide)) (by simp only [puts, setAll, List.set_cons_zero, List.set_cons_succ, List.setIfInBounds_toArray]))
                refine Steps.cons rfl (fun bb aa w' hbs hb0 hbp hI K hK => ?_) ?_
                · obtain ⟨us, hus, ha, hI⟩ := hI
                  obtain ⟨u0, u1, u2, u3, u4, u5, u6, u7, u8, u9, u10, u11, u12, u13, u14, u15, rfl⟩ := len16 hus
                  have e10 : u10 = .pointer (some ⟨tb, x, none⟩) := hI.val 10 _ rfl (gen_after 10 (by kernel_rfl) hbp)
                  subst e10
                  have h13 := hI.before 13 11 rfl (by kernel_rfl) hb0
                  have hst := hI.ph.at_ 0 13 rfl h13 (.inl rfl)
                  clear h13
                  have c0 : w'.cell? ⟨tb, x, none⟩ = some (.int .i64 (av : Int)) := by rw [show w' = WD from hst]; exact HCL.out.1
                  have HI := Veil.mk hI
                  clear hI
                  rw [ha]
                  simp only [puts, setAll, List.setIfInBounds_toArray, List.set_cons_zero, List.set_cons_succ]
                  go_simp
                  exact hK _ _ (chain_step HI.out hus hbs 11 _ (by show 11 < 16; decide) rfl hbp (val_of rfl rfl) (HI.out.ph.step 11 _ (by decide) (by decide)) (by simp only [puts, setAll, List.set_cons_zero, List.set_cons_succ, List.setIfInBounds_toArray]))
                refine Steps.cons rfl (fun bb aa w' hbs hb0 hbp hI K hK => ?_) ?_
                · obtain ⟨us, hus, ha, hI⟩ := hI
                  obtain ⟨u0, u1, u2, u3, u4, u5, u6, u7, u8, u9, u10, u11, u12, u13, u14, u15, rfl⟩ := len16 hus
                  have e0 : u0 = .slice (some ⟨tb, 0, none⟩) k k := hI.val 0 _ rfl (gen_after 0 (by kernel_rfl) hbp)
                  subst e0
                  have e1 : u1 = .int .i64 (x : Int) := hI.val 1 _ rfl (gen_after 1 (by kernel_rfl) hbp)
                  subst e1
                  have HI := Veil.mk hI
                  clear hI
                  rw [ha]
                  simp only [puts, setAll, List.setIfInBounds_toArray, List.set_cons_zero, List.set_cons_succ]
                  go_simp
                  exact hK _ _ (chain_step HI.out hus hbs 12 _ (by show 12 < 16; decide) rfl hbp (val_of rfl rfl) (HI.out.ph.step 12 _ (by decide) (by decide)) (by simp only [puts, setAll, List.set_cons_zero, List.set_cons_succ, List.setIfInBounds_toArray]))
                refine Steps.cons rfl (fun bb aa w' hbs hb0 hbp hI K hK => ?_) ?_
                · obtain ⟨us, hus, ha, hI⟩ := hI
                  obtain ⟨u0, u1, u2, u3, u4, u5, u6, u7, u8, u9, u10, u11, u12, u13, u14, u15, rfl⟩ := len16 hus
                  have e12 : u12 = .pointer (some ⟨tb, x, none⟩) := hI.val 12 _ rfl (gen_after 12 (by kernel_rfl) hbp)
                  subst e12
                  have e7 : u7 = .int .i64 (bv : Int) := hI.val 7 _ rfl (gen_after 7 (by kernel_rfl) hbp)
                  subst e7
                  have hst := hI.ph.at_ 0 13 rfl hb0 (.inl rfl)
                  have c0 : w'.cell? ⟨tb, x, none⟩ = some (.int .i64 (av : Int)) := by rw [show w' = WD from hst]; exact HCL.out.1
                  have c0f : w'.frozen? ⟨tb, x, none⟩ = false := by rw [show w' = WD from hst]; exact HCL.out.2.2.free x
                  have HST := Veil.mk hst
                  have HI := Veil.mk hI
                  clear hI
                  rw [ha]
                  simp only [puts, setAll, List.setIfInBounds_toArray, List.set_cons_zero, List.set_cons_succ]
                  go_simp
                  exact hK _ _ (chain_step HI.out hus hbs 13 undef (by show 13 < 16; decide) rfl hbp (none_of rfl) (HI.out.ph.next 0 13 _ rfl hb0 (.inl rfl) (by decide) (show _ = _ by rw [show w' = WD from HST.out])) (by simp only [puts, setAll, List.set_cons_zero, List.set_cons_succ, List.setIfInBounds_toArray]))
                refine Steps.cons rfl (fun bb aa w' hbs hb0 hbp hI K hK => ?_) ?_
                · obtain ⟨us, hus, ha, hI⟩ := hI
                  obtain ⟨u0, u1, u2, u3, u4, u5, u6, u7, u8, u9, u10, u11, u12, u13, u14, u15, rfl⟩ := len16 hus
                  have e2 : u2 = .slice (some ⟨tb, 0, none⟩) k k := hI.val 2 _ rfl (gen_after 2 (by kernel_rfl) hbp)
                  subst e2
                  have e3 : u3 = .int .i64 (y : Int) := hI.val 3 _ rfl (gen_after 3 (by kernel_rfl) hbp)
                  subst e3
                  have HI := Veil.mk hI
                  clear hI
                  rw [ha]
                  simp only [puts, setAll, List.setIfInBounds_toArray, List.set_cons_zero, List.set_cons_succ]
                  go_simp
                  exact hK _ _ (chain_step HI.out hus hbs 14 _ (by show 14 < 16; decide) rfl hbp (val_of rfl rfl) (HI.out.ph.step 14 _ (by decide) (by decide)) (by simp only [puts, setAll, List.set_cons_zero, List.set_cons_succ, List.setIfInBounds_toArray]))
                refine Steps.cons rfl (fun bb aa w' hbs hb0 hbp hI K hK => ?_) ?_
                · obtain ⟨us, hus, ha, hI⟩ := hI
                  obtain ⟨u0, u1, u2, u3, u4, u5, u6, u7, u8, u9, u10, u11, u12, u13, u14, u15, rfl⟩ := len16 hus
                  have e14 : u14 = .pointer (some ⟨tb, y, none⟩) := hI.val 14 _ rfl (gen_after 14 (by kernel_rfl) hbp)
                  subst e14
                  have e11 : u11 = .int .i64 (av : Int) := hI.val 11 _ rfl (gen_after 11 (by kernel_rfl) hbp)
                  subst e11
                  have hst := hI.ph.at_ 1 15 rfl hb0 (.inr ⟨13, rfl, gen_after 13 (by kernel_rfl) hbp⟩)
                  have bq : Box w' tb 3 ((numsV T).toArray.setIfInBounds x (.int .i64 (bv : Int))) := by rw [show w' = WD.setCell ⟨tb, x, none⟩ (.int .i64 (bv : Int)) from hst]; exact HCL.out.2.2.put x (.int .i64 (bv : Int))
                  have c0 : ∃ u, w'.cell? ⟨tb, y, none⟩ = some u := by rw [bq.at_ y]; exact ⟨_, Array.getElem?_eq_getElem (by rw [Array.size_setIfInBounds, HSZ.out]; omega)⟩
                  obtain ⟨u9, c0⟩ := c0
                  have c0f := bq.free y
                  have HST := Veil.mk hst
                  clear bq
                  have HI := Veil.mk hI
                  clear hI
                  rw [ha]
                  simp only [puts, setAll, List.setIfInBounds_toArray, List.set_cons_zero, List.set_cons_succ]
                  go_simp
                  exact hK _ _ (chain_step HI.out hus hbs 15 undef (by show 15 < 16; decide) rfl hbp (none_of rfl) (HI.out.ph.next 1 15 _ rfl hb0 (.inr ⟨13, rfl, gen_after 13 (by kernel_rfl) hbp⟩) (by decide) (show _ = _ by rw [show w' = WD.setCell ⟨tb, x, none⟩ (.int .i64 (bv : Int)) from HST.out])) (by simp only [puts, setAll, List.set_cons_zero, List.set_cons_succ, List.setIfInBounds_toArray]))
                exact Steps.nil
              · intro us w9 hus dd hD2 hJ
                obtain ⟨y0, y1, y2, y3, y4, y5, y6, y7, y8, y9, y10, y11, y12, y13, y14, y15, rfl⟩ := len16 hus
                have hE : w9 = (WD.setCell ⟨tb, x, none⟩ (.int .i64 (bv : Int))).setCell ⟨tb, y, none⟩ (.int .i64 (av : Int)) := hJ.ph.all (fun c hc => hD2 c (by
                  have : c = 13 ∨ c = 15 := by simpa using hc
                  show c < 16
                  omega))
                have hb9 := (HCL.out.2.2.put x (.int .i64 (bv : Int))).put y (.int .i64 (av : Int))
                rw [nums_put, nums_put, ← hE] at hb9
                have hbl : Below tb W3 w9 := by
                  rw [hE]
                  exact (HBD.out.setCell (p := ⟨tb, x, none⟩) (Nat.le_refl _) _).setCell (p := ⟨tb, y, none⟩) (Nat.le_refl _) _
                have HE := Veil.mk (And.intro HTU.out (And.intro hb9 hbl))
                clear hJ hD2 hE hb9 hbl
                simp only [puts, setAll, List.set_cons_zero, List.set_cons_succ, List.setIfInBounds_toArray]
                go_wp2
                go_round
                case rel => exact ⟨j + 1, _, by omega, by go_num, HE.out⟩
                case measure => simp [intOf]; omega
            · obtain rfl : j = m := by omega
              have hjt' : ¬ (j : Int) < (j : Int) := by omega
              have HT3 := Veil.mk (And.intro hTu (And.intro hbx hb))
              clear hTu hbx hb hWW HT
              have hch : Ch A k T tb (.slice (some ⟨gk, 0, none⟩) (k + 1) ck) 0 (rootsL k 0) nbs (fun _ => []) cv fv rv wr := by
                obtain ⟨q1, q2, q3, q4⟩ := HK.out
                obtain ⟨r1, r2, r3⟩ := HT3.out
                have z2 := HB4S.out
                have hbw := z2.1.trans (by rw [HTB.out]; exact r3)
                have htn : ¬ AFoot A cv fv rv tb := fun hf => by
                  have h1 := (AFoot.lt q1.ar hf).2
                  have h2 := HTB.out
                  omega
                exact ⟨q1.sys.below hbw, own_below q1.kr hbw, q1.kn, r2, htn, ⟨by omega, fun _ _ _ _ => rfl, fun i nb t hi => by omega⟩⟩
              have HB5 : Veil (Below A w2 wr ∧ Turn k T ∧ w.heap.size ≤ A) := ⟨(HK.out.2.1.trans (HB4S.out.1.mono HK.out.2.2.2)).trans (HT3.out.2.2.mono (by have := HK.out.2.2.2; have := HTB.out; omega)), HT3.out.1, HB3.out.2.2.1⟩
              have HCH := Veil.mk hch
              have HWW := Veil.mk HB3.out.2.2.2
              clear hch HT3 HK HB4S HTB HB3
              go_upto_region 25 with (fail)
              go_loopw [88] (fun iv wr => ∃ (j : Nat) (nbs : List Nat) (tab : Nat → List (Int × Int)) (cv fv rv : Value), j ≤ k ∧ iv = .int .i64 (j : Int) ∧ Ch A k T tb (.slice (some ⟨gk, 0, none⟩) (k + 1) ck) j (rootsL k j) nbs tab cv fv rv wr ∧ Below A w2 wr) (fun i _ => k - (intOf i).toNat)
              case atStart => exact ⟨0, _, _, _, _, _, Nat.zero_le _, rfl, HCH.out, HB5.out.1⟩
              case round =>
                obtain ⟨j, nbs2, tab2, cv2, fv2, rv2, hj, rfl, hs, hb⟩ := hrel
                have hj0 : (0 : Int) ≤ (j : Int) := by omega
                by_cases hjk : j < k
                · have hjk' : (j : Int) < (k : Int) := by omega
                  obtain ⟨t, ht⟩ : ∃ t, T[j]? = some t := ⟨_, List.getElem?_eq_getElem (by rw [HB5.out.2.1.len]; omega)⟩
                  have HTT := Veil.mk ht
                  have htn := HB5.out.2.1.sub _ _ ht
                  have c0 := nums_cell hs.tr j t ht
                  have hk30 : (k : Int) ≤ 30 := by omega
                  have ht0 : (0 : Int) ≤ (t : Int) := by omega
                  have htn1 : (t : Int) < (k : Int) + 1 := by omega
                  have htn2 : (t : Int) + 1 < (k : Int) + 1 := by omega
                  have ht00 : (0 : Int) ≤ (t : Int) + 1 := by omega
                  have htb : (t : Int) < 30 := by omega
                  have qa : IntKind.i64.wrap ((t : Int) + 1) = (t : Int) + 1 := by rw [IntKind.wrap_i64]; omega
                  obtain ⟨WD, hWD⟩ : ∃ WD, wr.drew = WD := ⟨_, rfl⟩
                  have HCD : Veil (Ch A k T tb (.slice (some ⟨gk, 0, none⟩) (k + 1) ck) j (rootsL k j) nbs2 tab2 cv2 fv2 rv2 WD) := ⟨by rw [← hWD]; exact hs.on ((Below.refl _ _).drew)⟩
                  have HBD : Veil (Below A w2 WD) := ⟨by rw [← hWD]; exact hb.drew⟩
                  have HWD := Veil.mk hWD
                  have HTU := Veil.mk HB5.out.2.1
                  obtain ⟨rr, hrr⟩ : ∃ rr : Int, ((k + 2 + j : Nat) : Int) = rr := ⟨_, rfl⟩
                  have HRR := Veil.mk hrr
                  clear hs hb hWD ht HCH hrr
                  go_upto_region 27 with (fail)
                  refine wp_region_chain ([some (· = .pointer (some ⟨A, 0, none⟩)), some (· = .pointer (some ⟨A, 0, none⟩)), some (· = .slice (some ⟨gk, 0, none⟩) (k + 1) ck), some (· = .int .i64 (t : Int)), some (· = .pointer (some ⟨gk, t, none⟩)), some (· = .int .i64 ((t : Int) + 1)), some (· = .slice (some ⟨gk, 0, none⟩) (k + 1) ck), some (· = .int .i64 (t : Int)), some (· = .int .i64 ((t : Int) + 1)), some (· = .pointer (some ⟨gk, t + 1, none⟩)), some (· = .int .i64 ((t : Int) + 2)), some (· = .agg #[.int .i64 ((t : Int) + 1), .int .i64 ((t : Int) + 2)]), none, none, none, none, none, none, none] : List (Option (Value → Prop))) (LPh [12, 13, 14, 15, 16, 17, 18] (TbSt WD A k T tb (.slice (some ⟨gk, 0, none⟩) (k + 1) ck) j rr)) [some 92, some 93, some 94, some 95, some 96, some 97, some 98, some 99, some 100, some 101, some 102, some 103, some 104, some 105, some 106, some 107, some 108, some 109, some 110] (curV' _ [some 92, some 93, some 94, some 95, some 96, some 97, some 98, some 99, some 100, some 101, some 102, some 103, some 104, some 105, some 106, some 107, some 108, some 109, some 110]) (by kernel_rfl) rfl rfl (puts_cur _ _) (LPh.start (show wr.drew = WD from HWD.out)) ?_ (by kernel_rfl) ?_
                  · refine Steps.cons rfl (fun bb aa w' hbs hb0 hbp hI K hK => ?_) ?_
                    · obtain ⟨us, hus, ha, hI⟩ := hI
                      obtain ⟨u0, u1, u2, u3, u4, u5, u6, u7, u8, u9, u10, u11, u12, u13, u14, u15, u16, u17, u18, rfl⟩ := len19 hus
                      have HI := Veil.mk hI
                      clear hI
                      rw [ha]
                      simp only [puts, setAll, List.setIfInBounds_toArray, List.set_cons_zero, List.set_cons_succ]
                      go_simp
                      exact hK _ _ (chain_step HI.out hus hbs 0 _ (by show 0 < 19; decide) rfl hbp (val_of rfl rfl) (HI.out.ph.step 0 _ (by decide) (by decide)) (by simp only [puts, setAll, List.set_cons_zero, List.set_cons_succ, List.setIfInBounds_toArray]))
                    refine Steps.cons rfl (fun bb aa w' hbs hb0 hbp hI K hK => ?_) ?_
                    · obtain ⟨us, hus, ha, hI⟩ := hI
                      obtain ⟨u0, u1, u2, u3, u4, u5, u6, u7, u8, u9, u10, u11, u12, u13, u14, u15, u16, u17, u18, rfl⟩ := len19 hus
                      have HI := Veil.mk hI
                      clear hI
                      rw [ha]
                      simp only [puts, setAll, List.setIfInBounds_toArray, List.set_cons_zero, List.set_cons_succ]
                      go_simp
                      exact hK _ _ (chain_step HI.out hus hbs 1 _ (by show 1 < 19; decide) rfl hbp (val_of rfl rfl) (HI.out.ph.step 1 _ (by decide) (by decide)) (by simp only [puts, setAll, List.set_cons_zero, List.set_cons_succ, List.setIfInBounds_toArray]))
                    refine Steps.cons rfl (fun bb aa w' hbs hb0 hbp hI K hK => ?_) ?_
                    · obtain ⟨us, hus, ha, hI⟩ := hI
                      obtain ⟨u0, u1, u2, u3, u4, u5, u6, u7, u8, u9, u10, u11, u12, u13, u14, u15, u16, u17, u18, rfl⟩ := len19 hus
                      have HI := Veil.mk hI
                      clear hI
                      rw [ha]
                      simp only [puts, setAll, List.setIfInBounds_toArray, List.set_cons_zero, List.set_cons_succ]
                      go_simp
                      exact hK _ _ (chain_step HI.out hus hbs 2 _ (by show 2 < 19; decide) rfl hbp (val_of rfl rfl) (HI.out.ph.step 2 _ (by decide) (by decide)) (by simp only [puts, setAll, List.set_cons_zero, List.set_cons_succ, List.setIfInBounds_toArray]))
                    refine Steps.cons rfl (fun bb aa w' hbs hb0 hbp hI K hK => ?_) ?_
                    · obtain ⟨us, hus, ha, hI⟩ := hI
                      obtain ⟨u0, u1, u2, u3, u4, u5, u6, u7, u8, u9, u10, u11, u12, u13, u14, u15, u16, u17, u18, rfl⟩ := len19 hus
                      have HI := Veil.mk hI
                      clear hI
                      rw [ha]
                      simp only [puts, setAll, List.setIfInBounds_toArray, List.set_cons_zero, List.set_cons_succ]
                      go_simp
                      exact hK _ _ (chain_step HI.out hus hbs 3 _ (by show 3 < 19; decide) rfl hbp (val_of rfl rfl) (HI.out.ph.step 3 _ (by decide) (by decide)) (by simp only [puts, setAll, List.set_cons_zero, List.set_cons_succ, List.setIfInBounds_toArray]))
                    refine Steps.cons rfl (fun bb aa w' hbs hb0 hbp hI K hK => ?_) ?_
                    · obtain ⟨us, hus, ha, hI⟩ := hI
                      obtain ⟨u0, u1, u2, u3, u4, u5, u6, u7, u8, u9, u10, u11, u12, u13, u14, u15, u16, u17, u18, rfl⟩ := len19 hus
                      have e2 : u2 = .slice (some ⟨gk, 0, none⟩) (k + 1) ck := hI.val 2 _ rfl (gen_after 2 (by kernel_rfl) hbp)
                      subst e2
                      have e3 : u3 = .int .i64 (t : Int) := hI.val 3 _ rfl (gen_after 3 (by kernel_rfl) hbp)
                      subst e3
                      have HI := Veil.mk hI
                      clear hI
                      rw [ha]
                      simp only [puts, setAll, List.setIfInBounds_toArray, List.set_cons_zero, List.set_cons_succ]
                      go_simp
                      exact hK _ _ (chain_step HI.out hus hbs 4 _ (by show 4 < 19; decide) rfl hbp (val_of rfl rfl) (HI.out.ph.step 4 _ (by decide) (by decide)) (by simp only [puts, setAll, List.set_cons_zero, List.set_cons_succ, List.setIfInBounds_toArray]))
                    refine Steps.cons rfl (fun bb aa w' hbs hb0 hbp hI K hK => ?_) ?_
                    · obtain ⟨us, hus, ha, hI⟩ := hI
                      obtain ⟨u0, u1, u2, u3, u4, u5, u6, u7, u8, u9, u10, u11, u12, u13, u14, u15, u16, u17, u18, rfl⟩ := len19 hus
                      have e4 : u4 = .pointer (some ⟨gk, t, none⟩) := hI.val 4 _ rfl (gen_after 4 (by kernel_rfl) hbp)
                      subst e4
                      have h11 := hI.before 11 5 rfl (by kernel_rfl) hb0
                      have h12 := hI.before 12 11 rfl (by kernel_rfl) h11
                      have hst := hI.ph.at_ 0 12 rfl h12 (.inl rfl)
                      clear h12 h11
                      have c0 : w'.cell? ⟨gk, t, none⟩ = some (.int .i64 (((t : Nat) : Int) + 1)) := by rw [show w' = WD from hst]; exact key_cell HCD.out.kr (t) (by omega)
                      have HI := Veil.mk hI
                      clear hI
                      rw [ha]
                      simp only [puts, setAll, List.setIfInBounds_toArray, List.set_cons_zero, List.set_cons_succ]
                      go_simp
                      exact hK _ _ (chain_step HI.out hus hbs 5 _ (by show 5 < 19; decide) rfl hbp (val_of rfl rfl) (HI.out.ph.step 5 _ (by decide) (by decide)) (by simp only [puts, setAll, List.set_cons_zero, List.set_cons_succ, List.setIfInBounds_toArray]))
                    refine Steps.cons rfl (fun bb aa w' hbs hb0 hbp hI K hK => ?_) ?_
                    · obtain ⟨us, hus, ha, hI⟩ := hI
                      obtain ⟨u0, u1, u2, u3, u4, u5, u6, u7, u8, u9, u10, u11, u12, u13, u14, u15, u16, u17, u18, rfl⟩ := len19 hus
                      have HI := Veil.mk hI
                      clear hI
                      rw [ha]
                      simp only [puts, setAll, List.setIfInBounds_toArray, List.set_cons_zero, List.set_cons_succ]
                      go_simp
                      exact hK _ _ (chain_step HI.out hus hbs 6 _ (by show 6 < 19; decide) rfl hbp (val_of rfl rfl) (HI.out.ph.step 6 _ (by decide) (by decide)) (by simp only [puts, setAll, List.set_cons_zero, List.set_cons_succ, List.setIfInBounds_toArray]))
                    refine Steps.cons rfl (fun bb aa w' hbs hb0 hbp hI K hK => ?_) ?_
                    · obtain ⟨us, hus, ha, hI⟩ := hI
                      obtain ⟨u0, u1, u2, u3, u4, u5, u6, u7, u8, u9, u10, u11, u12, u13, u14, u15, u16, u17, u18, rfl⟩ := len19 hus
                      have HI := Veil.mk hI
                      clear hI
                      rw [ha]
                      simp only [puts, setAll, List.setIfInBounds_toArray, List.set_cons_zero, List.set_cons_succ]
                      go_simp
                      exact hK _ _ (chain_step HI.out hus hbs 7 _ (by show 7 < 19; decide) rfl hbp (val_of rfl rfl) (HI.out.ph.step 7 _ (by decide) (by decide)) (by simp only [puts, setAll, List.set_cons_zero, List.set_cons_succ, List.setIfInBounds_toArray]))
                    refine Steps.cons rfl (fun bb aa w' hbs hb0 hbp hI K hK => ?_) ?_
                    · obtain ⟨us, hus, ha, hI⟩ := hI
                      obtain ⟨u0, u1, u2, u3, u4, u5, u6, u7, u8, u9, u10, u11, u12, u13, u14, u15, u16, u17, u18, rfl⟩ := len19 hus
                      have e7 : u7 = .int .i64 (t : Int) := hI.val 7 _ rfl (gen_after 7 (by kernel_rfl) hbp)
                      subst e7
                      have HI := Veil.mk hI
                      clear hI
                      rw [ha]
                      simp only [puts, setAll, List.setIfInBounds_toArray, List.set_cons_zero, List.set_cons_succ]
                      go_simp
                      exact hK _ _ (chain_step HI.out hus hbs 8 _ (by show 8 < 19; decide) rfl hbp (val_of rfl rfl) (HI.out.ph.step 8 _ (by decide) (by decide)) (by simp only [puts, setAll, List.set_cons_zero, List.set_cons_succ, List.setIfInBounds_toArray]))
                    refine Steps.cons rfl (fun bb aa w' hbs hb0 hbp hI K hK => ?_) ?_
                    · obtain ⟨us, hus, ha, hI⟩ := hI
                      obtain ⟨u0, u1, u2, u3, u4, u5, u6, u7, u8, u9, u10, u11, u12, u13, u14, u15, u16, u17, u18, rfl⟩ := len19 hus
                      have e6 : u6 = .slice (some ⟨gk, 0, none⟩) (k + 1) ck := hI.val 6 _ rfl (gen_after 6 (by kernel_rfl) hbp)
                      subst e6
                      have e8 : u8 = .int .i64 ((t : Int) + 1) := hI.val 8 _ rfl (gen_after 8 (by kernel_rfl) hbp)
                      subst e8
                      have HI := Veil.mk hI
                      clear hI
                      rw [ha]
                      simp only [puts, setAll, List.setIfInBounds_toArray, List.set_cons_zero, List.set_cons_succ]
                      go_simp
                      exact hK _ _ (chain_step HI.out hus hbs 9 _ (by show 9 < 19; decide) rfl hbp (val_of rfl rfl) (HI.out.ph.step 9 _ (by decide) (by decide)) (by simp only [puts, setAll, List.set_cons_zero, List.set_cons_succ, List.setIfInBounds_toArray]))
                    refine Steps.cons rfl (fun bb aa w' hbs hb0 hbp hI K hK => ?_) ?_
                    · obtain ⟨us, hus, ha, hI⟩ := hI
                      obtain ⟨u0, u1, u2, u3, u4, u5, u6, u7, u8, u9, u10, u11, u12, u13, u14, u15, u16, u17, u18, rfl⟩ := len19 hus
                      have e9 : u9 = .pointer (some ⟨gk, t + 1, none⟩) := hI.val 9 _ rfl (gen_after 9 (by kernel_rfl) hbp)
                      subst e9
                      have h11 := hI.before 11 10 rfl (by kernel_rfl) hb0
                      have h12 := hI.before 12 11 rfl (by kernel_rfl) h11
                      have hst := hI.ph.at_ 0 12 rfl h12 (.inl rfl)
                      clear h12 h11
                      have c0 : w'.cell? ⟨gk, t + 1, none⟩ = some (.int .i64 (((t + 1 : Nat) : Int) + 1)) := by rw [show w' = WD from hst]; exact key_cell HCD.out.kr (t + 1) (by omega)
                      rw [show (((t + 1 : Nat) : Int) + 1) = (t : Int) + 2 by omega] at c0
                      have HI := Veil.mk hI
                      clear hI
                      rw [ha]
                      simp only [puts, setAll, List.setIfInBounds_toArray, List.set_cons_zero, List.set_cons_succ]
                      go_simp
                      exact hK _ _ (chain_step HI.out hus hbs 10 _ (by show 10 < 19; decide) rfl hbp (val_of rfl rfl) (HI.out.ph.step 10 _ (by decide) (by decide)) (by simp only [puts, setAll, List.set_cons_zero, List.set_cons_succ, List.setIfInBounds_toArray]))
                    refine Steps.cons rfl (fun bb aa w' hbs hb0 hbp hI K hK => ?_) ?_
                    · obtain ⟨us, hus, ha, hI⟩ := hI
                      obtain ⟨u0, u1, u2, u3, u4, u5, u6, u7, u8, u9, u10, u11, u12, u13, u14, u15, u16, u17, u18, rfl⟩ := len19 hus
                      have e5 : u5 = .int .i64 ((t : Int) + 1) := hI.val 5 _ rfl (gen_after 5 (by kernel_rfl) hbp)
                      subst e5
                      have e10 : u10 = .int .i64 ((t : Int) + 2) := hI.val 10 _ rfl (gen_after 10 (by kernel_rfl) hbp)
                      subst e10
                      have HI := Veil.mk hI
                      clear hI
                      rw [ha]
                      simp only [puts, setAll, List.setIfInBounds_toArray, List.set_cons_zero, List.set_cons_succ]
                      go_simp
                      exact hK _ _ (chain_step HI.out hus hbs 11 _ (by show 11 < 19; decide) rfl hbp (val_of rfl rfl) (HI.out.ph.step 11 _ (by decide) (by decide)) (by simp only [puts, setAll, List.set_cons_zero, List.set_cons_succ, List.setIfInBounds_toArray]))
                    refine Steps.cons rfl (fun bb aa w' hbs hb0 hbp hI K hK => ?_) ?_
                    · obtain ⟨us, hus, ha, hI⟩ := hI
                      obtain ⟨u0, u1, u2, u3, u4, u5, u6, u7, u8, u9, u10, u11, u12, u13, u14, u15, u16, u17, u18, rfl⟩ := len19 hus
                      have e11 : u11 = .agg #[.int .i64 ((t : Int) + 1), .int .i64 ((t : Int) + 2)] := hI.val 11 _ rfl (gen_after 11 (by kernel_rfl) hbp)
                      subst e11
                      have hst := hI.ph.at_ 0 12 rfl hb0 (.inl rfl)
                      have HST := Veil.mk (show w' = WD from hst)
                      have HI := Veil.mk hI
                      clear hI
                      rw [ha]
                      simp only [puts, setAll, List.setIfInBounds_toArray, List.set_cons_zero, List.set_cons_succ]
                      go_simp
                      exact hK _ _ (chain_step HI.out hus hbs 12 (.slice (some ⟨w'.heap.size, 0, none⟩) 1 1) (by show 12 < 19; decide) rfl hbp (none_of rfl) (HI.out.ph.next 0 12 _ rfl hb0 (.inl rfl) (by decide) (show TbSt WD A k T tb (.slice (some ⟨gk, 0, none⟩) (k + 1) ck) j rr 1 _ _ by rw [HST.out]; exact ⟨_, rfl, (Below.refl _ _).alloc (Nat.le_refl _) _, Nat.le_refl _, ⟨t, HTT.out, Box.new _ _ _⟩⟩)) (by simp only [puts, setAll, List.set_cons_zero, List.set_cons_succ, List.setIfInBounds_toArray]))
                    refine Steps.cons rfl (fun bb aa w' hbs hb0 hbp hI K hK => ?_) ?_
                    · obtain ⟨us, hus, ha, hI⟩ := hI
                      obtain ⟨u0, u1, u2, u3, u4, u5, u6, u7, u8, u9, u10, u11, u12, u13, u14, u15, u16, u17, u18, rfl⟩ := len19 hus
                      have hst := hI.ph.at_ 1 13 rfl hb0 (.inr ⟨12, rfl, gen_after 12 (by kernel_rfl) hbp⟩)
                      obtain ⟨x, ex, q1, q2, q3⟩ := hst
                      have e12 : u12 = .slice (some ⟨x, 0, none⟩) 1 1 := ex
                      subst e12
                      have HST := Veil.mk (And.intro q1 (And.intro q2 q3))
                      clear q1 q2 q3
                      have HI := Veil.mk hI
                      clear hI
                      rw [ha]
                      simp only [puts, setAll, List.setIfInBounds_toArray, List.set_cons_zero, List.set_cons_succ]
                      go_simp
                      exact hK _ _ (chain_step HI.out hus hbs 13 (.agg #[.slice none 0 0, .slice (some ⟨x, 0, none⟩) 1 1, .slice none 0 0, .int .i64 0]) (by show 13 < 19; decide) rfl hbp (none_of rfl) (HI.out.ph.next 1 13 _ rfl hb0 (.inr ⟨12, rfl, gen_after 12 (by kernel_rfl) hbp⟩) (by decide) ⟨x, rfl, HST.out.1, HST.out.2.1, HST.out.2.2⟩) (by simp only [puts, setAll, List.set_cons_zero, List.set_cons_succ, List.setIfInBounds_toArray]))
                    refine Steps.cons rfl (fun bb aa w' hbs hb0 hbp hI K hK => ?_) ?_
                    · obtain ⟨us, hus, ha, hI⟩ := hI
                      obtain ⟨u0, u1, u2, u3, u4, u5, u6, u7, u8, u9, u10, u11, u12, u13, u14, u15, u16, u17, u18, rfl⟩ := len19 hus
                      have hst := hI.ph.at_ 2 14 rfl hb0 (.inr ⟨13, rfl, gen_after 13 (by kernel_rfl) hbp⟩)
                      obtain ⟨x, ex, q1, q2, q3⟩ := hst
                      have e13 : u13 = .agg #[.slice none 0 0, .slice (some ⟨x, 0, none⟩) 1 1, .slice none 0 0, .int .i64 0] := ex
                      subst e13
                      have HST := Veil.mk (And.intro q1 (And.intro q2 q3))
                      clear q1 q2 q3
                      have HI := Veil.mk hI
                      clear hI
                      rw [ha]
                      simp only [puts, setAll, List.setIfInBounds_toArray, List.set_cons_zero, List.set_cons_succ]
                      go_simp
                      exact hK _ _ (chain_step HI.out hus hbs 14 (.pointer (some ⟨w'.heap.size, 0, none⟩)) (by show 14 < 19; decide) rfl hbp (none_of rfl) (HI.out.ph.next 2 14 _ rfl hb0 (.inr ⟨13, rfl, gen_after 13 (by kernel_rfl) hbp⟩) (by decide) ⟨x, _, rfl, HST.out.1.alloc HST.out.1.size _, HST.out.2.1, HST.out.1.size, tbx_more HST.out.2.2 _, Box.new _ _ _⟩) (by simp only [puts, setAll, List.set_cons_zero, List.set_cons_succ, List.setIfInBounds_toArray]))
                    refine Steps.cons rfl (fun bb aa w' hbs hb0 hbp hI K hK => ?_) ?_
                    · obtain ⟨us, hus, ha, hI⟩ := hI
                      obtain ⟨u0, u1, u2, u3, u4, u5, u6, u7, u8, u9, u10, u11, u12, u13, u14, u15, u16, u17, u18, rfl⟩ := len19 hus
                      have hst := hI.ph.at_ 3 15 rfl hb0 (.inr ⟨14, rfl, gen_after 14 (by kernel_rfl) hbp⟩)
                      obtain ⟨x, nb, enb, q1, q2, q3, q4, q5⟩ := hst
                      have e14 : u14 = .pointer (some ⟨nb, 0, none⟩) := enb
                      subst e14
                      have HST := Veil.mk (And.intro q1 (And.intro q2 (And.intro q3 (And.intro q4 q5))))
                      clear q1 q2 q3 q4 q5
                      have HI := Veil.mk hI
                      clear hI
                      rw [ha]
                      simp only [puts, setAll, List.setIfInBounds_toArray, List.set_cons_zero, List.set_cons_succ]
                      go_simp
                      exact hK _ _ (chain_step HI.out hus hbs 15 (nodeV nb) (by show 15 < 19; decide) rfl hbp (none_of rfl) (HI.out.ph.next 3 15 _ rfl hb0 (.inr ⟨14, rfl, gen_after 14 (by kernel_rfl) hbp⟩) (by decide) ⟨x, nb, rfl, HST.out⟩) (by simp only [puts, setAll, List.set_cons_zero, List.set_cons_succ, List.setIfInBounds_toArray]))
                    refine Steps.cons rfl (fun bb aa w' hbs hb0 hbp hI K hK => ?_) ?_
                    · obtain ⟨us, hus, ha, hI⟩ := hI
                      obtain ⟨u0, u1, u2, u3, u4, u5, u6, u7, u8, u9, u10, u11, u12, u13, u14, u15, u16, u17, u18, rfl⟩ := len19 hus
                      have e1 : u1 = .pointer (some ⟨A, 0, none⟩) := hI.val 1 _ rfl (gen_after 1 (by kernel_rfl) hbp)
                      subst e1
                      have hst := hI.ph.at_ 4 16 rfl hb0 (.inr ⟨15, rfl, gen_after 15 (by kernel_rfl) hbp⟩)
                      obtain ⟨x, nb, enb, q1, q2, q3, ⟨t', ht', q4⟩, q5⟩ := hst
                      have e15 : u15 = nodeV nb := enb
                      subst e15
                      have HMK := HCD.out.make (by omega) hjk t' ht' (HTU.out.sub _ _ ht') q1 q2 q3 q4 q5
                      rw [HRR.out] at HMK
                      have HMK := Veil.mk HMK
                      clear q1 q2 q3 q4 q5 ht'
                      have HI := Veil.mk hI
                      clear hI
                      rw [ha]
                      simp only [puts, setAll, List.setIfInBounds_toArray, List.set_cons_zero, List.set_cons_succ]
                      go_simp
                      go_at_call 10
                      refine HMK.out.mono ?_
                      rintro e9 w9 ⟨rfl, hb9, nbs9, tab9, cv9, fv9, rv9, hc9⟩
                      go_simp
                      exact hK _ _ (chain_step HI.out hus hbs 16 (.int .i64 rr) (by show 16 < 19; decide) rfl hbp (none_of rfl) (HI.out.ph.next 4 16 _ rfl hb0 (.inr ⟨15, rfl, gen_after 15 (by kernel_rfl) hbp⟩) (by decide) ⟨rfl, nbs9, tab9, cv9, fv9, rv9, hb9, hc9⟩) (by simp only [puts, setAll, List.set_cons_zero, List.set_cons_succ, List.setIfInBounds_toArray]))
                    refine Steps.cons rfl (fun bb aa w' hbs hb0 hbp hI K hK => ?_) ?_
                    · obtain ⟨us, hus, ha, hI⟩ := hI
                      obtain ⟨u0, u1, u2, u3, u4, u5, u6, u7, u8, u9, u10, u11, u12, u13, u14, u15, u16, u17, u18, rfl⟩ := len19 hus
                      have hst := hI.ph.at_ 5 17 rfl hb0 (.inr ⟨16, rfl, gen_after 16 (by kernel_rfl) hbp⟩)
                      obtain ⟨er, nbs9, tab9, cv9, fv9, rv9, hb9, hc9⟩ := hst
                      have e16 : u16 = .int .i64 rr := er
                      subst e16
                      have HST := Veil.mk (And.intro hb9 hc9)
                      clear hb9 hc9
                      have HI := Veil.mk hI
                      clear hI
                      rw [ha]
                      simp only [puts, setAll, List.setIfInBounds_toArray, List.set_cons_zero, List.set_cons_succ]
                      go_simp
                      exact hK _ _ (chain_step HI.out hus hbs 17 (.slice (some ⟨w'.heap.size, 0, none⟩) 1 1) (by show 17 < 19; decide) rfl hbp (none_of rfl) (HI.out.ph.next 5 17 _ rfl hb0 (.inr ⟨16, rfl, gen_after 16 (by kernel_rfl) hbp⟩) (by decide) ⟨_, rfl, Box.new _ _ _, nbs9, tab9, cv9, fv9, rv9, HST.out.1.alloc HST.out.2.sys.ge _, HST.out.2.on ((Below.refl _ _).alloc (Nat.le_refl _) _)⟩) (by simp only [puts, setAll, List.set_cons_zero, List.set_cons_succ, List.setIfInBounds_toArray]))
                    refine Steps.cons rfl (fun bb aa w' hbs hb0 hbp hI K hK => ?_) ?_
                    · obtain ⟨us, hus, ha, hI⟩ := hI
                      obtain ⟨u0, u1, u2, u3, u4, u5, u6, u7, u8, u9, u10, u11, u12, u13, u14, u15, u16, u17, u18, rfl⟩ := len19 hus
                      have e0 : u0 = .pointer (some ⟨A, 0, none⟩) := hI.val 0 _ rfl (gen_after 0 (by kernel_rfl) hbp)
                      subst e0
                      have hst := hI.ph.at_ 6 18 rfl hb0 (.inr ⟨17, rfl, gen_after 17 (by kernel_rfl) hbp⟩)
                      obtain ⟨x, ex, hbx9, nbs9, tab9, cv9, fv9, rv9, hb9, hc9⟩ := hst
                      have e17 : u17 = .slice (some ⟨x, 0, none⟩) 1 1 := ex
                      subst e17
                      have HPU := Veil.mk (hc9.push (by rw [rootsL_len]; omega) x _ (hbx9.at_ 0))
                      have HB9 := Veil.mk hb9
                      clear hb9 hc9 hbx9
                      have HI := Veil.mk hI
                      clear hI
                      rw [ha]
                      simp only [puts, setAll, List.setIfInBounds_toArray, List.set_cons_zero, List.set_cons_succ]
                      go_simp
                      go_at_call 11
                      refine HPU.out.mono ?_
                      rintro e8 w8 ⟨rfl, hb8, cv8, fv8, rv8, hc8⟩
                      go_simp
                      exact hK _ _ (chain_step HI.out hus hbs 18 (.tuple #[]) (by show 18 < 19; decide) rfl hbp (none_of rfl) (HI.out.ph.next 6 18 _ rfl hb0 (.inr ⟨17, rfl, gen_after 17 (by kernel_rfl) hbp⟩) (by decide) ⟨nbs9, tab9, cv8, fv8, rv8, HB9.out.trans hb8, by rw [rootsL_succ, HRR.out]; exact hc8⟩) (by simp only [puts, setAll, List.set_cons_zero, List.set_cons_succ, List.setIfInBounds_toArray]))
                    exact Steps.nil
                  · intro us w9 hus dd hD2 hJ
                    obtain ⟨y0, y1, y2, y3, y4, y5, y6, y7, y8, y9, y10, y11, y12, y13, y14, y15, y16, y17, y18, rfl⟩ := len19 hus
                    obtain ⟨nbs9, tab9, cv9, fv9, rv9, hb9, hc9⟩ := hJ.ph.all (fun c hc => hD2 c (by
                      have : c = 12 ∨ c = 13 ∨ c = 14 ∨ c = 15 ∨ c = 16 ∨ c = 17 ∨ c = 18 := by simpa using hc
                      show c < 19
                      omega))
                    have HE := Veil.mk (And.intro hc9 (HBD.out.trans hb9))
                    clear hJ hD2 hb9 hc9
                    simp only [puts, setAll, List.set_cons_zero, List.set_cons_succ, List.setIfInBounds_toArray]
                    go_wp2
                    go_round
                    case rel => exact ⟨j + 1, nbs9, tab9, cv9, fv9, rv9, by omega, by go_num, HE.out⟩
                    case measure => simp [intOf]; omega
                · obtain rfl : j = k := by omega
                  have hjk' : ¬ (j : Int) < (j : Int) := by omega
                  have HC5 := Veil.mk (And.intro hs hb)
                  clear hs hb HCH
                  obtain ⟨hs, hb⟩ := HC5.out
                  have hTu := HB5.out.2.1
                  have hwA := HB5.out.2.2
                  have hj30 : (j : Int) ≤ 30 := by omega
                  have qm : IntKind.i64.wrap (2 * (j : Int)) = 2 * (j : Int) := by rw [IntKind.wrap_i64]; omega
                  have qn : IntKind.i64.wrap (2 * (j : Int) + 1) = 2 * (j : Int) + 1 := by rw [IntKind.wrap_i64]; omega
                  cases held with
                  | true =>
                    have c0 : wr.cell? ⟨gk, 0, none⟩ = some (.int .i64 1) := key_cell hs.kr 0 (by omega)
                    have bx := Box.new wr 3 #[.int .i64 1]
                    have bb : Below wr.heap.size wr (wr.alloc (.cells #[.int .i64 1] 3)) := (Below.refl _ _).alloc (Nat.le_refl _) _
                    have HPU := Veil.mk ((hs.on bb).push (by rw [rootsL_len]; omega) wr.heap.size 1 (bx.at_ 0))
                    have HBB := Veil.mk (bb.mono hs.sys.ge)
                    have HTU := Veil.mk hTu
                    have HB := Veil.mk hb
                    have hj1 : (0 : Int) < (j : Int) + 1 := by omega
                    clear hs hb bx bb hTu HC5
                    go_wp2_with (first | (go_at_call 11; ((with_reducible refine HPU.out.mono ?_); rintro e8 w8 ⟨rfl, hb8, cv8, fv8, rv8, hc8⟩; have HCO := Veil.mk (hc8.held (by omega) HTU.out))) | (go_at_call 12; ((with_reducible refine HCO.out.mono ?_); rintro e9 w9 ⟨a9, c9, rfl, hb9, d9, cv9, fv9, rv9, hct9, ar9⟩; have HCT := count_any A A cv9 fv9 rv9 d9 w9 ar9; rw [hct9, show ((2 * j + 1 : Nat) : Int) = 2 * (j : Int) + 1 by omega] at HCT; have HCT := Veil.mk HCT)) | (go_at_call 13; ((with_reducible refine HCT.out.mono ?_); rintro e7 w7 ⟨rfl, h7⟩; subst w7)))
                    go_ret
                    exact ⟨rfl, HWW.out.trans ((((HB.out.trans HBB.out).trans hb8).trans hb9).mono hwA)⟩
                  | false =>
                    have HCO := Veil.mk (hs.free (by omega) hTu)
                    have hge := hs.sys.ge
                    have HB := Veil.mk hb
                    clear hs hb hTu HC5
                    go_wp2_with (first | (go_at_call 12; ((with_reducible refine HCO.out.mono ?_); rintro e9 w9 ⟨v9, rfl, hb9, hr9, hk9, d9, cv9, fv9, rv9, hct9, ar9⟩; obtain ⟨a9, c9, rfl, -⟩ := slice_own hr9; have HNU := Veil.mk (nums_keys hr9 hk9 (by omega)); have HCT := fun w' (hb' : Below w9.heap.size w9 w') => count_any A A cv9 fv9 rv9 d9 w' (ar9.on hb'); rw [hct9] at HCT; have HCT := Veil.mk HCT; clear hr9 hk9 ar9 hct9)) | (go_at_call 14; ((with_reducible refine HNU.out.mono ?_); rintro e6 w6 ⟨rfl, hb6⟩)) | (go_at_call 13; ((with_reducible refine (HCT.out w6 hb6).mono ?_); rintro e7 w7 ⟨rfl, h7⟩; subst w7)))
                    go_ret
                    exact ⟨rfl, HWW.out.trans (((HB.out.trans hb9).trans (hb6.mono (by have := hb9.size; omega))).mono hwA)⟩
end Go.Proofs.Ytkkbfadfgdjkdaa
