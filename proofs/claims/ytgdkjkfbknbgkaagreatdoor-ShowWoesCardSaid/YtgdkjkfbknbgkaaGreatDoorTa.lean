/- Package text: the characters of a text (TextSigns' contracts). -/
import Derived.Test.YtgdkjkfbknbgkaaGreatDoorWd
import Derived.RangeFuncNested
import Derived.RangeFuncBound
import Derived.RangeFuncCalls
import Derived.RangeFuncLeaves
import Derived.Shelf.Abstract
import Derived.Shelf.RegionOpen
import Derived.WalkKit
import Derived.OwnWalkIn
import Derived.TacticsInMore
import Derived.LoopNIn
import Derived.LoopIn
namespace Go.Proofs.YtgdkjkfbknbgkaaGreatDoor.W
open Go Go.RowKit
attribute [local go_sem] Oper.semAt_some

theorem units_flat : ∀ (l : List Nat), (∀ u ∈ l, u < 65536) → units (l.flatMap u2) = l
  | [], _ => rfl
  | c :: r, h => by
    have hc : c < 65536 := h c (List.mem_cons_self ..)
    have := units_flat r (fun u hu => h u (List.mem_cons_of_mem _ hu))
    rw [List.flatMap_cons]
    show units (UInt8.ofNat (c / 256) :: UInt8.ofNat c :: r.flatMap u2) = _
    simp only [units, this]
    congr 1
    simp; omega
theorem flat_length (l : List Nat) : (l.flatMap u2).length = 2 * l.length := by
  induction l with
  | nil => rfl
  | cons x r ih => rw [List.flatMap_cons, List.length_append, ih]; simp [u2]; omega
/-- Sub: the units from one place up to another, both held within what there is. -/
def subB (s : ByteArray) (i j : Int) : ByteArray :=
  let t := min (max j 0) ((s.size : Int) / 2)
  let f := min (max i 0) t
  s.extract (2 * f.toNat) (2 * t.toNat)
theorem sub_any (s : ByteArray) (hs : s.size ≤ 16777216) (i j : Int) (w : World) :
    Calls Tryz.prog 78 #[.string s, .int .i64 i, .int .i64 j] w fun e w' => e = .returned (.string (subB s i j)) ∧ w = w' := by
  obtain ⟨t, ht⟩ : ∃ t : Nat, (t : Int) = min (max j 0) ((s.size : Int) / 2) := ⟨(min (max j 0) ((s.size : Int) / 2)).toNat, by omega⟩
  obtain ⟨f, hf⟩ : ∃ f : Nat, (f : Int) = min (max i 0) (t : Int) := ⟨(min (max i 0) (t : Int)).toNat, by omega⟩
  have hft : f ≤ t := by omega
  have hts : t ≤ s.size / 2 := by omega
  have HS : Hid (subB s i j = s.extract (2 * f) (2 * t)) := by
    show subB s i j = _
    unfold subB
    simp only [← ht, ← hf, Int.toNat_natCast]
  have q1 : (2 * (f : Int)).toNat = 2 * f := by omega
  have q2 : (2 * (t : Int)).toNat = 2 * t := by omega
  have q3 : 0 ≤ 2 * (f : Int) := by omega
  have q4 : 2 * (f : Int) ≤ 2 * (t : Int) := by omega
  have q5 : 2 * (t : Int) ≤ s.size := by omega
  have g1 : (if (s.size : Int) / 2 < (if j < 0 then 0 else j) then (s.size : Int) / 2 else if j < 0 then 0 else j) = (t : Int) := by rw [ht]; split <;> split <;> omega
  have g2 : (if (t : Int) < (if i < 0 then 0 else i) then (t : Int) else if i < 0 then 0 else i) = (f : Int) := by rw [hf]; split <;> split <;> omega
  clear ht hf
  go_enter Tryz.func78, Tryz.ntmps78
  go_wp2_with (first | (go_at_call 77; ((with_reducible refine (len_any _ hs _).mono ?_); rintro e w' ⟨rfl, rfl⟩)))
  all_goals
    go_ret
    exact ⟨ret_sb HS.out.symm, rfl⟩
theorem flat_drop (l : List Nat) (k : Nat) : (l.flatMap u2).drop (2 * k) = (l.drop k).flatMap u2 := by
  induction k generalizing l with
  | zero => simp
  | succ k ih =>
    cases l with
    | nil => simp
    | cons x r =>
      rw [List.flatMap_cons, List.drop_succ_cons, ← ih r]
      show ((UInt8.ofNat (x / 256) :: UInt8.ofNat x :: r.flatMap u2)).drop (2 * k + 2) = _
      simp
theorem flat_take (l : List Nat) (k : Nat) : (l.flatMap u2).take (2 * k) = (l.take k).flatMap u2 := by
  induction k generalizing l with
  | zero => simp
  | succ k ih =>
    cases l with
    | nil => simp
    | cons x r =>
      rw [List.flatMap_cons, List.take_succ_cons, List.flatMap_cons, ← ih r]
      show ((UInt8.ofNat (x / 256) :: UInt8.ofNat x :: r.flatMap u2)).take (2 * k + 2) = _
      simp [u2]
/-- The string of units. -/
def strU (l : List Nat) : ByteArray := ⟨(l.flatMap u2).toArray⟩
theorem strU_size (l : List Nat) : (strU l).size = 2 * l.length := by
  show (l.flatMap u2).toArray.size = _
  simp only [List.size_toArray]; exact flat_length l
theorem strU_units (l : List Nat) (h : ∀ u ∈ l, u < 65536) : unitsS (strU l) = l := by
  show units (l.flatMap u2).toArray.toList = l
  simp only []; exact units_flat l h
theorem strU_sub (l : List Nat) (i j : Int) (f t : Nat) (ht : (t : Int) = min (max j 0) (l.length : Int)) (hf : (f : Int) = min (max i 0) (t : Int)) :
    subB (strU l) i j = strU ((l.drop f).take (t - f)) := by
  have hft : f ≤ t := by omega
  unfold subB
  have e1 : min (max j 0) (((strU l).size : Int) / 2) = (t : Int) := by rw [strU_size, ht]; congr 1; omega
  simp only [e1, ← hf, Int.toNat_natCast]
  apply ByteArray.ext
  apply Array.ext'
  rw [ByteArray.data_extract]
  simp only [strU, List.extract_toArray, List.extract_eq_take_drop] 
  rw [show 2 * t - 2 * f = 2 * (t - f) by omega, flat_drop, flat_take]
theorem at_nat (s : ByteArray) (hs : s.size ≤ 16777216) (i : Nat) (w : World) :
    Calls Tryz.prog 79 #[.string s, .int .i64 (i : Int)] w fun e w' => e = .returned (.int .u16 (((unitsS s)[i]?.getD 0 : Nat) : Int)) ∧ ∃ n, w' = w.drewN n := by
  by_cases hi : i < s.size / 2
  · exact at_in s hs i hi w
  · refine (at_out s hs (i : Int) (.inr (by omega)) w).mono fun e w' h => ⟨?_, 0, ?_⟩
    · rw [h.1, List.getElem?_eq_none (by rw [unitsS_length]; omega)]
      rfl
    · rw [← h.2]; rfl
def isHi (u : Nat) : Bool := decide (55296 ≤ u) && decide (u ≤ 56319)
def isLo (u : Nat) : Bool := decide (56320 ≤ u) && decide (u ≤ 57343)
theorem high_any (u : Nat) (w : World) : Calls Tryz.prog 39 #[.int .i32 (u : Int)] w fun e w' => e = .returned (.bool (isHi u)) ∧ w = w' := by
  by_cases h1 : (55296 : Int) ≤ (u : Int)
  · have HX : Hid (isHi u = decide ((u : Int) ≤ 56319)) := Lib.hid (by
      have a : 55296 ≤ u := by omega
      rw [isHi, decide_eq_true a, Bool.true_and, decide_eq_decide]; omega)
    go_enter Tryz.func39, Tryz.ntmps39
    go_wp2
    go_ret
    exact ⟨ret_bool HX.out.symm, rfl⟩
  · have HX : Hid (isHi u = false) := Lib.hid (by
      have a : ¬ 55296 ≤ u := by omega
      rw [isHi, decide_eq_false a, Bool.false_and])
    go_enter Tryz.func39, Tryz.ntmps39
    go_wp2
    go_ret
    exact ⟨ret_bool HX.out.symm, rfl⟩
theorem low_any (u : Nat) (w : World) : Calls Tryz.prog 40 #[.int .i32 (u : Int)] w fun e w' => e = .returned (.bool (isLo u)) ∧ w = w' := by
  by_cases h1 : (56320 : Int) ≤ (u : Int)
  · have HX : Hid (isLo u = decide ((u : Int) ≤ 57343)) := Lib.hid (by
      have a : 56320 ≤ u := by omega
      rw [isLo, decide_eq_true a, Bool.true_and, decide_eq_decide]; omega)
    go_enter Tryz.func40, Tryz.ntmps40
    go_wp2
    go_ret
    exact ⟨ret_bool HX.out.symm, rfl⟩
  · have HX : Hid (isLo u = false) := Lib.hid (by
      have a : ¬ 56320 ≤ u := by omega
      rw [isLo, decide_eq_false a, Bool.false_and])
    go_enter Tryz.func40, Tryz.ntmps40
    go_wp2
    go_ret
    exact ⟨ret_bool HX.out.symm, rfl⟩
/-- The code point of the character that starts with unit u, v being the next one, and its number of units. -/
def ptP (u v : Nat) : Nat × Nat := if isHi u && isLo v then (65536 + (u - 55296) * 1024 + (v - 56320), 2) else (u, 1)
theorem point_in (s : ByteArray) (hs : s.size ≤ 16777216) (i : Nat) (hi : i < s.size / 2) (w : World) :
    Calls Tryz.prog 37 #[.string s, .int .i64 (i : Int)] w fun e w' => e = .returned (.tuple #[.int .i32 ((ptP ((unitsS s)[i]?.getD 0) ((unitsS s)[i + 1]?.getD 0)).1 : Nat), .int .i64 ((ptP ((unitsS s)[i]?.getD 0) ((unitsS s)[i + 1]?.getD 0)).2 : Nat)]) ∧ ∃ n, w' = w.drewN n := by
  have HA := fun w => at_nat s hs i w
  have HB : ∀ w, Calls Tryz.prog 79 #[.string s, .int .i64 ((i : Int) + 1)] w fun e w' => e = .returned (.int .u16 (((unitsS s)[i + 1]?.getD 0 : Nat) : Int)) ∧ ∃ n, w' = w.drewN n := fun w => by
    have := at_nat s hs (i + 1) w
    rwa [show ((i + 1 : Nat) : Int) = (i : Int) + 1 by omega] at this
  have hu : (unitsS s)[i]?.getD 0 < 65536 := by
    rcases h : (unitsS s)[i]? with _ | x
    · decide
    · exact units_lt _ x (List.mem_of_getElem? h)
  have hv : (unitsS s)[i + 1]?.getD 0 < 65536 := by
    rcases h : (unitsS s)[i + 1]? with _ | x
    · decide
    · exact units_lt _ x (List.mem_of_getElem? h)
  generalize (unitsS s)[i]?.getD 0 = u at hu HA ⊢
  generalize (unitsS s)[i + 1]?.getD 0 = v at hv HB ⊢
  have g0 : (i : Int) < (s.size : Int) / 2 := by omega
  have e2 : IntKind.i32.wrap (u : Int) = (u : Int) := IntWalk.i32_in _ (by omega)
  have e3 : IntKind.i32.wrap (v : Int) = (v : Int) := IntWalk.i32_in _ (by omega)
  have H1 := fun w => high_any u w
  have H2 := fun w => low_any v w
  rcases h1 : isHi u with _ | _
  · have HP : Hid (ptP u v = (u, 1)) := Lib.hid (by simp [ptP, h1])
    rw [h1] at H1
    go_enter Tryz.func37, Tryz.ntmps37
    go_wp2_with (first | (go_at_call 79; ((with_reducible refine (HA _).mono ?_); rintro e w1 ⟨rfl, n1, rfl⟩)) | (go_at_call 79; ((with_reducible refine (HB _).mono ?_); rintro e w1 ⟨rfl, n2, rfl⟩)) | (go_at_call 77; ((with_reducible refine (len_any _ hs _).mono ?_); rintro e w1 ⟨rfl, rfl⟩)) | (go_at_call 39; ((with_reducible refine (H1 _).mono ?_); rintro e w1 ⟨rfl, rfl⟩)) | (go_at_call 40; ((with_reducible refine (H2 _).mono ?_); rintro e w1 ⟨rfl, rfl⟩)))
    go_ret2
    exact ⟨by rw [HP.out]; rfl, _, rfl⟩
  · rw [h1] at H1
    rcases h2 : isLo v with _ | _
    · have HP : Hid (ptP u v = (u, 1)) := Lib.hid (by simp [ptP, h1, h2])
      rw [h2] at H2
      go_enter Tryz.func37, Tryz.ntmps37
      go_wp2_with (first | (go_at_call 79; ((with_reducible refine (HA _).mono ?_); rintro e w1 ⟨rfl, n1, rfl⟩)) | (go_at_call 79; ((with_reducible refine (HB _).mono ?_); rintro e w1 ⟨rfl, n2, rfl⟩)) | (go_at_call 77; ((with_reducible refine (len_any _ hs _).mono ?_); rintro e w1 ⟨rfl, rfl⟩)) | (go_at_call 39; ((with_reducible refine (H1 _).mono ?_); rintro e w1 ⟨rfl, rfl⟩)) | (go_at_call 40; ((with_reducible refine (H2 _).mono ?_); rintro e w1 ⟨rfl, rfl⟩)))
      go_ret2
      exact ⟨by rw [HP.out]; rfl, _, rfl⟩
    · have HP : Hid (ptP u v = (65536 + (u - 55296) * 1024 + (v - 56320), 2)) := Lib.hid (by simp [ptP, h1, h2])
      have HE : Hid (((65536 + (u - 55296) * 1024 + (v - 56320) : Nat) : Int) = 65536 + ((u : Int) - 55296) * 1024 + ((v : Int) - 56320)) := Lib.hid (by
        simp only [isHi, isLo, Bool.and_eq_true, decide_eq_true_eq] at h1 h2
        omega)
      rw [h2] at H2
      go_enter Tryz.func37, Tryz.ntmps37
      go_wp2_with (first | (go_at_call 79; ((with_reducible refine (HA _).mono ?_); rintro e w1 ⟨rfl, n1, rfl⟩)) | (go_at_call 79; ((with_reducible refine (HB _).mono ?_); rintro e w1 ⟨rfl, n2, rfl⟩)) | (go_at_call 77; ((with_reducible refine (len_any _ hs _).mono ?_); rintro e w1 ⟨rfl, rfl⟩)) | (go_at_call 39; ((with_reducible refine (H1 _).mono ?_); rintro e w1 ⟨rfl, rfl⟩)) | (go_at_call 40; ((with_reducible refine (H2 _).mono ?_); rintro e w1 ⟨rfl, rfl⟩)))
      go_ret2
      exact ⟨by
        rw [HP.out]
        show Ending.returned (.tuple #[.int .i32 (65536 + ((u : Int) - 55296) * 1024 + ((v : Int) - 56320)), .int .i64 2]) = .returned (.tuple #[.int .i32 ((65536 + (u - 55296) * 1024 + (v - 56320) : Nat) : Int), .int .i64 ((2 : Nat) : Int)])
        rw [HE.out]
        rfl, _, rfl⟩
/-- The characters of units, each one as its units. -/
def signs : List Nat → List (List Nat)
  | [] => []
  | [u] => [[u]]
  | u :: v :: r => if isHi u && isLo v then [u, v] :: signs r else [u] :: signs (v :: r)
theorem isLo_zero : isLo 0 = false := rfl
theorem ptP_snd (u v : Nat) : (ptP u v).2 = 1 ∨ (ptP u v).2 = 2 := by
  unfold ptP
  split
  · exact .inr rfl
  · exact .inl rfl
theorem signs_step (l : List Nat) (i : Nat) (hi : i < l.length) :
    signs (l.drop i) = (l.drop i).take (ptP (l[i]?.getD 0) (l[i + 1]?.getD 0)).2 :: signs (l.drop (i + (ptP (l[i]?.getD 0) (l[i + 1]?.getD 0)).2)) ∧ i + (ptP (l[i]?.getD 0) (l[i + 1]?.getD 0)).2 ≤ l.length := by
  rw [List.getElem?_eq_getElem hi, Option.getD_some]
  by_cases h : i + 1 < l.length
  · rw [List.getElem?_eq_getElem h, Option.getD_some]
    have e1 : l.drop i = l[i] :: l[i + 1] :: l.drop (i + 2) := by rw [List.drop_eq_getElem_cons hi, List.drop_eq_getElem_cons h]
    rcases hc : (isHi l[i] && isLo l[i + 1]) with _ | _
    · have e2 : (ptP l[i] l[i + 1]).2 = 1 := by simp [ptP, hc]
      rw [e2]
      refine ⟨?_, by omega⟩
      conv => lhs; rw [e1]
      rw [signs, if_neg (by simp [hc]), List.drop_eq_getElem_cons h]
      rw [e1]; rfl
    · have e2 : (ptP l[i] l[i + 1]).2 = 2 := by simp [ptP, hc]
      rw [e2]
      refine ⟨?_, by omega⟩
      conv => lhs; rw [e1]
      rw [signs, if_pos (by simp [hc])]
      rw [e1]; rfl
  · have e0 : l[i + 1]?.getD 0 = 0 := by rw [List.getElem?_eq_none (by omega)]; rfl
    have e1 : l.drop i = [l[i]] := by rw [List.drop_eq_getElem_cons hi, List.drop_eq_nil_of_le (by omega)]
    have e2 : (ptP l[i] 0).2 = 1 := by simp [ptP, isLo_zero]
    rw [e0, e2]
    refine ⟨?_, by omega⟩
    rw [e1, List.drop_eq_nil_of_le (by omega)]
    rfl
/-- The box Bs holds what it held. -/
def KeepBox (Bs : Nat) (W W' : World) : Prop := W'.cell? ⟨Bs, 0, none⟩ = W.cell? ⟨Bs, 0, none⟩
theorem KeepBox.trans {Bs : Nat} {A B C : World} (h : KeepBox Bs A B) (k : KeepBox Bs B C) : KeepBox Bs A C := Eq.trans k h
set_option maxRecDepth 100000 in
set_option maxHeartbeats 2000000 in
/-- The iterator's function: for every body that keeps its box. -/
theorem points1_in (n : Nat) (hn : 1 ≤ n) (l Bs : Nat) (L : List Nat) (hL : L.length ≤ 1000000) (hU : ∀ u ∈ L, u < 65536) (J Jx : List (List Nat) → World → Prop)
    (hY : ∀ pre x W, J pre W → pre.length < (signs L).length → YieldAt Fence.wide (n - 1) Tryz.prog l #[.string (strU x)] W fun e W' =>
      (e = .returned (.bool true) ∧ J (pre ++ [x]) W' ∧ KeepBox Bs W W') ∨ (e = .returned (.bool false) ∧ Jx (pre ++ [x]) W'))
    (hJd : ∀ pre W m, J pre W → J pre (W.drewN m))
    (W : World) (hBs : W.cell? ⟨Bs, 0, none⟩ = some (.string (strU L))) (h0 : J [] W) :
    CallsIn Fence.wide n Tryz.prog 76 #[.func (.yield l) #[] #[], .pointer (some ⟨Bs, 0, none⟩)] W fun e W' => (∃ v, e = .returned v) ∧
      ((∃ ys, ys = signs L ∧ J ys W') ∨ (∃ pre, pre <+: signs L ∧ Jx pre W')) := by
  have hs : (strU L).size ≤ 16777216 := by rw [strU_size]; omega
  have hsz : ((strU L).size : Int) / 2 = (L.length : Int) := by rw [strU_size]; omega
  have HL := fun w => len_any (strU L) hs w
  rw [hsz] at HL
  refine callsIn_of_wp Tryz.func76 rfl trivial ?_ rfl
  simp only [Tryz.ntmps76, List.size_toArray, List.length_cons, List.length_nil, Nat.reduceAdd, Nat.reduceSub, Array.replicate_succ, Array.replicate_zero, List.push_toArray, List.append_toArray, List.nil_append, List.cons_append]
  gi_wp2
  gi_loopw [3] (fun i wr => ∃ (k : Nat) (pre : List (List Nat)), k ≤ L.length ∧ i = .int .i64 k ∧ signs L = pre ++ signs (L.drop k) ∧ J pre wr ∧ KeepBox Bs W wr)
    (fun i _ => L.length - (intOf i).toNat)
  case atStart => exact ⟨0, [], Nat.zero_le _, rfl, rfl, h0, rfl⟩
  case round =>
    obtain ⟨k, pre, hk, rfl, hpre, hJs, hnx⟩ := hrel
    have hcx : wr.cell? ⟨Bs, 0, none⟩ = some (.string (strU L)) := Eq.trans hnx hBs
    by_cases hlt : k < L.length
    · obtain ⟨hs1, hs2⟩ := signs_step L k hlt
      have HP := fun w => point_in (strU L) hs k (by rw [strU_size]; omega) w
      rw [strU_units L hU] at HP
      rcases hp : ptP (L[k]?.getD 0) (L[k + 1]?.getD 0) with ⟨pc, pn⟩
      rw [hp] at HP hs1 hs2
      dsimp only at HP hs1 hs2
      have HS : ∀ w, Calls Tryz.prog 78 #[.string (strU L), .int .i64 (k : Int), .int .i64 ((k : Int) + (pn : Int))] w fun e w' => e = .returned (.string (strU ((L.drop k).take pn))) ∧ w = w' := fun w => by
        have h := sub_any (strU L) hs (k : Int) ((k : Int) + (pn : Int)) w
        rwa [strU_sub L (k : Int) ((k : Int) + (pn : Int)) k (k + pn) (by omega) (by omega), show k + pn - k = pn by omega] at h
      have hlen : pre.length < (signs L).length := by rw [hpre, hs1]; simp
      gi_wp2_with (first | (refine ⟨trivial, ?_⟩; gi_at_call 77; refine (callsIn_wide.2 (HL _)).mono ?_; rintro e wq ⟨rfl, rfl⟩) | (refine ⟨trivial, ?_⟩; gi_at_call 37; refine (callsIn_wide.2 (HP _)).mono ?_; rintro e wq ⟨rfl, m, rfl⟩; obtain ⟨fn, tmps, assign, body, hy, hR⟩ := hY pre ((L.drop k).take pn) (wr.drewN m) (hJd _ _ _ hJs) hlen) | (refine ⟨trivial, ?_⟩; gi_at_call 78; refine (callsIn_wide.2 (HS _)).mono ?_; rintro e wq ⟨rfl, rfl⟩))
      have hpn : pn = 1 ∨ pn = 2 := by
        have := ptP_snd (L[k]?.getD 0) (L[k + 1]?.getD 0)
        rwa [hp] at this
      have e1 : IntKind.i64.wrap ((k : Int) + (pn : Int)) = ((k + pn : Nat) : Int) := by rw [IntWalk.i64_in _ (by omega)]; omega
      refine hR.mono ?_
      rintro e W3 (⟨rfl, hJ3, hk3⟩ | ⟨rfl, hJx3⟩)
      · gi_wp2
        go_roundw
        case rel => exact ⟨k + pn, _, hs2, by simp, by rw [hpre, hs1, List.append_assoc]; rfl, hJ3, hnx.trans hk3⟩
        case measure => simp [intOf]; omega
      · gi_wp2
        refine bodyPost_ret (results_none rfl _ _ _) rfl ?_
        exact ⟨⟨_, rfl⟩, .inr ⟨_, ⟨_, by rw [hpre, hs1, List.append_assoc]; rfl⟩, hJx3⟩⟩
    · obtain rfl : k = L.length := by omega
      have hlt' : ¬ (L.length : Int) < (L.length : Int) := by omega
      gi_wp2_with (first | (refine ⟨trivial, ?_⟩; gi_at_call 77; refine (callsIn_wide.2 (HL _)).mono ?_; rintro e wq ⟨rfl, rfl⟩) | (gi_at_call 77; refine (callsIn_wide.2 (HL _)).mono ?_; rintro e wq ⟨rfl, rfl⟩))
      go_end0
      exact ⟨⟨_, rfl⟩, .inl ⟨_, by rw [hpre]; simp [signs], hJs⟩⟩
theorem points_any (s : ByteArray) (w : World) :
    Calls Tryz.prog 36 #[.string s] w fun e w' => e = .returned (.func (.func 76) #[] #[.pointer (some ⟨w.heap.size, 0, none⟩)]) ∧ w' = w.alloc (.cells #[.string s] 9) := by
  go_enter Tryz.func36, Tryz.ntmps36
  go_wp2
  go_ret
  exact ⟨rfl, rfl⟩
theorem grown_drewN (w : World) (m : Nat) : w.grownBy (w.drewN m) none := by
  refine ⟨rfl, rfl, rfl, Nat.le_refl _, ?_⟩
  intros
  first | rfl | assumption | (exact .inl rfl)
theorem points_stops (n : Nat) (hn : 1 ≤ n) (Bs : Nat) (L : List Nat) (hL : L.length ≤ 1000000) (hU : ∀ u ∈ L, u < 65536) (w : World) (hb : Bs < w.heap.size)
    (hc : w.cell? ⟨Bs, 0, none⟩ = some (.string (strU L))) :
    SeqStopsK Fence.wide n Tryz.prog 76 #[.pointer (some ⟨Bs, 0, none⟩)] (fun x : List Nat => #[Value.string (strU x)]) (KeepBox Bs) (fun ys => ys = signs L) (fun pre => pre <+: signs L) (signs L).length w := fun l J Jx W hW hJ _ hY h0 =>
  points1_in n hn l Bs L hL hU J Jx hY (fun pre W1 m h => hJ pre W1 _ none h (grown_drewN W1 m) (fun r e => by cases e)) W ((hW.cell (p := ⟨Bs, 0, none⟩) hb).trans hc) h0
end Go.Proofs.YtgdkjkfbknbgkaaGreatDoor.W
