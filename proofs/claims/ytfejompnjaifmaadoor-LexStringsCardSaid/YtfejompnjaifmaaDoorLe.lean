/- Package lex: sign. -/
import Derived.Test.YtfejompnjaifmaaDoorLc
import Derived.Test.YtfejompnjaifmaaDoorLd
namespace Go.Proofs.YtfejompnjaifmaaDoor
open Go Go.RowKit

/-- A token as it is handed back, and the place behind it. -/
def tokV (p : Nat) : Option Tk → Value
  | some t => .tuple #[.agg #[.int .i64 (t.kind : Int), .string ⟨t.text.toArray⟩, .int .i64 (p : Int), .int .i64 t.n], .int .i64 ((p + t.len : Nat) : Int)]
  | none => .tuple #[.agg #[.int .i64 0, .string ⟨#[]⟩, .int .i64 0, .int .i64 0], .int .i64 (p : Int)]
theorem by_inj {a b : ByteArray} (h : a.data.toList = b.data.toList) : a = b := by
  obtain ⟨⟨l⟩⟩ := a
  obtain ⟨⟨m⟩⟩ := b
  have h' : l = m := h
  rw [h']
theorem ext_take (s : ByteArray) (p n : Nat) : s.extract p (p + n) = ⟨((s.data.toList.drop p).take n).toArray⟩ := by
  apply by_inj
  rw [Lib.extract_data, show p + n - p = n by omega]
set_option maxHeartbeats 4000000 in
set_option maxRecDepth 100000 in
theorem sign_any (s : ByteArray) (hs : s.size ≤ 20000) (p : Nat) (hp : p < s.size) (w : World) :
    Calls Tryd.prog 20 #[.string s, .int .i64 (p : Int)] w fun e w' => e = .returned (tokV p (signL (s.data.toList.drop p))) ∧ Below w.heap.size w w' := by
  obtain ⟨v, hv⟩ : ∃ v, tokV p (signL (s.data.toList.drop p)) = v := ⟨_, rfl⟩
  rw [hv]
  have HV := Veil.mk hv
  clear hv
  obtain ⟨k, hk⟩ : ∃ k, min 3 (s.size - p) = k := ⟨_, rfl⟩
  have hmin : min 3 ((s.size : Int) - (p : Int)) = (k : Int) := by omega
  have hmin2 : min ((s.size : Int) - (p : Int)) 3 = (k : Int) := by omega
  have hk3 : k ≤ 3 := by omega
  have hks : p + k ≤ s.size := by omega
  have HK : Veil (tokV p (signF k (s.data.toList.drop p)) = v) := ⟨by
    rw [← HV.out]
    unfold signL
    rw [List.length_drop, Array.length_toList]
    show _ = tokV p (signF (min 3 (s.size - p)) _)
    rw [hk]⟩
  clear hk HV
  go_enter Tryd.func20, Tryd.ntmps20
  go_wp2
  go_loop [6] (fun i => ∃ n : Nat, n ≤ k ∧ i = .int .i64 (n : Int) ∧ Veil (tokV p (signF n (s.data.toList.drop p)) = v)) (fun i => (intOf i).toNat)
  case atStart => exact ⟨k, Nat.le_refl _, rfl, HK⟩
  case round =>
    obtain ⟨n, hn, rfl, hR⟩ := hrel
    cases n with
    | zero =>
      have hR' : Veil (v = tokV p none) := ⟨hR.out.symm⟩
      clear hmin hmin2
      go_wp2
      rw [hR'.out]
      exact bodyPost_ret (v := .tuple #[.agg #[.int .i64 0, .string ⟨#[]⟩, .int .i64 0, .int .i64 0], .int .i64 (p : Int)]) (by simp [results, Tryd.results20, go_sem]) rfl ⟨rfl, (Below.refl _ _).alloc (Nat.le_refl _) _⟩
    | succ n =>
      have h0 : (0 : Int) < (((n + 1 : Nat) : Int)) := by omega
      have hc : ((n + 1 : Nat) : Int) = (n : Int) + 1 := by omega
      have e1 : (p : Int) + ((n + 1 : Nat) : Int) = ((p + (n + 1) : Nat) : Int) := by omega
      have hsl : ((p + (n + 1) : Nat) : Int) ≤ (s.size : Int) := by omega
      obtain ⟨x, hx⟩ : ∃ x, x = s.extract p (p + (n + 1)) := ⟨_, rfl⟩
      have HX : Veil (x.data.toList = (s.data.toList.drop p).take (n + 1)) := ⟨by rw [hx, Lib.extract_data, show p + (n + 1) - p = n + 1 by omega]⟩
      have HE : Veil (x = ⟨((s.data.toList.drop p).take (n + 1)).toArray⟩) := ⟨by rw [hx]; exact ext_take s p (n + 1)⟩
      have hx2 := hx.symm
      clear hx
      cases hb : signsL.contains ((s.data.toList.drop p).take (n + 1)) with
      | true =>
        have hR' : Veil (v = tokV p (some ⟨5, (s.data.toList.drop p).take (n + 1), 0, n + 1⟩)) := ⟨by
          rw [← hR.out]
          show tokV p (if signsL.contains ((s.data.toList.drop p).take (n + 1)) = true then _ else _) = _
          rw [if_pos hb]⟩
        have HS : Veil (∀ w, Calls Tryd.prog 31 #[.string x] w fun e w' => e = .returned (.bool true) ∧ w = w') := ⟨fun w => by
          have h := isSign_any x w
          rw [HX.out, hb] at h
          exact h⟩
        clear hb hR
        go_wp2_with (first | (go_at_call 31; ((with_reducible refine (HS.out _).mono ?_); rintro e w1 ⟨rfl, rfl⟩)))
        have hv : v = .tuple #[.agg #[.int .i64 5, .string x, .int .i64 (p : Int), .int .i64 0], .int .i64 ((p : Int) + ((n : Int) + 1))] := by
          rw [hR'.out, HE.out]
          rfl
        rw [hv]
        exact bodyPost_ret (v := .tuple #[.agg #[.int .i64 5, .string x, .int .i64 (p : Int), .int .i64 0], .int .i64 ((p : Int) + ((n : Int) + 1))]) (by simp [results, Tryd.results20, go_sem]) rfl ⟨rfl, (Below.refl _ _).alloc (Nat.le_refl _) _⟩
      | false =>
        have hR' : Veil (tokV p (signF n (s.data.toList.drop p)) = v) := ⟨by
          rw [← hR.out]
          show _ = tokV p (if signsL.contains ((s.data.toList.drop p).take (n + 1)) = true then _ else _)
          rw [if_neg (by rw [hb]; exact Bool.false_ne_true)]⟩
        have HS : Veil (∀ w, Calls Tryd.prog 31 #[.string x] w fun e w' => e = .returned (.bool false) ∧ w = w') := ⟨fun w => by
          have h := isSign_any x w
          rw [HX.out, hb] at h
          exact h⟩
        clear hb hR
        go_wp2_with (first | (go_at_call 31; ((with_reducible refine (HS.out _).mono ?_); rintro e w1 ⟨rfl, rfl⟩)))
        go_round
        case rel => exact ⟨n, by omega, by go_num, hR'⟩
        case measure => simp [intOf]
end Go.Proofs.YtfejompnjaifmaaDoor
