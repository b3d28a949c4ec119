/- TextGo: the law's walk. -/
import Derived.Test.YtbkgophgclpijaaSn
namespace Go.Proofs.Ytbkgophgclpijaa
open Go.RowKit

theorem flat_units : ∀ (l : List UInt8), l.length % 2 = 0 → (units l).flatMap u2 = l
  | [], _ => rfl
  | [_], h => by simp at h
  | a :: b :: r, h => by
    have ha := a.toNat_lt
    have hb := b.toNat_lt
    simp only [units, List.flatMap_cons]
    rw [flat_units r (by simp at h; omega)]
    have e1 : UInt8.ofNat ((a.toNat * 256 + b.toNat) / 256) = a := by apply UInt8.toNat_inj.1; simp; omega
    have e2 : UInt8.ofNat (a.toNat * 256 + b.toNat) = b := by apply UInt8.toNat_inj.1; simp
    show UInt8.ofNat _ :: UInt8.ofNat _ :: r = _
    rw [e1, e2]
theorem ofR_even (c : Nat) : (ofR c).length % 2 = 0 := by
  unfold ofR; split <;> simp [u2]
theorem ofFrom_even (s : ByteArray) : ∀ f p, (ofFrom s f p).length % 2 = 0
  | 0, p => rfl
  | f + 1, p => by
    unfold ofFrom
    split
    · have h1 := ofR_even (Utf8.decode s p).1
      have h2 := ofFrom_even s f (p + (Utf8.decode s p).2)
      rw [List.length_append]; omega
    · rfl
theorem ofFrom_len (s : ByteArray) : ∀ f p, (ofFrom s f p).length ≤ 4 * f
  | 0, p => by simp [ofFrom]
  | f + 1, p => by
    unfold ofFrom
    split
    · have h1 := ofR_length (Utf8.decode s p).1
      have h2 := ofFrom_len s f (p + (Utf8.decode s p).2)
      rw [List.length_append]; omega
    · simp
theorem ofB_strU (s : ByteArray) : (⟨(ofB s).toArray⟩ : ByteArray) = strU (units (ofB s)) := by
  unfold strU
  rw [flat_units (ofB s) (ofFrom_even s _ _)]
theorem ofB_len (s : ByteArray) : (units (ofB s)).length ≤ 2 * s.size := by
  rw [units_length]
  have := ofFrom_len s s.size 0
  unfold ofB
  omega
theorem go_at (l : List Nat) (x : ByteArray) (r : ByteArray) (hx : Veil (strU l = x)) (hl : ∀ u ∈ l, u < 65536) (hlen : l.length ≤ 10000) (hr : Veil ((⟨(goL (signs l)).toArray⟩ : ByteArray) = r)) (w : World) :
    Calls Try.prog 12 #[.string x] w fun e w' => e = .returned (.string r) ∧ Below w.heap.size w w' := by
  have h := callsIn_wide.1 (textGo_in 4 (Nat.le_refl _) l hl hlen w)
  rw [hx.out, hr.out] at h
  exact h
theorem of_at (s : ByteArray) (y : ByteArray) (hs : s.size ≤ 16777216) (hy : Veil ((⟨(ofB s).toArray⟩ : ByteArray) = y)) (w : World) :
    Calls Try.prog 14 #[.string s] w fun e w' => e = .returned (.string y) ∧ Below w.heap.size w w' :=
  (of_any s hs w).mono fun _ _ ⟨he, hb⟩ => ⟨by rw [he, hy.out], hb⟩
theorem refGo_at (a : Option Addr) (n cap : Nat) (l : List Nat) (r : ByteArray) (hn : n ≤ 3000) (hlt : ∀ u ∈ l, u < 65536) (hr : Veil ((⟨(goL (signs l)).toArray⟩ : ByteArray) = r)) (w : World) (h : Nums .i64 w a n l) :
    Calls Try.prog 13 #[.slice a n cap] w fun e w' => e = .returned (.string r) ∧ Below w.heap.size w w' :=
  (refGo_any a n cap l hn hlt w h).mono fun _ _ ⟨he, hb⟩ => ⟨by rw [he, hr.out], hb⟩

set_option maxRecDepth 100000 in
set_option maxHeartbeats 2000000 in
theorem go_long (a : Option Addr) (len ca : Nat) (s : ByteArray) (hlen : 3000 < len ∨ 3000 < s.size) (w : World) :
    Calls Try.prog 4 #[.slice a len ca, .string s] w fun e w' => e = .returned (.bool true) ∧ Below w.heap.size w w' := by
  by_cases h1 : 3000 < len
  · have g1 : (3000 : Int) < (len : Int) := by omega
    go_enter Try.func4, Try.ntmps4
    go_wp2_with (first | (go_at_call 5; ((with_reducible refine (fit_any _).mono ?_); rintro e w1 ⟨rfl, hb1⟩)))
    go_ret
    exact ⟨rfl, hb1⟩
  · have g1 : ¬ (3000 : Int) < (len : Int) := by omega
    have g2 : (3000 : Int) < (s.size : Int) := by omega
    clear h1 hlen
    go_enter Try.func4, Try.ntmps4
    go_wp2_with (first | (go_at_call 5; ((with_reducible refine (fit_any _).mono ?_); rintro e w1 ⟨rfl, hb1⟩)))
    go_ret
    exact ⟨rfl, hb1⟩

set_option maxRecDepth 100000 in
set_option maxHeartbeats 4000000 in
theorem go_short (a : Option Addr) (ca : Nat) (l : List Nat) (s : ByteArray) (hlen : l.length ≤ 3000) (hs : s.size ≤ 3000) (hl : ∀ u ∈ l, u < 65536) (w : World) (hN : Nums .u16 w a l.length l) :
    Calls Try.prog 4 #[.slice a l.length ca, .string s] w fun e w' => e = .returned (.bool true) ∧ Below w.heap.size w w' := by
  have g1 : ¬ (3000 : Int) < (l.length : Int) := by omega
  have g2 : ¬ (3000 : Int) < (s.size : Int) := by omega
  obtain ⟨x, hx⟩ : ∃ x, x = strU l := ⟨_, rfl⟩
  have HX := Veil.mk hx.symm
  have UX : Veil (unitsS x = l) := ⟨by rw [hx]; exact strU_units l hl⟩
  have XS : x.size ≤ 1000000 := by rw [hx, strU_size]; omega
  obtain ⟨r, hr⟩ : ∃ r, r = (⟨(goL (signs l)).toArray⟩ : ByteArray) := ⟨_, rfl⟩
  have HR := Veil.mk hr.symm
  obtain ⟨y, hy⟩ : ∃ y, y = (⟨(ofB s).toArray⟩ : ByteArray) := ⟨_, rfl⟩
  have HY := Veil.mk hy.symm
  have HYU : Veil (strU (units (ofB s)) = y) := ⟨by rw [hy, ofB_strU]⟩
  have HL := Veil.mk hl
  have HN := Veil.mk hN
  have hyl := ofB_len s
  clear hx hr hy hl hN
  go_enter Try.func4, Try.ntmps4
  go_wp2_with (first | (go_at_call 5; ((with_reducible refine (fit_any _).mono ?_); rintro e w1 ⟨rfl, hb1⟩)) | (go_at_call 6; ((with_reducible refine (lawStr_at a _ _ l x (by omega) HL.out HX _ (HN.out.on hb1)).mono ?_); rintro e w2 ⟨rfl, hb2⟩)) | (go_at_call 12; ((with_reducible refine (go_at l x r HX HL.out (by omega) HR _).mono ?_); rintro e w3 ⟨rfl, hb3⟩)) | (go_at_call 8; ((with_reducible refine (list_at x l XS UX _).mono ?_); rintro e w4 ⟨a4, cap4, rfl, hn4, hno4, hca4, hb4⟩)) | (go_at_call 13; ((with_reducible refine (refGo_at a4 _ cap4 l r hlen HL.out HR _ hn4).mono ?_); rintro e w5 ⟨rfl, hb5⟩)))
  have hB5 : Below w.heap.size w w5 := blw2 (blw2 (blw2 (blw2 hb1 hb2) hb3) hb4) hb5
  have hsz : w.heap.size ≤ w5.heap.size := hB5.size
  clear hn4 hno4 hca4 hb1 hb2 hb3 hb4 hb5
  go_loopw [7] (fun _ wr => ∃ (pos fuel : Nat), wr.heap[w5.heap.size]? = some (.stringIter s pos) ∧ Below w.heap.size w wr ∧ Veil (Plain s fuel pos → Plain s s.size 0) ∧ s.size ≤ pos + fuel) (fun _ wr => s.size - wr.iterPos w5.heap.size)
  case atStart => exact ⟨0, s.size, World.iter_heap w5 s 0, hB5.alloc hsz _, ⟨fun h => h⟩, by omega⟩
  case round =>
    obtain ⟨pos, fuel, hit, hbw, HS, hb⟩ := hrel
    clear hB5
    have hpos0 := iterPos_of hit
    by_cases hp : pos < s.size
    · have hnx : ∀ ty, (Instr.next (.pointer (some ⟨w5.heap.size, 0, none⟩)) true ty).run Try.prog wr = _ := fun ty => Lib.run_next_any_at wr w5.heap.size s pos ty hit hp
      have hwd := width_pos s pos hp
      obtain ⟨fuel, rfl⟩ : ∃ f', fuel = f' + 1 := ⟨fuel - 1, by omega⟩
      obtain ⟨c, hcd⟩ : ∃ c, c = (Utf8.decode s pos).1 := ⟨_, rfl⟩
      obtain ⟨q, hqd⟩ : ∃ q, q = pos + (Utf8.decode s pos).2 := ⟨_, rfl⟩
      have hcle : c ≤ 1114111 := by rw [hcd]; exact decode_top s pos
      have HS2 : Veil (Good c → Plain s fuel q → Plain s s.size 0) := ⟨fun hg h => HS.out (fun _ => ⟨by rw [← hcd]; exact hg, by rw [← hqd]; exact h⟩)⟩
      have hpq : pos < q := by omega
      rw [← hcd, ← hqd] at hnx
      have hit2 := Lib.iterAt_heap wr w5.heap.size s pos q hit
      have hbw2 := Lib.below_iterAt hbw (k := w5.heap.size) hsz s q
      clear hwd hcd hqd
      obtain ⟨W1, hW1⟩ : ∃ W1, W1 = wr.iterAt w5.heap.size s q := ⟨_, rfl⟩
      rw [← hW1] at hnx hit2 hbw2
      clear hW1 hit hbw HS
      by_cases c1 : c < 32
      · have q1 : (c : Int) < 32 := by omega
        go_wp2
        go_ret
        exact ⟨rfl, hbw2⟩
      · have q1 : ¬ (c : Int) < 32 := by omega
        by_cases c2 : c = 127
        · subst c2
          go_wp2
          go_ret
          exact ⟨rfl, hbw2⟩
        · have q2 : ((c : Int) == 127) = false := beq_eq_false_iff_ne.2 (by omega)
          by_cases c3 : c = 92
          · subst c3
            go_wp2
            go_ret
            exact ⟨rfl, hbw2⟩
          · have q3 : ((c : Int) == 92) = false := beq_eq_false_iff_ne.2 (by omega)
            by_cases c4 : c = 65533
            · subst c4
              go_wp2
              go_ret
              exact ⟨rfl, hbw2⟩
            · have q4 : ((c : Int) == 65533) = false := beq_eq_false_iff_ne.2 (by omega)
              have HG : Veil (Good c) := ⟨⟨by omega, c2, c3, c4⟩⟩
              have hmeas : s.size - W1.iterPos w5.heap.size < s.size - wr.iterPos w5.heap.size := by rw [iterPos_of hit2, hpos0]; omega
              clear c1 c2 c3 c4
              go_wp2
              go_roundw
              case rel => exact ⟨q, fuel, hit2, hbw2, ⟨HS2.out HG.out⟩, by omega⟩
              case measure => exact hmeas
    · have hnx : ∀ ty, (Instr.next (.pointer (some ⟨w5.heap.size, 0, none⟩)) true ty).run Try.prog wr = _ := fun ty => Lib.run_next_end_at wr w5.heap.size s pos ty hit hp
      have hpl : Plain s s.size 0 := HS.out (by
        cases fuel with
        | zero => trivial
        | succ f => exact fun h => absurd h hp)
      have HG : Veil ((⟨(goL (signs (units (ofB s)))).toArray⟩ : ByteArray) = s) := ⟨by
        have h := go_of s hpl
        unfold unitsS at h
        rw [show ((⟨(ofB s).toArray⟩ : ByteArray).data.toList) = ofB s from rfl] at h
        rw [h]⟩
      have hub : Veil (∀ u ∈ units (ofB s), u < 65536) := ⟨fun u hu => units_lt _ u hu⟩
      have hul : (units (ofB s)).length ≤ 10000 := by omega
      have hs1 : s.size ≤ 16777216 := by omega
      clear hpl hit HS hpos0
      go_wp2_with (first | (go_at_call 14; ((with_reducible refine (of_at s y hs1 HY _).mono ?_); rintro e w6 ⟨rfl, hb6⟩)) | (go_at_call 12; ((with_reducible refine (go_at (units (ofB s)) y s HYU hub.out hul HG _).mono ?_); rintro e w7 ⟨rfl, hb7⟩)))
      go_ret
      exact ⟨rfl, hbw.trans ((blw2 hb6 hb7).mono hbw.size)⟩
end Go.Proofs.Ytbkgophgclpijaa
