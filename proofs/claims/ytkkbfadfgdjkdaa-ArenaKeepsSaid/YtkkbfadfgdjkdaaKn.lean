/- ArenaKeeps holds: for every list of steps and of roots it returns true; no condition beyond the row. -/
import Derived.Test.YtkkbfadfgdjkdaaKj
import Derived.Test.YtkkbfadfgdjkdaaKg
import Derived.Test.YtkkbfadfgdjkdaaAt
import Derived.Test.YtkkbfadfgdjkdaaQy
import Derived.SevenTiedAt
import Derived.ChangeMaps5
import Derived.ChangeSlices
import Derived.Deep.Slices
import Derived.SizedLaws
namespace Go.Proofs.Ytkkbfadfgdjkdaa
open Go Go.RowKit

theorem Rd.up {w : World} {A A' n z : Nat} {v : Value} {cs : List Value} (h : Rd w A v n z cs) (hA : A ≤ A') : Rd w A' v n z cs := by
  obtain ⟨h0, a, c, h1, h2, h3⟩ := h
  exact ⟨h0, a, c, h1, h2, fun ad e j u hu => ⟨by have := (h3 ad e j u hu).1; omega, (h3 ad e j u hu).2⟩⟩
theorem StA.up {w : World} {A A' : Nat} {a : Option Addr} {n : Nat} {l : List SI} (h : StA w A a n l) (hA : A ≤ A') : StA w A' a n l :=
  ⟨h.len, fun hn => by
    obtain ⟨b, o, e, hlt, hc⟩ := h.cells hn
    exact ⟨b, o, e, by omega, hc⟩, fun s hs => by
    obtain ⟨r1, r2, r3, r4⟩ := h.rd s hs
    exact ⟨r1.up hA, r2.up hA, r3.up hA, r4⟩⟩
/-- A slice value reads as these numbers. -/
structure RtA (w : World) (A : Nat) (a : Option Addr) (m c : Nat) (l : List Int) : Prop where
  len : l.length = m
  nil : a = none → c = 0
  cells : 0 < m → ∃ b o, a = some ⟨b, o, none⟩ ∧ b < A ∧ ∀ (i : Nat) r, l[i]? = some r → w.cell? ⟨b, o + i, none⟩ = some (.int .i64 r)
theorem RtA.on {w w' : World} {A : Nat} {a : Option Addr} {m c : Nat} {l : List Int} (h : RtA w A a m c l) (hb : Below A w w') : RtA w' A a m c l :=
  ⟨h.len, h.nil, fun hm => by
    obtain ⟨b, o, e, hlt, hc⟩ := h.cells hm
    exact ⟨b, o, e, hlt, fun i r hi => by rw [hb.cell (p := ⟨b, o + i, none⟩) hlt]; exact hc i r hi⟩⟩
theorem RtA.up {w : World} {A A' : Nat} {a : Option Addr} {m c : Nat} {l : List Int} (h : RtA w A a m c l) (hA : A ≤ A') : RtA w A' a m c l :=
  ⟨h.len, h.nil, fun hm => by
    obtain ⟨b, o, e, hlt, hc⟩ := h.cells hm
    exact ⟨b, o, e, by omega, hc⟩⟩
theorem RtA.rd {w : World} {A : Nat} {a : Option Addr} {m c : Nat} {l : List Int} (h : RtA w A a m c l) : Rd w A (.slice a l.length c) l.length 1 (intsV l) := by
  have hl := h.len
  refine ⟨by rw [List.length_map, Nat.mul_one], a, c, rfl, fun e => ⟨?_, h.nil e⟩, fun ad e j u hu => ?_⟩
  · refine Nat.eq_zero_of_not_pos fun hp => ?_
    obtain ⟨b, o, e2, _⟩ := h.cells (by omega)
    rw [e] at e2
    cases e2
  · rw [List.getElem?_map] at hu
    cases hr : l[j]? with
    | none => rw [hr] at hu; cases hu
    | some r =>
      rw [hr] at hu
      have hj := (List.getElem?_eq_some_iff.1 hr).1
      obtain ⟨b, o, e2, hlt, hc⟩ := h.cells (by omega)
      rw [e] at e2
      injection e2 with e2
      subst e2
      have ea : (⟨b, o, none⟩ : Addr).add j = ⟨b, o + j, none⟩ := by
        unfold Addr.add; split <;> simp_all
      rw [ea]
      injection hu with hu
      subst hu
      exact ⟨hlt, hc j r hr⟩
theorem KS.start {A bb mb : Nat} {w : World} (har : ArAt w A A (.slice none 0 0) (.slice none 0 0) (.slice none 0 0) emptyD) (hbx : Box w bb 46 #[.pointer (some ⟨A, 0, none⟩), .pointer (some ⟨mb, 0, none⟩), .slice none 0 0]) (hmx : Box w mb 43 #[.slice none 0 0, .slice none 0 0, .slice none 0 0]) (h1 : A ≤ bb ∧ A ≤ mb) :
    KS A bb mb [] (.slice none 0 0) (.slice none 0 0) (.slice none 0 0) (.slice none 0 0) (.slice none 0 0) w :=
  ⟨har, (fun _ hp => nomatch hp), (fun _ hp => nomatch hp), hbx, hmx, .inl ⟨rfl, rfl⟩, ⟨rfl, .inl ⟨rfl, rfl⟩⟩, h1⟩
theorem KA.on {A bb n : Nat} {l : List Int} {d : AD} {to_ : Nat → List Int} {tab : Nat → List (Int × Int)} {en : Nat → Int} {c : Nat} {cv fv rv v1 lv : Value} {w w' : World} (h : KA A bb n l d to_ tab en c cv fv rv v1 lv w) (hb : Below w.heap.size w w') : KA A bb n l d to_ tab en c cv fv rv v1 lv w' :=
  ⟨h.sys.below hb, h.kd, h.rts, h.bx.below hb⟩
def BelK (w : World) (e : Ending) (w' : World) : Prop := e = .returned (.bool true) ∧ Below w.heap.size w w'
set_option maxHeartbeats 4000000 in
set_option maxRecDepth 100000 in
theorem keeps_law (a : Option Addr) (n c : Nat) (l : List SI) (ra : Option Addr) (m rc : Nat) (rs : List Int) (w : World) (hS : StA w w.heap.size a n l) (hR : RtA w w.heap.size ra m rc rs) :
    Calls Try.prog 4 #[.slice a n c, .slice ra m rc] w (BelK w) := by
  have HS := Veil.mk hS
  have HR := Veil.mk hR
  have HFT : Veil (∀ w, Calls Try.prog 8 #[] w fun e w' => e = .returned (.bool true) ∧ Below w.heap.size w w') := ⟨fit_any⟩
  clear hS hR
  go_enter Try.func4, Try.ntmps4
  go_upto_region 3 with (first | (go_at_call 8; ((with_reducible refine (HFT.out _).mono ?_); rintro e9 w2 ⟨rfl, hb2⟩)))
  have HLT := Veil.mk (light_any a n c l w2 ((HS.out.on hb2).up hb2.size))
  have HB2 := Veil.mk hb2
  clear hb2 HFT
  go_wp2_with (first | (go_at_call 15; ((with_reducible refine HLT.out.mono ?_); rintro e9 w3 ⟨v3, rfl, hb3, hv3⟩; refine Hid.out ?_)))
  have HB3 := Veil.mk (And.intro (HB2.out.trans (hb3.mono HB2.out.size)) hv3)
  clear hb3 hv3 HLT
  cases v3 with
  | false =>
    refine Lib.hid ?_
    go_wp2
    go_ret
    exact ⟨rfl, HB3.out.1⟩
  | true =>
    by_cases hbig : 100 < m
    · have hbig' : (100 : Int) < (m : Int) := by omega
      refine Lib.hid ?_
      go_wp2
      go_ret
      exact ⟨rfl, HB3.out.1⟩
    have hbig' : ¬ (100 : Int) < (m : Int) := by omega
    obtain ⟨hn200, hlens⟩ := HB3.out.2 rfl
    refine Lib.hid ?_
    go_upto_region 5 with (fail)
    have HB4 := Veil.mk HB3.out.1
    have HLN := Veil.mk hlens
    clear HB3 hlens
    obtain ⟨A, hA⟩ : ∃ A, w3.heap.size = A := ⟨_, rfl⟩
    have HAW : Veil (w.heap.size ≤ A) := ⟨by rw [← hA]; exact HB4.out.size⟩
    have HNW : Veil (Calls Try.prog 9 #[] w3 fun e w' => e = .returned (.pointer (some ⟨A, 0, none⟩)) ∧ Below A w3 w' ∧ A < w'.heap.size ∧ ArAt w' A A (.slice none 0 0) (.slice none 0 0) (.slice none 0 0) emptyD) := ⟨by
      rw [← hA]
      exact (new_any w3).mono fun e w' h => ⟨h.1, h.2.1, h.2.2.1, h.2.2.2⟩⟩
    clear hA
    go_upto_region 6 with (first | (go_at_call 9; ((with_reducible refine HNW.out.mono ?_); rintro e w4 ⟨rfl, hb4, hs4, ha4⟩)))
    obtain ⟨mb, hmb⟩ : ∃ mb, w4.heap.size = mb := ⟨_, rfl⟩
    obtain ⟨bb, hbb⟩ : ∃ bb, mb + 1 = bb := ⟨_, rfl⟩
    have bm := (Box.new w4 43 #[.slice none 0 0, .slice none 0 0, .slice none 0 0]).more (.cells #[.pointer (some ⟨A, 0, none⟩), .pointer (some ⟨w4.heap.size, 0, none⟩), .slice none 0 0] 46)
    have bx := Box.new (w4.alloc (.cells #[.slice none 0 0, .slice none 0 0, .slice none 0 0] 43)) 46 #[.pointer (some ⟨A, 0, none⟩), .pointer (some ⟨w4.heap.size, 0, none⟩), .slice none 0 0]
    have b5 : Below w4.heap.size w4 ((w4.alloc (.cells #[.slice none 0 0, .slice none 0 0, .slice none 0 0] 43)).alloc (.cells #[.pointer (some ⟨A, 0, none⟩), .pointer (some ⟨w4.heap.size, 0, none⟩), .slice none 0 0] 46)) := ((Below.refl _ _).alloc (Nat.le_refl _) _).alloc (by rw [World.size_alloc]; omega) _
    rw [World.size_alloc] at bx
    obtain ⟨W5, hW5⟩ : ∃ W5, ((w4.alloc (.cells #[.slice none 0 0, .slice none 0 0, .slice none 0 0] 43)).alloc (.cells #[.pointer (some ⟨A, 0, none⟩), .pointer (some ⟨w4.heap.size, 0, none⟩), .slice none 0 0] 46)) = W5 := ⟨_, rfl⟩
    have ha5 := ha4.on b5
    rw [hW5] at bm bx b5 ha5 ⊢
    have hb5 : Below A w3 W5 := hb4.trans (b5.mono (by omega))
    rw [hmb] at bm bx ⊢
    rw [hbb] at bx ⊢
    have HK := Veil.mk (And.intro (KS.start ha5 bx bm ⟨by omega, by omega⟩) (HB4.out.trans (hb5.mono HAW.out)))
    clear hW5 bm bx b5 ha5 ha4 hb4 hb5 hmb hbb hs4 HNW
    go_upto_region 7 with (fail)
    go_loopw [29] (fun iv wr => ∃ (k : Nat) (ps : List PI) (cv Lv lv : Value), k ≤ n ∧ iv = .int .i64 (k : Int) ∧ ps.length ≤ k ∧ KS A bb mb ps cv (.slice none 0 0) (.slice none 0 0) Lv lv wr ∧ Below w.heap.size w wr) (fun iv _ => n - (intOf iv).toNat)
    case atStart => exact ⟨0, [], _, _, _, Nat.zero_le _, rfl, Nat.le_refl _, HK.out.1, HK.out.2⟩
    case round =>
      obtain ⟨k, ps, cv, Lv, lv, hk, rfl, hpl, hks, hb⟩ := hrel
      have hk0 : (0 : Int) ≤ (k : Int) := by omega
      have hkb : (k : Int) ≤ 200 := by omega
      by_cases hlt : k < n
      · have hlt' : (k : Int) < (n : Int) := by omega
        obtain ⟨s, hs⟩ : ∃ s, l[k]? = some s := ⟨_, List.getElem?_eq_getElem (by rw [HS.out.len]; exact hlt)⟩
        obtain ⟨b, o, rfl, hbl, hc⟩ := (HS.out.on hb).cells (by omega)
        obtain ⟨c0, c1, c2, c3, c4⟩ := hc k s hs
        obtain ⟨r1, r2, r3, m1, m2, m3, hwf⟩ := (HS.out.on hb).rd s (List.mem_of_getElem? hs)
        obtain ⟨q1, q2, q3⟩ := HLN.out s (List.mem_of_getElem? hs)
        obtain ⟨_, a1, k1, e1, _⟩ := id r1
        obtain ⟨_, a2, k2, e2, _⟩ := id r2
        obtain ⟨_, a3, k3, e3, _⟩ := id r3
        have HD := Veil.mk (And.intro hks hb)
        have hB2 : Below wr.heap.size wr (wr.alloc (.cells #[.int .i64 s.k, s.s1, s.s2, s.s3, .int .i64 s.n] 48)) := (Below.refl _ _).alloc (Nat.le_refl _) _
        have HB5 := Veil.mk hB2
        have hAw := hks.ge
        by_cases h5 : s.k.tmod 5 = 0
        · have HPL := Veil.mk (play_any A bb mb ps cv (.slice none 0 0) (.slice none 0 0) Lv lv (by omega) s.L s.T s.G s.k s.n h5 s.s1 s.s2 s.s3 _ (hks.on hB2) ((r1.on (hB2.mono hb.size)).up HAW.out) ((r2.on (hB2.mono hb.size)).up HAW.out) ((r3.on (hB2.mono hb.size)).up HAW.out) q1 q2 q3 hwf)
          rw [e1, e2, e3] at HPL
          rw [e1] at c1
          rw [e2] at c2
          rw [e3] at c3
          obtain ⟨x1, hx1⟩ : ∃ x, s.L.length = x := ⟨_, rfl⟩
          obtain ⟨x2, hx2⟩ : ∃ x, s.T.length = x := ⟨_, rfl⟩
          obtain ⟨x3, hx3⟩ : ∃ x, s.G.length = x := ⟨_, rfl⟩
          obtain ⟨sk, hsk⟩ : ∃ x, s.k = x := ⟨_, rfl⟩
          obtain ⟨sn, hsn⟩ : ∃ x, s.n = x := ⟨_, rfl⟩
          rw [hx1] at c1 HPL
          rw [hx2] at c2 HPL
          rw [hx3] at c3 HPL
          rw [hsk] at c0 h5 HPL
          rw [hsn] at c4 HPL
          clear hks hb hc hs hbl r1 r2 r3 m1 m2 m3 hwf q1 q2 q3 e1 e2 e3 hx1 hx2 hx3 hsk hsn hB2 HB5 HK hAw
          go_wp2_with (first | (go_at_call 16; ((with_reducible refine HPL.out.mono ?_); rintro e9 w9 ⟨⟨v9, rfl⟩, hb9, p9, cv9, Lv9, lv9, hk9⟩)))
          have HE := Veil.mk (And.intro hk9 hb9)
          clear hk9 hb9 HPL
          go_round
          case rel => exact ⟨k + 1, ps ++ [p9], cv9, Lv9, lv9, by omega, by go_num, by rw [List.length_append, List.length_singleton]; omega, HE.out.1, (HD.out.2.alloc HD.out.2.size _).trans (HE.out.2.mono HAW.out)⟩
          case measure => simp [intOf]; omega
        · rw [e1] at c1
          rw [e2] at c2
          rw [e3] at c3
          obtain ⟨x1, hx1⟩ : ∃ x, s.L.length = x := ⟨_, rfl⟩
          obtain ⟨x2, hx2⟩ : ∃ x, s.T.length = x := ⟨_, rfl⟩
          obtain ⟨x3, hx3⟩ : ∃ x, s.G.length = x := ⟨_, rfl⟩
          obtain ⟨sk, hsk⟩ : ∃ x, s.k = x := ⟨_, rfl⟩
          obtain ⟨sn, hsn⟩ : ∃ x, s.n = x := ⟨_, rfl⟩
          rw [hx1] at c1
          rw [hx2] at c2
          rw [hx3] at c3
          rw [hsk] at c0 h5
          rw [hsn] at c4
          clear hks hb hc hs hbl r1 r2 r3 m1 m2 m3 hwf q1 q2 q3 e1 e2 e3 hx1 hx2 hx3 hsk hsn hB2 HB5 HK hAw
          go_wp2
          go_round
          case rel => exact ⟨k + 1, ps, cv, Lv, lv, by omega, by go_num, by omega, HD.out.1.on ((Below.refl _ _).alloc (Nat.le_refl _) _), HD.out.2.alloc HD.out.2.size _⟩
          case measure => simp [intOf]; omega
      · obtain rfl : k = n := by omega
        have hlt' : ¬ (k : Int) < (k : Int) := by omega
        obtain ⟨al, cl, rfl, -⟩ := slice_own hks.ll
        have bx0 := hks.bx.at_ 0
        have y0 : wr.cell? ⟨bb, 0, none⟩ = some (.pointer (some ⟨A, 0, none⟩)) := bx0
        obtain ⟨np, hnp⟩ : ∃ np, ps.length = np := ⟨_, rfl⟩
        have hnp2 : np ≤ 200 := by omega
        have hpu := ks_push hks A _ rs ((HR.out.on hb).up HAW.out).rd (by have := HR.out.len; omega)
        rw [hnp, HR.out.len] at hpu
        have HPU := Veil.mk hpu
        have HGT : Veil (∀ r : Int, 1 ≤ r → r ≤ (np : Int) → ((dN (ps.map PI.x) rs).get r).isSome = true) := ⟨fun r h1 h2 => get_dN.2 ⟨h1, by rw [List.length_map, hnp]; exact h2⟩⟩
        have HB6 := Veil.mk hb
        rw [hnp] at *
        clear hks hb hpu bx0 HK hnp
        go_upto_region 15 with (first | (go_at_call 11; ((with_reducible refine HPU.out.mono ?_); rintro e7 w7 ⟨rfl, hb7, cv7, fv7, rv7, hk7⟩; have HCO := Veil.mk (hk7.first (by omega) (by have := HR.out.len; omega) HGT.out))) | (go_at_call 12; ((with_reducible refine HCO.out.mono ?_); rintro e8 w8 ⟨⟨v8, rfl⟩, hb8, d8, tab8, en8, fv8, hk8, hg8, ha8⟩)))
        have HB8 := Veil.mk (HB6.out.trans ((hb7.trans (hb8)).mono HAW.out))
        have HK8 := Veil.mk (And.intro hk8 (And.intro hg8 ha8))
        clear hk7 hb7 hb8 hk8 hg8 ha8 HCO HPU HGT y0
        go_upto_region 16 with (fail)
        go_loopw [52] (fun iv wr => ∃ j : Nat, j ≤ m ∧ iv = .int .i64 (j : Int) ∧ KA A bb np rs d8 (toP ps) tab8 en8 1 cv7 fv8 rv7 (.pointer (some ⟨mb, 0, none⟩)) (.slice al np cl) wr ∧ Below w.heap.size w wr) (fun iv _ => m - (intOf iv).toNat)
        case atStart => exact ⟨0, Nat.zero_le _, rfl, HK8.out.1, HB8.out⟩
        case round =>
          obtain ⟨j, hj, rfl, hka, hb⟩ := hrel
          have hj0 : (0 : Int) ≤ (j : Int) := by omega
          have hjb : (j : Int) ≤ 100 := by omega
          have HD := Veil.mk (And.intro hka hb)
          by_cases hlt2 : j < m
          · have hlt2' : (j : Int) < (m : Int) := by omega
            obtain ⟨r, hr⟩ : ∃ r, rs[j]? = some r := ⟨_, List.getElem?_eq_getElem (by rw [HR.out.len]; exact hlt2)⟩
            obtain ⟨b, o, rfl, hbl, hc⟩ := (HR.out.on hb).cells (by omega)
            have z0 : wr.cell? ⟨b, o + j, none⟩ = some (.int .i64 r) := hc j r hr
            have z1 : wr.cell? ⟨bb, 2, none⟩ = some (.slice al np cl) := hka.bx.at_ 2
            by_cases h1 : 1 ≤ r
            · by_cases h2 : r ≤ (np : Int)
              · obtain ⟨nb, hnb⟩ := Option.isSome_iff_exists.1 (HK8.out.2.1 r (List.mem_of_getElem? hr) h1 h2)
                have hge := get_any A A cv7 fv8 rv7 d8 r wr hka.sys.ar
                rw [hnb] at hge
                have HGE := Veil.mk (show Calls Try.prog 17 #[.pointer (some ⟨A, 0, none⟩), .int .i64 r] wr fun e w' => e = .returned (nodeV nb) ∧ w' = wr from hge)
                clear hka hb hc hr hge hnb hbl
                go_wp2_with (first | (go_at_call 17; ((with_reducible refine HGE.out.mono ?_); rintro e9 w9 ⟨rfl, h9⟩; subst w9)))
                go_round
                case rel => exact ⟨j + 1, by omega, by go_num, HD.out.1, HD.out.2⟩
                case measure => simp [intOf]; omega
              · clear hka hb hc hr hbl
                go_wp2
                go_round
                case rel => exact ⟨j + 1, by omega, by go_num, HD.out.1, HD.out.2⟩
                case measure => simp [intOf]; omega
            · clear hka hb hc hr hbl
              go_wp2
              go_round
              case rel => exact ⟨j + 1, by omega, by go_num, HD.out.1, HD.out.2⟩
              case measure => simp [intOf]; omega
          · obtain rfl : j = m := by omega
            have hlt2' : ¬ (j : Int) < (j : Int) := by omega
            have HCT := Veil.mk (fun (w' : World) cv fv rv (h : ArAt w' A A cv fv rv d8) => count_any A A cv fv rv d8 w' h)
            have HSE := Veil.mk (hka.second (by omega) (by omega) (by have := HR.out.len; omega) HK8.out.2.2)
            obtain ⟨nc, hnc⟩ : ∃ nc : Int, (d8.count : Int) = nc := ⟨_, rfl⟩
            rw [hnc] at HCT
            have q0 : (nc != nc) = false := by simp
            clear hka hb hnc
            go_upto_region 24 with (first | (go_at_call 13; (first | ((with_reducible refine (HCT.out _ _ _ _ HK9.out).mono ?_); rintro e9 w9 ⟨rfl, h9⟩; subst w9) | ((with_reducible refine (HCT.out _ _ _ _ HD.out.1.sys.ar).mono ?_); rintro e9 w9 ⟨rfl, h9⟩; subst w9))) | (go_at_call 12; ((with_reducible refine HSE.out.mono ?_); rintro e8 w8 ⟨a8, c8, rfl, hb8, tab9, en9, fv9, hk9⟩; have HK9 := Veil.mk hk9.sys.ar)))
            have hpo := hk9.pop (by have := HR.out.len; omega)
            rw [HR.out.len] at hpo
            have HPO := Veil.mk hpo
            have HB9 := Veil.mk (HD.out.2.trans (hb8.mono HAW.out))
            clear hpo hk9 hb8 HK9 HSE HCT q0
            go_upto_region 26 with (first | (go_at_call 18; ((with_reducible refine HPO.out.mono ?_); rintro e5 w5 ⟨rfl, hb5, d5, cv5, fv5, rv5, hk5⟩; have HTH := Veil.mk (hk5.third (by omega) (by omega)))) | (go_at_call 12; ((with_reducible refine HTH.out.mono ?_); rintro e6 w6 ⟨⟨v6, rfl⟩, hb6, d6, fv6, ha6, hc6, hr6⟩)))
            have hct := count_any A A cv5 fv6 rv5 d6 w6 ha6
            have hdp := depth_any A A cv5 fv6 rv5 d6 w6 ha6
            rw [hc6] at hct
            rw [hr6] at hdp
            have HC := Veil.mk (show Calls Try.prog 13 #[.pointer (some ⟨A, 0, none⟩)] w6 fun e w' => e = .returned (.int .i64 0) ∧ w' = w6 from hct)
            have HP := Veil.mk (show Calls Try.prog 19 #[.pointer (some ⟨A, 0, none⟩)] w6 fun e w' => e = .returned (.int .i64 0) ∧ w' = w6 from hdp)
            have HB10 := Veil.mk (HB9.out.trans ((hb5.trans hb6).mono HAW.out))
            clear hct hdp hk5 hb5 hb6 ha6 hc6 hr6 HTH HPO
            go_wp2_with (first | (go_at_call 13; ((with_reducible refine HC.out.mono ?_); rintro e9 w9 ⟨rfl, h9⟩; subst w9)) | (go_at_call 19; ((with_reducible refine HP.out.mono ?_); rintro e9 w9 ⟨rfl, h9⟩; subst w9)))
            go_ret
            exact ⟨rfl, HB10.out⟩
end Go.Proofs.Ytkkbfadfgdjkdaa
namespace Go.Proofs.Ytkkbfadfgdjkdaa
open Go.ChangeMaps Go.ChangeShapes Go.WideShapes Go.ChangeAt Go.WideMaps Go.WideElems Go.RowKit Go.Deep
theorem cI : Try.prog.cellsOf 3 = 1 := by kernel_rfl
theorem cP : Try.prog.cellsOf 32 = 2 := by kernel_rfl
theorem cSI : Try.prog.cellsOf 22 = 1 := by kernel_rfl
theorem cSP : Try.prog.cellsOf 28 = 1 := by kernel_rfl
theorem cST : Try.prog.cellsOf 48 = 5 := by kernel_rfl
theorem bI : Try.prog.bytesOf 3 = 8 := by kernel_rfl
theorem bP : Try.prog.bytesOf 32 = 16 := by kernel_rfl
theorem flat2_get : ∀ (T : List (Int × Int)) (j : Nat) (u : Value), (flat2 T)[j]? = some u → ∃ i p, T[i]? = some p ∧ ((j = i * 2 ∧ u = .int .i64 p.1) ∨ (j = i * 2 + 1 ∧ u = .int .i64 p.2))
  | [], j, u, h => by simp [flat2] at h
  | q :: T, 0, u, h => ⟨0, q, rfl, .inl ⟨rfl, by
    have : Value.int .i64 q.1 = u := by simpa [flat2] using h
    exact this.symm⟩⟩
  | q :: T, 1, u, h => ⟨0, q, rfl, .inr ⟨rfl, by
    have : Value.int .i64 q.2 = u := by simpa [flat2] using h
    exact this.symm⟩⟩
  | q :: T, j + 2, u, h => by
    have e : flat2 (q :: T) = .int .i64 q.1 :: .int .i64 q.2 :: flat2 T := rfl
    rw [e, List.getElem?_cons_succ, List.getElem?_cons_succ] at h
    obtain ⟨i, p, h1, h2⟩ := flat2_get T j u h
    refine ⟨i + 1, p, by simpa using h1, h2.imp (fun ⟨e1, e2⟩ => ⟨by omega, e2⟩) (fun ⟨e1, e2⟩ => ⟨by omega, e2⟩)⟩
section
variable {H : Type} {enc : TypeId × Value → H}
theorem weightsAll_in {P : Program} {e : TypeId} : ∀ {l : List (DataW H)} {d : DataW H}, d ∈ l → ∀ n ∈ d.weights P e, n ∈ DataW.weightsAll P e l
  | d0 :: l, d, hd, n, hn => by
    simp only [DataW.weightsAll, List.mem_append]
    rcases List.mem_cons.1 hd with rfl | h
    · exact Or.inl hn
    · exact Or.inr (weightsAll_in h n hn)
theorem weight_head {P : Program} {t e : TypeId} {elems spare : List (DataW H)} (hu : P.underlying t = some (.slice e)) : (elems.length + spare.length) * P.bytesOf e ∈ (DataW.slice elems spare).weights P t := by simp [DataW.weights, hu]
theorem weight_elem {P : Program} {t e : TypeId} {elems spare : List (DataW H)} {d : DataW H} (hu : P.underlying t = some (.slice e)) (hd : d ∈ elems) : ∀ n ∈ d.weights P e, n ∈ (DataW.slice elems spare).weights P t := fun n hn => by
  simp only [DataW.weights, hu, List.mem_cons, List.mem_append]
  exact .inr (.inl (weightsAll_in hd n hn))
theorem weight_field {P : Program} {t t2 : TypeId} {fs : Array Field} {parts : List (DataW H)} {d : DataW H} (hu : P.underlying t = some (.struct fs)) (j : Nat) (ht : (fs.toList.map (·.type))[j]? = some t2) (hd : parts[j]? = some d) : ∀ n ∈ d.weights P t2, n ∈ (DataW.agg parts).weights P t := fun n hn => by
  simp only [DataW.weights, hu]
  exact DataW.weights_mem_each ht hd n hn
set_option maxRecDepth 100000 in
theorem ints_rd {W : World} {v : Value} {x : DataW H × List MemPlace} {fuel : Nat} (h : DataW.trod enc Try.prog W 0 (fun _ => true) true fuel 22 [v] = some x) (hw : ∀ n ∈ x.1.weights Try.prog 22, n ≤ reachBytes) :
    ∃ L : List Int, Rd W W.heap.size v L.length 1 (intsV L) ∧ L.length ≤ 1000000000000000 := by
  rcases open_slice Try.underlying22 h with ⟨hcs, hx⟩ | ⟨a, len, cap, m, k, D, Pl, hcs, _, hl, hm, hmm, hx, hcell⟩
  · have e : v = .slice none 0 0 := by simpa using hcs
    subst e
    exact ⟨[], ⟨rfl, none, 0, rfl, fun _ => ⟨rfl, rfl⟩, fun ad e => by cases e⟩, Nat.zero_le _⟩
  · have e : v = .slice (some a) len cap := by simpa using hcs
    subst e
    simp only [if_true] at hmm
    have each : ∀ i, i < len → ∃ x : Int, W.cell? (a.add i) = some (.int .i64 x) := fun i hi => by
      obtain ⟨cs, hc, ht⟩ := hcell i (by omega)
      rw [cI] at hc
      obtain ⟨_, hcl, hat⟩ := World.cells?_some hc
      match cs, hcl with
      | [c0], _ =>
        obtain ⟨n0, e0, -⟩ := DataW.trod_int Try.underlying3 ht
        cases e0
        have h0 := hat 0 (by omega)
        rw [Go.Deep.add_add] at h0
        exact ⟨n0, by simpa using h0⟩
    obtain ⟨f, hf⟩ : ∃ f : Nat → Int, ∀ i, i < len → W.cell? (a.add i) = some (.int .i64 (f i)) :=
      ⟨fun i => if h : i < len then (each i h).choose else 0, fun i h => by simp only [dif_pos h]; exact (each i h).choose_spec⟩
    have hlen : ((List.range len).map f).length = len := by simp
    rw [hx] at hw
    have hq := hw _ (weight_head Try.underlying22)
    rw [bI] at hq
    simp only [List.length_map, List.length_range] at hq
    refine ⟨(List.range len).map f, ?_, ?_⟩
    · rw [hlen]
      refine ⟨by rw [List.length_map, hlen, Nat.mul_one], some a, cap, rfl, fun e => (by cases e), fun ad e j u hu => ?_⟩
      injection e with e
      subst e
      have hj : j < len := by
        have := (List.getElem?_eq_some_iff.1 hu).1
        rw [List.length_map, hlen] at this
        exact this
      rw [List.getElem?_map, List.getElem?_map, List.getElem?_range hj] at hu
      injection hu with hu
      subst hu
      have h9 := hf j hj
      refine ⟨?_, h9⟩
      have h8 := World.block_lt_of_cell? W _ h9
      rwa [Addr.add_block] at h8
    · rw [hlen]
      unfold reachBytes at hq
      omega
set_option maxRecDepth 100000 in
theorem pairs_rd {W : World} {v : Value} {x : DataW H × List MemPlace} {fuel : Nat} (h : DataW.trod enc Try.prog W 0 (fun _ => true) true fuel 28 [v] = some x) (hw : ∀ n ∈ x.1.weights Try.prog 28, n ≤ reachBytes) :
    ∃ T : List (Int × Int), Rd W W.heap.size v T.length 2 (flat2 T) ∧ T.length ≤ 1000000000000000 ∧ ∀ q ∈ T, -9223372036854775808 ≤ q.2 ∧ q.2 ≤ 9223372036854775807 := by
  rcases open_slice Try.underlying28 h with ⟨hcs, hx⟩ | ⟨a, len, cap, m, k, D, Pl, hcs, _, hl, hm, hmm, hx, hcell⟩
  · have e : v = .slice none 0 0 := by simpa using hcs
    subst e
    exact ⟨[], ⟨rfl, none, 0, rfl, fun _ => ⟨rfl, rfl⟩, fun ad e => by cases e⟩, Nat.zero_le _, fun q hq => nomatch hq⟩
  · have e : v = .slice (some a) len cap := by simpa using hcs
    subst e
    simp only [if_true] at hmm
    have each : ∀ i, i < len → ∃ x : Int × Int, W.cell? (a.add (i * 2)) = some (.int .i64 x.1) ∧ W.cell? (a.add (i * 2 + 1)) = some (.int .i64 x.2) ∧ -9223372036854775808 ≤ x.2 ∧ x.2 ≤ 9223372036854775807 := fun i hi => by
      obtain ⟨cs, hc, ht⟩ := hcell i (by omega)
      rw [cP] at hc
      obtain ⟨_, hcl, hat⟩ := World.cells?_some hc
      obtain ⟨xs, k2, _, _, _, hxl, hg⟩ := DataW.trod_array Try.underlying32 ht
      match cs, hcl with
      | [c0, c1], _ =>
        have g0 := hg 0 (by omega)
        have g1 := hg 1 (by omega)
        rw [cI] at g0 g1
        have h0 := hat 0 (by omega)
        have h1 := hat 1 (by omega)
        rw [Go.Deep.add_add] at h0 h1
        match xs, hxl with
        | [x0, x1], _ =>
          obtain ⟨n0, e0, -⟩ := DataW.trod_int Try.underlying3 (by simpa using g0)
          obtain ⟨n1, e1, -, hwf⟩ := DataW.trod_int Try.underlying3 (by simpa using g1)
          cases e0; cases e1
          refine ⟨(n0, n1), by simpa using h0, by simpa using h1, ?_⟩
          have e : IntKind.i64.min = -9223372036854775808 := by decide
          have hq : IntKind.i64.min ≤ n1 ∧ n1 ≤ 9223372036854775807 := by simpa [Lit.wf] using hwf
          rw [e] at hq
          exact hq
    obtain ⟨f, hf⟩ : ∃ f : Nat → Int × Int, ∀ i, i < len → W.cell? (a.add (i * 2)) = some (.int .i64 (f i).1) ∧ W.cell? (a.add (i * 2 + 1)) = some (.int .i64 (f i).2) ∧ -9223372036854775808 ≤ (f i).2 ∧ (f i).2 ≤ 9223372036854775807 :=
      ⟨fun i => if h : i < len then (each i h).choose else (0, 0), fun i h => by simp only [dif_pos h]; exact (each i h).choose_spec⟩
    have hlen : ((List.range len).map f).length = len := by simp
    rw [hx] at hw
    have hq := hw _ (weight_head Try.underlying28)
    rw [bP] at hq
    simp only [List.length_map, List.length_range] at hq
    refine ⟨(List.range len).map f, ?_, ?_, fun q hq2 => ?_⟩
    · rw [hlen]
      refine ⟨by rw [flat2_len, hlen], some a, cap, rfl, fun e => (by cases e), fun ad e j u hu => ?_⟩
      injection e with e
      subst e
      obtain ⟨i, p, h1, h2⟩ := flat2_get _ j u hu
      have hi : i < len := by
        have := (List.getElem?_eq_some_iff.1 h1).1
        rw [hlen] at this
        exact this
      rw [List.getElem?_map, List.getElem?_range hi] at h1
      injection h1 with h1
      subst h1
      obtain ⟨k0, k1, _⟩ := hf i hi
      rcases h2 with ⟨rfl, rfl⟩ | ⟨rfl, rfl⟩
      · refine ⟨?_, k0⟩
        have h8 := World.block_lt_of_cell? W _ k0
        rwa [Addr.add_block] at h8
      · refine ⟨?_, k1⟩
        have h8 := World.block_lt_of_cell? W _ k1
        rwa [Addr.add_block] at h8
    · rw [hlen]
      unfold reachBytes at hq
      omega
    · obtain ⟨i, hi, rfl⟩ := List.mem_map.1 hq2
      exact (hf i (List.mem_range.1 hi)).2.2
set_option maxRecDepth 100000 in
theorem rts_open {WW : World} {v : Value} {d : DataW H} {ps : List MemPlace} (hval : Value.okWide Try.prog WW .any 0 22 v) (h : DataW.Trod enc Try.prog WW 0 (fun _ => true) true 22 v d ps) :
    ∃ (a : Option Addr) (n ca : Nat) (l : List Int), v = .slice a n ca ∧ RtA WW WW.heap.size a n ca l := by
  obtain ⟨a0, len0, cap0, rfl⟩ := okWide_slice Try.underlying22 hval
  obtain ⟨fuel, hf⟩ := h
  have hf : DataW.trod enc Try.prog WW 0 (fun _ => true) true fuel 22 [.slice a0 len0 cap0] = some (d, ps) := by simpa [Value.cells] using hf
  rcases open_ints Try.underlying22 Try.underlying3 cI hf with ⟨hcs, hx⟩ | ⟨a, len, cap, zs, hcs, _, hl, hm, hz, hx, hcell, hwz⟩
  · have e : Value.slice a0 len0 cap0 = .slice none 0 0 := by simpa using hcs
    exact ⟨none, 0, 0, [], e, rfl, fun _ => rfl, fun h0 => absurd h0 (by omega)⟩
  · have e : Value.slice a0 len0 cap0 = .slice (some a) len cap := by simpa using hcs
    simp only [if_true] at hz
    refine ⟨some a, len, cap, zs.take len, e, by rw [List.length_take]; omega, fun e => (by cases e), fun h0 => ?_⟩
    have h00 := hcell 0 (by omega)
    obtain ⟨b, off, spot⟩ := a
    have hspot : spot = none := by simpa [Addr.add] using World.cell?_spot h00
    subst hspot
    have hlt := World.block_lt_of_cell? WW _ h00
    refine ⟨b, off, rfl, by simpa [Addr.add] using hlt, fun i r hi => ?_⟩
    have hil : i < (zs.take len).length := (List.getElem?_eq_some_iff.1 hi).1
    rw [List.length_take] at hil
    have hci := hcell i (by omega)
    have hzi : zs.getD i 0 = r := by
      rw [List.getElem?_take, if_pos (by omega)] at hi
      simp [List.getD, hi]
    rw [hzi] at hci
    have ea : (⟨b, off, none⟩ : Addr).add i = ⟨b, off + i, none⟩ := by
      unfold Addr.add; split <;> simp_all
    rw [ea] at hci
    exact hci
set_option maxHeartbeats 1000000 in
set_option maxRecDepth 100000 in
theorem steps_open {W : World} {v : Value} {d : DataW H} {ps : List MemPlace} (hval : Value.okWide Try.prog W .any 0 37 v) (h : DataW.Trod enc Try.prog W 0 (fun _ => true) true 37 v d ps) (hw : ∀ n ∈ d.weights Try.prog 37, n ≤ reachBytes) :
    ∃ (a : Option Addr) (n ca : Nat) (l : List SI), v = .slice a n ca ∧ StA W W.heap.size a n l := by
  obtain ⟨a0, len, cap, rfl⟩ := okWide_slice Try.underlying37 hval
  obtain ⟨fuel, hf⟩ := h
  rcases open_slice Try.underlying37 hf with ⟨hcs, hx⟩ | ⟨a, len', cap', m, k, D, Pl, hcs, _, hl, hm, hmm, hx, hcell⟩
  · simp [Value.cells] at hcs
    obtain ⟨rfl, rfl, rfl⟩ := hcs
    exact ⟨none, 0, 0, [], rfl, rfl, fun h0 => absurd h0 (by omega), fun s hs => nomatch hs⟩
  · simp [Value.cells] at hcs
    obtain ⟨rfl, rfl, rfl⟩ := hcs
    simp only [if_true] at hmm
    injection hx with hx1 hx2
    subst hx1
    have each : ∀ i, i < len → ∃ s : SI, (W.cell? (a.add (i * 5)) = some (.int .i64 s.k) ∧ W.cell? (a.add (i * 5 + 1)) = some s.s1 ∧ W.cell? (a.add (i * 5 + 2)) = some s.s2 ∧ W.cell? (a.add (i * 5 + 3)) = some s.s3 ∧ W.cell? (a.add (i * 5 + 4)) = some (.int .i64 s.n)) ∧ (Rd W W.heap.size s.s1 s.L.length 1 (intsV s.L) ∧ Rd W W.heap.size s.s2 s.T.length 2 (flat2 s.T) ∧ Rd W W.heap.size s.s3 s.G.length 1 (intsV s.G) ∧ s.L.length ≤ 1000000000000000 ∧ s.T.length ≤ 1000000000000000 ∧ s.G.length ≤ 1000000000000000 ∧ ∀ q ∈ s.T, -9223372036854775808 ≤ q.2 ∧ q.2 ≤ 9223372036854775807) := by
      intro i hi
      obtain ⟨cs, hc, ht⟩ := hcell i (by omega)
      rw [cST] at hc
      obtain ⟨_, hcl, hat⟩ := World.cells?_some hc
      obtain ⟨xs, k2, _, hDi, _, hxl, hg⟩ := DataW.trod_struct Try.underlying48 ht
      have hwi : ∀ n ∈ (D i).weights Try.prog 48, n ≤ reachBytes := fun n hn => hw n (weight_elem Try.underlying37 (List.mem_map.2 ⟨i, List.mem_range.2 hi, rfl⟩) n hn)
      injection hDi with hD1 hD2
      rw [hD1] at hwi
      match cs, hcl with
      | [c0, c1, c2, c3, c4], _ =>
        match xs, hxl with
        | [x0, x1, x2, x3, x4], _ =>
          have g0 : DataW.trod enc Try.prog W 0 (fun _ => true) true k2 3 (([c0, c1, c2, c3, c4].drop 0).take (Try.prog.cellsOf 3)) = some x0 := hg 0 _ rfl
          have g1 : DataW.trod enc Try.prog W 0 (fun _ => true) true k2 22 (([c0, c1, c2, c3, c4].drop 1).take (Try.prog.cellsOf 22)) = some x1 := hg 1 _ rfl
          have g2 : DataW.trod enc Try.prog W 0 (fun _ => true) true k2 28 (([c0, c1, c2, c3, c4].drop 2).take (Try.prog.cellsOf 28)) = some x2 := hg 2 _ rfl
          have g3 : DataW.trod enc Try.prog W 0 (fun _ => true) true k2 22 (([c0, c1, c2, c3, c4].drop 3).take (Try.prog.cellsOf 22)) = some x3 := hg 3 _ rfl
          have g4 : DataW.trod enc Try.prog W 0 (fun _ => true) true k2 3 (([c0, c1, c2, c3, c4].drop 4).take (Try.prog.cellsOf 3)) = some x4 := hg 4 _ rfl
          rw [cI] at g0 g4
          rw [cSI] at g1 g3
          rw [cSP] at g2
          have h0 := hat 0 (by omega)
          have h1 := hat 1 (by omega)
          have h2 := hat 2 (by omega)
          have h3 := hat 3 (by omega)
          have h4 := hat 4 (by omega)
          rw [Go.Deep.add_add] at h0 h1 h2 h3 h4
          obtain ⟨n0, e0, -⟩ := DataW.trod_int Try.underlying3 (by simpa using g0)
          obtain ⟨n4, e4, -⟩ := DataW.trod_int Try.underlying3 (by simpa using g4)
          cases e0; cases e4
          obtain ⟨L, hL, hL2⟩ := ints_rd (v := c1) (x := x1) (fuel := k2) (enc := enc) (W := W) (by simpa using g1) (fun n hn => hwi n (weight_field Try.underlying48 1 rfl rfl n hn))
          obtain ⟨T, hT, hT2, hT3⟩ := pairs_rd (v := c2) (x := x2) (fuel := k2) (enc := enc) (W := W) (by simpa using g2) (fun n hn => hwi n (weight_field Try.underlying48 2 rfl rfl n hn))
          obtain ⟨G, hG, hG2⟩ := ints_rd (v := c3) (x := x3) (fuel := k2) (enc := enc) (W := W) (by simpa using g3) (fun n hn => hwi n (weight_field Try.underlying48 3 rfl rfl n hn))
          exact ⟨⟨n0, c1, c2, c3, L, T, G, n4⟩, ⟨by simpa using h0, by simpa using h1, by simpa using h2, by simpa using h3, by simpa using h4⟩, hL, hT, hG, hL2, hT2, hG2, hT3⟩
    obtain ⟨f, hf⟩ := Classical.axiomOfChoice (r := fun (i : {i // i < len}) (s : SI) => (W.cell? (a.add (i.1 * 5)) = some (.int .i64 s.k) ∧ W.cell? (a.add (i.1 * 5 + 1)) = some s.s1 ∧ W.cell? (a.add (i.1 * 5 + 2)) = some s.s2 ∧ W.cell? (a.add (i.1 * 5 + 3)) = some s.s3 ∧ W.cell? (a.add (i.1 * 5 + 4)) = some (.int .i64 s.n)) ∧ (Rd W W.heap.size s.s1 s.L.length 1 (intsV s.L) ∧ Rd W W.heap.size s.s2 s.T.length 2 (flat2 s.T) ∧ Rd W W.heap.size s.s3 s.G.length 1 (intsV s.G) ∧ s.L.length ≤ 1000000000000000 ∧ s.T.length ≤ 1000000000000000 ∧ s.G.length ≤ 1000000000000000 ∧ ∀ q ∈ s.T, -9223372036854775808 ≤ q.2 ∧ q.2 ≤ 9223372036854775807)) (fun i => each i.1 i.2)
    obtain ⟨g, hg⟩ : ∃ g : Nat → SI, ∀ i (h : i < len), g i = f ⟨i, h⟩ := ⟨fun i => if h : i < len then f ⟨i, h⟩ else ⟨0, undef, undef, undef, [], [], [], 0⟩, fun i h => dif_pos h⟩
    refine ⟨some a, len, cap, (List.range len).map g, rfl, by simp, fun h0 => ?_, fun s hs => ?_⟩
    · have h00 := (hf ⟨0, h0⟩).1.1
      obtain ⟨b, off, spot⟩ := a
      have hspot : spot = none := by simpa [Addr.add] using World.cell?_spot h00
      subst hspot
      have hlt := World.block_lt_of_cell? W _ h00
      refine ⟨b, off, rfl, by simpa [Addr.add] using hlt, fun i s hi => ?_⟩
      have hil : i < len := by
        have := (List.getElem?_eq_some_iff.1 hi).1
        simpa using this
      rw [List.getElem?_map, List.getElem?_range hil] at hi
      injection hi with hi
      rw [hg i hil] at hi
      subst hi
      have ha : ∀ k, (⟨b, off, none⟩ : Addr).add k = ⟨b, off + k, none⟩ := fun k => by
        unfold Addr.add; split <;> simp_all
      have := (hf ⟨i, hil⟩).1
      rw [ha, ha, ha, ha, ha] at this
      exact this
    · obtain ⟨i, hi, rfl⟩ := List.mem_map.1 hs
      have hil := List.mem_range.1 hi
      rw [hg i hil]
      exact (hf ⟨i, hil⟩).2
end
section
set_option maxRecDepth 100000 in
theorem arenaKeeps_lifted (os : Os) (started : os.Started) (H : Type) (enc : TypeId × Value → H) :
    ReturnsInHanded {} Try.checked os 4 .any (Rows.arenaKeepsSpec.pre6 enc Try.prog Try.f4 Rows.arenaKeepsRow.domain false) (Rows.arenaKeepsSpec.post enc Try.prog Try.f4 false true false false) := by
  refine returnsInHanded_of_change_sized (C := Try.checked) own started (by kernel_rfl) Try.func4
    (ChangeSpec.witness6 (enc := enc) (C := Try.checked) false ⟨#[], #[.slice none 0 0, .slice none 0 0], []⟩ 8 (by kernel_rfl) (by kernel_rfl) (by kernel_rfl) (by kernel_rfl)) ?_
  intro W base args ds gs before hval0 hW _ hsz0 _
  have hsz : (DataW.weightsEach Try.prog (Try.f4.params.toList ++ Rows.arenaKeepsSpec.plain.varTypes Try.prog) (ds ++ gs)).all (· ≤ reachBytes) = true := hsz0
  clear hsz0
  have hval : ∀ (j : Nat) t v, Try.f4.params[j]? = some t → args[j]? = some v → Value.okWide Try.prog W .any base t v := hval0
  have hW' := hW
  obtain ⟨p, q, hA0, hV, rfl, hfz, hnd⟩ := hW
  have hA : DataW.TrodAll enc Try.prog W 0 (fun _ => true) true Try.f4.params.toList args.toList ds p := hA0
  rw [Try.params4] at hA hval hsz
  obtain ⟨v0, vs0, d0, ds0, p0, q0, hargs, rfl, rfl, h0, r0⟩ := trodAll_cons hA
  obtain ⟨v1, vs1, d1, ds1, p1, q1, rfl, rfl, rfl, h1, r1⟩ := trodAll_cons r0
  obtain ⟨rfl, rfl, rfl⟩ := trodAll_nil r1
  obtain rfl : args = #[v0, v1] := by cases args; simp_all
  obtain ⟨rfl, rfl⟩ := trodVars_none hV
  clear hA0 hval0
  simp only [List.append_nil] at hW' hsz
  obtain ⟨a, n, ca, l, rfl, hS⟩ := steps_open (hval 0 37 v0 rfl rfl) h0 (fun n hn => of_decide_eq_true (List.all_eq_true.1 hsz n (DataW.weights_mem_each (j := 0) rfl rfl n hn)))
  obtain ⟨ra, m, rc, rs, rfl, hR⟩ := rts_open (hval 1 22 v1 rfl rfl) h1
  refine (keeps_law a n ca l ra m rc rs W hS hR).mono fun e W' ⟨he, hg⟩ => ?_
  subst he
  exact ⟨_, rfl, law_post hW' hg rfl rfl rfl (by kernel_rfl)⟩

/-- For every input ArenaKeeps returns true. -/
theorem arenaKeeps_holds : Rows.ArenaKeepsSaid :=
  OpenClaim.holds_of_wide 4 Try.f4 rfl rfl rfl rfl rfl rfl rfl ⟨rfl, rfl, rfl, rfl, rfl⟩ rfl rfl rfl rfl rfl (by kernel_rfl) Try.func4 (by kernel_rfl)
    (of_decide_eq_true (by kernel_rfl)) (by unfold Func.isWrapper; first | (rw [if_pos (by decide +kernel)]; kernel_rfl) | (rw [if_neg (by decide +kernel)]; exact ⟨rfl, rfl⟩))
    (fun os started H enc _ => arenaKeeps_lifted os started H enc)
#print axioms arenaKeeps_holds
end
end Go.Proofs.Ytkkbfadfgdjkdaa
