/- OtableRuns: the law's walk. -/
import Derived.Test.YthlhchaapdhbfaaHc
namespace Go.Proofs.Ythlhchaapdhbfaa
open Go Go.RowKit

/-- What the loop over the calls keeps. -/
def RunsR (w : World) (gb t gm n : Nat) (i : Value) (wr : World) : Prop := ∃ (p : Nat) (F : Nat → Prop) (O : Ob) (l : List Re) (cl : Int) (vl vc vd : Value) (cs : List Cu), p ≤ n ∧ i = .int .i64 (p : Int) ∧ BS wr w.heap.size gb t gm F O l cl vl vc vd cs ∧ Dn cs ∧ cs.length ≤ 40 ∧ l.length ≤ p ∧ 0 ≤ cl ∧ cl ≤ p ∧ Below w.heap.size w wr
/-- A pair newly made. -/
theorem bs_new {w3 : World} {B t : Nat} {F : Nat → Prop} (hT : Tf B t F ([], []) w3) :
    BS ((w3.alloc (.cells #[noRow, .int .i64 0] 70)).alloc (.cells #[.pointer (some ⟨t, 0, none⟩), .pointer (some ⟨w3.heap.size, 0, none⟩), noRow, noRow] 74)) B (w3.heap.size + 1) t w3.heap.size F ([], []) [] 0 noRow noRow noRow [] := by
  have hs := hT.le
  have h1 : Below w3.heap.size w3 (w3.alloc (.cells #[noRow, .int .i64 0] 70)) := (Below.refl _ _).alloc (Nat.le_refl _) _
  have hx := Box.new (w3.alloc (.cells #[noRow, .int .i64 0] 70)) 74 #[.pointer (some ⟨t, 0, none⟩), .pointer (some ⟨w3.heap.size, 0, none⟩), noRow, noRow]
  rw [World.size_alloc] at hx
  have h2 : Below (w3.alloc (.cells #[noRow, .int .i64 0] 70)).heap.size (w3.alloc (.cells #[noRow, .int .i64 0] 70)) ((w3.alloc (.cells #[noRow, .int .i64 0] 70)).alloc (.cells #[.pointer (some ⟨t, 0, none⟩), .pointer (some ⟨w3.heap.size, 0, none⟩), noRow, noRow] 74)) := (Below.refl _ _).alloc (Nat.le_refl _) _
  have hy : Box (w3.alloc (.cells #[noRow, .int .i64 0] 70)) w3.heap.size 70 #[noRow, .int .i64 0] := Box.new _ _ _
  have hyy := hy.more (.cells #[.pointer (some ⟨t, 0, none⟩), .pointer (some ⟨w3.heap.size, 0, none⟩), noRow, noRow] 74)
  have hTT := (hT.on h1).on h2
  generalize (w3.alloc (.cells #[noRow, .int .i64 0] 70)).alloc (.cells #[.pointer (some ⟨t, 0, none⟩), .pointer (some ⟨w3.heap.size, 0, none⟩), noRow, noRow] 74) = W at hx hyy hTT ⊢
  have no : ∀ k, noRow.ownBlock = some k → False := fun k hk => by cases hk
  refine ⟨hx, hTT, ⟨hyy, nil_own _ _ _ _, hs⟩, ⟨nil_own _ _ _ _, nil_own _ _ _ _, ?_, ?_, fun k hk => (no k hk).elim⟩, rfl, List.Perm.nil, by omega, ?_, ?_, ?_⟩
  · intro x hx
    cases hx
  · intro x hx
    cases hx
  · intro i j x y h1
    simp at h1
  · intro x hx
    cases hx
  · intro x hx
    cases hx
set_option maxHeartbeats 2000000 in
set_option maxRecDepth 100000 in
theorem runs_any (a : Option Addr) (n cap : Nat) (L : List CallD) (w : World) (h : CallsAt w a n L) :
    Calls Try.prog 8 #[.slice a n cap] w fun e w' => e = .returned (.bool true) ∧ Below w.heap.size w w' := by
  have HN := Veil.mk h.1
  have HC := Veil.mk h
  have HF := Veil.mk fit_any
  obtain ⟨r, hr⟩ : ∃ r, decide (Light L) = r := ⟨_, rfl⟩
  have HL : Veil (∀ w', Below w.heap.size w w' → Calls Try.prog 33 #[.slice a n cap] w' fun e w2 => e = .returned (.bool r) ∧ Below w'.heap.size w' w2) := ⟨fun w' hb => by
    have := light_any a n cap L w' (h.on hb)
    rw [hr] at this
    exact this⟩
  have HR := Veil.mk hr
  clear h hr
  go_enter Try.func8, Try.ntmps8
  go_upto_region 3 with (first | (go_at_call 32; ((with_reducible refine (HF.out _).mono ?_); rintro e w1 ⟨rfl, hb1⟩)))
  have HB1 := Veil.mk hb1
  clear hb1
  cases r with
  | false =>
    go_wp2_with (first | (go_at_call 33; ((with_reducible refine (HL.out _ HB1.out).mono ?_); rintro e w2 ⟨rfl, hb2⟩)))
    go_ret
    exact ⟨rfl, HB1.out.trans (hb2.mono HB1.out.size)⟩
  | true =>
    have HLL : Veil (Light L) := ⟨of_decide_eq_true HR.out⟩
    have HN4 : Veil (n ≤ 400) := ⟨by have := HLL.out.1; rw [HN.out] at this; exact this⟩
    go_upto_region 5 with (first | (go_at_call 33; ((with_reducible refine (HL.out _ HB1.out).mono ?_); rintro e w2 ⟨rfl, hb2⟩)))
    have hb12 : Below w.heap.size w w2 := HB1.out.trans (hb2.mono HB1.out.size)
    have hs12 := hb12.size
    have HB2 := Veil.mk hb12
    clear hb2 hb12
    go_upto_region 6 with (first | (go_at_call 34; ((with_reducible refine (new_tf (B := w.heap.size) hs12).mono ?_); rintro e w3 ⟨rfl, hTf, hb3⟩)))
    have hb13 : Below w.heap.size w w3 := HB2.out.trans (hb3.mono hs12)
    have hBS := bs_new hTf
    have hbW : Below w.heap.size w ((w3.alloc (.cells #[noRow, .int .i64 0] 70)).alloc (.cells #[.pointer (some ⟨w2.heap.size, 0, none⟩), .pointer (some ⟨w3.heap.size, 0, none⟩), noRow, noRow] 74)) := hb13.trans ((((Below.refl w3.heap.size w3).alloc (Nat.le_refl _) _).alloc (by simp) _).mono hb13.size)
    generalize (w3.alloc (.cells #[noRow, .int .i64 0] 70)).alloc (.cells #[.pointer (some ⟨w2.heap.size, 0, none⟩), .pointer (some ⟨w3.heap.size, 0, none⟩), noRow, noRow] 74) = W at hBS hbW ⊢
    obtain ⟨gb, hgb⟩ : ∃ g, w3.heap.size + 1 = g := ⟨_, rfl⟩
    rw [hgb] at hBS ⊢
    clear hgb
    obtain ⟨gm, hgm⟩ : ∃ g, w3.heap.size = g := ⟨_, rfl⟩
    rw [hgm] at hBS
    obtain ⟨t, ht⟩ : ∃ g, w2.heap.size = g := ⟨_, rfl⟩
    rw [ht] at hBS
    have HBS := Veil.mk hBS
    have HBW := Veil.mk hbW
    clear hTf hb3 hb13 hBS hbW hgm ht hs12
    generalize (fun k => k = w2.heap.size) = F0 at HBS
    go_wp2
    go_loopw [18] (fun i wr => RunsR w gb t gm n i wr) (fun i _ => n - (intOf i).toNat)
    case atStart => exact ⟨0, _, _, [], 0, _, _, _, [], Nat.zero_le _, rfl, HBS.out, List.nodup_nil, by simp, by simp, Int.le_refl _, Int.le_refl _, HBW.out⟩
    case round =>
      obtain ⟨p, F, O, l, cl, vl, vc, vd, cs, hp, rfl, hB, hdn, h40, hl, hc0, hc1, hb⟩ := hrel
      by_cases hlt : p < n
      · have hlt' : (p : Int) < (n : Int) := by omega
        have hp0 : (0 : Int) ≤ (p : Int) := by omega
        obtain ⟨b, o, rfl, hbl, hc⟩ := HC.out.2 (by omega)
        obtain ⟨c, hcp⟩ : ∃ c, L[p]? = some c := ⟨_, List.getElem?_eq_getElem (by rw [HN.out]; exact hlt)⟩
        have hca := (hc p c hcp).on hb hbl
        obtain ⟨c0, c1, c2, c3, c4, c5, hltc, hnum⟩ := hca
        have hlen := HLL.out.2 c (List.mem_of_getElem? hcp)
        have HB := Veil.mk hb
        have hBB := HN4.out
        have HNU := Veil.mk hnum
        have HLT := Veil.mk hltc
        have HX := Veil.mk hB
        clear hc hcp hb hnum hltc hB
        go_upto_region 9 with (fail)
        have bx := Box.new wr 79 (callC c)
        have lx : Below wr.heap.size wr (wr.alloc (.cells (callC c) 79)) := (Below.refl _ _).alloc (Nat.le_refl _) _
        have hBA := HX.out.on lx
        have hnA := HNU.out.on lx
        have hbA := HB.out.trans (lx.mono HB.out.size)
        generalize wr.alloc (.cells (callC c) 79) = A at bx hBA hnA hbA ⊢
        obtain ⟨gx, hgx⟩ : ∃ g, wr.heap.size = g := ⟨_, rfl⟩
        rw [hgx] at bx ⊢
        have x0 : A.cell? ⟨gx, 0, none⟩ = some (.int .i64 c.kind) := bx.at_ 0
        have x1 : A.cell? ⟨gx, 1, none⟩ = some (.int .i64 c.kk) := bx.at_ 1
        have x2 : A.cell? ⟨gx, 2, none⟩ = some (.int .i64 c.kn) := bx.at_ 2
        have x3 : A.cell? ⟨gx, 3, none⟩ = some (.slice c.a c.len c.cap) := bx.at_ 3
        have x4 : A.cell? ⟨gx, 4, none⟩ = some (.int .i64 c.val) := bx.at_ 4
        have x5 : A.cell? ⟨gx, 5, none⟩ = some (.int .i64 c.n) := bx.at_ 5
        have HPL := Veil.mk (play_any w.heap.size gb t gm F O l cl vl vc vd cs hdn (by omega) (by omega) hc0 (by omega) c hlen HLT.out A hnA hBA)
        have HBA := Veil.mk hbA
        clear c0 c1 c2 c3 c4 c5 bx lx hBA hnA hbA hgx
        go_wp2_with (first | (go_at_call 35; ((with_reducible refine HPL.out.mono ?_); rintro e w5 ⟨rfl, F5, O5, l5, cl5, vl5, vc5, vd5, cs5, hB5, hdn5, hl5, hll5, hc5, hcc5, hb5⟩; have HB5 := Veil.mk hB5; have HD5 := Veil.mk hdn5; have HBB5 := Veil.mk hb5; clear hB5 hdn5 hb5)))
        go_roundw
        case rel => exact ⟨p + 1, F5, O5, l5, cl5, vl5, vc5, vd5, cs5, by omega, by go_num, HB5.out, HD5.out, by omega, by omega, by omega, by omega, HBA.out.trans HBB5.out⟩
        case measure => simp [intOf]; omega
      · have hlt' : ¬ (p : Int) < (n : Int) := by omega
        have HB := Veil.mk hb
        clear hb hB
        go_wp2
        go_ret
        exact ⟨rfl, HB.out⟩
end Go.Proofs.Ythlhchaapdhbfaa
