/- A seed's value is a value as one may be. -/
import Derived.Test.YthlhchaapdhbfaaFw
namespace Go.Proofs.Ythlhchaapdhbfaa
open Go.RowKit

namespace M
def Num (k n : Int) : Prop := k = 4 ∧ n = 0 ∨ k = 5 ∧ n = 1 ∨ k = 5 ∧ n = -1 ∨ k = 6 ∧ n = 0 ∨ k = 3 ∧ -9007199254740991 ≤ n ∧ n ≤ 9007199254740991
end M
/-- A value as one may be. -/
def WV (k n : Int) (s : ByteArray) : Prop :=
  (k = 0 ∨ k = 1 ∨ k = 10) ∧ n = 0 ∧ s = W.e0 ∨ k = 2 ∧ (n = 0 ∨ n = 1) ∧ s = W.e0 ∨ M.Num k n ∧ s = W.e0 ∨
  k = 7 ∧ n = 0 ∧ (∃ l : List Nat, (∀ u ∈ l, u < 65536) ∧ l.length ≤ 100 ∧ s = ⟨(l.flatMap W.u2).toArray⟩) ∨ (k = 8 ∨ k = 9) ∧ 1 ≤ n ∧ n ≤ 64 ∧ s = W.e0
def SeedPost (w : World) (e : Ending) (w' : World) : Prop := ∃ k n s, WV k n s ∧ e = .returned (W.V k n s) ∧ Below w.heap.size w w'
abbrev seedV (kd n : Int) (a : Option Addr) (len cap : Nat) : Value := .agg #[.int .i64 kd, .int .i64 n, .slice a len cap]
theorem seed_end {w w' : World} {k n : Int} {s : ByteArray} (h : WV k n s) (hb : Below w.heap.size w w') : SeedPost w (.returned (W.V k n s)) w' := ⟨k, n, s, h, rfl, hb⟩

set_option maxRecDepth 1000000 in
set_option maxHeartbeats 4000000 in
theorem seed_val (kd nn : Int) (a : Option Addr) (len cap : Nat) (l : List Nat) (hlen : len ≤ 100) (hlt : ∀ u ∈ l, u < 65536) (w : World) (h : W.Nums .u16 w a len l) :
    Calls Try.prog 44 #[seedV kd nn a len cap] w (SeedPost w) := by
  obtain ⟨k, hk, hx1, hx2, hx3, hx4⟩ := rem_nat kd 11 (by omega)
  rw [show ((11 : Nat) : Int) = 11 from rfl] at hx1 hx2 hx3 hx4
  have HN := Veil.mk h
  have HLT := Veil.mk hlt
  clear h hlt
  rcases (show k = 0 ∨ k = 1 ∨ k = 2 ∨ k = 3 ∨ k = 4 ∨ k = 5 ∨ k = 6 ∨ k = 7 ∨ k = 8 ∨ k = 9 ∨ k = 10 by omega) with rfl | rfl | rfl | rfl | rfl | rfl | rfl | rfl | rfl | rfl | rfl
  · go_enter Try.func44, Try.ntmps44
    go_wp2
    exact bodyPost_ret (v := W.V 0 0 W.e0) (by simp [results, Try.results44, go_sem]) rfl (seed_end (.inl ⟨.inl rfl, rfl, rfl⟩) (((Below.refl _ _).alloc (Nat.le_refl _) _).alloc (by simp) _))
  · go_enter Try.func44, Try.ntmps44
    go_wp2
    exact bodyPost_ret (v := W.V 1 0 W.e0) (by simp [results, Try.results44, go_sem]) rfl (seed_end (.inl ⟨.inr (.inl rfl), rfl, rfl⟩) (((Below.refl _ _).alloc (Nat.le_refl _) _).alloc (by simp) _))
  · obtain ⟨q, hq1, hq2⟩ := mask 1 (by omega) nn
    rw [show ((2 ^ 1 - 1 : Nat) : Int) = 1 from rfl] at hq1
    rw [show 2 ^ 1 = 2 from rfl] at hq2
    have hqq : (q : Int) = 0 ∨ (q : Int) = 1 := by omega
    have HQ := Lib.hid hqq
    clear hqq hq2
    go_enter Try.func44, Try.ntmps44
    go_wp2
    exact bodyPost_ret (v := W.V 2 (q : Int) W.e0) (by simp [results, Try.results44, go_sem]) rfl (seed_end (.inr (.inl ⟨rfl, HQ.out, rfl⟩)) (((Below.refl _ _).alloc (Nat.le_refl _) _).alloc (by simp) _))
  · obtain ⟨r1, r2⟩ := tmod_bd nn 9007199254740992 (by omega)
    obtain ⟨r, hr⟩ : ∃ r, r = nn.tmod 9007199254740992 := ⟨_, rfl⟩
    rw [← hr] at r1 r2
    have hr2 := hr.symm
    have HR := Lib.hid (show M.Num 3 r from .inr (.inr (.inr (.inr ⟨rfl, by omega, by omega⟩))))
    clear hr r1 r2
    go_enter Try.func44, Try.ntmps44
    go_wp2
    exact bodyPost_ret (v := W.V 3 r W.e0) (by simp [results, Try.results44, go_sem]) rfl (seed_end (.inr (.inr (.inl ⟨HR.out, rfl⟩))) (((Below.refl _ _).alloc (Nat.le_refl _) _).alloc (by simp) _))
  · go_enter Try.func44, Try.ntmps44
    go_wp2
    exact bodyPost_ret (v := W.V 4 0 W.e0) (by simp [results, Try.results44, go_sem]) rfl (seed_end (.inr (.inr (.inl ⟨.inl ⟨rfl, rfl⟩, rfl⟩))) (((Below.refl _ _).alloc (Nat.le_refl _) _).alloc (by simp) _))
  · obtain ⟨q, hq1, hq2⟩ := mask 1 (by omega) nn
    rw [show ((2 ^ 1 - 1 : Nat) : Int) = 1 from rfl] at hq1
    rw [show 2 ^ 1 = 2 from rfl] at hq2
    have hqq : M.Num 5 (1 - 2 * (q : Int)) := by
      rcases (show q = 0 ∨ q = 1 by omega) with rfl | rfl
      · exact .inr (.inl ⟨rfl, rfl⟩)
      · exact .inr (.inr (.inl ⟨rfl, rfl⟩))
    have HQ := Lib.hid hqq
    have hq3 : (0 : Int) ≤ (q : Int) := by omega
    have hq4 : (q : Int) < 2 := by omega
    clear hqq hq2
    go_enter Try.func44, Try.ntmps44
    go_wp2
    exact bodyPost_ret (v := W.V 5 (1 - 2 * (q : Int)) W.e0) (by simp [results, Try.results44, go_sem]) rfl (seed_end (.inr (.inr (.inl ⟨HQ.out, rfl⟩))) (((Below.refl _ _).alloc (Nat.le_refl _) _).alloc (by simp) _))
  · go_enter Try.func44, Try.ntmps44
    go_wp2
    exact bodyPost_ret (v := W.V 6 0 W.e0) (by simp [results, Try.results44, go_sem]) rfl (seed_end (.inr (.inr (.inl ⟨.inr (.inr (.inr (.inl ⟨rfl, rfl⟩))), rfl⟩))) (((Below.refl _ _).alloc (Nat.le_refl _) _).alloc (by simp) _))
  · go_enter Try.func44, Try.ntmps44
    go_wp2
    obtain ⟨W0, hW0⟩ : ∃ W, W = (w.alloc (.cells #[.int .i64 kd, .int .i64 nn, .slice a len cap] 77)).alloc (.cells #[.int .i64 0, .int .i64 0, .string ⟨#[]⟩] 82) := ⟨_, rfl⟩
    have hBX : Box W0 (w.heap.size + 1) 82 #[.int .i64 0, .int .i64 0, .string ⟨#[]⟩] := by
      rw [hW0]
      have := Box.new (w.alloc (.cells #[.int .i64 kd, .int .i64 nn, .slice a len cap] 77)) 82 #[.int .i64 0, .int .i64 0, .string ⟨#[]⟩]
      simpa using this
    have hB0 : Below w.heap.size w W0 := by rw [hW0]; exact ((Below.refl _ _).alloc (Nat.le_refl _) _).alloc (by simp) _
    rw [← hW0]
    clear hW0
    obtain ⟨i0, hi, hz0, hz1, hz2⟩ := info_parts W.Try.info3
    go_loopw [4, 41] (fun v i wr => ∃ k : Nat, k ≤ len ∧ i = .int .i64 (k : Int) ∧ wr.ownsRow W0.heap.size 3 1 v k (W.numC (l.take k)) ∧ Below W0.heap.size W0 wr) (fun _ i _ => len - (intOf i).toNat)
    case atStart => exact ⟨0, by omega, rfl, World.ownsRow_nil _ _ _ _, Below.refl _ _⟩
    case round =>
      obtain ⟨k, hk, rfl, hown, hbw⟩ := hrel
      have hw := hbw.size
      by_cases hp : k < len
      · obtain ⟨b, o, rfl, hbl, hc⟩ := HN.out.2 (by omega)
        have hll := HN.out.1
        have hcell : wr.cell? ⟨b, o + k, none⟩ = some (.int .u16 ((l[k]?.getD 0 : Nat) : Int)) := W.cell_later hbw (W.cell_later hB0 (hc k hp) (Nat.le_refl _)) (Nat.le_refl _)
        have hu : l[k]?.getD 0 < 65536 := by rw [List.getElem?_eq_getElem (by omega)]; exact HLT.out _ (List.getElem_mem _)
        have htk : l.take (k + 1) = l.take k ++ [l[k]?.getD 0] := by
          rw [List.take_add_one, List.getElem?_eq_getElem (by omega)]; simp
        obtain ⟨u, hud⟩ : ∃ u, u = l[k]?.getD 0 := ⟨_, rfl⟩
        rw [← hud] at hcell hu htk
        have HTK := Veil.mk htk
        have hlti : (k : Int) < (len : Int) := by omega
        have hk0 : (0 : Int) ≤ (k : Int) := by omega
        have hui : (u : Int) < 65536 := by omega
        have hu0 : (0 : Int) ≤ (u : Int) := by omega
        clear hud htk hc
        go_wp2_with (at_builtin; refine wpList_append_own _ rfl _ _ 22 rfl W0.heap.size 3 i0 (.int .i64 0) 1 8 Try.underlying22 hi hz0 hz1 hz2 rfl (by decide) _ _ _ rfl (hown.alloc _) ⟨wr.heap.size, 0, none⟩ 1 1 [_] rfl rfl (cells_new _ _ _) (fun x hx => by simp at hx; rcases hx with rfl; rfl) (by unfold maxLen; omega) (by omega) (by simp; omega) ?_; intro v' w3 hown' hgrow3 hnil3; refine Hid.out ?_)
        have hown3 : w3.ownsRow W0.heap.size 3 1 v' (k + 1) (W.numC (l.take (k + 1))) := by rw [HTK.out, W.numC_append]; exact hown'
        have hbw3 : Below W0.heap.size W0 w3 := Below.grown (hbw.alloc hw _) hgrow3 (by simp; omega) (fun j hj => (hown.lt _ hj).1)
        clear hown' hgrow3 hnil3
        refine Lib.hid ?_
        go_wp2
        go_roundw
        case rel => exact ⟨k + 1, by omega, by go_num, hown3, hbw3⟩
        case measure => simp [intOf]; omega
      · have hlti : ¬ (k : Int) < (len : Int) := by omega
        have hll := HN.out.1
        have hkl : k = l.length := by omega
        have htk : l.take k = l := List.take_of_length_le (by omega)
        rw [htk, hkl] at hown
        obtain ⟨a2, cap2, rfl, hnm⟩ := W.own_nums hown
        have hS := W.str_any a2 l.length cap2 l (by omega) HLT.out wr hnm
        have HWV : Hid (WV 7 0 ⟨(l.flatMap W.u2).toArray⟩) := .inr (.inr (.inr (.inl ⟨rfl, rfl, l, HLT.out, by omega, rfl⟩)))
        clear hll hkl htk
        go_wp2_with (first | (go_at_call 72; ((with_reducible refine hS.mono ?_); rintro e w2 ⟨rfl, hb2⟩; have bx := (hBX.on hbw hBX.lt).on hb2 (Nat.lt_of_lt_of_le hBX.lt hw); have c0 : w2.cell? ⟨w.heap.size + 1, 0, none⟩ = some (.int .i64 0) := bx.at_ 0; have c1 : w2.cell? ⟨w.heap.size + 1, 1, none⟩ = some (.int .i64 0) := bx.at_ 1; have c2 : w2.cell? ⟨w.heap.size + 1, 2, none⟩ = some (.string ⟨#[]⟩) := bx.at_ 2; have g0 := bx.free 0; have g1 := bx.free 1; have g2 := bx.free 2)))
        have hbf : Below w.heap.size w w2 := hB0.trans ((hbw.trans (hb2.mono hw)).mono hB0.size)
        exact bodyPost_ret (v := W.V 7 0 ⟨(l.flatMap W.u2).toArray⟩) (by simp [results, Try.results44, go_sem, c0, c1, c2]) rfl (seed_end HWV.out (((hbf.setCell (p := ⟨w.heap.size + 1, 0, none⟩) (by simp) _).setCell (p := ⟨w.heap.size + 1, 1, none⟩) (by simp) _).setCell (p := ⟨w.heap.size + 1, 2, none⟩) (by simp) _))
  · obtain ⟨q, hq1, hq2⟩ := mask 6 (by omega) nn
    rw [show ((2 ^ 6 - 1 : Nat) : Int) = 63 from rfl] at hq1
    rw [show 2 ^ 6 = 64 from rfl] at hq2
    have hq3 : (0 : Int) ≤ (q : Int) := by omega
    have hq4 : (q : Int) < 64 := by omega
    go_enter Try.func44, Try.ntmps44
    go_wp2
    exact bodyPost_ret (v := W.V 8 ((q : Int) + 1) W.e0) (by simp [results, Try.results44, go_sem]) rfl (seed_end (.inr (.inr (.inr (.inr ⟨.inl rfl, by omega, by omega, rfl⟩)))) (((Below.refl _ _).alloc (Nat.le_refl _) _).alloc (by simp) _))
  · obtain ⟨q, hq1, hq2⟩ := mask 6 (by omega) nn
    rw [show ((2 ^ 6 - 1 : Nat) : Int) = 63 from rfl] at hq1
    rw [show 2 ^ 6 = 64 from rfl] at hq2
    have hq3 : (0 : Int) ≤ (q : Int) := by omega
    have hq4 : (q : Int) < 64 := by omega
    go_enter Try.func44, Try.ntmps44
    go_wp2
    exact bodyPost_ret (v := W.V 9 ((q : Int) + 1) W.e0) (by simp [results, Try.results44, go_sem]) rfl (seed_end (.inr (.inr (.inr (.inr ⟨.inr rfl, by omega, by omega, rfl⟩)))) (((Below.refl _ _).alloc (Nat.le_refl _) _).alloc (by simp) _))
  · go_enter Try.func44, Try.ntmps44
    go_wp2
    exact bodyPost_ret (v := W.V 10 0 W.e0) (by simp [results, Try.results44, go_sem]) rfl (seed_end (.inl ⟨.inr (.inr rfl), rfl, rfl⟩) (((Below.refl _ _).alloc (Nat.le_refl _) _).alloc (by simp) _))
theorem WV.size {k n : Int} {s : ByteArray} (h : WV k n s) : s.size ≤ 200 := by
  rcases h with ⟨_, _, rfl⟩ | ⟨_, _, rfl⟩ | ⟨_, rfl⟩ | ⟨_, _, l, _, hl, rfl⟩ | ⟨_, _, _, rfl⟩
  · exact Nat.zero_le _
  · exact Nat.zero_le _
  · exact Nat.zero_le _
  · show (l.flatMap W.u2).toArray.size ≤ 200
    simp only [List.size_toArray, W.flat_length]
    omega
  · exact Nat.zero_le _
end Go.Proofs.Ythlhchaapdhbfaa
