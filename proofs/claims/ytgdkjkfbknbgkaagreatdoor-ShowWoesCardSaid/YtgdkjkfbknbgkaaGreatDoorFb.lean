/- Tables: Key and Hash of package value. -/
import Derived.Test.YtgdkjkfbknbgkaaGreatDoorAc
namespace Go.Proofs.YtgdkjkfbknbgkaaGreatDoor
open Go.RowKit

abbrev V3 (k n : Int) (s : ByteArray) : Value := .agg #[.int .i64 k, .int .i64 n, .string s]
/-- What Key makes of a value. -/
def keyT (x : Vt) : Vt := if x.1 = 6 then (3, 0, e0) else x
theorem key_any (x : Vt) (w : World) : Calls Tryz.prog 88 #[valV x] w fun e w' => e = .returned (valV (keyT x)) ∧ Below w.heap.size w w' := by
  obtain ⟨k, n, s⟩ := x
  by_cases h : k = 6
  · subst h
    go_enter Tryz.func88, Tryz.ntmps88
    go_wp2
    exact bodyPost_ret (v := valV (3, 0, e0)) (by simp [results, Tryz.results88, go_sem]) rfl ⟨rfl, ((Below.refl _ _).alloc (Nat.le_refl _) _).alloc (by simp) _⟩
  · have hk : (k == 6) = false := by simpa using h
    have e : Veil (keyT (k, n, s) = (k, n, s)) := ⟨if_neg h⟩
    clear h
    go_enter Tryz.func88, Tryz.ntmps88
    go_wp2
    exact bodyPost_ret (v := valV (k, n, s)) (by simp [results, Tryz.results88, go_sem]) rfl ⟨by rw [e.out], ((Below.refl _ _).alloc (Nat.le_refl _) _).alloc (by simp) _⟩
def mixR (h x : Int) : Int := bits .xor .u32 h x * 16777619 % 4294967296
theorem mix_any (h x : Int) (w : World) : Calls Tryz.prog 120 #[.int .u32 h, .int .u32 x] w fun e w' => e = .returned (.int .u32 (mixR h x)) ∧ w = w' := by
  go_enter Tryz.func120, Tryz.ntmps120
  go_wp2
  go_ret
  exact ⟨rfl, rfl⟩
def hashB (h : Int) (l : List UInt8) : Int := l.foldl (fun h b => mixR h ((b.toNat : Int) % 4294967296)) h
theorem hashB_snoc (h : Int) (l : List UInt8) (b : UInt8) : hashB h (l ++ [b]) = mixR (hashB h l) ((b.toNat : Int) % 4294967296) := by simp [hashB]
def hash0 (k n : Int) : Int := mixR (mixR (mixR 2166136261 (k % 4294967296)) (n % 4294967296)) (n / 4294967296 % 4294967296)
def hashR (k n : Int) (s : ByteArray) : Int := bits .xor .u32 (hashB (hash0 k n) s.data.toList) (hashB (hash0 k n) s.data.toList / 32768)
theorem take_snoc8 (s : ByteArray) (k : Nat) (h : k < s.size) : s.data.toList.take (k + 1) = s.data.toList.take k ++ [s[k]] := by
  rw [List.take_succ_eq_append_getElem (by simpa using h)]; rfl
set_option maxRecDepth 100000 in
theorem hash_any (k n k' n' : Int) (s s' : ByteArray) (hs : s'.size ≤ 1000000) (hkey : ∀ w, Calls Tryz.prog 88 #[V3 k n s] w fun e w' => e = .returned (V3 k' n' s') ∧ Below w.heap.size w w') (w : World) :
    Calls Tryz.prog 115 #[V3 k n s] w fun e w' => e = .returned (.int .u32 (hashR k' n' s')) ∧ Below w.heap.size w w' := by
  have HM := Veil.mk mix_any
  have hbox := Box.new w 30 #[.int .i64 k, .int .i64 n, .string s]
  have hB0 : Below w.heap.size w (w.alloc (.cells #[.int .i64 k, .int .i64 n, .string s] 30)) := (Below.refl _ _).alloc (Nat.le_refl _) _
  go_enter Tryz.func115, Tryz.ntmps115
  go_upto_region 2 with (first | (go_at_call 88; ((with_reducible refine (hkey _).mono ?_); rintro e w1 ⟨rfl, hb1⟩; have bx := hbox.on hb1 hbox.lt; have c0 : w1.cell? ⟨w.heap.size, 0, none⟩ = some (.int .i64 k) := bx.at_ 0; have c1 : w1.cell? ⟨w.heap.size, 1, none⟩ = some (.int .i64 n) := bx.at_ 1; have c2 : w1.cell? ⟨w.heap.size, 2, none⟩ = some (.string s) := bx.at_ 2; have g0 := bx.free 0; have g1 := bx.free 1; have g2 := bx.free 2)))
  obtain ⟨W2, hW2⟩ : ∃ W2, W2 = ((w1.setCell ⟨w.heap.size, 0, none⟩ (.int .i64 k')).setCell ⟨w.heap.size, 1, none⟩ (.int .i64 n')).setCell ⟨w.heap.size, 2, none⟩ (.string s') := ⟨_, rfl⟩
  have bx2 : Box W2 w.heap.size 30 #[.int .i64 k', .int .i64 n', .string s'] := by rw [hW2]; exact ((bx.put 0 _).put 1 _).put 2 _
  have hB2 : Below w.heap.size w W2 := by
    rw [hW2]
    exact (((hB0.trans (hb1.mono hB0.size)).setCell (p := ⟨w.heap.size, 0, none⟩) (Nat.le_refl _) _).setCell (p := ⟨w.heap.size, 1, none⟩) (Nat.le_refl _) _).setCell (p := ⟨w.heap.size, 2, none⟩) (Nat.le_refl _) _
  rw [← hW2]
  have x0 : W2.cell? ⟨w.heap.size, 0, none⟩ = some (.int .i64 k') := bx2.at_ 0
  have x1 : W2.cell? ⟨w.heap.size, 1, none⟩ = some (.int .i64 n') := bx2.at_ 1
  have x2 : W2.cell? ⟨w.heap.size, 2, none⟩ = some (.string s') := bx2.at_ 2
  clear hW2 c0 c1 c2 g0 g1 g2 bx hb1 hbox hB0 bx2
  go_wp2_with (first | (go_at_call 120; ((with_reducible refine (HM.out _ _ _).mono ?_); rintro e w' ⟨rfl, rfl⟩)))
  have HH : Hid (hash0 k' n' = hash0 k' n') := rfl
  obtain ⟨h0, hh0⟩ : ∃ h, h = hash0 k' n' := ⟨_, rfl⟩
  have hh1 : mixR (mixR (mixR 2166136261 (k' % 4294967296)) (n' % 4294967296)) (n' / 4294967296 % 4294967296) = h0 := hh0.symm
  rw [hh1]
  have H0 := Veil.mk hh0
  clear hh0 hh1 HH
  go_loop [3, 26] (fun h i => ∃ j : Nat, j ≤ s'.size ∧ i = .int .i64 (j : Int) ∧ h = .int .u32 (hashB h0 (s'.data.toList.take j))) (fun _ i => s'.size - (intOf i).toNat)
  case atStart => exact ⟨0, Nat.zero_le _, rfl, rfl⟩
  case round =>
    obtain ⟨j, hj, rfl, rfl⟩ := hrel
    by_cases hp : j < s'.size
    · have HT : Veil (hashB h0 (s'.data.toList.take (j + 1)) = mixR (hashB h0 (s'.data.toList.take j)) ((s'[j].toNat : Int) % 4294967296)) := ⟨by rw [take_snoc8 s' j hp, hashB_snoc]⟩
      have hj0 : (0 : Int) ≤ (j : Int) := by omega
      have hj1 : (j : Int) < (s'.size : Int) := by omega
      go_wp2_with (first | (go_at_call 120; ((with_reducible refine (HM.out _ _ _).mono ?_); rintro e w' ⟨rfl, rfl⟩)))
      go_round
      case rel => exact ⟨j + 1, by omega, by go_num, by rw [HT.out]⟩
      case measure => simp [intOf]; omega
    · have hj1 : ¬ (j : Int) < (s'.size : Int) := by omega
      have hfin : Veil (hashR k' n' s' = bits .xor .u32 (hashB h0 (s'.data.toList.take j)) (hashB h0 (s'.data.toList.take j) / 32768)) := ⟨by
        rw [List.take_of_length_le (by simp; omega)]; unfold hashR; rw [H0.out]⟩
      obtain ⟨hv, hhv⟩ : ∃ v, v = hashB h0 (s'.data.toList.take j) := ⟨_, rfl⟩
      rw [← hhv] at hfin ⊢
      clear hp hhv
      go_wp2
      go_ret
      exact ⟨by rw [hfin.out]; rfl, hB2⟩

theorem keyT_twice (x : Vt) : keyT (keyT x) = keyT x := by
  unfold keyT
  split <;> rfl
theorem keyT_size (x : Vt) (h : x.2.2.size ≤ 1000000) : (keyT x).2.2.size ≤ 1000000 := by
  unfold keyT
  split
  · exact Nat.zero_le _
  · exact h
def hashT (x : Vt) : Int := hashR (keyT x).1 (keyT x).2.1 (keyT x).2.2
theorem hashT_any (x : Vt) (hs : x.2.2.size ≤ 1000000) (w : World) :
    Calls Tryz.prog 115 #[valV x] w fun e w' => e = .returned (.int .u32 (hashT x)) ∧ Below w.heap.size w w' :=
  hash_any x.1 x.2.1 (keyT x).1 (keyT x).2.1 x.2.2 (keyT x).2.2 (keyT_size x hs) (fun w => key_any x w) w
end Go.Proofs.YtgdkjkfbknbgkaaGreatDoor
