/- TextGo: the reference's hex and Go. -/
import Derived.Test.YtbkgophgclpijaaSk
import Derived.Deep.RegionLaw
import Derived.Deep.RegionHeld3
import Derived.StillTailTactics
namespace Go.Proofs.Ytbkgophgclpijaa
open Go.RowKit

theorem conv4 (w : World) (x1 x2 x3 x4 : UInt8) : (convert 41 9 (.slice (some ⟨w.heap.size, 0, none⟩) 4 4)).run Try.prog ((w.alloc (.cells #[.int .u8 (x1.toNat : Int), .int .u8 (x2.toNat : Int), .int .u8 (x3.toNat : Int), .int .u8 (x4.toNat : Int)] 5)).drew) = .ok (.string ⟨[x1, x2, x3, x4].toArray⟩) ((w.alloc (.cells #[.int .u8 (x1.toNat : Int), .int .u8 (x2.toNat : Int), .int .u8 (x3.toNat : Int), .int .u8 (x4.toNat : Int)] 5)).drew) := by
  have hown : ((w.alloc (.cells #[.int .u8 (x1.toNat : Int), .int .u8 (x2.toNat : Int), .int .u8 (x3.toNat : Int), .int .u8 (x4.toNat : Int)] 5)).drew).ownsRow 0 5 1 (.slice (some ⟨w.heap.size, 0, none⟩) 4 4) 4 (Lib.byteCells [x1, x2, x3, x4]) :=
    ⟨rfl, .inr ⟨w.heap.size, 4, _, rfl, Nat.zero_le _, World.alloc_heap_new w _, Nat.le_refl _, by unfold maxLen; decide, rfl, rfl⟩⟩
  exact run_string_own (P := Try.prog) (src := 41) (dst := 9) (e := 5) Try.underlying41 Try.underlying5 Try.underlying9 hown
set_option maxHeartbeats 2000000 in
set_option maxRecDepth 100000 in
theorem hex_any (n : Nat) (w : World) (hn : n < 65536) :
    Calls Try.prog 26 #[.int .i64 (n : Int)] w fun e w' => e = .returned (.string ⟨(hex4 n).toArray⟩) ∧ Below w.heap.size w w' := by
  have a0 : (0 : Int) ≤ (n : Int) := by omega
  have e1 : (n : Int) / 4096 % 16 = ((n / 4096 % 16 : Nat) : Int) := by omega
  have e2 : (n : Int) / 256 % 16 = ((n / 256 % 16 : Nat) : Int) := by omega
  have e3 : (n : Int) / 16 % 16 = ((n / 16 % 16 : Nat) : Int) := by omega
  have e4 : (n : Int) % 16 = ((n % 16 : Nat) : Int) := by omega
  have l1 : n / 4096 % 16 < 16 := by omega
  have l2 : n / 256 % 16 < 16 := by omega
  have l3 : n / 16 % 16 < 16 := by omega
  have l4 : n % 16 < 16 := by omega
  have HX : Veil (hex4 n = [hexD (n / 4096 % 16), hexD (n / 256 % 16), hexD (n / 16 % 16), hexD (n % 16)]) := ⟨rfl⟩
  generalize n / 4096 % 16 = q1 at e1 l1 HX
  generalize n / 256 % 16 = q2 at e2 l2 HX
  generalize n / 16 % 16 = q3 at e3 l3 HX
  generalize n % 16 = q4 at e4 l4 HX
  have D1 := Veil.mk (digit_at q1 l1)
  have D2 := Veil.mk (digit_at q2 l2)
  have D3 := Veil.mk (digit_at q3 l3)
  have D4 := Veil.mk (digit_at q4 l4)
  have m1 : (q1 : Int) < 16 := by omega
  have m2 : (q2 : Int) < 16 := by omega
  have m3 : (q3 : Int) < 16 := by omega
  have m4 : (q4 : Int) < 16 := by omega
  have k1 : (0 : Int) ≤ (q1 : Int) := by omega
  have k2 : (0 : Int) ≤ (q2 : Int) := by omega
  have k3 : (0 : Int) ≤ (q3 : Int) := by omega
  have k4 : (0 : Int) ≤ (q4 : Int) := by omega
  have hcv := conv4 w ((⟨#[48, 49, 50, 51, 52, 53, 54, 55, 56, 57, 65, 66, 67, 68, 69, 70]⟩ : ByteArray)[q1]'l1) ((⟨#[48, 49, 50, 51, 52, 53, 54, 55, 56, 57, 65, 66, 67, 68, 69, 70]⟩ : ByteArray)[q2]'l2) ((⟨#[48, 49, 50, 51, 52, 53, 54, 55, 56, 57, 65, 66, 67, 68, 69, 70]⟩ : ByteArray)[q3]'l3) ((⟨#[48, 49, 50, 51, 52, 53, 54, 55, 56, 57, 65, 66, 67, 68, 69, 70]⟩ : ByteArray)[q4]'l4)
  go_enter Try.func26, Try.ntmps26
  go_wp2
  go_region
  all_goals
    go_wp2
    go_ret
    exact ⟨ret_str (by rw [HX.out, ← D1.out, ← D2.out, ← D3.out, ← D4.out]), ((Below.refl _ _).alloc (Nat.le_refl _) _).drew⟩
end Go.Proofs.Ytbkgophgclpijaa
