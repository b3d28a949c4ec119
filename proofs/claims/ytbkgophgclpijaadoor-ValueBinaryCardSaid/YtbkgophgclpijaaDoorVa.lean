/- The operators' texts: Operator and Operators of package code. -/
import Derived.Test.YtbkgophgclpijaaDoorRows
import Derived.Test.YtbkgophgclpijaaDoorShelf
import Derived.WalkKit
import Derived.WalkSpells
import Derived.WalkLawsBesides
import Derived.Below
import Derived.BigQuiet
import Derived.IntWalk
import Derived.Lib.Hide
import Derived.Lib.LaidTab
import Derived.Lib.AppendIntMem
import Derived.Deep.QuietTactic
import Derived.Laws.StructEq
namespace Go.Proofs.YtbkgophgclpijaaDoor
open Go.RowKit

theorem ret_sb {a b : ByteArray} (h : a = b) : Ending.returned (.string a) = Ending.returned (.string b) := by rw [h]
theorem ret_int {k : IntKind} {a b : Int} (h : a = b) : Ending.returned (.int k a) = Ending.returned (.int k b) := by rw [h]
theorem ret_bool {a b : Bool} (h : a = b) : Ending.returned (.bool a) = Ending.returned (.bool b) := by rw [h]
theorem blw2 {w w1 w2 : World} (h : Below w.heap.size w w1) (h2 : Below w1.heap.size w1 w2) : Below w.heap.size w w2 := h.trans (h2.mono h.size)
theorem below_drewN {B : Nat} {a w : World} (h : Below B a w) (n : Nat) : Below B a (w.drewN n) := h.trans ⟨rfl, rfl, rfl, Nat.le_refl _, fun _ _ => rfl⟩

/-- The table of the ASCII blanks reads as it was laid, now and behind whatever only adds memory. -/
def Tb (w : World) : Prop := Lib.TabBelow Tryd.prog w.heap.size w "strings.asciiSpace" .u8 Lib.asciiSpaceTab
theorem Tb.on {w w1 : World} (h : Tb w) (hb : Below w.heap.size w w1) : Tb w1 := fun w' h' => h w' (hb.trans (h'.mono hb.size))
theorem Tb.now {w : World} (h : Tb w) : Lib.TabIs Tryd.prog w "strings.asciiSpace" .u8 Lib.asciiSpaceTab := h w (Below.refl _ _)

/-- The operators, in their order. -/
def opsB : List ByteArray := [⟨#[43]⟩, ⟨#[45]⟩, ⟨#[42]⟩, ⟨#[47]⟩, ⟨#[37]⟩, ⟨#[60]⟩, ⟨#[62]⟩, ⟨#[60, 61]⟩, ⟨#[62, 61]⟩, ⟨#[61, 61, 61]⟩, ⟨#[33, 61, 61]⟩]
def opS (k : Nat) : ByteArray := opsB[k]?.getD ⟨#[]⟩
def opsC : Array Value := (opsB.map Value.string).toArray
theorem opsC_at (k : Nat) (hk : k < 11) : opsC[k]? = some (.string (opS k)) := by
  unfold opsC opS
  have hl : opsB.length = 11 := rfl
  simp [List.getElem?_eq_getElem (show k < opsB.length by omega)]

theorem fields_ops (w : World) (hT : Tb w) :
    Calls Tryd.prog 71 #[.string ⟨#[43, 32, 45, 32, 42, 32, 47, 32, 37, 32, 60, 32, 62, 32, 60, 61, 32, 62, 61, 32, 61, 61, 61, 32, 33, 61, 61]⟩] w fun e w' => e = .returned (.slice (some ⟨w.heap.size, 0, none⟩) 11 11) ∧ w.alloc (.cells opsC 9) = w' := by
  have h := Tryd.strings_Fields ⟨#[43, 32, 45, 32, 42, 32, 47, 32, 37, 32, 60, 32, 62, 32, 60, 61, 32, 62, 61, 32, 61, 61, 61, 32, 33, 61, 61]⟩ w (by decide) (by
    intro j b hb
    have : b ∈ [43, 32, 45, 32, 42, 32, 47, 32, 37, 32, 60, 32, 62, 32, 60, 61, 32, 62, 61, 32, 61, 61, 61, 32, 33, 61, (61 : UInt8)] := List.mem_of_getElem? hb
    have hall : ∀ x ∈ [43, 32, 45, 32, 42, 32, 47, 32, 37, 32, 60, 32, 62, 32, 60, 61, 32, 62, 61, 32, 61, 61, 61, 32, 33, 61, (61 : UInt8)], x.toNat < 128 := by decide
    exact hall b this) hT.now
  have e : Lib.fields [43, 32, 45, 32, 42, 32, 47, 32, 37, 32, 60, 32, 62, 32, 60, 61, 32, 62, 61, 32, 61, 61, 61, 32, 33, 61, (61 : UInt8)] = [[43], [45], [42], [47], [37], [60], [62], [60, 61], [62, 61], [61, 61, 61], [33, 61, 61]] := by decide +kernel
  refine h.mono fun _ _ he => ?_
  have he' := he
  rw [show (⟨#[43, 32, 45, 32, 42, 32, 47, 32, 37, 32, 60, 32, 62, 32, 60, 61, 32, 62, 61, 32, 61, 61, 61, 32, 33, 61, 61]⟩ : ByteArray).data.toList = [43, 32, 45, 32, 42, 32, 47, 32, 37, 32, 60, 32, 62, 32, 60, 61, 32, 62, 61, 32, 61, 61, 61, 32, 33, 61, (61 : UInt8)] from rfl, e] at he'
  exact ⟨he'.1, he'.2.symm⟩

theorem operator_in (k : Nat) (hk : k < 11) (w : World) (hT : Tb w) :
    Calls Tryd.prog 54 #[.int .i64 (k : Int)] w fun e w' => e = .returned (.string (opS k)) ∧ Below w.heap.size w w' := by
  have hk1 : (k : Int) < 11 := by omega
  have hcell : (w.alloc (.cells opsC 9)).cell? ⟨w.heap.size, k, none⟩ = some (.string (opS k)) := by rw [World.cell?_alloc_at _ _ _ _ rfl]; exact opsC_at k hk
  go_enter Tryd.func54, Tryd.ntmps54
  go_wp2_with (first | (go_at_call 71; ((with_reducible refine (fields_ops _ hT).mono ?_); rintro e w' ⟨rfl, rfl⟩)))
  go_ret
  exact ⟨rfl, (Below.refl _ _).alloc (Nat.le_refl _) _⟩
theorem operator_out (n : Int) (hn : n < 0 ∨ 11 ≤ n) (w : World) (hT : Tb w) :
    Calls Tryd.prog 54 #[.int .i64 n] w fun e w' => e = .returned (.string ⟨#[]⟩) ∧ Below w.heap.size w w' := by
  rcases hn with hn | hn
  all_goals
    go_enter Tryd.func54, Tryd.ntmps54
    go_wp2_with (first | (go_at_call 71; ((with_reducible refine (fields_ops _ hT).mono ?_); rintro e w' ⟨rfl, rfl⟩)))
    go_ret
    exact ⟨rfl, (Below.refl _ _).alloc (Nat.le_refl _) _⟩

/-- Where the operators lie in a block, Index finds the one that is asked for; it finds no other text. -/
theorem index_hit (b k : Nat) (hk : k < 11) (hd : ∀ j, j < k → (opS k == opS j) = false) (w : World) (hc : ∀ j, j < 11 → w.cell? ⟨b, j, none⟩ = some (.string (opS j))) :
    Calls Tryd.prog 72 #[.slice (some ⟨b, 0, none⟩) 11 11, .string (opS k)] w fun e w' => e = .returned (.int .i64 (k : Int)) ∧ w = w' := by
  have HD := Lib.hid hd
  have HCS := Lib.hid hc
  clear hd hc
  go_enter Tryd.func72, Tryd.ntmps72
  go_wp2
  go_loop [8] (fun i => ∃ j : Nat, j ≤ k ∧ i = .int .i64 (j : Int)) (fun i => 11 - (intOf i).toNat)
  case atStart => exact ⟨0, by omega, rfl⟩
  case round =>
    obtain ⟨j, hj, rfl⟩ := hrel
    have hj1 : (j : Int) < 11 := by omega
    have hj2 : j < 11 := by omega
    have hcell := HCS.out j hj2
    by_cases hjk : j < k
    · have hne := HD.out j hjk
      have hne2 : ((opS k).toList == (opS j).toList) = false := by rw [← beq_toListBytes]; exact hne
      obtain ⟨x, hx⟩ : ∃ x, x = opS j := ⟨_, rfl⟩
      rw [← hx] at hcell hne hne2
      clear hx
      go_wp2
      go_round
      case rel => exact ⟨j + 1, by omega, by go_num⟩
      case measure => simp [intOf]; omega
    · obtain rfl : j = k := by omega
      go_wp2
      go_ret
      exact ⟨rfl, rfl⟩
theorem index_miss (b : Nat) (s : ByteArray) (hd : ∀ j, j < 11 → (s == opS j) = false) (w : World) (hc : ∀ j, j < 11 → w.cell? ⟨b, j, none⟩ = some (.string (opS j))) :
    Calls Tryd.prog 72 #[.slice (some ⟨b, 0, none⟩) 11 11, .string s] w fun e w' => e = .returned (.int .i64 (-1)) ∧ w = w' := by
  have HD := Lib.hid hd
  have HCS := Lib.hid hc
  clear hd hc
  go_enter Tryd.func72, Tryd.ntmps72
  go_wp2
  go_loop [8] (fun i => ∃ j : Nat, j ≤ 11 ∧ i = .int .i64 (j : Int)) (fun i => 11 - (intOf i).toNat)
  case atStart => exact ⟨0, by omega, rfl⟩
  case round =>
    obtain ⟨j, hj, rfl⟩ := hrel
    by_cases hj2 : j < 11
    · have hj1 : (j : Int) < 11 := by omega
      have hcell := HCS.out j hj2
      have hne := HD.out j hj2
      have hne2 : (s.toList == (opS j).toList) = false := by rw [← beq_toListBytes]; exact hne
      obtain ⟨x, hx⟩ : ∃ x, x = opS j := ⟨_, rfl⟩
      rw [← hx] at hcell hne hne2
      clear hx
      go_wp2
      go_round
      case rel => exact ⟨j + 1, by omega, by go_num⟩
      case measure => simp [intOf]; omega
    · have hj1 : ¬ (j : Int) < 11 := by omega
      go_wp2
      go_ret
      exact ⟨rfl, rfl⟩

theorem ops_distinct (k : Nat) (hk : k < 11) (j : Nat) (hj : j < k) : (opS k == opS j) = false := by
  have h : ∀ k : Fin 11, ∀ j : Fin 11, j.1 < k.1 → (opS k.1 == opS j.1) = false := by decide +kernel
  exact h ⟨k, hk⟩ ⟨j, by omega⟩ hj
theorem operators_hit (k : Nat) (hk : k < 11) (w : World) (hT : Tb w) :
    Calls Tryd.prog 55 #[.string (opS k)] w fun e w' => e = .returned (.int .i64 (k : Int)) ∧ Below w.heap.size w w' := by
  have hi := index_hit w.heap.size k hk (ops_distinct k hk) (w.alloc (.cells opsC 9)) (fun j hj => by rw [World.cell?_alloc_at _ _ _ _ rfl]; exact opsC_at j hj)
  go_enter Tryd.func55, Tryd.ntmps55
  go_wp2_with (first | (go_at_call 71; ((with_reducible refine (fields_ops _ hT).mono ?_); rintro e w' ⟨rfl, rfl⟩)) | (go_at_call 72; ((with_reducible refine hi.mono ?_); rintro e w' ⟨rfl, rfl⟩)))
  go_ret
  exact ⟨rfl, (Below.refl _ _).alloc (Nat.le_refl _) _⟩
theorem operators_miss (s : ByteArray) (hd : ∀ j, j < 11 → (s == opS j) = false) (w : World) (hT : Tb w) :
    Calls Tryd.prog 55 #[.string s] w fun e w' => e = .returned (.int .i64 (-1)) ∧ Below w.heap.size w w' := by
  have hi := index_miss w.heap.size s hd (w.alloc (.cells opsC 9)) (fun j hj => by rw [World.cell?_alloc_at _ _ _ _ rfl]; exact opsC_at j hj)
  have HD := Lib.hid hd
  clear hd
  go_enter Tryd.func55, Tryd.ntmps55
  go_wp2_with (first | (go_at_call 71; ((with_reducible refine (fields_ops _ hT).mono ?_); rintro e w' ⟨rfl, rfl⟩)) | (go_at_call 72; ((with_reducible refine hi.mono ?_); rintro e w' ⟨rfl, rfl⟩)))
  go_ret
  exact ⟨rfl, (Below.refl _ _).alloc (Nat.le_refl _) _⟩
end Go.Proofs.YtbkgophgclpijaaDoor
