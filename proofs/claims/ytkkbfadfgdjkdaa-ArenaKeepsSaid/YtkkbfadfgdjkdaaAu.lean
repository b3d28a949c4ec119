/- ArenaReuses: what it keeps; two lists of numbers compared; flags that a row hands over. -/
import Derived.Test.YtkkbfadfgdjkdaaAt
namespace Go.Proofs.Ytkkbfadfgdjkdaa
open Go Go.RowKit

/-- A slice value reads as these flags. -/
def Bools (w : World) (a : Option Addr) (n : Nat) (l : List Bool) : Prop := l.length = n ∧ (0 < n → ∃ b o, a = some ⟨b, o, none⟩ ∧ b < w.heap.size ∧ ∀ i, i < n → w.cell? ⟨b, o + i, none⟩ = some (.bool (l[i]?.getD false)))
theorem Bools.on {w w1 : World} {a : Option Addr} {n : Nat} {l : List Bool} (h : Bools w a n l) (hb : Below w.heap.size w w1) : Bools w1 a n l :=
  ⟨h.1, fun hn => by
    obtain ⟨b, o, e, hlt, hc⟩ := h.2 hn
    exact ⟨b, o, e, by have := hb.size; omega, fun i hi => by rw [hb.cell (p := ⟨b, o + i, none⟩) hlt]; exact hc i hi⟩⟩
/-- The numbers of the flags that are as p says, from 1 on. -/
def nosL (l : List Bool) (p : Bool) (k : Nat) : List Nat := ((List.range k).filter fun (i : Nat) => l[i]?.getD false == p).map (· + 1)
theorem nosL_succ (l : List Bool) (p : Bool) (k : Nat) (b : Bool) (h : l[k]?.getD false = b) : nosL l p (k + 1) = if b = p then nosL l p k ++ [k + 1] else nosL l p k := by
  unfold nosL
  rw [List.range_succ, List.filter_append, List.map_append]
  by_cases e : b = p
  · rw [if_pos e]
    simp [h, e]
  · rw [if_neg e]
    simp [h, e]
theorem nosL_mem {l : List Bool} {p : Bool} {k r : Nat} : r ∈ nosL l p k ↔ ∃ i, i < k ∧ r = i + 1 ∧ l[i]?.getD false = p := by
  unfold nosL
  simp only [List.mem_map, List.mem_filter, List.mem_range, beq_iff_eq]
  constructor
  · rintro ⟨i, ⟨h1, h2⟩, rfl⟩
    exact ⟨i, h1, rfl, h2⟩
  · rintro ⟨i, h1, rfl, h2⟩
    exact ⟨i, ⟨h1, h2⟩, rfl⟩
theorem nosL_len (l : List Bool) (p : Bool) (k : Nat) : (nosL l p k).length ≤ k := by
  unfold nosL
  rw [List.length_map]
  have := List.length_filter_le (fun (i : Nat) => l[i]?.getD false == p) (List.range k)
  rwa [List.length_range] at this
theorem NodeAt.touch0 {S : Nat → Prop} {w w' : World} {nb N : Nat} {X : Nat → Prop} {en : Int} {a : Option Addr} {na ca : Nat} (h : NodeAt w nb [] en N X a na ca) (ht : Touch S w w') (h1 : ¬ S nb) : NodeAt w' nb [] en N X a na ca :=
  ⟨h.box.touch ht h1, ⟨h.ints.1, fun hp => by have := h.ints.1; simp at this; omega⟩, h.small, h.low, h.rlow, h.rx⟩
theorem Sys.touch0 {B A : Nat} {d : AD} {en : Nat → Int} {cv fv rv : Value} {S : Nat → Prop} {w w' : World} (h : Sys B A d (fun _ => []) en cv fv rv w) (ht : Touch S w w') (hA : ∀ k, AFoot A cv fv rv k → ¬ S k) (hn : ∀ k, Lab w k 30 → ¬ S k) : Sys B A d (fun _ => []) en cv fv rv w' := by
  refine ⟨h.ar.touch ht hA, fun k nb hk => ?_, h.low⟩
  obtain ⟨a, na, ca, hx⟩ := h.nodes k nb hk
  have h2 := hx.touch0 ht (hn _ hx.box.lab)
  exact ⟨a, na, ca, h2.box, h2.ints, h2.small, Nat.lt_of_lt_of_le h2.low ht.size, fun b hb => Nat.lt_of_lt_of_le (h2.rlow b hb) ht.size, h2.rx⟩
/-- Where nothing refers to anything the roots alone are reached. -/
theorem reach_flat {d : AD} {roots : List Int} (k : Nat) : Reach d (fun _ => []) roots k ↔ ∃ r ∈ roots, (d.get r).isSome = true ∧ k = (r - 1).toNat := by
  constructor
  · intro h
    cases h with
    | root r hr hs => exact ⟨r, hr, hs, rfl⟩
    | step j x _ hx _ =>
      exfalso
      unfold toOf at hx
      split at hx <;> cases hx
  · rintro ⟨r, hr, hs, rfl⟩
    exact .root r hr hs
set_option maxHeartbeats 1000000 in
set_option maxRecDepth 100000 in
theorem nums_same (a b : Option Addr) (n ca cb : Nat) (L : List Int) (w : World) (ha : Ints w a n L) (hb : Ints w b n L) (hn : n ≤ 1000000) :
    Calls Try.prog 14 #[.slice a n ca, .slice b n cb] w fun e w' => e = .returned (.bool true) ∧ Below w.heap.size w w' := by
  have q0 : ((n : Int) != (n : Int)) = false := by simp
  go_enter Try.func14, Try.ntmps14
  go_wp2
  clear q0
  go_loopw [13] (fun i wr => ∃ k : Nat, k ≤ n ∧ i = .int .i64 (k : Int) ∧ Below w.heap.size w wr) (fun i _ => n - (intOf i).toNat)
  case atStart => exact ⟨0, Nat.zero_le _, rfl, Below.refl _ _⟩
  case round =>
    obtain ⟨k, hk, rfl, hbe⟩ := hrel
    have hk0 : (0 : Int) ≤ (k : Int) := by omega
    by_cases hlt : k < n
    · have hlt' : (k : Int) < (n : Int) := by omega
      obtain ⟨b1, o1, rfl, -, -, h1⟩ := (ha.on hbe).2 (by omega)
      obtain ⟨b2, o2, rfl, -, -, h2⟩ := (hb.on hbe).2 (by omega)
      have c1 := h1 k hlt
      have c2 := h2 k hlt
      obtain ⟨x, hx⟩ : ∃ x, L[k]?.getD 0 = x := ⟨_, rfl⟩
      rw [hx] at c1 c2
      have q1 : (x != x) = false := by simp
      have HB := Veil.mk hbe
      clear h1 h2 hx hbe
      go_upto_region 6 with (fail)
      go_quiet (fail)
      go_wp2
      go_round
      case rel => exact ⟨k + 1, by omega, by go_num, below_drewN HB.out _⟩
      case measure => simp [intOf]; omega
    · have hlt' : ¬ (k : Int) < (n : Int) := by omega
      go_wp2
      go_ret
      exact ⟨rfl, hbe⟩
/-- A row of numbers reads as such. -/
theorem ints_of_row {w : World} {B n : Nat} {v : Value} {l : List Nat} (h : w.ownsRow B 3 1 v n (numsV l)) (hn : l.length = n) : ∃ a c, v = .slice a n c ∧ Ints w a n (l.map fun (r : Nat) => (r : Int)) := by
  obtain ⟨ao, cap, rfl, hcap, hg, -⟩ := slice_own h
  refine ⟨ao, cap, rfl, by rw [List.length_map]; exact hn, fun hp => ?_⟩
  obtain ⟨g, rfl⟩ := hg hp
  refine ⟨g, 0, rfl, (own_lt h g rfl).2, own_lab h g rfl, fun i hi => ?_⟩
  rw [Nat.zero_add, h.cellAt i (by omega), List.getElem?_map, List.getElem?_map, List.getElem?_eq_getElem (by omega)]
  rfl
end Go.Proofs.Ytkkbfadfgdjkdaa
