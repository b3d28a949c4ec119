/- The texts of units. -/
import Derived.Test.YtgdkjkfbknbgkaaGreatDoorRows
import Derived.WalkKit
import Derived.WalkSpells
import Derived.WalkLawsBesides
import Derived.Below
import Derived.BigQuiet
import Derived.IntWalk
import Derived.Deep.LoopGhost
import Derived.Lib.OthersKept
import Derived.Lib.UnsafeStr
import Derived.Lib.BufferRead
import Derived.Laws.MakeOwn
import Derived.Laws.OwnMore
import Derived.Deep.QuietTactic
import Derived.Laws.RangeAny
import Derived.Lib.Hide
import Derived.RangeFuncNested
import Derived.RangeFuncBound
import Derived.RangeFuncCalls
import Derived.RangeFuncLeaves
import Derived.Shelf.Abstract
import Derived.Shelf.RegionOpen
import Derived.OwnWalkIn
import Derived.TacticsInMore
import Derived.LoopNIn
import Derived.LoopIn
namespace Go.Proofs.YtgdkjkfbknbgkaaGreatDoor.W
open Go.RowKit

theorem ret_str {a b : List UInt8} (h : a = b) : Ending.returned (.string ⟨a.toArray⟩) = Ending.returned (.string ⟨b.toArray⟩) := by rw [h]
theorem ret_sb {a b : ByteArray} (h : a = b) : Ending.returned (.string a) = Ending.returned (.string b) := by rw [h]
theorem ret_int {k : IntKind} {a b : Int} (h : a = b) : Ending.returned (.int k a) = Ending.returned (.int k b) := by rw [h]
theorem ret_bool {a b : Bool} (h : a = b) : Ending.returned (.bool a) = Ending.returned (.bool b) := by rw [h]
/-- A unit's two bytes. -/
def u2 (c : Nat) : List UInt8 := [UInt8.ofNat (c / 256), UInt8.ofNat c]
/-- The bytes of a character's units. -/
def ofR (c : Nat) : List UInt8 := if c < 65536 then u2 c else u2 (55296 + (c - 65536) / 1024) ++ u2 (56320 + (c - 65536) % 1024)
/-- .. of a text's, from a place on. -/
def ofFrom (s : ByteArray) : Nat → Nat → List UInt8
  | 0, _ => []
  | f + 1, p => if p < s.size then ofR (Utf8.decode s p).1 ++ ofFrom s f (p + (Utf8.decode s p).2) else []
/-- .. of the whole text. -/
def ofB (s : ByteArray) : List UInt8 := ofFrom s s.size 0

theorem width_pos (s : ByteArray) (pos : Nat) (h : pos < s.size) : 1 ≤ (Utf8.decode s pos).2 := by
  by_cases ha : (s[pos]'h).toNat < 128
  · rw [decode_ascii s pos h ha]
    exact Nat.le_refl _
  · exact (decode_high s pos h (by omega)).2
theorem decode_top (s : ByteArray) (p : Nat) : (Utf8.decode s p).1 ≤ 1114111 := by
  have h64 : ∀ k : Nat, k % 64 ≤ 63 := fun k => by omega
  have h32 : ∀ k : Nat, k % 32 ≤ 31 := fun k => by omega
  unfold Utf8.decode
  dsimp only
  repeat' split
  all_goals (first | (simp [Utf8.runeError]; done) | (simp [Utf8.valid] at *; omega) | (simp; omega))
theorem ofFrom_end (s : ByteArray) (f p : Nat) (h : ¬ p < s.size) : ofFrom s f p = [] := by
  cases f with
  | zero => rfl
  | succ f => simp [ofFrom, h]
theorem ofFrom_step (s : ByteArray) (f p : Nat) (h : p < s.size) : ofFrom s (f + 1) p = ofR (Utf8.decode s p).1 ++ ofFrom s f (p + (Utf8.decode s p).2) := by simp [ofFrom, h]
theorem ofR_length (c : Nat) : (ofR c).length ≤ 4 := by
  unfold ofR; split <;> simp [u2]

theorem ownsRow_iterAt {w : World} {base : Nat} {e : TypeId} {size : Nat} {v : Value} {n : Nat} {xs : List Value} (h : w.ownsRow base e size v n xs) {k p0 : Nat} {s : ByteArray} (hk : w.heap[k]? = some (.stringIter s p0)) (p : Nat) : (w.iterAt k s p).ownsRow base e size v n xs := by
  obtain ⟨h1, h2⟩ := h
  refine ⟨h1, ?_⟩
  rcases h2 with h2 | ⟨g, cap, cur, a, b, c, d⟩
  · exact .inl h2
  · refine .inr ⟨g, cap, cur, a, b, ?_, d⟩
    have hne : g ≠ k := fun e => by subst e; rw [hk] at c; cases c
    rw [Lib.iterAt_other _ _ _ _ _ hne]; exact c
theorem own_ne_iter {w : World} {base : Nat} {e : TypeId} {size : Nat} {v : Value} {n : Nat} {xs : List Value} (h : w.ownsRow base e size v n xs) {k p0 : Nat} {s : ByteArray} (hk : w.heap[k]? = some (.stringIter s p0)) : some k ≠ v.ownBlock := by
  rcases h.2 with ⟨rfl, _⟩ | ⟨g, cap, cur, rfl, _, c, _⟩
  · simp [Value.ownBlock]
  · intro he
    have : g = k := by simpa [Value.ownBlock] using he.symm
    subst this
    rw [hk] at c; cases c
theorem iterPos_of {w : World} {k : Nat} {s : ByteArray} {p : Nat} (h : w.heap[k]? = some (.stringIter s p)) : w.iterPos k = p := by simp [World.iterPos, h]
theorem lt_of_block {w : World} {k : Nat} {o : Obj} (h : w.heap[k]? = some o) : k < w.heap.size := (Array.getElem?_eq_some_iff.1 h).1
theorem below_drewN {B : Nat} {a w : World} (h : Below B a w) (n : Nat) : Below B a (w.drewN n) := h.trans ⟨rfl, rfl, rfl, Nat.le_refl _, fun _ _ => rfl⟩
theorem cells_new (w : World) (cs : List Value) (t : TypeId) : ∀ j u, cs[j]? = some u → (w.alloc (.cells cs.toArray t)).cell? ((⟨w.heap.size, 0, none⟩ : Addr).add j) = some u := by
  intro j u hj
  have : ((⟨w.heap.size, 0, none⟩ : Addr).add j) = ⟨w.heap.size, j, none⟩ := by
    unfold Addr.add; split
    · simp [*]
    · simp
  rw [this]
  simp [hj]
theorem run_string_own {P : Program} {w : World} {src dst e : TypeId} {base : Nat} {v : Value} {l : List UInt8} (hs : P.underlying src = some (.slice e)) (he : P.underlying e = some (.int .u8)) (hd : P.underlying dst = some .string)
    (hown : w.ownsRow base e 1 v l.length (Lib.byteCells l)) : (convert src dst v).run P w = .ok (.string ⟨l.toArray⟩) w := by
  rcases hown.2 with ⟨rfl, h0⟩ | ⟨g, cap, cur, rfl, -, -, -, -, -, -⟩
  · have : l = [] := by simpa using h0
    subst this
    exact Lib.run_convert_nil_bytes w src dst e 0 hs he hd
  · exact run_convert_bytes_back w src dst e ⟨g, 0, none⟩ cap l hs he hd (fun j hj => hown.cells (g := g) rfl j _ (by simp [Lib.byteCells, hj]))
theorem Tryz.info5 : (Tryz.prog.info? 5).map (fun i => (i.zero, i.size, i.bytes)) = some (some (.int .u8 0), 1, 1) := by kernel_rfl
end Go.Proofs.YtgdkjkfbknbgkaaGreatDoor.W
namespace Go.Proofs.YtgdkjkfbknbgkaaGreatDoor.W
open Go.RowKit

theorem cells_u2 (c : Nat) (hc : c < 65536) : Lib.byteCells (u2 c) = [.int .u8 ((c : Int) / 256), .int .u8 ((c : Int) % 256)] := by
  simp [Lib.byteCells, u2]; omega

theorem cells_u4 (c : Nat) (hc : 65536 ≤ c) (h : c ≤ 1114111) : Lib.byteCells (u2 (55296 + (c - 65536) / 1024) ++ u2 (56320 + (c - 65536) % 1024)) = [.int .u8 ((55296 + ((c : Int) - 65536) / 1024) / 256), .int .u8 ((55296 + ((c : Int) - 65536) / 1024) % 256), .int .u8 ((56320 + ((c : Int) - 65536) % 1024) / 256), .int .u8 ((56320 + ((c : Int) - 65536) % 1024) % 256)] := by
  simp [Lib.byteCells, u2]; omega

set_option maxRecDepth 1000000 in
set_option maxHeartbeats 2000000 in
theorem of_any (s : ByteArray) (hs : s.size ≤ 16777216) (w : World) :
    Calls Tryz.prog 20 #[.string s] w fun e w' => e = .returned (.string ⟨(ofB s).toArray⟩) ∧ Below w.heap.size w w' := by
  obtain ⟨i0, hi, hz0, hz1, hz2⟩ := info_parts Tryz.info5
  obtain ⟨w1, hr, hown1, hg1⟩ := run_make_own (P := Tryz.prog) w w.heap.size 107 5 i0 (.int .u8 0) 1 Tryz.underlying107 hi hz0 hz1 .i64 .i64 (2 * s.size) (by rw [hz2]; omega) (by unfold maxLen; omega) (Nat.le_refl _)
  rw [show ((2 * s.size : Nat) : Int) = 2 * (s.size : Int) by omega] at hr
  have hb1 : Below w.heap.size w w1 := (Below.refl _ _).grown hg1 (Nat.le_refl _) (fun k h => by cases h)
  have hsz1 : w.heap.size ≤ w1.heap.size := hb1.size
  go_enter Tryz.func20, Tryz.ntmps20
  go_wp2
  go_loopw [3] (fun v wr => ∃ (pos fuel : Nat) (acc : List UInt8), wr.ownsRow w.heap.size 5 1 v acc.length (Lib.byteCells acc) ∧ wr.heap[w1.heap.size]? = some (.stringIter s pos) ∧ Below w.heap.size w wr ∧ Hid (acc ++ ofFrom s fuel pos = ofB s) ∧ s.size ≤ pos + fuel ∧ acc.length ≤ 4 * pos) (fun _ wr => s.size - wr.iterPos w1.heap.size)
  case atStart => exact ⟨0, s.size, [], hown1.alloc _, World.iter_heap w1 s 0, hb1.alloc hsz1 _, rfl, by omega, by simp⟩
  case round =>
    obtain ⟨pos, fuel, acc, hown, hit, hbw, HS, hb, hlen⟩ := hrel
    clear hown1 hg1 hr hb1
    have hpos0 := iterPos_of hit
    by_cases hp : pos < s.size
    · have hnx : ∀ ty, (Instr.next (.pointer (some ⟨w1.heap.size, 0, none⟩)) true ty).run Tryz.prog wr = _ := fun ty => Lib.run_next_any_at wr w1.heap.size s pos ty hit hp
      have hwd := width_pos s pos hp
      obtain ⟨fuel, rfl⟩ : ∃ f', fuel = f' + 1 := ⟨fuel - 1, by omega⟩
      have hst := ofFrom_step s fuel pos hp
      have hrl := ofR_length (Utf8.decode s pos).1
      obtain ⟨c, hcd⟩ : ∃ c, c = (Utf8.decode s pos).1 := ⟨_, rfl⟩
      obtain ⟨q, hqd⟩ : ∃ q, q = pos + (Utf8.decode s pos).2 := ⟨_, rfl⟩
      have hcle : c ≤ 1114111 := by rw [hcd]; exact decode_top s pos
      have hpq : pos < q := by omega
      rw [← hcd, ← hqd] at hnx hst
      rw [← hcd] at hrl
      have hit2 := Lib.iterAt_heap wr w1.heap.size s pos q hit
      have hbw2 := Lib.below_iterAt hbw (k := w1.heap.size) hsz1 s q
      have hown2 := ownsRow_iterAt hown hit q
      clear hwd hcd hqd
      obtain ⟨W1, hW1⟩ : ∃ W1, W1 = wr.iterAt w1.heap.size s q := ⟨_, rfl⟩
      rw [← hW1] at hnx hit2 hbw2 hown2
      have hBlt := lt_of_block hit2
      have HS2 : Hid (acc ++ ofR c ++ ofFrom s fuel q = ofB s) := by have := HS.out; rw [hst, ← List.append_assoc] at this; exact this
      clear hW1 hit hown hbw HS hst
      by_cases hc : c < 65536
      · have hci : (c : Int) < 65536 := by omega
        have HC := Lib.hid (cells_u2 c hc)
        have HR : Hid (ofR c = u2 c) := by unfold ofR; rw [if_pos hc]; exact rfl
        go_wp2_with (at_builtin; refine wpList_append_own _ rfl _ _ 107 rfl w.heap.size 5 i0 (.int .u8 0) 1 1 Tryz.underlying107 hi hz0 hz1 hz2 rfl (by decide) _ _ _ rfl (hown2.alloc _) ⟨W1.heap.size, 0, none⟩ 2 2 [_, _] rfl rfl (cells_new _ _ _) (fun x hx => by simp at hx; rcases hx with rfl | rfl <;> rfl) (by unfold maxLen; omega) (by omega) (by simp; omega) ?_; intro v' w3 hown' hgrow3 hnil3; refine Hid.out ?_)
        have hown3 := hown'
        rw [← HC.out, ← Lib.byteCells_append, ← HR.out, show acc.length + 2 = (acc ++ ofR c).length by rw [HR.out]; simp [u2]] at hown3
        have hit3 : w3.heap[w1.heap.size]? = some (.stringIter s q) := by
          rw [hgrow3.block w1.heap.size (by simp; omega) (own_ne_iter hown2 hit2), Below.heap_alloc _ _ _ hBlt]; exact hit2
        have hbw3 : Below w.heap.size w w3 := Below.grown (hbw2.alloc (by omega) _) hgrow3 (by simp; omega) (fun j hj => (hown2.lt _ hj).1)
        clear hown' hgrow3 hnil3
        refine Lib.hid ?_
        go_wp2
        go_roundw
        case rel => exact ⟨q, fuel, acc ++ ofR c, hown3, hit3, hbw3, HS2, by omega, by simp; omega⟩
        case measure => rw [iterPos_of hit3, hpos0]; omega

      · have hci : ¬ (c : Int) < 65536 := by omega
        have hbit : bits .and .i32 ((c : Int) - 65536) 1023 = ((c : Int) - 65536) % 1024 := bits_mask .i32 31 (by decide) wraps_i32 10 (by decide) _ (by omega) (by omega)
        have hm0 : 0 ≤ ((c : Int) - 65536) % 1024 := by omega
        have hm1 : ((c : Int) - 65536) % 1024 ≤ 1023 := by omega
        have HC := Lib.hid (cells_u4 c (by omega) hcle)
        have HR : Hid (ofR c = u2 (55296 + (c - 65536) / 1024) ++ u2 (56320 + (c - 65536) % 1024)) := by unfold ofR; rw [if_neg hc]; exact rfl
        go_wp2_with (at_builtin; refine wpList_append_own _ rfl _ _ 107 rfl w.heap.size 5 i0 (.int .u8 0) 1 1 Tryz.underlying107 hi hz0 hz1 hz2 rfl (by decide) _ _ _ rfl (hown2.alloc _) ⟨W1.heap.size, 0, none⟩ 4 4 [_, _, _, _] rfl rfl (cells_new _ _ _) (fun x hx => by simp at hx; rcases hx with rfl | rfl | rfl | rfl <;> rfl) (by unfold maxLen; omega) (by omega) (by simp; omega) ?_; intro v' w3 hown' hgrow3 hnil3; refine Hid.out ?_)
        have hown3 := hown'
        rw [← HC.out, ← Lib.byteCells_append, ← HR.out, show acc.length + 4 = (acc ++ ofR c).length by rw [HR.out]; simp [u2]] at hown3
        have hit3 : w3.heap[w1.heap.size]? = some (.stringIter s q) := by
          rw [hgrow3.block w1.heap.size (by simp; omega) (own_ne_iter hown2 hit2), Below.heap_alloc _ _ _ hBlt]; exact hit2
        have hbw3 : Below w.heap.size w w3 := Below.grown (hbw2.alloc (by omega) _) hgrow3 (by simp; omega) (fun j hj => (hown2.lt _ hj).1)
        clear hown' hgrow3 hnil3
        refine Lib.hid ?_
        go_wp2
        go_roundw
        case rel => exact ⟨q, fuel, acc ++ ofR c, hown3, hit3, hbw3, HS2, by omega, by simp; omega⟩
        case measure => rw [iterPos_of hit3, hpos0]; omega

    · have hnx : ∀ ty, (Instr.next (.pointer (some ⟨w1.heap.size, 0, none⟩)) true ty).run Tryz.prog wr = _ := fun ty => Lib.run_next_end_at wr w1.heap.size s pos ty hit hp
      have e : acc = ofB s := by have := HS.out; rw [ofFrom_end s fuel pos hp, List.append_nil] at this; exact this
      have HE := Lib.hid e
      clear e
      have hcv := run_string_own (P := Tryz.prog) (w := wr) (src := 107) (dst := 9) (e := 5) Tryz.underlying107 Tryz.underlying5 Tryz.underlying9 hown
      go_wp2
      go_ret
      exact ⟨ret_str HE.out, hbw⟩
end Go.Proofs.YtgdkjkfbknbgkaaGreatDoor.W
namespace Go.Proofs.YtgdkjkfbknbgkaaGreatDoor.W
open Go.RowKit

theorem len_any (s : ByteArray) (hs : s.size ≤ 16777216) (w : World) :
    Calls Tryz.prog 77 #[.string s] w fun e w' => e = .returned (.int .i64 ((s.size : Int) / 2)) ∧ w = w' := by
  go_enter Tryz.func77, Tryz.ntmps77
  go_wp2
  go_ret
  exact ⟨rfl, rfl⟩

/-- The units of a list of bytes. -/
def units : List UInt8 → List Nat
  | a :: b :: r => (a.toNat * 256 + b.toNat) :: units r
  | _ => []
theorem units_length : ∀ l : List UInt8, (units l).length = l.length / 2
  | [] => by simp [units]
  | [_] => by simp [units]
  | _ :: _ :: r => by simp [units, units_length r]; omega
theorem units_at : ∀ (l : List UInt8) (i : Nat) (h : 2 * i + 1 < l.length), (units l)[i]? = some (l[2 * i].toNat * 256 + l[2 * i + 1].toNat)
  | [], i, h => absurd h (by simp)
  | [_], i, h => absurd h (by simp)
  | a :: b :: r, 0, h => by simp [units]
  | a :: b :: r, i + 1, h => by
    have := units_at r i (by simp at h; omega)
    simp only [units, List.getElem?_cons_succ, this]
    rfl
theorem units_lt : ∀ (l : List UInt8) (u : Nat), u ∈ units l → u < 65536
  | [], u, h => by simp [units] at h
  | [_], u, h => by simp [units] at h
  | a :: b :: r, u, h => by
    simp only [units, List.mem_cons] at h
    rcases h with rfl | h
    · have := a.toNat_lt; have := b.toNat_lt; omega
    · exact units_lt r u h
/-- The units of a string. -/
def unitsS (s : ByteArray) : List Nat := units s.data.toList
theorem unitsS_length (s : ByteArray) : (unitsS s).length = s.size / 2 := by unfold unitsS; rw [units_length]; rfl
theorem unitsS_at (s : ByteArray) (i : Nat) (h : 2 * i + 1 < s.size) : (unitsS s)[i]? = some (s[2 * i].toNat * 256 + s[2 * i + 1].toNat) := by
  unfold unitsS; rw [units_at _ _ (by simpa using h)]; rfl
theorem unit_join (x y : UInt8) : bits .or .u16 (IntKind.u16.wrap (IntKind.u16.wrap (x.toNat : Int) * 256)) (IntKind.u16.wrap (y.toNat : Int)) = ((x.toNat * 256 + y.toNat : Nat) : Int) := by
  have hx := x.toNat_lt
  have hy := y.toNat_lt
  simp only [IntKind.wrap_u16]
  rw [show ((x.toNat : Int) % 65536 * 256) % 65536 = (x.toNat : Int) * 256 by omega, show (y.toNat : Int) % 65536 = (y.toNat : Int) by omega]
  rw [bits_join .u16 16 (by decide) (fun n h0 h1 => by rw [IntKind.wrap_u16]; omega) 8 _ _ (by omega) (by omega) (by omega) (by omega) (by omega) (by omega)]
  omega
theorem at_in (s : ByteArray) (hs : s.size ≤ 16777216) (i : Nat) (hi : i < s.size / 2) (w : World) :
    Calls Tryz.prog 79 #[.string s, .int .i64 (i : Int)] w fun e w' => e = .returned (.int .u16 (((unitsS s)[i]?.getD 0 : Nat) : Int)) ∧ ∃ n, w' = w.drewN n := by
  have h1 : (i : Int) < (s.size : Int) / 2 := by omega
  have h2 : 2 * i < s.size := by omega
  have h3 : 2 * i + 1 < s.size := by omega
  have HU := Lib.hid (unitsS_at s i h3)
  have HJ := Lib.hid (unit_join s[2 * i] s[2 * i + 1])
  go_enter Tryz.func79, Tryz.ntmps79
  go_wp2_with (first | (go_at_call 77; ((with_reducible refine (len_any _ hs _).mono ?_); rintro e w' ⟨rfl, rfl⟩)))
  have e1 : IntKind.i64.wrap (2 * (i : Int)) = 2 * (i : Int) := IntWalk.i64_in _ (by omega)
  have e2 : IntKind.i64.wrap (2 * (i : Int) + 1) = 2 * (i : Int) + 1 := IntWalk.i64_in _ (by omega)
  have p1 : 0 ≤ 2 * (i : Int) := by omega
  have p2 : 0 ≤ 2 * (i : Int) + 1 := by omega
  have p3 : 2 * (i : Int) < s.size := by omega
  have p4 : 2 * (i : Int) + 1 < s.size := by omega
  have n1 : (2 * (i : Int)).toNat = 2 * i := by omega
  have n2 : (2 * (i : Int) + 1).toNat = 2 * i + 1 := by omega
  go_quiet (fail)
  go_wp2
  go_ret
  exact ⟨ret_int (by rw [HU.out]; exact HJ.out), _, rfl⟩
theorem at_out (s : ByteArray) (hs : s.size ≤ 16777216) (i : Int) (hi : i < 0 ∨ (s.size : Int) / 2 ≤ i) (w : World) :
    Calls Tryz.prog 79 #[.string s, .int .i64 i] w fun e w' => e = .returned (.int .u16 0) ∧ w = w' := by
  rcases hi with hi | hi
  · go_enter Tryz.func79, Tryz.ntmps79
    go_wp2_with (first | (go_at_call 77; ((with_reducible refine (len_any _ hs _).mono ?_); rintro e w' ⟨rfl, rfl⟩)))
    go_ret
    exact ⟨rfl, rfl⟩
  · have h0 : ¬ i < 0 := by omega
    go_enter Tryz.func79, Tryz.ntmps79
    go_wp2_with (first | (go_at_call 77; ((with_reducible refine (len_any _ hs _).mono ?_); rintro e w' ⟨rfl, rfl⟩)))
    go_ret
    exact ⟨rfl, rfl⟩

end Go.Proofs.YtgdkjkfbknbgkaaGreatDoor.W
namespace Go.Proofs.YtgdkjkfbknbgkaaGreatDoor.W
open Go Go.RowKit
attribute [local go_sem] Oper.semAt_some

theorem units_flat : ∀ (l : List Nat), (∀ u ∈ l, u < 65536) → units (l.flatMap u2) = l
  | [], _ => rfl
  | c :: r, h => by
    have hc : c < 65536 := h c (List.mem_cons_self ..)
    have := units_flat r (fun u hu => h u (List.mem_cons_of_mem _ hu))
    rw [List.flatMap_cons]
    show units (UInt8.ofNat (c / 256) :: UInt8.ofNat c :: r.flatMap u2) = _
    simp only [units, this]
    congr 1
    simp; omega
theorem flat_length (l : List Nat) : (l.flatMap u2).length = 2 * l.length := by
  induction l with
  | nil => rfl
  | cons x r ih => rw [List.flatMap_cons, List.length_append, ih]; simp [u2]; omega
/-- Sub: the units from one place up to another, both held within what there is. -/
def subB (s : ByteArray) (i j : Int) : ByteArray :=
  let t := min (max j 0) ((s.size : Int) / 2)
  let f := min (max i 0) t
  s.extract (2 * f.toNat) (2 * t.toNat)
theorem sub_any (s : ByteArray) (hs : s.size ≤ 16777216) (i j : Int) (w : World) :
    Calls Tryz.prog 78 #[.string s, .int .i64 i, .int .i64 j] w fun e w' => e = .returned (.string (subB s i j)) ∧ w = w' := by
  obtain ⟨t, ht⟩ : ∃ t : Nat, (t : Int) = min (max j 0) ((s.size : Int) / 2) := ⟨(min (max j 0) ((s.size : Int) / 2)).toNat, by omega⟩
  obtain ⟨f, hf⟩ : ∃ f : Nat, (f : Int) = min (max i 0) (t : Int) := ⟨(min (max i 0) (t : Int)).toNat, by omega⟩
  have hft : f ≤ t := by omega
  have hts : t ≤ s.size / 2 := by omega
  have HS : Hid (subB s i j = s.extract (2 * f) (2 * t)) := by
    show subB s i j = _
    unfold subB
    simp only [← ht, ← hf, Int.toNat_natCast]
  have q1 : (2 * (f : Int)).toNat = 2 * f := by omega
  have q2 : (2 * (t : Int)).toNat = 2 * t := by omega
  have q3 : 0 ≤ 2 * (f : Int) := by omega
  have q4 : 2 * (f : Int) ≤ 2 * (t : Int) := by omega
  have q5 : 2 * (t : Int) ≤ s.size := by omega
  have g1 : (if (s.size : Int) / 2 < (if j < 0 then 0 else j) then (s.size : Int) / 2 else if j < 0 then 0 else j) = (t : Int) := by rw [ht]; split <;> split <;> omega
  have g2 : (if (t : Int) < (if i < 0 then 0 else i) then (t : Int) else if i < 0 then 0 else i) = (f : Int) := by rw [hf]; split <;> split <;> omega
  clear ht hf
  go_enter Tryz.func78, Tryz.ntmps78
  go_wp2_with (first | (go_at_call 77; ((with_reducible refine (len_any _ hs _).mono ?_); rintro e w' ⟨rfl, rfl⟩)))
  all_goals
    go_ret
    exact ⟨ret_sb HS.out.symm, rfl⟩
theorem flat_drop (l : List Nat) (k : Nat) : (l.flatMap u2).drop (2 * k) = (l.drop k).flatMap u2 := by
  induction k generalizing l with
  | zero => simp
  | succ k ih =>
    cases l with
    | nil => simp
    | cons x r =>
      rw [List.flatMap_cons, List.drop_succ_cons, ← ih r]
      show ((UInt8.ofNat (x / 256) :: UInt8.ofNat x :: r.flatMap u2)).drop (2 * k + 2) = _
      simp
theorem flat_take (l : List Nat) (k : Nat) : (l.flatMap u2).take (2 * k) = (l.take k).flatMap u2 := by
  induction k generalizing l with
  | zero => simp
  | succ k ih =>
    cases l with
    | nil => simp
    | cons x r =>
      rw [List.flatMap_cons, List.take_succ_cons, List.flatMap_cons, ← ih r]
      show ((UInt8.ofNat (x / 256) :: UInt8.ofNat x :: r.flatMap u2)).take (2 * k + 2) = _
      simp [u2]
/-- The string of units. -/
def strU (l : List Nat) : ByteArray := ⟨(l.flatMap u2).toArray⟩
theorem strU_size (l : List Nat) : (strU l).size = 2 * l.length := by
  show (l.flatMap u2).toArray.size = _
  simp only [List.size_toArray]; exact flat_length l
theorem strU_units (l : List Nat) (h : ∀ u ∈ l, u < 65536) : unitsS (strU l) = l := by
  show units (l.flatMap u2).toArray.toList = l
  simp only []; exact units_flat l h
theorem strU_sub (l : List Nat) (i j : Int) (f t : Nat) (ht : (t : Int) = min (max j 0) (l.length : Int)) (hf : (f : Int) = min (max i 0) (t : Int)) :
    subB (strU l) i j = strU ((l.drop f).take (t - f)) := by
  have hft : f ≤ t := by omega
  unfold subB
  have e1 : min (max j 0) (((strU l).size : Int) / 2) = (t : Int) := by rw [strU_size, ht]; congr 1; omega
  simp only [e1, ← hf, Int.toNat_natCast]
  apply ByteArray.ext
  apply Array.ext'
  rw [ByteArray.data_extract]
  simp only [strU, List.extract_toArray, List.extract_eq_take_drop] 
  rw [show 2 * t - 2 * f = 2 * (t - f) by omega, flat_drop, flat_take]
theorem at_nat (s : ByteArray) (hs : s.size ≤ 16777216) (i : Nat) (w : World) :
    Calls Tryz.prog 79 #[.string s, .int .i64 (i : Int)] w fun e w' => e = .returned (.int .u16 (((unitsS s)[i]?.getD 0 : Nat) : Int)) ∧ ∃ n, w' = w.drewN n := by
  by_cases hi : i < s.size / 2
  · exact at_in s hs i hi w
  · refine (at_out s hs (i : Int) (.inr (by omega)) w).mono fun e w' h => ⟨?_, 0, ?_⟩
    · rw [h.1, List.getElem?_eq_none (by rw [unitsS_length]; omega)]
      rfl
    · rw [← h.2]; rfl
def isHi (u : Nat) : Bool := decide (55296 ≤ u) && decide (u ≤ 56319)
def isLo (u : Nat) : Bool := decide (56320 ≤ u) && decide (u ≤ 57343)
theorem high_any (u : Nat) (w : World) : Calls Tryz.prog 39 #[.int .i32 (u : Int)] w fun e w' => e = .returned (.bool (isHi u)) ∧ w = w' := by
  by_cases h1 : (55296 : Int) ≤ (u : Int)
  · have HX : Hid (isHi u = decide ((u : Int) ≤ 56319)) := Lib.hid (by
      have a : 55296 ≤ u := by omega
      rw [isHi, decide_eq_true a, Bool.true_and, decide_eq_decide]; omega)
    go_enter Tryz.func39, Tryz.ntmps39
    go_wp2
    go_ret
    exact ⟨ret_bool HX.out.symm, rfl⟩
  · have HX : Hid (isHi u = false) := Lib.hid (by
      have a : ¬ 55296 ≤ u := by omega
      rw [isHi, decide_eq_false a, Bool.false_and])
    go_enter Tryz.func39, Tryz.ntmps39
    go_wp2
    go_ret
    exact ⟨ret_bool HX.out.symm, rfl⟩
theorem low_any (u : Nat) (w : World) : Calls Tryz.prog 40 #[.int .i32 (u : Int)] w fun e w' => e = .returned (.bool (isLo u)) ∧ w = w' := by
  by_cases h1 : (56320 : Int) ≤ (u : Int)
  · have HX : Hid (isLo u = decide ((u : Int) ≤ 57343)) := Lib.hid (by
      have a : 56320 ≤ u := by omega
      rw [isLo, decide_eq_true a, Bool.true_and, decide_eq_decide]; omega)
    go_enter Tryz.func40, Tryz.ntmps40
    go_wp2
    go_ret
    exact ⟨ret_bool HX.out.symm, rfl⟩
  · have HX : Hid (isLo u = false) := Lib.hid (by
      have a : ¬ 56320 ≤ u := by omega
      rw [isLo, decide_eq_false a, Bool.false_and])
    go_enter Tryz.func40, Tryz.ntmps40
    go_wp2
    go_ret
    exact ⟨ret_bool HX.out.symm, rfl⟩
/-- The code point of the character that starts with unit u, v being the next one, and its number of units. -/
def ptP (u v : Nat) : Nat × Nat := if isHi u && isLo v then (65536 + (u - 55296) * 1024 + (v - 56320), 2) else (u, 1)
theorem point_in (s : ByteArray) (hs : s.size ≤ 16777216) (i : Nat) (hi : i < s.size / 2) (w : World) :
    Calls Tryz.prog 37 #[.string s, .int .i64 (i : Int)] w fun e w' => e = .returned (.tuple #[.int .i32 ((ptP ((unitsS s)[i]?.getD 0) ((unitsS s)[i + 1]?.getD 0)).1 : Nat), .int .i64 ((ptP ((unitsS s)[i]?.getD 0) ((unitsS s)[i + 1]?.getD 0)).2 : Nat)]) ∧ ∃ n, w' = w.drewN n := by
  have HA := fun w => at_nat s hs i w
  have HB : ∀ w, Calls Tryz.prog 79 #[.string s, .int .i64 ((i : Int) + 1)] w fun e w' => e = .returned (.int .u16 (((unitsS s)[i + 1]?.getD 0 : Nat) : Int)) ∧ ∃ n, w' = w.drewN n := fun w => by
    have := at_nat s hs (i + 1) w
    rwa [show ((i + 1 : Nat) : Int) = (i : Int) + 1 by omega] at this
  have hu : (unitsS s)[i]?.getD 0 < 65536 := by
    rcases h : (unitsS s)[i]? with _ | x
    · decide
    · exact units_lt _ x (List.mem_of_getElem? h)
  have hv : (unitsS s)[i + 1]?.getD 0 < 65536 := by
    rcases h : (unitsS s)[i + 1]? with _ | x
    · decide
    · exact units_lt _ x (List.mem_of_getElem? h)
  generalize (unitsS s)[i]?.getD 0 = u at hu HA ⊢
  generalize (unitsS s)[i + 1]?.getD 0 = v at hv HB ⊢
  have g0 : (i : Int) < (s.size : Int) / 2 := by omega
  have e2 : IntKind.i32.wrap (u : Int) = (u : Int) := IntWalk.i32_in _ (by omega)
  have e3 : IntKind.i32.wrap (v : Int) = (v : Int) := IntWalk.i32_in _ (by omega)
  have H1 := fun w => high_any u w
  have H2 := fun w => low_any v w
  rcases h1 : isHi u with _ | _
  · have HP : Hid (ptP u v = (u, 1)) := Lib.hid (by simp [ptP, h1])
    rw [h1] at H1
    go_enter Tryz.func37, Tryz.ntmps37
    go_wp2_with (first | (go_at_call 79; ((with_reducible refine (HA _).mono ?_); rintro e w1 ⟨rfl, n1, rfl⟩)) | (go_at_call 79; ((with_reducible refine (HB _).mono ?_); rintro e w1 ⟨rfl, n2, rfl⟩)) | (go_at_call 77; ((with_reducible refine (len_any _ hs _).mono ?_); rintro e w1 ⟨rfl, rfl⟩)) | (go_at_call 39; ((with_reducible refine (H1 _).mono ?_); rintro e w1 ⟨rfl, rfl⟩)) | (go_at_call 40; ((with_reducible refine (H2 _).mono ?_); rintro e w1 ⟨rfl, rfl⟩)))
    go_ret2
    exact ⟨by rw [HP.out]; rfl, _, rfl⟩
  · rw [h1] at H1
    rcases h2 : isLo v with _ | _
    · have HP : Hid (ptP u v = (u, 1)) := Lib.hid (by simp [ptP, h1, h2])
      rw [h2] at H2
      go_enter Tryz.func37, Tryz.ntmps37
      go_wp2_with (first | (go_at_call 79; ((with_reducible refine (HA _).mono ?_); rintro e w1 ⟨rfl, n1, rfl⟩)) | (go_at_call 79; ((with_reducible refine (HB _).mono ?_); rintro e w1 ⟨rfl, n2, rfl⟩)) | (go_at_call 77; ((with_reducible refine (len_any _ hs _).mono ?_); rintro e w1 ⟨rfl, rfl⟩)) | (go_at_call 39; ((with_reducible refine (H1 _).mono ?_); rintro e w1 ⟨rfl, rfl⟩)) | (go_at_call 40; ((with_reducible refine (H2 _).mono ?_); rintro e w1 ⟨rfl, rfl⟩)))
      go_ret2
      exact ⟨by rw [HP.out]; rfl, _, rfl⟩
    · have HP : Hid (ptP u v = (65536 + (u - 55296) * 1024 + (v - 56320), 2)) := Lib.hid (by simp [ptP, h1, h2])
      have HE : Hid (((65536 + (u - 55296) * 1024 + (v - 56320) : Nat) : Int) = 65536 + ((u : Int) - 55296) * 1024 + ((v : Int) - 56320)) := Lib.hid (by
        simp only [isHi, isLo, Bool.and_eq_true, decide_eq_true_eq] at h1 h2
        omega)
      rw [h2] at H2
      go_enter Tryz.func37, Tryz.ntmps37
      go_wp2_with (first | (go_at_call 79; ((with_reducible refine (HA _).mono ?_); rintro e w1 ⟨rfl, n1, rfl⟩)) | (go_at_call 79; ((with_reducible refine (HB _).mono ?_); rintro e w1 ⟨rfl, n2, rfl⟩)) | (go_at_call 77; ((with_reducible refine (len_any _ hs _).mono ?_); rintro e w1 ⟨rfl, rfl⟩)) | (go_at_call 39; ((with_reducible refine (H1 _).mono ?_); rintro e w1 ⟨rfl, rfl⟩)) | (go_at_call 40; ((with_reducible refine (H2 _).mono ?_); rintro e w1 ⟨rfl, rfl⟩)))
      go_ret2
      exact ⟨by
        rw [HP.out]
        show Ending.returned (.tuple #[.int .i32 (65536 + ((u : Int) - 55296) * 1024 + ((v : Int) - 56320)), .int .i64 2]) = .returned (.tuple #[.int .i32 ((65536 + (u - 55296) * 1024 + (v - 56320) : Nat) : Int), .int .i64 ((2 : Nat) : Int)])
        rw [HE.out]
        rfl, _, rfl⟩
/-- The characters of units, each one as its units. -/
def signs : List Nat → List (List Nat)
  | [] => []
  | [u] => [[u]]
  | u :: v :: r => if isHi u && isLo v then [u, v] :: signs r else [u] :: signs (v :: r)
theorem isLo_zero : isLo 0 = false := rfl
theorem ptP_snd (u v : Nat) : (ptP u v).2 = 1 ∨ (ptP u v).2 = 2 := by
  unfold ptP
  split
  · exact .inr rfl
  · exact .inl rfl
theorem signs_step (l : List Nat) (i : Nat) (hi : i < l.length) :
    signs (l.drop i) = (l.drop i).take (ptP (l[i]?.getD 0) (l[i + 1]?.getD 0)).2 :: signs (l.drop (i + (ptP (l[i]?.getD 0) (l[i + 1]?.getD 0)).2)) ∧ i + (ptP (l[i]?.getD 0) (l[i + 1]?.getD 0)).2 ≤ l.length := by
  rw [List.getElem?_eq_getElem hi, Option.getD_some]
  by_cases h : i + 1 < l.length
  · rw [List.getElem?_eq_getElem h, Option.getD_some]
    have e1 : l.drop i = l[i] :: l[i + 1] :: l.drop (i + 2) := by rw [List.drop_eq_getElem_cons hi, List.drop_eq_getElem_cons h]
    rcases hc : (isHi l[i] && isLo l[i + 1]) with _ | _
    · have e2 : (ptP l[i] l[i + 1]).2 = 1 := by simp [ptP, hc]
      rw [e2]
      refine ⟨?_, by omega⟩
      conv => lhs; rw [e1]
      rw [signs, if_neg (by simp [hc]), List.drop_eq_getElem_cons h]
      rw [e1]; rfl
    · have e2 : (ptP l[i] l[i + 1]).2 = 2 := by simp [ptP, hc]
      rw [e2]
      refine ⟨?_, by omega⟩
      conv => lhs; rw [e1]
      rw [signs, if_pos (by simp [hc])]
      rw [e1]; rfl
  · have e0 : l[i + 1]?.getD 0 = 0 := by rw [List.getElem?_eq_none (by omega)]; rfl
    have e1 : l.drop i = [l[i]] := by rw [List.drop_eq_getElem_cons hi, List.drop_eq_nil_of_le (by omega)]
    have e2 : (ptP l[i] 0).2 = 1 := by simp [ptP, isLo_zero]
    rw [e0, e2]
    refine ⟨?_, by omega⟩
    rw [e1, List.drop_eq_nil_of_le (by omega)]
    rfl
/-- The box Bs holds what it held. -/
def KeepBox (Bs : Nat) (W W' : World) : Prop := W'.cell? ⟨Bs, 0, none⟩ = W.cell? ⟨Bs, 0, none⟩
theorem KeepBox.trans {Bs : Nat} {A B C : World} (h : KeepBox Bs A B) (k : KeepBox Bs B C) : KeepBox Bs A C := Eq.trans k h
set_option maxRecDepth 100000 in
set_option maxHeartbeats 2000000 in
/-- The iterator's function: for every body that keeps its box. -/
theorem points1_in (n : Nat) (hn : 1 ≤ n) (l Bs : Nat) (L : List Nat) (hL : L.length ≤ 1000000) (hU : ∀ u ∈ L, u < 65536) (J Jx : List (List Nat) → World → Prop)
    (hY : ∀ pre x W, J pre W → pre.length < (signs L).length → YieldAt Fence.wide (n - 1) Tryz.prog l #[.string (strU x)] W fun e W' =>
      (e = .returned (.bool true) ∧ J (pre ++ [x]) W' ∧ KeepBox Bs W W') ∨ (e = .returned (.bool false) ∧ Jx (pre ++ [x]) W'))
    (hJd : ∀ pre W m, J pre W → J pre (W.drewN m))
    (W : World) (hBs : W.cell? ⟨Bs, 0, none⟩ = some (.string (strU L))) (h0 : J [] W) :
    CallsIn Fence.wide n Tryz.prog 76 #[.func (.yield l) #[] #[], .pointer (some ⟨Bs, 0, none⟩)] W fun e W' => (∃ v, e = .returned v) ∧
      ((∃ ys, ys = signs L ∧ J ys W') ∨ (∃ pre, pre <+: signs L ∧ Jx pre W')) := by
  have hs : (strU L).size ≤ 16777216 := by rw [strU_size]; omega
  have hsz : ((strU L).size : Int) / 2 = (L.length : Int) := by rw [strU_size]; omega
  have HL := fun w => len_any (strU L) hs w
  rw [hsz] at HL
  refine callsIn_of_wp Tryz.func76 rfl trivial ?_ rfl
  simp only [Tryz.ntmps76, List.size_toArray, List.length_cons, List.length_nil, Nat.reduceAdd, Nat.reduceSub, Array.replicate_succ, Array.replicate_zero, List.push_toArray, List.append_toArray, List.nil_append, List.cons_append]
  gi_wp2
  gi_loopw [3] (fun i wr => ∃ (k : Nat) (pre : List (List Nat)), k ≤ L.length ∧ i = .int .i64 k ∧ signs L = pre ++ signs (L.drop k) ∧ J pre wr ∧ KeepBox Bs W wr)
    (fun i _ => L.length - (intOf i).toNat)
  case atStart => exact ⟨0, [], Nat.zero_le _, rfl, rfl, h0, rfl⟩
  case round =>
    obtain ⟨k, pre, hk, rfl, hpre, hJs, hnx⟩ := hrel
    have hcx : wr.cell? ⟨Bs, 0, none⟩ = some (.string (strU L)) := Eq.trans hnx hBs
    by_cases hlt : k < L.length
    · obtain ⟨hs1, hs2⟩ := signs_step L k hlt
      have HP := fun w => point_in (strU L) hs k (by rw [strU_size]; omega) w
      rw [strU_units L hU] at HP
      rcases hp : ptP (L[k]?.getD 0) (L[k + 1]?.getD 0) with ⟨pc, pn⟩
      rw [hp] at HP hs1 hs2
      dsimp only at HP hs1 hs2
      have HS : ∀ w, Calls Tryz.prog 78 #[.string (strU L), .int .i64 (k : Int), .int .i64 ((k : Int) + (pn : Int))] w fun e w' => e = .returned (.string (strU ((L.drop k).take pn))) ∧ w = w' := fun w => by
        have h := sub_any (strU L) hs (k : Int) ((k : Int) + (pn : Int)) w
        rwa [strU_sub L (k : Int) ((k : Int) + (pn : Int)) k (k + pn) (by omega) (by omega), show k + pn - k = pn by omega] at h
      have hlen : pre.length < (signs L).length := by rw [hpre, hs1]; simp
      gi_wp2_with (first | (refine ⟨trivial, ?_⟩; gi_at_call 77; refine (callsIn_wide.2 (HL _)).mono ?_; rintro e wq ⟨rfl, rfl⟩) | (refine ⟨trivial, ?_⟩; gi_at_call 37; refine (callsIn_wide.2 (HP _)).mono ?_; rintro e wq ⟨rfl, m, rfl⟩; obtain ⟨fn, tmps, assign, body, hy, hR⟩ := hY pre ((L.drop k).take pn) (wr.drewN m) (hJd _ _ _ hJs) hlen) | (refine ⟨trivial, ?_⟩; gi_at_call 78; refine (callsIn_wide.2 (HS _)).mono ?_; rintro e wq ⟨rfl, rfl⟩))
      have hpn : pn = 1 ∨ pn = 2 := by
        have := ptP_snd (L[k]?.getD 0) (L[k + 1]?.getD 0)
        rwa [hp] at this
      have e1 : IntKind.i64.wrap ((k : Int) + (pn : Int)) = ((k + pn : Nat) : Int) := by rw [IntWalk.i64_in _ (by omega)]; omega
      refine hR.mono ?_
      rintro e W3 (⟨rfl, hJ3, hk3⟩ | ⟨rfl, hJx3⟩)
      · gi_wp2
        go_roundw
        case rel => exact ⟨k + pn, _, hs2, by simp, by rw [hpre, hs1, List.append_assoc]; rfl, hJ3, hnx.trans hk3⟩
        case measure => simp [intOf]; omega
      · gi_wp2
        refine bodyPost_ret (results_none rfl _ _ _) rfl ?_
        exact ⟨⟨_, rfl⟩, .inr ⟨_, ⟨_, by rw [hpre, hs1, List.append_assoc]; rfl⟩, hJx3⟩⟩
    · obtain rfl : k = L.length := by omega
      have hlt' : ¬ (L.length : Int) < (L.length : Int) := by omega
      gi_wp2_with (first | (refine ⟨trivial, ?_⟩; gi_at_call 77; refine (callsIn_wide.2 (HL _)).mono ?_; rintro e wq ⟨rfl, rfl⟩) | (gi_at_call 77; refine (callsIn_wide.2 (HL _)).mono ?_; rintro e wq ⟨rfl, rfl⟩))
      go_end0
      exact ⟨⟨_, rfl⟩, .inl ⟨_, by rw [hpre]; simp [signs], hJs⟩⟩
theorem points_any (s : ByteArray) (w : World) :
    Calls Tryz.prog 36 #[.string s] w fun e w' => e = .returned (.func (.func 76) #[] #[.pointer (some ⟨w.heap.size, 0, none⟩)]) ∧ w' = w.alloc (.cells #[.string s] 9) := by
  go_enter Tryz.func36, Tryz.ntmps36
  go_wp2
  go_ret
  exact ⟨rfl, rfl⟩
theorem grown_drewN (w : World) (m : Nat) : w.grownBy (w.drewN m) none := by
  refine ⟨rfl, rfl, rfl, Nat.le_refl _, ?_⟩
  intros
  first | rfl | assumption | (exact .inl rfl)
theorem points_stops (n : Nat) (hn : 1 ≤ n) (Bs : Nat) (L : List Nat) (hL : L.length ≤ 1000000) (hU : ∀ u ∈ L, u < 65536) (w : World) (hb : Bs < w.heap.size)
    (hc : w.cell? ⟨Bs, 0, none⟩ = some (.string (strU L))) :
    SeqStopsK Fence.wide n Tryz.prog 76 #[.pointer (some ⟨Bs, 0, none⟩)] (fun x : List Nat => #[Value.string (strU x)]) (KeepBox Bs) (fun ys => ys = signs L) (fun pre => pre <+: signs L) (signs L).length w := fun l J Jx W hW hJ _ hY h0 =>
  points1_in n hn l Bs L hL hU J Jx hY (fun pre W1 m h => hJ pre W1 _ none h (grown_drewN W1 m) (fun r e => by cases e)) W ((hW.cell (p := ⟨Bs, 0, none⟩) hb).trans hc) h0
end Go.Proofs.YtgdkjkfbknbgkaaGreatDoor.W
