/- Texts of the stage, joined: Wa Wb Wc Wd We. -/
import Derived.WalkKit
import Derived.WalkSpells
import Derived.WalkLawsBesides
import Derived.Below
import Derived.BigQuiet
import Derived.IntWalk
import Derived.Deep.LoopGhost
import Derived.Lib.OthersKept
import Derived.Lib.UnsafeStr
import Derived.Lib.BufferRead
import Derived.Laws.MakeOwn
import Derived.Laws.OwnMore
import Derived.Deep.QuietTactic
import Derived.Laws.RangeAny
import Derived.Lib.Hide
import Derived.Test.YtahkohfppakaiaaGreatDoorRows
import Derived.Laws.StructEq
set_option maxHeartbeats 40000000
set_option maxRecDepth 100000
namespace Go.Proofs.YtahkohfppakaiaaGreatDoor.W
open Go.RowKit
theorem ret_str {a b : List UInt8} (h : a = b) : Ending.returned (.string ⟨a.toArray⟩) = Ending.returned (.string ⟨b.toArray⟩) := by rw [h]
theorem ret_int {k : IntKind} {a b : Int} (h : a = b) : Ending.returned (.int k a) = Ending.returned (.int k b) := by rw [h]
def u2 (c : Nat) : List UInt8 := [UInt8.ofNat (c / 256), UInt8.ofNat c]
def ofR (c : Nat) : List UInt8 := if c < 65536 then u2 c else u2 (55296 + (c - 65536) / 1024) ++ u2 (56320 + (c - 65536) % 1024)
def ofFrom (s : ByteArray) : Nat -> Nat -> List UInt8
 | 0, _ => []
 | f + 1, p => if p < s.size then ofR (Utf8.decode s p).1 ++ ofFrom s f (p + (Utf8.decode s p).2) else []
def ofB (s : ByteArray) : List UInt8 := ofFrom s s.size 0
theorem width_pos (s : ByteArray) (pos : Nat) (h : pos < s.size) : 1 <= (Utf8.decode s pos).2 := by
 by_cases ha : (s[pos]'h).toNat < 128
 ·rw [decode_ascii s pos h ha]
  exact Nat.le_refl _
 ·exact (decode_high s pos h (by omega)).2
theorem decode_top (s : ByteArray) (p : Nat) : (Utf8.decode s p).1 <= 1114111 := by
 have h64 : ∀ k : Nat, k % 64 <= 63 := fun k => by omega
 have h32 : ∀ k : Nat, k % 32 <= 31 := fun k => by omega
 unfold Utf8.decode
 dsimp only
 repeat' split
 all_goals (first | (simp [Utf8.runeError]; done) | (simp [Utf8.valid] at *; omega) | (simp; omega))
theorem ofFrom_end (s : ByteArray) (f p : Nat) (h : ¬ p < s.size) : ofFrom s f p = [] := by
 cases f with
 | zero => rfl
 | succ f => simp [ofFrom, h]
theorem ofFrom_step (s : ByteArray) (f p : Nat) (h : p < s.size) : ofFrom s (f + 1) p = ofR (Utf8.decode s p).1 ++ ofFrom s f (p + (Utf8.decode s p).2) := by simp [ofFrom, h]
theorem ofR_length (c : Nat) : (ofR c).length <= 4 := by
 unfold ofR; split <;> simp [u2]
theorem ownsRow_iterAt {w : World} {base : Nat} {e : TypeId} {size : Nat} {v : Value} {n : Nat} {xs : List Value} (h : w.ownsRow base e size v n xs) {k p0 : Nat} {s : ByteArray} (hk : w.heap[k]? = some (.stringIter s p0)) (p : Nat) : (w.iterAt k s p).ownsRow base e size v n xs := by
 obtain ⟨h1, h2⟩ := h
 refine ⟨h1, ?_⟩
 rcases h2 with h2 | ⟨g, cap, cur, a, b, c, d⟩
 ·exact .inl h2
 ·refine .inr ⟨g, cap, cur, a, b, ?_, d⟩
  have hne : g ≠ k := fun e => by subst e; rw [hk] at c; cases c
  rw [Lib.iterAt_other _ _ _ _ _ hne]; exact c
theorem own_ne_iter {w : World} {base : Nat} {e : TypeId} {size : Nat} {v : Value} {n : Nat} {xs : List Value} (h : w.ownsRow base e size v n xs) {k p0 : Nat} {s : ByteArray} (hk : w.heap[k]? = some (.stringIter s p0)) : some k ≠ v.ownBlock := by
 rcases h.2 with ⟨rfl, _⟩ | ⟨g, cap, cur, rfl, _, c, _⟩
 ·simp [Value.ownBlock]
 ·intro he
  have : g = k := by simpa [Value.ownBlock] using he.symm
  subst this
  rw [hk] at c; cases c
theorem iterPos_of {w : World} {k : Nat} {s : ByteArray} {p : Nat} (h : w.heap[k]? = some (.stringIter s p)) : w.iterPos k = p := by simp [World.iterPos, h]
theorem lt_of_block {w : World} {k : Nat} {o : Obj} (h : w.heap[k]? = some o) : k < w.heap.size := (Array.getElem?_eq_some_iff.1 h).1
theorem below_drewN {B : Nat} {a w : World} (h : Below B a w) (n : Nat) : Below B a (w.drewN n) := h.trans ⟨rfl, rfl, rfl, Nat.le_refl _, fun _ _ => rfl⟩
theorem cells_new (w : World) (cs : List Value) (t : TypeId) : ∀ j u, cs[j]? = some u -> (w.alloc (.cells cs.toArray t)).cell? ((⟨w.heap.size, 0, none⟩ : Addr).add j) = some u := by
 intro j u hj
 have : ((⟨w.heap.size, 0, none⟩ : Addr).add j) = ⟨w.heap.size, j, none⟩ := by
  unfold Addr.add; split
  ·simp [*]
  ·simp
 rw [this]
 simp [hj]
theorem run_string_own {P : Program} {w : World} {src dst e : TypeId} {base : Nat} {v : Value} {l : List UInt8} (hs : P.underlying src = some (.slice e)) (he : P.underlying e = some (.int .u8)) (hd : P.underlying dst = some .string)
  (hown : w.ownsRow base e 1 v l.length (Lib.byteCells l)) : (convert src dst v).run P w = .ok (.string ⟨l.toArray⟩) w := by
 rcases hown.2 with ⟨rfl, h0⟩ | ⟨g, cap, cur, rfl, -, -, -, -, -, -⟩
 ·have : l = [] := by simpa using h0
  subst this
  exact Lib.run_convert_nil_bytes w src dst e 0 hs he hd
 ·exact run_convert_bytes_back w src dst e ⟨g, 0, none⟩ cap l hs he hd (fun j hj => hown.cells (g := g) rfl j _ (by simp [Lib.byteCells, hj]))
theorem Tryz.info5 : (Tryz.prog.info? 5).map (fun i => (i.zero, i.size, i.bytes)) = some (some (.int .u8 0), 1, 1) := by kernel_rfl
theorem cells_u2 (c : Nat) (hc : c < 65536) : Lib.byteCells (u2 c) = [.int .u8 ((c : Int) / 256), .int .u8 ((c : Int) % 256)] := by
 simp [Lib.byteCells, u2]; omega
theorem cells_u4 (c : Nat) (hc : 65536 <= c) (h : c <= 1114111) : Lib.byteCells (u2 (55296 + (c - 65536) / 1024) ++ u2 (56320 + (c - 65536) % 1024)) = [.int .u8 ((55296 + ((c : Int) - 65536) / 1024) / 256), .int .u8 ((55296 + ((c : Int) - 65536) / 1024) % 256), .int .u8 ((56320 + ((c : Int) - 65536) % 1024) / 256), .int .u8 ((56320 + ((c : Int) - 65536) % 1024) % 256)] := by
 simp [Lib.byteCells, u2]; omega
theorem of_any (s : ByteArray) (hs : s.size <= 16777216) (w : World) :
  Calls Tryz.prog 78 #[.string s] w fun e w' => e = .returned (.string ⟨(ofB s).toArray⟩) /\ Below w.heap.size w w' := by
 obtain ⟨i0, hi, hz0, hz1, hz2⟩ := info_parts Tryz.info5
 obtain ⟨w1, hr, hown1, hg1⟩ := run_make_own (P := Tryz.prog) w w.heap.size 106 5 i0 (.int .u8 0) 1 Tryz.underlying106 hi hz0 hz1 .i64 .i64 (2 * s.size) (by rw [hz2]; omega) (by unfold maxLen; omega) (Nat.le_refl _)
 rw [show ((2 * s.size : Nat) : Int) = 2 * (s.size : Int) by omega] at hr
 have hb1 : Below w.heap.size w w1 := (Below.refl _ _).grown hg1 (Nat.le_refl _) (fun k h => by cases h)
 have hsz1 : w.heap.size <= w1.heap.size := hb1.size
 go_enter Tryz.func78, Tryz.ntmps78
 go_wp2
 go_loopw [3] (fun v wr => ∃ (pos fuel : Nat) (acc : List UInt8), wr.ownsRow w.heap.size 5 1 v acc.length (Lib.byteCells acc) /\ wr.heap[w1.heap.size]? = some (.stringIter s pos) /\ Below w.heap.size w wr /\ Hid (acc ++ ofFrom s fuel pos = ofB s) /\ s.size <= pos + fuel /\ acc.length <= 4 * pos) (fun _ wr => s.size - wr.iterPos w1.heap.size)
 case atStart => exact ⟨0, s.size, [], hown1.alloc _, World.iter_heap w1 s 0, hb1.alloc hsz1 _, rfl, by omega, by simp⟩
 case round =>
  obtain ⟨pos, fuel, acc, hown, hit, hbw, HS, hb, hlen⟩ := hrel
  clear hown1 hg1 hr hb1
  have hpos0 := iterPos_of hit
  by_cases hp : pos < s.size
  ·have hnx : ∀ ty, (Instr.next (.pointer (some ⟨w1.heap.size, 0, none⟩)) true ty).run Tryz.prog wr = _ := fun ty => Lib.run_next_any_at wr w1.heap.size s pos ty hit hp
   have hwd := width_pos s pos hp
   obtain ⟨fuel, rfl⟩ : ∃ f', fuel = f' + 1 := ⟨fuel - 1, by omega⟩
   have hst := ofFrom_step s fuel pos hp
   have hrl := ofR_length (Utf8.decode s pos).1
   obtain ⟨c, hcd⟩ : ∃ c, c = (Utf8.decode s pos).1 := ⟨_, rfl⟩
   obtain ⟨q, hqd⟩ : ∃ q, q = pos + (Utf8.decode s pos).2 := ⟨_, rfl⟩
   have hcle : c <= 1114111 := by rw [hcd]; exact decode_top s pos
   have hpq : pos < q := by omega
   rw [<- hcd, <- hqd] at hnx hst
   rw [<- hcd] at hrl
   have hit2 := Lib.iterAt_heap wr w1.heap.size s pos q hit
   have hbw2 := Lib.below_iterAt hbw (k := w1.heap.size) hsz1 s q
   have hown2 := ownsRow_iterAt hown hit q
   clear hwd hcd hqd
   obtain ⟨W1, hW1⟩ : ∃ W1, W1 = wr.iterAt w1.heap.size s q := ⟨_, rfl⟩
   rw [<- hW1] at hnx hit2 hbw2 hown2
   have hBlt := lt_of_block hit2
   have HS2 : Hid (acc ++ ofR c ++ ofFrom s fuel q = ofB s) := by have := HS.out; rw [hst, <- List.append_assoc] at this; exact this
   clear hW1 hit hown hbw HS hst
   by_cases hc : c < 65536
   ·have hci : (c : Int) < 65536 := by omega
    have HC := Lib.hid (cells_u2 c hc)
    have HR : Hid (ofR c = u2 c) := by unfold ofR; rw [if_pos hc]; exact rfl
    go_wp2_with (at_builtin; refine wpList_append_own _ rfl _ _ 106 rfl w.heap.size 5 i0 (.int .u8 0) 1 1 Tryz.underlying106 hi hz0 hz1 hz2 rfl (by decide) _ _ _ rfl (hown2.alloc _) ⟨W1.heap.size, 0, none⟩ 2 2 [_, _] rfl rfl (cells_new _ _ _) (fun x hx => by simp at hx; rcases hx with rfl | rfl <;> rfl) (by unfold maxLen; omega) (by omega) (by simp; omega) ?_; intro v' w3 hown' hgrow3 hnil3; refine Hid.out ?_)
    have hown3 := hown'
    rw [<- HC.out, <- Lib.byteCells_append, <- HR.out, show acc.length + 2 = (acc ++ ofR c).length by rw [HR.out]; simp [u2]] at hown3
    have hit3 : w3.heap[w1.heap.size]? = some (.stringIter s q) := by
     rw [hgrow3.block w1.heap.size (by simp; omega) (own_ne_iter hown2 hit2), Below.heap_alloc _ _ _ hBlt]; exact hit2
    have hbw3 : Below w.heap.size w w3 := Below.grown (hbw2.alloc (by omega) _) hgrow3 (by simp; omega) (fun j hj => (hown2.lt _ hj).1)
    clear hown' hgrow3 hnil3
    refine Lib.hid ?_
    go_wp2
    go_roundw
    case rel => exact ⟨q, fuel, acc ++ ofR c, hown3, hit3, hbw3, HS2, by omega, by simp; omega⟩
    case measure => rw [iterPos_of hit3, hpos0]; omega
   ·have hci : ¬ (c : Int) < 65536 := by omega
    have hbit : bits .and .i32 ((c : Int) - 65536) 1023 = ((c : Int) - 65536) % 1024 := bits_mask .i32 31 (by decide) wraps_i32 10 (by decide) _ (by omega) (by omega)
    have hm0 : 0 <= ((c : Int) - 65536) % 1024 := by omega
    have hm1 : ((c : Int) - 65536) % 1024 <= 1023 := by omega
    have HC := Lib.hid (cells_u4 c (by omega) hcle)
    have HR : Hid (ofR c = u2 (55296 + (c - 65536) / 1024) ++ u2 (56320 + (c - 65536) % 1024)) := by unfold ofR; rw [if_neg hc]; exact rfl
    go_wp2_with (at_builtin; refine wpList_append_own _ rfl _ _ 106 rfl w.heap.size 5 i0 (.int .u8 0) 1 1 Tryz.underlying106 hi hz0 hz1 hz2 rfl (by decide) _ _ _ rfl (hown2.alloc _) ⟨W1.heap.size, 0, none⟩ 4 4 [_, _, _, _] rfl rfl (cells_new _ _ _) (fun x hx => by simp at hx; rcases hx with rfl | rfl | rfl | rfl <;> rfl) (by unfold maxLen; omega) (by omega) (by simp; omega) ?_; intro v' w3 hown' hgrow3 hnil3; refine Hid.out ?_)
    have hown3 := hown'
    rw [<- HC.out, <- Lib.byteCells_append, <- HR.out, show acc.length + 4 = (acc ++ ofR c).length by rw [HR.out]; simp [u2]] at hown3
    have hit3 : w3.heap[w1.heap.size]? = some (.stringIter s q) := by
     rw [hgrow3.block w1.heap.size (by simp; omega) (own_ne_iter hown2 hit2), Below.heap_alloc _ _ _ hBlt]; exact hit2
    have hbw3 : Below w.heap.size w w3 := Below.grown (hbw2.alloc (by omega) _) hgrow3 (by simp; omega) (fun j hj => (hown2.lt _ hj).1)
    clear hown' hgrow3 hnil3
    refine Lib.hid ?_
    go_wp2
    go_roundw
    case rel => exact ⟨q, fuel, acc ++ ofR c, hown3, hit3, hbw3, HS2, by omega, by simp; omega⟩
    case measure => rw [iterPos_of hit3, hpos0]; omega
  ·have hnx : ∀ ty, (Instr.next (.pointer (some ⟨w1.heap.size, 0, none⟩)) true ty).run Tryz.prog wr = _ := fun ty => Lib.run_next_end_at wr w1.heap.size s pos ty hit hp
   have e : acc = ofB s := by have := HS.out; rw [ofFrom_end s fuel pos hp, List.append_nil] at this; exact this
   have HE := Lib.hid e
   clear e
   have hcv := run_string_own (P := Tryz.prog) (w := wr) (src := 106) (dst := 9) (e := 5) Tryz.underlying106 Tryz.underlying5 Tryz.underlying9 hown
   go_wp2
   go_ret
   exact ⟨ret_str HE.out, hbw⟩
theorem len_any (s : ByteArray) (hs : s.size <= 16777216) (w : World) :
  Calls Tryz.prog 80 #[.string s] w fun e w' => e = .returned (.int .i64 ((s.size : Int) / 2)) /\ w = w' := by
 go_enter Tryz.func80, Tryz.ntmps80
 go_wp2
 go_ret
 exact ⟨rfl, rfl⟩
def units : List UInt8 -> List Nat
 | a :: b :: r => (a.toNat * 256 + b.toNat) :: units r
 | _ => []
theorem units_length : ∀ l : List UInt8, (units l).length = l.length / 2
 | [] => by simp [units]
 | [_] => by simp [units]
 | _ :: _ :: r => by simp [units, units_length r]; omega
theorem units_at : ∀ (l : List UInt8) (i : Nat) (h : 2 * i + 1 < l.length), (units l)[i]? = some (l[2 * i].toNat * 256 + l[2 * i + 1].toNat)
 | [], i, h => absurd h (by simp)
 | [_], i, h => absurd h (by simp)
 | a :: b :: r, 0, h => by simp [units]
 | a :: b :: r, i + 1, h => by
  have := units_at r i (by simp at h; omega)
  simp only [units, List.getElem?_cons_succ, this]
  rfl
theorem units_lt : ∀ (l : List UInt8) (u : Nat), u ∈ units l -> u < 65536
 | [], u, h => by simp [units] at h
 | [_], u, h => by simp [units] at h
 | a :: b :: r, u, h => by
  simp only [units, List.mem_cons] at h
  rcases h with rfl | h
  ·have := a.toNat_lt; have := b.toNat_lt; omega
  ·exact units_lt r u h
def unitsS (s : ByteArray) : List Nat := units s.data.toList
theorem unitsS_length (s : ByteArray) : (unitsS s).length = s.size / 2 := by unfold unitsS; rw [units_length]; rfl
theorem unitsS_at (s : ByteArray) (i : Nat) (h : 2 * i + 1 < s.size) : (unitsS s)[i]? = some (s[2 * i].toNat * 256 + s[2 * i + 1].toNat) := by
 unfold unitsS; rw [units_at _ _ (by simpa using h)]; rfl
theorem unit_join (x y : UInt8) : bits .or .u16 (IntKind.u16.wrap (IntKind.u16.wrap (x.toNat : Int) * 256)) (IntKind.u16.wrap (y.toNat : Int)) = ((x.toNat * 256 + y.toNat : Nat) : Int) := by
 have hx := x.toNat_lt
 have hy := y.toNat_lt
 simp only [IntKind.wrap_u16]
 rw [show ((x.toNat : Int) % 65536 * 256) % 65536 = (x.toNat : Int) * 256 by omega, show (y.toNat : Int) % 65536 = (y.toNat : Int) by omega]
 rw [bits_join .u16 16 (by decide) (fun n h0 h1 => by rw [IntKind.wrap_u16]; omega) 8 _ _ (by omega) (by omega) (by omega) (by omega) (by omega) (by omega)]
 omega
theorem at_in (s : ByteArray) (hs : s.size <= 16777216) (i : Nat) (hi : i < s.size / 2) (w : World) :
  Calls Tryz.prog 119 #[.string s, .int .i64 (i : Int)] w fun e w' => e = .returned (.int .u16 (((unitsS s)[i]?.getD 0 : Nat) : Int)) /\ ∃ n, w' = w.drewN n := by
 have h1 : (i : Int) < (s.size : Int) / 2 := by omega
 have h2 : 2 * i < s.size := by omega
 have h3 : 2 * i + 1 < s.size := by omega
 have HU := Lib.hid (unitsS_at s i h3)
 have HJ := Lib.hid (unit_join s[2 * i] s[2 * i + 1])
 go_enter Tryz.func119, Tryz.ntmps119
 go_wp2_with (first | (go_at_call 80; ((with_reducible refine (len_any _ hs _).mono ?_); rintro e w' ⟨rfl, rfl⟩)))
 have e1 : IntKind.i64.wrap (2 * (i : Int)) = 2 * (i : Int) := IntWalk.i64_in _ (by omega)
 have e2 : IntKind.i64.wrap (2 * (i : Int) + 1) = 2 * (i : Int) + 1 := IntWalk.i64_in _ (by omega)
 have p1 : 0 <= 2 * (i : Int) := by omega
 have p2 : 0 <= 2 * (i : Int) + 1 := by omega
 have p3 : 2 * (i : Int) < s.size := by omega
 have p4 : 2 * (i : Int) + 1 < s.size := by omega
 have n1 : (2 * (i : Int)).toNat = 2 * i := by omega
 have n2 : (2 * (i : Int) + 1).toNat = 2 * i + 1 := by omega
 go_quiet (fail)
 go_wp2
 go_ret
 exact ⟨ret_int (by rw [HU.out]; exact HJ.out), _, rfl⟩
def idxGo : Int -> List Nat -> Int
 | n, [] => n
 | n, u :: r => if u < 48 \/ 57 < u then -1 else if 10000 <= 10 * n + ((u : Int) - 48) then -1 else idxGo (10 * n + ((u : Int) - 48)) r
def idxU (l : List Nat) : Int := if l.length = 0 \/ (1 < l.length /\ l[0]?.getD 0 = 48) then -1 else idxGo 0 l
theorem unitsS_lt (s : ByteArray) (i : Nat) : (unitsS s)[i]?.getD 0 < 65536 := by
 by_cases hi : i < (unitsS s).length
 ·rw [List.getElem?_eq_getElem hi]
  exact units_lt s.data.toList _ (List.getElem_mem hi)
 ·rw [List.getElem?_eq_none (by omega)]; simp
theorem idxGo_step (n : Int) (us : List Nat) (k : Nat) (h : k < us.length) : idxGo n (us.drop k) = if us[k]?.getD 0 < 48 \/ 57 < us[k]?.getD 0 then -1 else if 10000 <= 10 * n + ((us[k]?.getD 0 : Nat) : Int) - 48 then -1 else idxGo (10 * n + (((us[k]?.getD 0 : Nat) : Int) - 48)) (us.drop (k + 1)) := by
 rw [List.drop_eq_getElem_cons h, List.getElem?_eq_getElem h]
 simp only [idxGo, Option.getD_some]
 rw [show 10 * n + ((us[k] : Int) - 48) = 10 * n + (us[k] : Int) - 48 by omega]
theorem index_any (s : ByteArray) (hs : s.size <= 16777216) (w : World) :
    Calls Tryz.prog 118 #[.string s] w fun e w' => e = .returned (.int .i64 (idxU (unitsS s))) /\ ∃ n, w' = w.drewN n := by
  have HL := Lib.hid (unitsS_length s)
  by_cases h0 : s.size / 2 = 0
  · have h1 : (s.size : Int) / 2 = 0 := by omega
    have hb : ((s.size : Int) / 2 == 0) = true := by simpa using h1
    have HI : Hid (idxU (unitsS s) = -1) := by
      show idxU _ = _
      unfold idxU; rw [if_pos (Or.inl (by rw [HL.out]; exact h0))]
    clear h1
    go_enter Tryz.func118, Tryz.ntmps118
    go_wp2_with (first | (go_at_call 80; ((with_reducible refine (len_any _ hs _).mono ?_); rintro e w' ⟨rfl, rfl⟩)))
    go_ret
    exact ⟨ret_int HI.out.symm, 0, rfl⟩
  have hz : ((s.size : Int) / 2 == 0) = false := by have : ¬ (s.size : Int) / 2 = 0 := by omega
                                                    simpa using this
  obtain ⟨L, hLd⟩ : ∃ L, L = s.size / 2 := ⟨_, rfl⟩
  obtain ⟨us, hud⟩ : ∃ us, us = unitsS s := ⟨_, rfl⟩
  have hlen := HL.out
  rw [<- hud, <- hLd] at hlen
  have hcast : (s.size : Int) / 2 = (L : Int) := by omega
  have hat : ∀ (i : Nat), i < L -> ∀ W : World, Calls Tryz.prog 119 #[.string s, .int .i64 (i : Int)] W fun e w' => e = .returned (.int .u16 ((us[i]?.getD 0 : Nat) : Int)) /\ ∃ n, w' = W.drewN n := fun i hi W => by
    rw [hud]; exact at_in s hs i (by omega) W
  have hln : ∀ W : World, Calls Tryz.prog 80 #[.string s] W fun e w' => e = .returned (.int .i64 (L : Int)) /\ W = w' := fun W => by
    rw [<- hcast]; exact len_any s hs W
  have hult : ∀ i, us[i]?.getD 0 < 65536 := fun i => by rw [hud]; exact unitsS_lt s i
  rw [<- hud]
  have hL0 : 0 < L := by omega
  have hLs : L <= 8388608 := by omega
  rw [hcast] at hz
  have HLEN := Lib.hid hlen
  clear hud HL hcast hLd h0 hlen
  by_cases hB : 1 < L /\ us[0]?.getD 0 = 48
  · have HI : Hid (idxU us = -1) := by
      show idxU _ = _
      unfold idxU; rw [if_pos (Or.inr (by rw [HLEN.out]; exact hB))]
    have hB1 : (1 : Int) < (L : Int) := by omega
    have hB2 : (((us[0]?.getD 0 : Nat) : Int) == 48) = true := by have := hB.2; simpa using (by omega : ((us[0]?.getD 0 : Nat) : Int) = 48)
    have hat0 := hat 0 hL0
    rw [show ((0 : Nat) : Int) = 0 from rfl] at hat0
    clear hB
    obtain ⟨u0, hu0⟩ : ∃ u0 : Int, u0 = ((us[0]?.getD 0 : Nat) : Int) := ⟨_, rfl⟩
    rw [<- hu0] at hat0 hB2
    clear hu0
    go_enter Tryz.func118, Tryz.ntmps118
    go_wp2_with (first | (go_at_call 80; ((with_reducible refine (hln _).mono ?_); rintro e w' ⟨rfl, rfl⟩)) | (go_at_call 119; ((with_reducible refine (hat0 _).mono ?_); rintro e w' ⟨rfl, n, rfl⟩)))
    go_ret
    exact ⟨ret_int HI.out.symm, _, rfl⟩
  have HI : Hid (idxU us = idxGo 0 us) := by
    show idxU _ = _
    unfold idxU; rw [if_neg (by rw [HLEN.out]; intro h; rcases h with h | h <;> first | exact hB h | omega)]
  have key : (L : Int) <= 1 \/ ((1 : Int) < (L : Int) /\ (((us[0]?.getD 0 : Nat) : Int) == 48) = false) := by
    by_cases h1 : 1 < L
    · exact Or.inr ⟨by omega, by have : ¬ us[0]?.getD 0 = 48 := fun h => hB ⟨h1, h⟩
                                 simpa using (by omega : ¬ ((us[0]?.getD 0 : Nat) : Int) = 48)⟩
    · exact Or.inl (by omega)
  clear hB
  have hat0 := hat 0 hL0
  rw [show ((0 : Nat) : Int) = 0 from rfl] at hat0
  obtain ⟨u0, hu0⟩ : ∃ u0 : Int, u0 = ((us[0]?.getD 0 : Nat) : Int) := ⟨_, rfl⟩
  rw [<- hu0] at hat0 key
  clear hu0
  rcases key with hB1 | ⟨hB1, hB2⟩
  all_goals
    go_enter Tryz.func118, Tryz.ntmps118
    go_wp2_with (first | (go_at_call 80; ((with_reducible refine (hln _).mono ?_); rintro e w' ⟨rfl, rfl⟩)) | (go_at_call 119; ((with_reducible refine (hat0 _).mono ?_); rintro e w' ⟨rfl, n, rfl⟩)))
    clear hat0 hB1
    go_loopw [3, 21] (fun n i wr => ∃ (k : Nat) (m : Int), k <= L /\ i = .int .i64 (k : Int) /\ n = .int .i64 m /\ 0 <= m /\ m < 10000 /\ Hid (idxGo m (us.drop k) = idxGo 0 us) /\ ∃ q, wr = w.drewN q) (fun _ i _ => L - (intOf i).toNat)
    case atStart => exact ⟨0, 0, by omega, rfl, rfl, by omega, by omega, rfl, by first | exact ⟨0, rfl⟩ | exact ⟨_, rfl⟩⟩
    case round =>
      obtain ⟨k, m, hk, rfl, rfl, hm0, hm1, HS, q, rfl⟩ := hrel
      obtain ⟨wo, hwo⟩ : ∃ wo : World, wo = w.drewN q := ⟨_, rfl⟩
      rw [<- hwo]
      have HWO : Hid (∃ q, wo = w.drewN q) := ⟨q, hwo⟩
      clear hwo
      by_cases hlt : k < L
      · have hlti : (k : Int) < (L : Int) := by omega
        have hatk := hat k hlt
        have hst := idxGo_step m us k (by rw [HLEN.out]; exact hlt)
        have hub := hult k
        obtain ⟨u, hud⟩ : ∃ u : Nat, u = us[k]?.getD 0 := ⟨_, rfl⟩
        rw [<- hud] at hatk hst hub
        clear hud hat hult
        by_cases hu1 : u < 48
        · have HI2 : Hid (idxU us = -1) := by show idxU us = -1; rw [HI.out, <- HS.out, hst, if_pos (Or.inl hu1)]
          have hu1i : (u : Int) < 48 := by omega
          clear hst
          go_wp2_with (first | (go_at_call 119; ((with_reducible refine (hatk _).mono ?_); rintro e w' ⟨rfl, n, rfl⟩)))
          go_ret
          obtain ⟨q, rfl⟩ := HWO.out
          exact ⟨ret_int HI2.out.symm, _, World.drewN_drewN _ _ _⟩
        by_cases hu2 : 57 < u
        · have HI2 : Hid (idxU us = -1) := by show idxU us = -1; rw [HI.out, <- HS.out, hst, if_pos (Or.inr hu2)]
          have hu1i : ¬ (u : Int) < 48 := by omega
          have hu2i : (57 : Int) < (u : Int) := by omega
          clear hst
          go_wp2_with (first | (go_at_call 119; ((with_reducible refine (hatk _).mono ?_); rintro e w' ⟨rfl, n, rfl⟩)))
          go_ret
          obtain ⟨q, rfl⟩ := HWO.out
          exact ⟨ret_int HI2.out.symm, _, World.drewN_drewN _ _ _⟩
        have hu1i : (48 : Int) <= (u : Int) := by omega
        have hu2i : (u : Int) <= 57 := by omega
        by_cases hu3 : 10000 <= 10 * m + (u : Int) - 48
        · have HI2 : Hid (idxU us = -1) := by show idxU us = -1; rw [HI.out, <- HS.out, hst, if_neg (by omega), if_pos hu3]
          have hu3i : (10000 : Int) <= 10 * m + ((u : Int) - 48) := by omega
          clear hst hu3
          go_wp2_with (first | (go_at_call 119; ((with_reducible refine (hatk _).mono ?_); rintro e w' ⟨rfl, n, rfl⟩)))
          go_ret
          obtain ⟨q, rfl⟩ := HWO.out
          exact ⟨ret_int HI2.out.symm, _, World.drewN_drewN _ _ _⟩
        · have HS2 : Hid (idxGo (10 * m + ((u : Int) - 48)) (us.drop (k + 1)) = idxGo 0 us) := by show _ = _; rw [<- HS.out, hst, if_neg (by omega), if_neg hu3]
          have hu3i : 10 * m + ((u : Int) - 48) < (10000 : Int) := by omega
          clear hst hu3 HS
          go_wp2_with (first | (go_at_call 119; ((with_reducible refine (hatk _).mono ?_); rintro e w' ⟨rfl, n, rfl⟩)))
          go_roundw
          case rel =>
            obtain ⟨q, rfl⟩ := HWO.out
            exact ⟨k + 1, _, by omega, by go_num, rfl, by omega, by omega, HS2, _, World.drewN_drewN _ _ _⟩
          case measure => simp [intOf]; omega
      · have hge : ¬ (k : Int) < (L : Int) := by omega
        have HI2 : Hid (m = idxU us) := by
          show m = idxU us
          rw [HI.out, <- HS.out, List.drop_of_length_le (by rw [HLEN.out]; omega)]; rfl
        clear hat hult
        go_wp2
        go_ret
        obtain ⟨q, rfl⟩ := HWO.out
        exact ⟨ret_int HI2.out, _, rfl⟩
theorem of_const (s : ByteArray) (r : List UInt8) (hs : s.size <= 16777216) (h : Hid (ofB s = r)) (w : World) :
  Calls Tryz.prog 78 #[.string s] w fun e w' => e = .returned (.string ⟨r.toArray⟩) /\ Below w.heap.size w w' :=
 (of_any s hs w).mono fun _ _ he => by rw [h.out] at he; exact he
theorem index_at (s : ByteArray) (n : Int) (hs : s.size <= 16777216) (h : Hid (idxU (unitsS s) = n)) (w : World) :
  Calls Tryz.prog 118 #[.string s] w fun e w' => e = .returned (.int .i64 n) /\ Below w.heap.size w w' :=
 (index_any s hs w).mono fun _ _ ⟨he, k, hw⟩ => by rw [h.out] at he; exact ⟨he, hw ▸ below_drewN (Below.refl _ _) k⟩
theorem blw2 {w w1 w2 : World} (h : Below w.heap.size w w1) (h2 : Below w1.heap.size w1 w2) : Below w.heap.size w w2 := h.trans (h2.mono h.size)
theorem val_any (s : ByteArray) (hs : s.size <= 16777216) (w : World) :
  Calls Tryz.prog 44 #[.string s] w fun e w' => e = .returned (.agg #[.int .i64 7, .int .i64 0, .string ⟨(ofB s).toArray⟩]) /\ Below w.heap.size w w' := by
 go_enter Tryz.func44, Tryz.ntmps44
 go_wp2_with (first | (go_at_call 78; ((with_reducible refine (of_any _ (by assumption) _).mono ?_); rintro e wx ⟨rfl, hbx⟩; refine Hid.out ?_)))
 obtain ⟨hc, hf⟩ : (∀ o, wx.cell? ⟨w.heap.size, o, none⟩ = (w.alloc (.cells #[.int .i64 0, .int .i64 0, .string ⟨#[]⟩] 28)).cell? ⟨w.heap.size, o, none⟩) /\ (∀ o, wx.frozen? ⟨w.heap.size, o, none⟩ = (w.alloc (.cells #[.int .i64 0, .int .i64 0, .string ⟨#[]⟩] 28)).frozen? ⟨w.heap.size, o, none⟩) :=
  ⟨fun o => hbx.cell (p := ⟨w.heap.size, o, none⟩) (by simp), fun o => hbx.frozen (p := ⟨w.heap.size, o, none⟩) (by simp)⟩
 have hB : Below w.heap.size w wx := ((Below.refl _ _).alloc (Nat.le_refl _) _).trans (hbx.mono (by simp))
 have hz : w.heap.size < wx.heap.size := by have := hbx.size; simp at this; omega
 refine Lib.hid ?_
 go_wp2
 refine bodyPost_ret (v := .agg #[.int .i64 7, .int .i64 0, .string ⟨(ofB s).toArray⟩]) (by simp [results, Tryz.results44, go_sem, hc]) rfl ⟨rfl, ?_⟩
 exact ((hB.setCell (p := ⟨_, 0, none⟩) (Nat.le_refl _) _).setCell (p := ⟨_, 1, none⟩) (Nat.le_refl _) _).setCell (p := ⟨_, 2, none⟩) (Nat.le_refl _) _
theorem val_const (s : ByteArray) (r : List UInt8) (hs : s.size <= 16777216) (h : Hid (ofB s = r)) (w : World) :
  Calls Tryz.prog 44 #[.string s] w fun e w' => e = .returned (.agg #[.int .i64 7, .int .i64 0, .string ⟨r.toArray⟩]) /\ Below w.heap.size w w' :=
 (val_any s hs w).mono fun _ _ he => by rw [h.out] at he; exact he
end Go.Proofs.YtahkohfppakaiaaGreatDoor.W
