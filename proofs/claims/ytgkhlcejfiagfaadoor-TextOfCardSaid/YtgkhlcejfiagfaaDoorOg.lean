/- The reference's Units: the same units by another decoding. -/
import Derived.Test.YtgkhlcejfiagfaaDoorOe
import Derived.Test.YtgkhlcejfiagfaaDoorShelf
import Derived.Lib.LaidU8
import Derived.Lib.RuneCountTail
import Derived.Shelf.Unicode.DecodeLastEight
namespace Go.Proofs.YtgkhlcejfiagfaaDoor
open Go.RowKit

/-- The decoding's tables read as they were laid, now and behind whatever only adds memory. -/
def Tb (w : World) : Prop := Lib.Utf8Tabs 0 1 w
theorem Tb.on {w w1 : World} (h : Tb w) (hb : Below w.heap.size w w1) : Tb w1 := by
  have k : ∀ (b o : Nat) (v : Value), w.cell? ⟨b, o, none⟩ = some v → w1.cell? ⟨b, o, none⟩ = some v := fun b o v hc => by
    rw [hb.cell (p := ⟨b, o, none⟩) (World.block_lt_of_cell? _ _ hc)]; exact hc
  refine ⟨fun c hc => k _ _ _ (h.1 c hc), fun i hi => ?_⟩
  have := h.2 i hi
  exact ⟨k _ _ _ this.1, k _ _ _ this.2⟩

/-- A character's units. -/
def unitR (c : Nat) : List Nat := if c < 65536 then [c] else [55296 + (c - 65536) / 1024, 56320 + (c - 65536) % 1024]
def unitsFrom (s : ByteArray) : Nat → Nat → List Nat
  | 0, _ => []
  | f + 1, p => if p < s.size then unitR (Utf8.decode s p).1 ++ unitsFrom s f (p + (Utf8.decode s p).2) else []
theorem unitsFrom_end (s : ByteArray) (f p : Nat) (h : ¬ p < s.size) : unitsFrom s f p = [] := by
  cases f with
  | zero => rfl
  | succ f => simp [unitsFrom, h]
theorem unitsFrom_step (s : ByteArray) (f p : Nat) (h : p < s.size) : unitsFrom s (f + 1) p = unitR (Utf8.decode s p).1 ++ unitsFrom s f (p + (Utf8.decode s p).2) := by simp [unitsFrom, h]
theorem ofR_units (c : Nat) : ofR c = (unitR c).flatMap u2 := by
  by_cases h : c < 65536
  · have e1 : ofR c = u2 c := if_pos h
    have e2 : unitR c = [c] := if_pos h
    rw [e1, e2, List.flatMap_cons, List.flatMap_nil, List.append_nil]
  · have e1 : ofR c = u2 (55296 + (c - 65536) / 1024) ++ u2 (56320 + (c - 65536) % 1024) := if_neg h
    have e2 : unitR c = [55296 + (c - 65536) / 1024, 56320 + (c - 65536) % 1024] := if_neg h
    rw [e1, e2]
    generalize 55296 + (c - 65536) / 1024 = x
    generalize 56320 + (c - 65536) % 1024 = y
    simp
theorem ofFrom_units (s : ByteArray) : ∀ f p, ofFrom s f p = (unitsFrom s f p).flatMap u2
  | 0, p => rfl
  | f + 1, p => by
    by_cases hp : p < s.size
    · rw [ofFrom_step s f p hp, unitsFrom_step s f p hp, List.flatMap_append, ofR_units, ofFrom_units s f]
    · rw [ofFrom_end s _ p hp, unitsFrom_end s _ p hp]; rfl
theorem unitR_lt (c : Nat) (hc : c ≤ 1114111) : ∀ u ∈ unitR c, u < 65536 := by
  unfold unitR; split
  · intro u hu; simp at hu; omega
  · intro u hu
    have h : u = 55296 + (c - 65536) / 1024 ∨ u = 56320 + (c - 65536) % 1024 := by simpa using hu
    rcases h with h | h <;> rw [h] <;> omega
theorem unitsFrom_lt (s : ByteArray) : ∀ f p, ∀ u ∈ unitsFrom s f p, u < 65536
  | 0, p => by simp [unitsFrom]
  | f + 1, p => by
    by_cases hp : p < s.size
    · rw [unitsFrom_step s f p hp]
      intro u hu
      rcases List.mem_append.1 hu with hu | hu
      · exact unitR_lt _ (decode_top s p) u hu
      · exact unitsFrom_lt s f _ u hu
    · rw [unitsFrom_end s _ p hp]; simp
/-- Numbers as cells. -/
def numC (l : List Nat) : List Value := l.map (fun (u : Nat) => Value.int .i64 (u : Int))
theorem numC_length (l : List Nat) : (numC l).length = l.length := by simp [numC]
theorem numC_append (a b : List Nat) : numC (a ++ b) = numC a ++ numC b := by simp [numC]
theorem Tryd.info3 : (Tryd.prog.info? 3).map (fun i => (i.zero, i.size, i.bytes)) = some (some (.int .i64 0), 1, 8) := by kernel_rfl
theorem decodeGo_at (s : ByteArray) (p : Nat) (h : p < s.size) : Lib.decodeGo (s.extract p s.size) = Utf8.decode s p := by
  unfold Lib.decodeGo
  rw [if_neg (by simp; omega), Lib.tail_decode]; rfl
theorem extract_extract (s : ByteArray) (p n : Nat) (hp : p ≤ s.size) : (s.extract p s.size).extract n (s.extract p s.size).size = s.extract (p + n) s.size := by
  apply ByteArray.ext
  simp [ByteArray.data_extract, Array.extract_extract]
  rw [show min (p + (s.size - p)) s.size = s.size by omega]

theorem below_own {B : Nat} {e : TypeId} {size n : Nat} {v : Value} {xs : List Value} {w w1 : World} (h : w.ownsRow B e size v n xs) (hb : Below w.heap.size w w1) (_ : B ≤ w.heap.size) : w1.ownsRow B e size v n xs := by
  obtain ⟨h1, h2⟩ := h
  refine ⟨h1, ?_⟩
  rcases h2 with h2 | ⟨g, cap, cur, a, b, c, d⟩
  · exact .inl h2
  · exact .inr ⟨g, cap, cur, a, b, by rw [hb.block g (lt_of_block c)]; exact c, d⟩

/-- A fact that no search of the walk's looks into. -/
structure Veil (p : Prop) : Prop where
  out : p
/-- x is what is left of s from a place on. -/
structure Tail (s x : ByteArray) (p : Nat) : Prop where
  out : x = s.extract p s.size

set_option maxRecDepth 1000000 in
set_option maxHeartbeats 2000000 in
theorem units_any (s : ByteArray) (hs : s.size ≤ 16777216) (w : World) (hT : Tb w) :
    Calls Tryd.prog 6 #[.string s] w fun e w' => ∃ v, e = .returned v ∧ w'.ownsRow w.heap.size 3 1 v (unitsFrom s s.size 0).length (numC (unitsFrom s s.size 0)) ∧ Below w.heap.size w w' := by
  obtain ⟨i0, hi, hz0, hz1, hz2⟩ := info_parts Tryd.info3
  go_enter Tryd.func6, Tryd.ntmps6
  go_wp2
  go_loopw [0, 3] (fun x v wr => ∃ (pos fuel : Nat) (acc : List Nat), x = .string (s.extract pos s.size) ∧ wr.ownsRow w.heap.size 3 1 v acc.length (numC acc) ∧ Below w.heap.size w wr ∧ Hid (acc ++ unitsFrom s fuel pos = unitsFrom s s.size 0) ∧ s.size ≤ pos + fuel ∧ pos ≤ s.size ∧ acc.length ≤ 2 * pos) (fun x _ _ => match x with | .string y => y.size | _ => 0)
  case atStart => exact ⟨0, s.size, [], by rw [show s.extract 0 s.size = s from ByteArray.ext (by simp)], World.ownsRow_nil _ _ _ _, Below.refl _ _, rfl, by omega, by omega, by simp⟩
  case round =>
    obtain ⟨pos, fuel, acc, rfl, hown, hbw, HS, hb, hps, hlen⟩ := hrel
    have hxs : (s.extract pos s.size).size = s.size - pos := by simp
    obtain ⟨x, hx⟩ : ∃ x, x = s.extract pos s.size := ⟨_, rfl⟩
    rw [← hx] at hxs ⊢
    by_cases hp : pos < s.size
    · have hgt : (0 : Int) < (x.size : Int) := by omega
      obtain ⟨fuel, rfl⟩ : ∃ f', fuel = f' + 1 := ⟨fuel - 1, by omega⟩
      have hst := unitsFrom_step s fuel pos hp
      have hdg := decodeGo_at s pos hp
      rw [← hx] at hdg
      have hwd := width_pos s pos hp
      have hwl : (Utf8.decode s pos).2 ≤ x.size := by rw [← hdg]; exact Lib.decodeGo_le_size x
      have hcle := decode_top s pos
      have hD : ∀ W, Tb W → _ := fun W (hW : Tb W) => Tryd.utf8_DecodeRuneInString x W hW
      rw [hdg] at hD
      obtain ⟨c, hcd⟩ : ∃ c, c = (Utf8.decode s pos).1 := ⟨_, rfl⟩
      obtain ⟨n, hnd⟩ : ∃ n, n = (Utf8.decode s pos).2 := ⟨_, rfl⟩
      rw [← hcd, ← hnd] at hst
      rw [← hcd, ← hnd] at hD
      rw [← hcd] at hcle
      rw [← hnd] at hwd hwl
      have hex : x.extract n x.size = s.extract (pos + n) s.size := by rw [hx]; exact extract_extract s pos n hps
      obtain ⟨x2, hx2⟩ : ∃ x2, x2 = s.extract (pos + n) s.size := ⟨_, rfl⟩
      rw [← hx2] at hex
      have hx2s : x2.size = s.size - (pos + n) := by rw [hx2]; simp
      have HX2 : Tail s x2 (pos + n) := ⟨hx2⟩
      have HX2S := Lib.hid hx2s
      have HXS := Lib.hid hxs
      have hsl : ∀ W, (Instr.slice 9 (.string x) (some (.int .i64 (n : Int))) none none).run Tryd.prog W = .ok (.string x2) W := fun W => by
        rw [run_slice_string_from_if W 9 x .i64 (n : Int) Tryd.underlying9, if_pos ⟨by omega, by omega⟩, Int.toNat_natCast, hex]
      clear hex
      have hnle : (n : Int) ≤ (x.size : Int) := by omega
      have HS2 : Hid (acc ++ unitR c ++ unitsFrom s fuel (pos + n) = unitsFrom s s.size 0) := by have := HS.out; rw [hst, ← List.append_assoc] at this; exact this
      have hTW := hT.on hbw
      have hle := hbw.size
      clear hcd hnd hx hst hdg HS hx2 hx2s hxs
      by_cases hc : c < 65536
      · have hci : (c : Int) < 65536 := by omega
        have HR : Veil (unitR c = [c]) := ⟨by unfold unitR; rw [if_pos hc]⟩
        go_wp2_with (first | (go_at_call 12; ((with_reducible refine (hD _ hTW).mono ?_); rintro e w2 ⟨rfl, hb2⟩; have hown2 := below_own hown hb2 hle)) | (at_builtin; refine wpList_append_own _ rfl _ _ 24 rfl w.heap.size 3 i0 (.int .i64 0) 1 8 Tryd.underlying24 hi hz0 hz1 hz2 rfl (by decide) _ _ _ rfl (hown2.alloc _) ⟨w2.heap.size, 0, none⟩ 1 1 [_] rfl rfl (cells_new _ _ _) (fun x hx => by simp at hx; rcases hx with rfl <;> rfl) (by unfold maxLen; omega) (by omega) (by have := hb2.size; simp; omega) ?_; intro v' w3 hown' hgrow3 hnil3; refine Hid.out ?_))
        have hown3 := hown'
        have e1 : numC acc ++ [Value.int .i64 (c : Int)] = numC (acc ++ unitR c) := by
          rw [HR.out, numC_append]; rfl
        have e2 : acc.length + 1 = (acc ++ unitR c).length := by rw [HR.out]; simp
        rw [e1, e2] at hown3
        have hl2 := hb2.size
        have hbw3 : Below w.heap.size w w3 := Below.grown ((hbw.trans (hb2.mono hle)).alloc (by omega) _) hgrow3 (by simp; omega) (fun j hj => (hown2.lt _ hj).1)
        clear hown' hgrow3 hnil3 hown2 hown hbw hb2 hD e1 e2
        refine Lib.hid ?_
        go_wp2
        go_roundw
        case rel =>
          have h1 := HXS.out
          exact ⟨pos + n, fuel, acc ++ unitR c, by rw [HX2.out], hown3, hbw3, HS2, by omega, by omega, by rw [List.length_append, HR.out]; simp; omega⟩
        case measure =>
          have h1 := HXS.out
          have h2 := HX2S.out
          show x2.size < x.size
          omega
      · have hci : ¬ (c : Int) < 65536 := by omega
        have HR : Veil (unitR c = [55296 + (c - 65536) / 1024, 56320 + (c - 65536) % 1024]) := ⟨by unfold unitR; rw [if_neg hc]⟩
        go_wp2_with (first | (go_at_call 12; ((with_reducible refine (hD _ hTW).mono ?_); rintro e w2 ⟨rfl, hb2⟩; have hown2 := below_own hown hb2 hle)) | (at_builtin; refine wpList_append_own _ rfl _ _ 24 rfl w.heap.size 3 i0 (.int .i64 0) 1 8 Tryd.underlying24 hi hz0 hz1 hz2 rfl (by decide) _ _ _ rfl (hown2.alloc _) ⟨w2.heap.size, 0, none⟩ 2 2 [_, _] rfl rfl (cells_new _ _ _) (fun x hx => by simp at hx; rcases hx with rfl | rfl <;> rfl) (by unfold maxLen; omega) (by omega) (by have := hb2.size; simp; omega) ?_; intro v' w3 hown' hgrow3 hnil3; refine Hid.out ?_))
        have hown3 := hown'
        have e1 : numC acc ++ [Value.int .i64 (55296 + ((c : Int) - 65536) / 1024), Value.int .i64 (56320 + ((c : Int) - 65536) % 1024)] = numC (acc ++ unitR c) := by
          have h1 : ((55296 + (c - 65536) / 1024 : Nat) : Int) = 55296 + ((c : Int) - 65536) / 1024 := by omega
          have h2 : ((56320 + (c - 65536) % 1024 : Nat) : Int) = 56320 + ((c : Int) - 65536) % 1024 := by omega
          rw [HR.out, numC_append, ← h1, ← h2]; rfl
        have e2 : acc.length + 2 = (acc ++ unitR c).length := by rw [HR.out]; simp
        rw [e1, e2] at hown3
        have hl2 := hb2.size
        have hbw3 : Below w.heap.size w w3 := Below.grown ((hbw.trans (hb2.mono hle)).alloc (by omega) _) hgrow3 (by simp; omega) (fun j hj => (hown2.lt _ hj).1)
        clear hown' hgrow3 hnil3 hown2 hown hbw hb2 hD e1 e2
        refine Lib.hid ?_
        go_wp2
        go_roundw
        case rel =>
          have h1 := HXS.out
          exact ⟨pos + n, fuel, acc ++ unitR c, by rw [HX2.out], hown3, hbw3, HS2, by omega, by omega, by rw [List.length_append, HR.out]; simp; omega⟩
        case measure =>
          have h1 := HXS.out
          have h2 := HX2S.out
          show x2.size < x.size
          omega
    · have hgt : ¬ (0 : Int) < (x.size : Int) := by omega
      have HE : Veil (acc = unitsFrom s s.size 0) := ⟨by have := HS.out; rw [unitsFrom_end s fuel pos hp, List.append_nil] at this; exact this⟩
      clear HS hx
      go_wp2
      go_ret
      exact ⟨_, rfl, by rw [← HE.out]; exact hown, hbw⟩
end Go.Proofs.YtgkhlcejfiagfaaDoor
