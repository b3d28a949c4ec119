/- Texts of the stage, joined: Ug. -/
import Derived.Test.YtahkohfppakaiaaGreatDoorBf
import Derived.Test.YtahkohfppakaiaaGreatDoorBc
import Derived.Lib.LaidTab
import Derived.WalkSpells
import Derived.WalkLawsBesides
set_option maxHeartbeats 40000000
set_option maxRecDepth 100000
namespace Go.Proofs.YtahkohfppakaiaaGreatDoor
open Go Go.RowKit
attribute [local go_sem] Oper.semAt_some
def mwL : List (List UInt8) := [[112, 117, 115, 104, 49], [112, 111, 112, 48], [118, 97, 108, 117, 101, 115, 48], [107, 101, 121, 115, 48], [101, 110, 116, 114, 105, 101, 115, 48], [102, 111, 114, 69, 97, 99, 104, 49], [109, 97, 112, 49], [105, 110, 100, 101, 120, 79, 102, 49], [106, 111, 105, 110, 49], [115, 108, 105, 99, 101, 50]]
def mnL : List (List UInt8) := [[112, 117, 115, 104], [112, 111, 112], [118, 97, 108, 117, 101, 115], [107, 101, 121, 115], [101, 110, 116, 114, 105, 101, 115], [102, 111, 114, 69, 97, 99, 104], [109, 97, 112], [105, 110, 100, 101, 120, 79, 102], [106, 111, 105, 110], [115, 108, 105, 99, 101]]
def mkL : List (List UInt8) := [[0, 112, 0, 117, 0, 115, 0, 104], [0, 112, 0, 111, 0, 112], [0, 118, 0, 97, 0, 108, 0, 117, 0, 101, 0, 115], [0, 107, 0, 101, 0, 121, 0, 115], [0, 101, 0, 110, 0, 116, 0, 114, 0, 105, 0, 101, 0, 115], [0, 102, 0, 111, 0, 114, 0, 69, 0, 97, 0, 99, 0, 104], [0, 109, 0, 97, 0, 112], [0, 105, 0, 110, 0, 100, 0, 101, 0, 120, 0, 79, 0, 102], [0, 106, 0, 111, 0, 105, 0, 110], [0, 115, 0, 108, 0, 105, 0, 99, 0, 101]]
def maL : List Nat := [1, 0, 0, 0, 0, 1, 1, 1, 1, 2]
def mw (j : Nat) : ByteArray := ⟨(mwL.getD j []).toArray⟩
def mn (j : Nat) : ByteArray := ⟨(mnL.getD j []).toArray⟩
def mKey (j : Nat) : List UInt8 := mkL.getD j []
def ma (j : Nat) : Nat := maL.getD j 0
def ml (j : Nat) : Nat := (mnL.getD j []).length
def mwC : Array Value := ((List.range 10).map fun j => Value.string (mw j)).toArray
theorem mwC_at (j : Nat) (hj : j < 10) : mwC[j]? = some (.string (mw j)) := by
 unfold mwC
 simp [List.getElem?_map, List.getElem?_range hj]
theorem ten {P : Nat -> Prop} (h : P 0 /\ P 1 /\ P 2 /\ P 3 /\ P 4 /\ P 5 /\ P 6 /\ P 7 /\ P 8 /\ P 9) (j : Nat) (hj : j < 10) : P j := by
 obtain ⟨h0, h1, h2, h3, h4, h5, h6, h7, h8, h9⟩ := h
 match j, hj with
 | 0, _ => exact h0
 | 1, _ => exact h1
 | 2, _ => exact h2
 | 3, _ => exact h3
 | 4, _ => exact h4
 | 5, _ => exact h5
 | 6, _ => exact h6
 | 7, _ => exact h7
 | 8, _ => exact h8
 | 9, _ => exact h9
 | j + 10, hj => omega
theorem mw_all (j : Nat) (hj : j < 10) : (mw j).size = ml j + 1 /\ (mw j).extract 0 (ml j) = mn j /\ (mw j).data[ml j]? = some (UInt8.ofNat (48 + ma j)) /\ (mn j).size <= 10 /\ ml j <= 10 /\ ma j <= 2 /\ uOf (mn j) = mKey j /\ (mKey j).length <= 20 /\ NE 1 (7, 0, ⟨(mKey j).toArray⟩) := by
 refine ⟨?_, ?_, ?_, ?_, ?_, ?_, ?_, ?_, ?_⟩
 ·exact ten (P := fun j => (mw j).size = ml j + 1) (by decide +kernel) j hj
 ·exact ten (P := fun j => (mw j).extract 0 (ml j) = mn j) (by decide +kernel) j hj
 ·exact ten (P := fun j => (mw j).data[ml j]? = some (UInt8.ofNat (48 + ma j))) (by decide +kernel) j hj
 ·exact ten (P := fun j => (mn j).size <= 10) (by decide +kernel) j hj
 ·exact ten (P := fun j => ml j <= 10) (by decide +kernel) j hj
 ·exact ten (P := fun j => ma j <= 2) (by decide +kernel) j hj
 ·exact ten (P := fun j => uOf (mn j) = mKey j) (by decide +kernel) j hj
 ·exact ten (P := fun j => (mKey j).length <= 20) (by decide +kernel) j hj
 ·refine .inr (.inr ⟨rfl, ⟨(mKey j).toArray⟩, rfl, ?_, ?_, ?_⟩)
  ·exact ten (P := fun j => ((⟨(mKey j).toArray⟩ : ByteArray).toList == [0, 108, 0, 101, 0, 110, 0, 103, 0, 116, 0, 104]) = false) (by decide +kernel) j hj
  ·exact ten (P := fun j => (⟨(mKey j).toArray⟩ : ByteArray).size <= 16777216) (by decide +kernel) j hj
  ·exact ten (P := fun j => W.idxU (W.unitsS ⟨(mKey j).toArray⟩) = -1) (by decide +kernel) j hj
theorem byte_at {b : ByteArray} {i n : Nat} (h : b.data[i]? = some (UInt8.ofNat n)) (hn : n < 256) (h9 : i < b.size) : (((b[i]'h9).toNat : Nat) : Int) = (n : Int) := by
 have e : b[i]'h9 = UInt8.ofNat n := (Array.getElem?_eq_some_iff.1 h).2
 rw [e, UInt8.toNat_ofNat', Nat.mod_eq_of_lt (by show n < 256; omega)]
theorem fields_mw (w : World) (hT : Lib.TabIs Tryz.prog w "strings.asciiSpace" .u8 Lib.asciiSpaceTab) :
  Calls Tryz.prog 106 #[.string ⟨#[112, 117, 115, 104, 49, 32, 112, 111, 112, 48, 32, 118, 97, 108, 117, 101, 115, 48, 32, 107, 101, 121, 115, 48, 32, 101, 110, 116, 114, 105, 101, 115, 48, 32, 102, 111, 114, 69, 97, 99, 104, 49, 32, 109, 97, 112, 49, 32, 105, 110, 100, 101, 120, 79, 102, 49, 32, 106, 111, 105, 110, 49, 32, 115, 108, 105, 99, 101, 50]⟩] w fun e w' => e = .returned (.slice (some ⟨w.heap.size, 0, none⟩) 10 10) /\ w.alloc (.cells mwC 9) = w' := by
 have h := Tryz.strings_Fields ⟨#[112, 117, 115, 104, 49, 32, 112, 111, 112, 48, 32, 118, 97, 108, 117, 101, 115, 48, 32, 107, 101, 121, 115, 48, 32, 101, 110, 116, 114, 105, 101, 115, 48, 32, 102, 111, 114, 69, 97, 99, 104, 49, 32, 109, 97, 112, 49, 32, 105, 110, 100, 101, 120, 79, 102, 49, 32, 106, 111, 105, 110, 49, 32, 115, 108, 105, 99, 101, 50]⟩ w (by decide) (by
  intro j b hb
  have : b ∈ ([112, 117, 115, 104, 49, 32, 112, 111, 112, 48, 32, 118, 97, 108, 117, 101, 115, 48, 32, 107, 101, 121, 115, 48, 32, 101, 110, 116, 114, 105, 101, 115, 48, 32, 102, 111, 114, 69, 97, 99, 104, 49, 32, 109, 97, 112, 49, 32, 105, 110, 100, 101, 120, 79, 102, 49, 32, 106, 111, 105, 110, 49, 32, 115, 108, 105, 99, 101, 50] : List UInt8) := List.mem_of_getElem? hb
  have hall : ∀ x ∈ ([112, 117, 115, 104, 49, 32, 112, 111, 112, 48, 32, 118, 97, 108, 117, 101, 115, 48, 32, 107, 101, 121, 115, 48, 32, 101, 110, 116, 114, 105, 101, 115, 48, 32, 102, 111, 114, 69, 97, 99, 104, 49, 32, 109, 97, 112, 49, 32, 105, 110, 100, 101, 120, 79, 102, 49, 32, 106, 111, 105, 110, 49, 32, 115, 108, 105, 99, 101, 50] : List UInt8), x.toNat < 128 := by decide
  exact hall b this) hT
 have e : Lib.fields [112, 117, 115, 104, 49, 32, 112, 111, 112, 48, 32, 118, 97, 108, 117, 101, 115, 48, 32, 107, 101, 121, 115, 48, 32, 101, 110, 116, 114, 105, 101, 115, 48, 32, 102, 111, 114, 69, 97, 99, 104, 49, 32, 109, 97, 112, 49, 32, 105, 110, 100, 101, 120, 79, 102, 49, 32, 106, 111, 105, 110, 49, 32, 115, 108, 105, 99, 101, 50] = mwL := by decide +kernel
 refine h.mono fun _ _ he => ?_
 have he' := he
 rw [show (⟨#[112, 117, 115, 104, 49, 32, 112, 111, 112, 48, 32, 118, 97, 108, 117, 101, 115, 48, 32, 107, 101, 121, 115, 48, 32, 101, 110, 116, 114, 105, 101, 115, 48, 32, 102, 111, 114, 69, 97, 99, 104, 49, 32, 109, 97, 112, 49, 32, 105, 110, 100, 101, 120, 79, 102, 49, 32, 106, 111, 105, 110, 49, 32, 115, 108, 105, 99, 101, 50]⟩ : ByteArray).data.toList = [112, 117, 115, 104, 49, 32, 112, 111, 112, 48, 32, 118, 97, 108, 117, 101, 115, 48, 32, 107, 101, 121, 115, 48, 32, 101, 110, 116, 114, 105, 101, 115, 48, 32, 102, 111, 114, 69, 97, 99, 104, 49, 32, 109, 97, 112, 49, 32, 105, 110, 100, 101, 120, 79, 102, 49, 32, 106, 111, 105, 110, 49, 32, 115, 108, 105, 99, 101, 50] from rfl, e] at he'
 exact ⟨he'.1, he'.2.symm⟩
def NatF (f : MF) (t : TO) (id : Int) (mk : Bool) : Prop := t.cl = 2 /\ t.proto = f 1 /\ t.fn = (.iface 167 (.agg #[.bool mk])) /\ t.kd = kdI id
def SameT (t t' : TO) : Prop := t'.b = t.b /\ t'.cl = t.cl /\ t'.proto = t.proto /\ t'.ev = t.ev /\ t'.fn = t.fn /\ t'.kd = t.kd
def mE (n : Nat) (i : Nat) : List En := (List.range i).map fun j => (((7, 0, ⟨(mKey j).toArray⟩), (9, (n : Int) + 1 + (j : Int), ⟨#[]⟩), 5) : En)
structure MdS (W : World) (h A m g : Nat) (f : MF) (ts0 : List TO) (t0 : TO) (i : Nat) (ts : List TO) (wr : World) : Prop where
 mp : MP wr h A m f ts
 bk : Bk A W wr
 bx : Box wr g 9 mwC
 len : ts.length = ts0.length + i
 old : ∀ q, q < ts0.length -> q ≠ 2 -> ts[q]? = ts0[q]?
 pr : ∃ t, ts[2]? = some t /\ SameT t0 t /\ t.O = t0.O ++ mE ts0.length i
 fn : ∀ j, j < i -> ∃ t, ts[ts0.length + j]? = some t /\ NatF f t (154 + (j : Int)) false
theorem mE_next (n i : Nat) : mE n (i + 1) = mE n i ++ [(((7, 0, ⟨(mKey i).toArray⟩), (9, (n : Int) + 1 + (i : Int), ⟨#[]⟩), 5) : En)] := by
 unfold mE
 rw [List.range_succ, List.map_append]
 rfl
theorem mE_new (n i : Nat) (hi : i < 10) : (mE n i).all (fun x => decide (x.1 ≠ ((7, 0, ⟨(mKey i).toArray⟩) : Vt))) = true := by
 rw [List.all_eq_true]
 intro x hx
 obtain ⟨j, hj, rfl⟩ := List.mem_map.1 hx
 have hj := List.mem_range.1 hj
 have key : ∀ i, i < 10 -> ∀ j, j < i -> ((⟨(mKey j).toArray⟩ : ByteArray) ≠ ⟨(mKey i).toArray⟩) := by decide +kernel
 rw [decide_eq_true_eq]
 intro e
 exact key i hi j hj (congrArg (fun (z : Vt) => z.2.2) e)
theorem MdS.next {W wr w' : World} {h A m g b : Nat} {f : MF} {ts0 ts : List TO} {t0 t : TO} {i : Nat} {pv pv2 : Value} {F F2 : Nat -> Prop} {O : List En} (H : MdS W h A m g f ts0 t0 i ts wr) (h2 : 2 < ts0.length) (ht : ts[2]? = some t) (hm : MP w' h A m f (ts.set 2 ⟨t.b, t.cl, t.proto, pv2, t.ev, t.fn, t.kd, F2, t.O ++ [(((7, 0, ⟨(mKey i).toArray⟩) : Vt), (9, (ts.length : Int) + 1, ⟨#[]⟩), 5)]⟩ ++ [⟨b, 2, f 1, pv, .slice none 0 0, (.iface 167 (.agg #[.bool false])), kdI (154 + (i : Int)), F, O⟩])) (hb : Bk A wr w') : MdS W h A m g f ts0 t0 (i + 1) (ts.set 2 ⟨t.b, t.cl, t.proto, pv2, t.ev, t.fn, t.kd, F2, t.O ++ [(((7, 0, ⟨(mKey i).toArray⟩) : Vt), (9, (ts.length : Int) + 1, ⟨#[]⟩), 5)]⟩ ++ [⟨b, 2, f 1, pv, .slice none 0 0, (.iface 167 (.agg #[.bool false])), kdI (154 + (i : Int)), F, O⟩]) w' := by
 obtain ⟨t1, ht1, hs1, hO1⟩ := H.pr
 rw [ht] at ht1
 cases ht1
 have hl := H.len
 have hsl : ∀ t', (ts.set 2 t').length = ts.length := fun t' => List.length_set ..
 refine ⟨hm, H.bk.trans hb, hb.boxE H.bx (by decide), by rw [List.length_append, hsl, hl]; rfl, fun q hq hq2 => ?_, ?_, fun j hj => ?_⟩
 ·rw [List.getElem?_append_left (by rw [hsl]; omega), List.getElem?_set_ne (by omega)]
  exact H.old q hq hq2
 ·refine ⟨⟨t.b, t.cl, t.proto, pv2, t.ev, t.fn, t.kd, F2, t.O ++ [(((7, 0, ⟨(mKey i).toArray⟩) : Vt), (9, (ts.length : Int) + 1, ⟨#[]⟩), 5)]⟩, ?_, ⟨hs1.1, hs1.2.1, hs1.2.2.1, hs1.2.2.2.1, hs1.2.2.2.2.1, hs1.2.2.2.2.2⟩, ?_⟩
  ·rw [List.getElem?_append_left (by rw [hsl]; omega), List.getElem?_set_self (by omega)]
  ·show t.O ++ [(((7, 0, ⟨(mKey i).toArray⟩) : Vt), (9, (ts.length : Int) + 1, ⟨#[]⟩), 5)] = _
   rw [hO1, mE_next, List.append_assoc, hl, show (((ts0.length + i : Nat) : Int) + 1) = (ts0.length : Int) + 1 + (i : Int) from by omega]
 ·rcases Nat.lt_or_ge j i with hji | hji
  ·obtain ⟨t9, h9, h8⟩ := H.fn j hji
   refine ⟨t9, ?_, h8⟩
   rw [List.getElem?_append_left (by rw [hsl]; omega), List.getElem?_set_ne (by omega)]
   exact h9
  ·have e : j = i := by omega
   subst e
   refine ⟨⟨b, 2, f 1, pv, .slice none 0 0, (.iface 167 (.agg #[.bool false])), kdI (154 + (j : Int)), F, O⟩, ?_, rfl, rfl, rfl, rfl⟩
   rw [List.getElem?_append_right (by rw [hsl, hl]; omega), hsl, hl, Nat.sub_self]
   rfl
theorem MP.methods {W : World} {h A m : Nat} {f : MF} {ts0 : List TO} {t0 : TO} (H : MP W h A m f ts0) (hT : Lib.TabIs Tryz.prog W "strings.asciiSpace" .u8 Lib.asciiSpaceTab) (hp : ts0[2]? = some t0) (hf : f 2 = 3) (h1 : t0.cl = 1) (hn : t0.O.length < 30000) (hl : ts0.length < 90000) (hal : ∀ j, j < 10 -> t0.O.all (fun x => decide (x.1 ≠ ((7, 0, ⟨(mKey j).toArray⟩) : Vt))) = true) (hcs : t0.kd.cs = false) :
  Calls Tryz.prog 70 #[.pointer (some ⟨m, 0, none⟩), .int .i64 2, .int .i64 154, .string ⟨#[112, 117, 115, 104, 49, 32, 112, 111, 112, 48, 32, 118, 97, 108, 117, 101, 115, 48, 32, 107, 101, 121, 115, 48, 32, 101, 110, 116, 114, 105, 101, 115, 48, 32, 102, 111, 114, 69, 97, 99, 104, 49, 32, 109, 97, 112, 49, 32, 105, 110, 100, 101, 120, 79, 102, 49, 32, 106, 111, 105, 110, 49, 32, 115, 108, 105, 99, 101, 50]⟩] W fun e w' => e = .returned (.tuple #[]) /\ ∃ ts g, MdS W h A m g f ts0 t0 10 ts w' := by
 have h2 := (List.getElem?_eq_some_iff.1 hp).1
 have bb : Below W.heap.size W (W.alloc (.cells mwC 9)) := (Below.refl _ _).alloc (Nat.le_refl _) _
 have bx := Box.new W 9 mwC
 have HFD := Veil.mk (fields_mw W hT)
 obtain ⟨g, hg⟩ : ∃ g, W.heap.size = g := ⟨_, rfl⟩
 have HS : Veil (MdS W h A m g f ts0 t0 0 ts0 (W.alloc (.cells mwC 9))) := ⟨⟨H.on bb, Bk.of_below (Nat.le_of_lt H.mm.alt) bb, by rw [<- hg]; exact bx, rfl, fun _ _ _ => rfl, ⟨t0, hp, ⟨rfl, rfl, rfl, rfl, rfl, rfl⟩, by unfold mE; simp⟩, fun j hj => absurd hj (by omega)⟩⟩
 rw [hg] at HFD
 have HT := Veil.mk (And.intro hf (And.intro h1 (And.intro hn (And.intro hl (And.intro hal (And.intro hcs h2))))))
 clear bb bx hT hp hf h1 hn hl hal hcs h2 H hg
 go_enter Tryz.func70, Tryz.ntmps70
 go_wp2_with (go_at_call 106; ((with_reducible refine HFD.out.mono ?_); rintro e w1 ⟨rfl, h9⟩; rw [h9] at HS; clear h9))
 go_loopw [14] (fun i wr => ∃ (j : Nat) (ts : List TO), j <= 10 /\ i = .int .i64 (j : Int) /\ MdS W h A m g f ts0 t0 j ts wr) (fun i _ => 10 - (intOf i).toNat)
 case atStart => exact ⟨0, ts0, by omega, rfl, HS.out⟩
 case round =>
  clear HS HFD
  obtain ⟨j, ts, hj, rfl, hst⟩ := hrel
  have hj0 : (0 : Int) <= (j : Int) := by omega
  by_cases hlt : j < 10
  ·have hlt' : (j : Int) < 10 := by omega
   have c1 : wr.cell? ⟨g, j, none⟩ = some (.string (mw j)) := by rw [hst.bx.at_ j]; exact mwC_at j hlt
   have HST := Veil.mk hst
   obtain ⟨a1, a2, a3, a4, a5, a6, a7, a8, a9⟩ := mw_all j hlt
   have hsz : (((mw j).size : Nat) : Int) = (ml j : Int) + 1 := by rw [a1]; omega
   have HA := Veil.mk (And.intro a2 (And.intro a3 (And.intro a4 (And.intro a7 (And.intro a8 a9)))))
   clear a2 a3 a4 a7 a8 a9 hst
   go_upto_region 4 with (fail)
   obtain ⟨WD, hWD⟩ : ∃ WD, wr.drew = WD := ⟨_, rfl⟩
   have hdr : Below wr.heap.size wr WD := by rw [<- hWD]; exact (Below.refl _ _).drew
   obtain ⟨P1, hP1⟩ : ∃ P1 : World -> Prop, P1 = fun w' => ∃ ts', MdS W h A m g f ts0 t0 (j + 1) ts' w' := ⟨_, rfl⟩
   have HMT : Veil (Calls Tryz.prog 73 #[.pointer (some ⟨m, 0, none⟩), .int .i64 2, .string (mn j), .int .i64 (154 + (j : Int)), .int .i64 (ma j : Int)] WD fun e w' => e = .returned (.tuple #[]) /\ P1 w') := ⟨by
    rw [hP1]
    obtain ⟨hf, h1, hn, hl, hal, hcs, h2⟩ := HT.out
    obtain ⟨t, ht, hs, hO⟩ := HST.out.pr
    have hlen := HST.out.len
    have hc1 : t.cl = 1 := hs.2.1.trans h1
    have hol : t.O.length = t0.O.length + j := by rw [hO, List.length_append]; unfold mE; simp
    have hm := MP.method (HST.out.mp.on hdr) (p := 2) ht (by decide) (by rw [hf]; rfl) (by rw [hc1]; rfl) (by omega) (by omega) (154 + (j : Int)) (ma j : Int) (mn j) (mKey j) (by rw [hc1]; exact HA.out.2.2.2.2.2) (by have := HA.out.2.2.1; omega) HA.out.2.2.2.1 (by have := HA.out.2.2.2.2.1; omega) (by rw [hO, List.all_append, hal j hlt, mE_new _ _ hlt]; rfl) (by rw [hs.2.2.2.2.2]; exact hcs)
    refine hm.mono ?_
    rintro e w' ⟨he, b, pv, F, pv2, F2, h4, h5⟩
    exact ⟨he, _, HST.out.next h2 ht h4 ((Bk.of_below (Nat.le_of_lt HST.out.mp.mm.alt) hdr).trans h5)⟩⟩
   have HP1 := Veil.mk hP1
   have HWD := Veil.mk hWD
   clear hWD hdr hP1 HST HT c1
   refine wp_region_chain [qp m 0, qi 2, qq (.string (mw j)), qi (ml j : Int), qq (.string (mn j)), qi 154, qi (j : Int), qi (154 + (j : Int)), qq (.string (mw j)), qi (ml j : Int), qq (.int .u8 (48 + (ma j : Int))), qq (.int .u8 (ma j : Int)), qi (ma j : Int), qq (.tuple #[])] (LPh [13] (SqSt WD [P1])) [some 22, some 23, some 24, some 25, some 26, some 27, some 28, some 29, some 30, some 31, some 32, some 33, some 34, some 35] (curV' _ [some 22, some 23, some 24, some 25, some 26, some 27, some 28, some 29, some 30, some 31, some 32, some 33, some 34, some 35]) (by kernel_rfl) rfl rfl (puts_cur _ _) (LPh.start (show wr.drew = WD from HWD.out)) ?_ (by kernel_rfl) ?_
   ·refine SY (fun _ S => ?_) ?_
    ·obtain ⟨⟩ := n14 S.hu
     rw [pin S.ha]
     go_simp
     exact S.kL 0
    refine SY (fun _ S => ?_) ?_
    ·obtain ⟨⟩ := n14 S.hu
     rw [pin S.ha]
     go_simp
     exact S.kL 1
    refine SY (fun _ S => ?_) ?_
    ·obtain ⟨⟩ := n14 S.hu
     rw [pin S.ha]
     go_simp
     exact S.kL 2
    refine SY (fun _ S => ?_) ?_
    ·obtain ⟨⟩ := n14 S.hu
     rw [pin S.ha]
     go_simp
     exact S.kL 3
    refine SY (fun _ S => ?_) ?_
    ·obtain ⟨⟩ := n14 S.hu
     obtain rfl := S.q 2
     obtain rfl := S.q 3
     have gb := (S.hI.bwd [4] 13 4 (by kernel_rfl) rfl S.h0)
     have hst := S.hI.ph.btw1 0 (.inl rfl) (.inr ⟨13, rfl, gb⟩)
     clear hst
     clear gb
     rw [pin S.ha]
     go_simp
     rw [if_pos (show (ml j : Int) <= (ml j : Int) + 1 by omega), HA.out.1]
     go_simp
     exact S.kL 4
    refine SY (fun _ S => ?_) ?_
    ·obtain ⟨⟩ := n14 S.hu
     rw [pin S.ha]
     go_simp
     exact S.kL 5
    refine SY (fun _ S => ?_) ?_
    ·obtain ⟨⟩ := n14 S.hu
     rw [pin S.ha]
     go_simp
     exact S.kL 6
    refine SY (fun _ S => ?_) ?_
    ·obtain ⟨⟩ := n14 S.hu
     obtain rfl := S.q 5
     obtain rfl := S.q 6
     have gb := (S.hI.bwd [7] 13 7 (by kernel_rfl) rfl S.h0)
     have hst := S.hI.ph.btw1 0 (.inl rfl) (.inr ⟨13, rfl, gb⟩)
     clear hst
     have hw9 : IntKind.i64.wrap (154 + (j : Int)) = 154 + (j : Int) := IntWalk.i64_in _ (by omega)
     clear gb
     rw [pin S.ha]
     go_simp
     try simp only [hw9]
     exact S.kL 7
    refine SY (fun _ S => ?_) ?_
    ·obtain ⟨⟩ := n14 S.hu
     rw [pin S.ha]
     go_simp
     exact S.kL 8
    refine SY (fun _ S => ?_) ?_
    ·obtain ⟨⟩ := n14 S.hu
     rw [pin S.ha]
     go_simp
     exact S.kL 9
    refine SY (fun _ S => ?_) ?_
    ·obtain ⟨⟩ := n14 S.hu
     obtain rfl := S.q 8
     obtain rfl := S.q 9
     have gb := (S.hI.bwd [12, 11, 10] 13 10 (by kernel_rfl) rfl S.h0)
     have hst := S.hI.ph.btw1 0 (.inl rfl) (.inr ⟨13, rfl, gb⟩)
     clear hst
     clear gb
     rw [pin S.ha]
     go_simp
     rw [dif_pos (show (ml j : Int) < (ml j : Int) + 1 by omega), byte_at HA.out.2.1 (by omega), show ((48 + ma j : Nat) : Int) = 48 + (ma j : Int) from by omega]
     go_simp
     exact S.kL 10
    refine SY (fun _ S => ?_) ?_
    ·obtain ⟨⟩ := n14 S.hu
     obtain rfl := S.q 10
     have gb := (S.hI.bwd [12, 11] 13 11 (by kernel_rfl) rfl S.h0)
     have hst := S.hI.ph.btw1 0 (.inl rfl) (.inr ⟨13, rfl, gb⟩)
     clear hst
     have hw9 : IntKind.u8.wrap (48 + (ma j : Int) - 48) = (ma j : Int) := by rw [show (48 + (ma j : Int) - 48) = (ma j : Int) from by omega]; exact IntWalk.u8_in _ (by omega)
     clear gb
     rw [pin S.ha]
     go_simp
     try simp only [hw9]
     exact S.kL 11
    refine SY (fun _ S => ?_) ?_
    ·obtain ⟨⟩ := n14 S.hu
     obtain rfl := S.q 11
     have gb := (S.hI.bwd [12] 13 12 (by kernel_rfl) rfl S.h0)
     have hst := S.hI.ph.btw1 0 (.inl rfl) (.inr ⟨13, rfl, gb⟩)
     clear hst
     have hw9 : IntKind.i64.wrap (ma j : Int) = (ma j : Int) := IntWalk.i64_in _ (by omega)
     clear gb
     rw [pin S.ha]
     go_simp
     try simp only [hw9]
     exact S.kL 12
    refine SY (fun w' S => ?_) ?_
    ·obtain ⟨⟩ := n14 S.hu
     obtain rfl := S.q 0
     obtain rfl := S.q 1
     obtain rfl := S.q 4
     obtain rfl := S.q 7
     obtain rfl := S.q 12
     have gb := S.h0
     have hst := S.hI.ph.btw1 0 (.inl rfl) (.inr ⟨13, rfl, gb⟩)
     have hst' : WD = w' := (show w' = WD from hst).symm
     clear hst
     subst hst'
     clear gb
     rw [pin S.ha]
     go_simp
     go_at_call 73
     refine (HMT.out).mono ?_
     rintro e9 w9 ⟨rfl, hm9⟩
     go_simp
     exact S.kS 13 _ (S.hI.ph.next 0 13 _ rfl S.h0 (.inl rfl) (by decide) (hm9))
    exact Steps.nil
   ·intro us wE hus dd hD2 hJ
    obtain ⟨⟩ := n14 hus
    have q1 := hJ.ph.all (fun c hc => hD2 c (by
     have : c = 13 := by simpa using hc
     show c < 14
     omega))
    obtain rfl := hJ.vq 0 hD2
    obtain rfl := hJ.vq 1 hD2
    obtain rfl := hJ.vq 2 hD2
    obtain rfl := hJ.vq 3 hD2
    obtain rfl := hJ.vq 4 hD2
    obtain rfl := hJ.vq 5 hD2
    obtain rfl := hJ.vq 6 hD2
    obtain rfl := hJ.vq 7 hD2
    obtain rfl := hJ.vq 8 hD2
    obtain rfl := hJ.vq 9 hD2
    obtain rfl := hJ.vq 10 hD2
    obtain rfl := hJ.vq 11 hD2
    obtain rfl := hJ.vq 12 hD2
    obtain rfl := hJ.vq 13 hD2
    clear hJ hD2
    have HQ := Veil.mk (show P1 wE from q1)
    clear q1
    simp only [puts, setAll, List.setIfInBounds_toArray, List.set_cons_zero, List.set_cons_succ]
    rw [HP1.out] at HQ
    obtain ⟨ts', hst'⟩ := HQ.out
    clear HMT HWD HP1 HQ HA
    have HN := Veil.mk hst'
    clear hst'
    go_wp2
    go_roundw
    case rel => exact ⟨j + 1, ts', by omega, by go_num, HN.out⟩
    case measure => simp [intOf]; omega
  ·obtain rfl : j = 10 := by omega
   have HST := Veil.mk hst
   clear hst
   go_wp2
   exact bodyPost_end (results_none rfl _ _ _) rfl ⟨rfl, ts, g, HST.out⟩
end Go.Proofs.YtahkohfppakaiaaGreatDoor
