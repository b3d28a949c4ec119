/- The reference's Units of a text of ASCII signs; what text.Of makes of it. -/
import Derived.Test.YtbkgophgclpijaaDoorEb
import Derived.Test.YtbkgophgclpijaaDoorSu
namespace Go.Proofs.YtbkgophgclpijaaDoor
open Go.RowKit

/-- The signs' numbers. -/
def codes (s : ByteArray) : List Nat := s.data.toList.map (·.toNat)
theorem codes_length (s : ByteArray) : (codes s).length = s.size := by simp [codes]
def Ascii (s : ByteArray) : Prop := ∀ c ∈ s.data.toList, c.toNat < 128
def UnitsPost (w : World) (l : List Nat) (e : Ending) (w' : World) : Prop := ∃ v, e = .returned v ∧ w'.ownsRow w.heap.size 3 1 v l.length (W.numC l) ∧ Below w.heap.size w w'
theorem extract2 (s : ByteArray) (p n : Nat) (hp : p ≤ s.size) : (s.extract p s.size).extract n (s.extract p s.size).size = s.extract (p + n) s.size := by
  apply ByteArray.ext
  simp [ByteArray.data_extract, Array.extract_extract]
  rw [show min (p + (s.size - p)) s.size = s.size by omega]

set_option maxRecDepth 1000000 in
set_option maxHeartbeats 2000000 in
theorem unitsA_any (s : ByteArray) (hs : s.size ≤ 1000000) (ha : Ascii s) (w : World) :
    Calls Tryd.prog 53 #[.string s] w (UnitsPost w (codes s)) := by
  obtain ⟨i0, hi, hz0, hz1, hz2⟩ := info_parts W.Tryd.info3
  have HA := Veil.mk ha
  clear ha
  go_enter Tryd.func53, Tryd.ntmps53
  go_wp2
  go_loopw [0, 3] (fun x v wr => ∃ pos : Nat, x = .string (s.extract pos s.size) ∧ wr.ownsRow w.heap.size 3 1 v pos (W.numC ((codes s).take pos)) ∧ Below w.heap.size w wr ∧ pos ≤ s.size) (fun x _ _ => match x with | .string y => y.size | _ => 0)
  case atStart => exact ⟨0, by rw [show s.extract 0 s.size = s from ByteArray.ext (by simp)], World.ownsRow_nil _ _ _ _, Below.refl _ _, by omega⟩
  case round =>
    obtain ⟨pos, rfl, hown, hbw, hps⟩ := hrel
    have hxs : (s.extract pos s.size).size = s.size - pos := by simp
    obtain ⟨x, hx⟩ : ∃ x, x = s.extract pos s.size := ⟨_, rfl⟩
    rw [← hx] at hxs ⊢
    by_cases hp : pos < s.size
    · have hgt : (0 : Int) < (x.size : Int) := by omega
      have hpl : pos < s.data.toList.length := by simpa using hp
      obtain ⟨c, hc⟩ : ∃ c, c = s.data.toList[pos] := ⟨_, rfl⟩
      have hc1 : c.toNat < 128 := by rw [hc]; exact HA.out _ (List.getElem_mem hpl)
      have hx0 : x.data.toList[0]? = some c := by
        rw [hx, hc]
        simp [ByteArray.data_extract]
        rw [List.getElem?_take, if_pos (by omega), List.getElem?_drop]
        simp [hp]
      have htk : (codes s).take (pos + 1) = (codes s).take pos ++ [c.toNat] := by
        unfold codes
        rw [← List.map_take, ← List.map_take, List.take_succ_eq_append_getElem hpl, List.map_append, hc]
        rfl
      have hD := Veil.mk (fun W => Tryd.utf8_DecodeRuneInString_ascii x c W hx0 hc1)
      have hex : x.extract 1 x.size = s.extract (pos + 1) s.size := by rw [hx]; exact extract2 s pos 1 hps
      obtain ⟨x2, hx2⟩ : ∃ x2, x2 = s.extract (pos + 1) s.size := ⟨_, rfl⟩
      rw [← hx2] at hex
      have hx2s : x2.size = s.size - (pos + 1) := by rw [hx2]; simp
      have HX2 := Veil.mk hx2
      have HX2S := Veil.mk hx2s
      have HXS := Veil.mk hxs
      have HTK := Veil.mk htk
      have hsl : ∀ W, (Instr.slice 9 (.string x) (some (.int .i64 1)) none none).run Tryd.prog W = .ok (.string x2) W := fun W => by
        rw [run_slice_string_from_if W 9 x .i64 1 Tryd.underlying9, if_pos ⟨by omega, by omega⟩, show (1 : Int).toNat = 1 from rfl, hex]
      obtain ⟨n, hn⟩ : ∃ n, n = c.toNat := ⟨_, rfl⟩
      rw [← hn] at hc1 HTK hD
      have hci : (n : Int) < 65536 := by omega
      have hc0 : (0 : Int) ≤ (n : Int) := by omega
      have hle := hbw.size
      clear hex hx hx0 htk hx2 hx2s hxs hc hn hpl
      go_wp2_with (first | (go_at_call 70; ((with_reducible refine (hD.out _).mono ?_); rintro e w2 ⟨rfl, rfl⟩)) | (at_builtin; refine wpList_append_own _ rfl _ _ 43 rfl w.heap.size 3 i0 (.int .i64 0) 1 8 Tryd.underlying43 hi hz0 hz1 hz2 rfl (by decide) _ _ _ rfl (hown.alloc _) ⟨_, 0, none⟩ 1 1 [_] rfl rfl (cells_new _ _ _) (fun x hx => by simp at hx; rcases hx with rfl <;> rfl) (by unfold maxLen; omega) (by omega) (by simp; omega) ?_; intro v' w3 hown' hgrow3 hnil3; refine Hid.out ?_))
      have hown3 : w3.ownsRow w.heap.size 3 1 v' (pos + 1) (W.numC ((codes s).take (pos + 1))) := by rw [HTK.out, W.numC_append]; exact hown'
      have hbw3 : Below w.heap.size w w3 := Below.grown (hbw.alloc (by omega) _) hgrow3 (by simp; omega) (fun j hj => (hown.lt _ hj).1)
      clear hown' hgrow3 hnil3 hown hbw hD
      refine Lib.hid ?_
      go_wp2
      go_roundw
      case rel => exact ⟨pos + 1, by rw [HX2.out], hown3, hbw3, by omega⟩
      case measure =>
        have h1 := HXS.out
        have h2 := HX2S.out
        show x2.size < x.size
        omega
    · have hgt : ¬ (0 : Int) < (x.size : Int) := by omega
      have he : pos = (codes s).length := by rw [codes_length]; omega
      rw [he, List.take_length] at hown
      have HO := Veil.mk hown
      clear he hown
      go_wp2
      go_ret
      exact ⟨_, rfl, HO.out, hbw⟩
end Go.Proofs.YtbkgophgclpijaaDoor
