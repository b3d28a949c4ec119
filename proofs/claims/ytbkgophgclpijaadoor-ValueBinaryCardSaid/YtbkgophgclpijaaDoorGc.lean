/- Conversions to texts: the program's and the reference's; property keys. -/
import Derived.Test.YtbkgophgclpijaaDoorGa
import Derived.Test.YtbkgophgclpijaaDoorGb
import Derived.Lib.ItoaNum
import Derived.Lib.ItoaMem
namespace Go.Proofs.YtbkgophgclpijaaDoor
open Go.RowKit

theorem decode_ascii (s : ByteArray) (p : Nat) (h : (s.get! p).toNat < 128) : Utf8.decode s p = ((s.get! p).toNat, 1) := by
  unfold Utf8.decode
  simp [h]
theorem get_data (s : ByteArray) (p : Nat) (hp : p < s.data.toList.length) : s.get! p = s.data.toList[p] := by
  cases s with
  | mk d =>
    show d[p]! = _
    have hp' : p < d.size := by simpa using hp
    simp [hp']
theorem ofFrom_ascii (s : ByteArray) (ha : Ascii s) : ∀ f p, s.size ≤ p + f → W.ofFrom s f p = ((codes s).drop p).flatMap W.u2
  | 0, p, h => by
    have : (codes s).drop p = [] := List.drop_of_length_le (by rw [codes_length]; omega)
    rw [this]; rfl
  | f + 1, p, h => by
    by_cases hp : p < s.size
    · have hpl : p < s.data.toList.length := by simpa using hp
      have hc : (s.get! p).toNat < 128 := by rw [get_data s p hpl]; exact ha _ (List.getElem_mem hpl)
      rw [W.ofFrom_step s f p hp, decode_ascii s p hc]
      simp only
      rw [ofFrom_ascii s ha f (p + 1) (by omega)]
      have hd : (codes s).drop p = (s.get! p).toNat :: (codes s).drop (p + 1) := by
        rw [List.drop_eq_getElem_cons (by rw [codes_length]; exact hp)]
        congr 1
        rw [get_data s p hpl]
        simp [codes]
      rw [hd, List.flatMap_cons]
      congr 1
      unfold W.ofR
      rw [if_pos (by omega)]
    · have : (codes s).drop p = [] := List.drop_of_length_le (by rw [codes_length]; omega)
      rw [this, W.ofFrom_end s _ p hp]; rfl
theorem ofB_ascii (s : ByteArray) (ha : Ascii s) : W.ofB s = (codes s).flatMap W.u2 := by
  have := ofFrom_ascii s ha s.size 0 (by omega)
  rw [List.drop_zero] at this
  exact this
theorem digits_ascii (u : Nat) : ∀ c ∈ Lib.decDigits u, c.toNat < 128 := by
  rw [Lib.decDigits_eq]
  intro c hc
  obtain ⟨t, -, rfl⟩ := List.mem_map.1 hc
  unfold Lib.dg
  simp
  omega
theorem itoa_ascii (n : Int) : ∀ c ∈ Lib.itoa n, c.toNat < 128 := by
  unfold Lib.itoa
  split
  · intro c hc
    rcases List.mem_cons.1 hc with rfl | hc
    · decide
    · exact digits_ascii _ c hc
  · exact digits_ascii _
theorem txt_ascii (k n : Int) : Ascii (M.txt k n) := by
  unfold M.txt Ascii
  split
  · decide
  split
  · split <;> decide
  split
  · decide
  · intro c hc
    exact itoa_ascii n c (by simpa using hc)
theorem txt_size {k n : Int} (h : M.Num k n) : (M.txt k n).size ≤ 100 := by
  rcases h with ⟨rfl, rfl⟩ | ⟨rfl, rfl⟩ | ⟨rfl, rfl⟩ | ⟨rfl, rfl⟩ | ⟨rfl, h1, h2⟩
  · decide
  · decide
  · decide
  · decide
  · show (Lib.itoa n).toArray.size ≤ 100
    have := Lib.itoa_length_le n (by omega) (by omega)
    rw [List.size_toArray]
    omega

abbrev sUndef : ByteArray := ⟨#[117, 110, 100, 101, 102, 105, 110, 101, 100]⟩
abbrev sNull : ByteArray := ⟨#[110, 117, 108, 108]⟩
abbrev sTrue : ByteArray := ⟨#[116, 114, 117, 101]⟩
abbrev sFalse : ByteArray := ⟨#[102, 97, 108, 115, 101]⟩
/-- A value's text: its bytes as they are given to text.Of. -/
def plainT (x : Vt) : ByteArray := if 3 ≤ x.1 ∧ x.1 ≤ 6 then M.txt x.1 x.2.1 else if x.1 = 0 then sUndef else if x.1 = 1 then sNull else if x.2.1 = 0 then sFalse else sTrue
def textT (x : Vt) : ByteArray × Int :=
  if x.1 = 7 then (x.2.2, 0) else if x.1 = 8 then (W.e0, 1) else if x.1 = 9 ∨ x.1 = 10 then (W.e0, 2) else (⟨(W.ofB (plainT x)).toArray⟩, 0)

set_option maxRecDepth 100000 in
set_option maxHeartbeats 2000000 in
theorem text_any (x : Vt) (hx : WV x.1 x.2.1 x.2.2) (w : World) (hT : M.Tb w) : Calls Tryd.prog 23 #[valV x] w fun e w' => e = .returned (.tuple #[.string (textT x).1, .int .i64 (textT x).2]) ∧ Below w.heap.size w w' := by
  obtain ⟨k, n, s⟩ := x
  simp only at hx
  have HT := Veil.mk hT
  clear hT
  rcases wv_ways hx with ⟨rfl, rfl, rfl⟩ | ⟨rfl, rfl, rfl⟩ | ⟨rfl, rfl, rfl⟩ | ⟨rfl, rfl, rfl⟩ | ⟨rfl, rfl, rfl⟩ | ⟨rfl, rfl, rfl⟩ | ⟨rfl, rfl, rfl⟩ | ⟨rfl, rfl, rfl⟩ | ⟨rfl, rfl, rfl⟩ | ⟨rfl, hn, rfl⟩ | ⟨rfl, rfl, hn⟩ | ⟨rfl, hn, rfl⟩ | ⟨rfl, hn, rfl⟩
  · have ix := Veil.mk (is_no_eq 0 0 W.e0 (by omega))
    have ox := Veil.mk (W.of_any sUndef (by decide))
    clear hx
    go_enter Tryd.func23, Tryd.ntmps23
    go_wp2_with (first | (go_at_call 46; ((with_reducible refine (ix.out _).mono ?_); rintro e w' ⟨rfl, rfl⟩)) | (go_at_call 50; ((with_reducible refine (ox.out _).mono ?_); rintro e w2 ⟨rfl, hb2⟩)))
    go_ret2
    exact ⟨rfl, by repeat (first | (with_reducible assumption) | (with_reducible exact Below.refl _ _) | (with_reducible refine M.blw_alloc _ ?_) | (with_reducible refine M.blw_call ?_ (by assumption)))⟩
  · have ix := Veil.mk (is_no_eq 1 0 W.e0 (by omega))
    have ox := Veil.mk (W.of_any sNull (by decide))
    clear hx
    go_enter Tryd.func23, Tryd.ntmps23
    go_wp2_with (first | (go_at_call 46; ((with_reducible refine (ix.out _).mono ?_); rintro e w' ⟨rfl, rfl⟩)) | (go_at_call 50; ((with_reducible refine (ox.out _).mono ?_); rintro e w2 ⟨rfl, hb2⟩)))
    go_ret2
    exact ⟨rfl, by repeat (first | (with_reducible assumption) | (with_reducible exact Below.refl _ _) | (with_reducible refine M.blw_alloc _ ?_) | (with_reducible refine M.blw_call ?_ (by assumption)))⟩
  · have ix := Veil.mk (is_no_eq 10 0 W.e0 (by omega))
    clear hx
    go_enter Tryd.func23, Tryd.ntmps23
    go_wp2_with (first | (go_at_call 46; ((with_reducible refine (ix.out _).mono ?_); rintro e w' ⟨rfl, rfl⟩)))
    go_ret2
    exact ⟨rfl, by repeat (first | (with_reducible assumption) | (with_reducible exact Below.refl _ _) | (with_reducible refine M.blw_alloc _ ?_) | (with_reducible refine M.blw_call ?_ (by assumption)))⟩
  · have ix := Veil.mk (is_no_eq 2 0 W.e0 (by omega))
    have ox := Veil.mk (W.of_any sFalse (by decide))
    clear hx
    go_enter Tryd.func23, Tryd.ntmps23
    go_wp2_with (first | (go_at_call 46; ((with_reducible refine (ix.out _).mono ?_); rintro e w' ⟨rfl, rfl⟩)) | (go_at_call 50; ((with_reducible refine (ox.out _).mono ?_); rintro e w2 ⟨rfl, hb2⟩)))
    go_ret2
    exact ⟨rfl, by repeat (first | (with_reducible assumption) | (with_reducible exact Below.refl _ _) | (with_reducible refine M.blw_alloc _ ?_) | (with_reducible refine M.blw_call ?_ (by assumption)))⟩
  · have ix := Veil.mk (is_no_eq 2 1 W.e0 (by omega))
    have ox := Veil.mk (W.of_any sTrue (by decide))
    clear hx
    go_enter Tryd.func23, Tryd.ntmps23
    go_wp2_with (first | (go_at_call 46; ((with_reducible refine (ix.out _).mono ?_); rintro e w' ⟨rfl, rfl⟩)) | (go_at_call 50; ((with_reducible refine (ox.out _).mono ?_); rintro e w2 ⟨rfl, hb2⟩)))
    go_ret2
    exact ⟨rfl, by repeat (first | (with_reducible assumption) | (with_reducible exact Below.refl _ _) | (with_reducible refine M.blw_alloc _ ?_) | (with_reducible refine M.blw_call ?_ (by assumption)))⟩
  · have hN : M.Num 4 0 := .inl ⟨rfl, rfl⟩
    have ix := Veil.mk (M.is_any 4 0 hN)
    have tx := Veil.mk (fun wx => M.text_any hN wx)
    have ox := Veil.mk (W.of_any (M.txt 4 0) (by have := txt_size hN; omega))
    clear hx hN
    go_enter Tryd.func23, Tryd.ntmps23
    go_wp2_with (first | (go_at_call 46; ((with_reducible refine (ix.out _).mono ?_); rintro e w' ⟨rfl, rfl⟩)) | (go_at_call 51; ((with_reducible refine (tx.out _ (HT.out.on (by repeat (first | (with_reducible assumption) | (with_reducible exact Below.refl _ _) | (with_reducible refine M.blw_alloc _ ?_) | (with_reducible refine M.blw_call ?_ (by assumption)))))).mono ?_); rintro e w1 ⟨rfl, hb1⟩)) | (go_at_call 50; ((with_reducible refine (ox.out _).mono ?_); rintro e w2 ⟨rfl, hb2⟩)))
    go_ret2
    exact ⟨rfl, by repeat (first | (with_reducible assumption) | (with_reducible exact Below.refl _ _) | (with_reducible refine M.blw_alloc _ ?_) | (with_reducible refine M.blw_call ?_ (by assumption)))⟩
  · have hN : M.Num 5 1 := .inr (.inl ⟨rfl, rfl⟩)
    have ix := Veil.mk (M.is_any 5 1 hN)
    have tx := Veil.mk (fun wx => M.text_any hN wx)
    have ox := Veil.mk (W.of_any (M.txt 5 1) (by have := txt_size hN; omega))
    clear hx hN
    go_enter Tryd.func23, Tryd.ntmps23
    go_wp2_with (first | (go_at_call 46; ((with_reducible refine (ix.out _).mono ?_); rintro e w' ⟨rfl, rfl⟩)) | (go_at_call 51; ((with_reducible refine (tx.out _ (HT.out.on (by repeat (first | (with_reducible assumption) | (with_reducible exact Below.refl _ _) | (with_reducible refine M.blw_alloc _ ?_) | (with_reducible refine M.blw_call ?_ (by assumption)))))).mono ?_); rintro e w1 ⟨rfl, hb1⟩)) | (go_at_call 50; ((with_reducible refine (ox.out _).mono ?_); rintro e w2 ⟨rfl, hb2⟩)))
    go_ret2
    exact ⟨rfl, by repeat (first | (with_reducible assumption) | (with_reducible exact Below.refl _ _) | (with_reducible refine M.blw_alloc _ ?_) | (with_reducible refine M.blw_call ?_ (by assumption)))⟩
  · have hN : M.Num 5 (-1) := .inr (.inr (.inl ⟨rfl, rfl⟩))
    have ix := Veil.mk (M.is_any 5 (-1) hN)
    have tx := Veil.mk (fun wx => M.text_any hN wx)
    have ox := Veil.mk (W.of_any (M.txt 5 (-1)) (by have := txt_size hN; omega))
    clear hx hN
    go_enter Tryd.func23, Tryd.ntmps23
    go_wp2_with (first | (go_at_call 46; ((with_reducible refine (ix.out _).mono ?_); rintro e w' ⟨rfl, rfl⟩)) | (go_at_call 51; ((with_reducible refine (tx.out _ (HT.out.on (by repeat (first | (with_reducible assumption) | (with_reducible exact Below.refl _ _) | (with_reducible refine M.blw_alloc _ ?_) | (with_reducible refine M.blw_call ?_ (by assumption)))))).mono ?_); rintro e w1 ⟨rfl, hb1⟩)) | (go_at_call 50; ((with_reducible refine (ox.out _).mono ?_); rintro e w2 ⟨rfl, hb2⟩)))
    go_ret2
    exact ⟨rfl, by repeat (first | (with_reducible assumption) | (with_reducible exact Below.refl _ _) | (with_reducible refine M.blw_alloc _ ?_) | (with_reducible refine M.blw_call ?_ (by assumption)))⟩
  · have hN : M.Num 6 0 := .inr (.inr (.inr (.inl ⟨rfl, rfl⟩)))
    have ix := Veil.mk (M.is_any 6 0 hN)
    have tx := Veil.mk (fun wx => M.text_any hN wx)
    have ox := Veil.mk (W.of_any (M.txt 6 0) (by have := txt_size hN; omega))
    clear hx hN
    go_enter Tryd.func23, Tryd.ntmps23
    go_wp2_with (first | (go_at_call 46; ((with_reducible refine (ix.out _).mono ?_); rintro e w' ⟨rfl, rfl⟩)) | (go_at_call 51; ((with_reducible refine (tx.out _ (HT.out.on (by repeat (first | (with_reducible assumption) | (with_reducible exact Below.refl _ _) | (with_reducible refine M.blw_alloc _ ?_) | (with_reducible refine M.blw_call ?_ (by assumption)))))).mono ?_); rintro e w1 ⟨rfl, hb1⟩)) | (go_at_call 50; ((with_reducible refine (ox.out _).mono ?_); rintro e w2 ⟨rfl, hb2⟩)))
    go_ret2
    exact ⟨rfl, by repeat (first | (with_reducible assumption) | (with_reducible exact Below.refl _ _) | (with_reducible refine M.blw_alloc _ ?_) | (with_reducible refine M.blw_call ?_ (by assumption)))⟩
  · have hN : M.Num 3 n := .inr (.inr (.inr (.inr ⟨rfl, hn.1, hn.2⟩)))
    have ix := Veil.mk (M.is_any 3 n hN)
    have tx := Veil.mk (fun wx => M.text_any hN wx)
    have ox := Veil.mk (W.of_any (M.txt 3 n) (by have := txt_size hN; omega))
    clear hx hN hn
    go_enter Tryd.func23, Tryd.ntmps23
    go_wp2_with (first | (go_at_call 46; ((with_reducible refine (ix.out _).mono ?_); rintro e w' ⟨rfl, rfl⟩)) | (go_at_call 51; ((with_reducible refine (tx.out _ (HT.out.on (by repeat (first | (with_reducible assumption) | (with_reducible exact Below.refl _ _) | (with_reducible refine M.blw_alloc _ ?_) | (with_reducible refine M.blw_call ?_ (by assumption)))))).mono ?_); rintro e w1 ⟨rfl, hb1⟩)) | (go_at_call 50; ((with_reducible refine (ox.out _).mono ?_); rintro e w2 ⟨rfl, hb2⟩)))
    go_ret2
    exact ⟨rfl, by repeat (first | (with_reducible assumption) | (with_reducible exact Below.refl _ _) | (with_reducible refine M.blw_alloc _ ?_) | (with_reducible refine M.blw_call ?_ (by assumption)))⟩
  · clear hn hx
    go_enter Tryd.func23, Tryd.ntmps23
    go_wp2
    go_ret2
    exact ⟨rfl, (Below.refl _ _).alloc (Nat.le_refl _) _⟩
  · have ix := Veil.mk (is_no_eq 8 n W.e0 (by omega))
    clear hx hn
    go_enter Tryd.func23, Tryd.ntmps23
    go_wp2_with (first | (go_at_call 46; ((with_reducible refine (ix.out _).mono ?_); rintro e w' ⟨rfl, rfl⟩)))
    go_ret2
    exact ⟨rfl, by repeat (first | (with_reducible assumption) | (with_reducible exact Below.refl _ _) | (with_reducible refine M.blw_alloc _ ?_) | (with_reducible refine M.blw_call ?_ (by assumption)))⟩
  · have ix := Veil.mk (is_no_eq 9 n W.e0 (by omega))
    clear hx hn
    go_enter Tryd.func23, Tryd.ntmps23
    go_wp2_with (first | (go_at_call 46; ((with_reducible refine (ix.out _).mono ?_); rintro e w' ⟨rfl, rfl⟩)))
    go_ret2
    exact ⟨rfl, by repeat (first | (with_reducible assumption) | (with_reducible exact Below.refl _ _) | (with_reducible refine M.blw_alloc _ ?_) | (with_reducible refine M.blw_call ?_ (by assumption)))⟩

/-- What the reference makes of a plain text. -/
theorem back_any (s : ByteArray) (hs : s.size ≤ 100) (ha : Ascii s) (a : Option Addr) (cap : Nat) (w : World) (h : W.Nums .i64 w a (codes s).length (codes s)) :
    Calls Tryd.prog 28 #[.slice a (codes s).length cap] w fun e w' => e = .returned (.string ⟨(W.ofB s).toArray⟩) ∧ Below w.heap.size w w' := by
  rw [ofB_ascii s ha]
  refine W.str_any a _ cap (codes s) (by rw [codes_length]; omega) (fun u hu => ?_) w h
  obtain ⟨c, hc, rfl⟩ := List.mem_map.1 hu
  have := ha c hc
  omega
set_option maxRecDepth 100000 in
set_option maxHeartbeats 2000000 in
theorem rtext_any (x : Vt) (hx : WV x.1 x.2.1 x.2.2) (w : World) (hT : M.Tb w) : Calls Tryd.prog 24 #[valV x] w fun e w' => e = .returned (.tuple #[.string (textT x).1, .int .i64 (textT x).2]) ∧ Below w.heap.size w w' := by
  obtain ⟨k, n, s⟩ := x
  simp only at hx
  have HT := Veil.mk hT
  clear hT
  rcases wv_ways hx with ⟨rfl, rfl, rfl⟩ | ⟨rfl, rfl, rfl⟩ | ⟨rfl, rfl, rfl⟩ | ⟨rfl, rfl, rfl⟩ | ⟨rfl, rfl, rfl⟩ | ⟨rfl, rfl, rfl⟩ | ⟨rfl, rfl, rfl⟩ | ⟨rfl, rfl, rfl⟩ | ⟨rfl, rfl, rfl⟩ | ⟨rfl, hn, rfl⟩ | ⟨rfl, rfl, hn⟩ | ⟨rfl, hn, rfl⟩ | ⟨rfl, hn, rfl⟩
  · clear hx
    have ux := Veil.mk (unitsA_any sUndef (by decide) (by unfold Ascii; decide))
    have bx := Veil.mk (back_any sUndef (by decide) (by unfold Ascii; decide))
    go_enter Tryd.func24, Tryd.ntmps24
    go_wp2_with (first | (go_at_call 53; ((with_reducible refine (ux.out _).mono ?_); intro e w3 hp; obtain ⟨v, rfl, hown, hb3⟩ := hp; obtain ⟨a3, c3, rfl, hnm⟩ := W.own_nums hown; have HNM := Veil.mk hnm; clear hnm hown; refine Hid.out ?_)))
    refine Lib.hid ?_
    go_wp2_with (first | (go_at_call 28; ((with_reducible refine (bx.out _ _ _ HNM.out).mono ?_); rintro e w4 ⟨rfl, hb4⟩)))
    go_ret2
    exact ⟨rfl, by repeat (first | (with_reducible assumption) | (with_reducible exact Below.refl _ _) | (with_reducible refine M.blw_alloc _ ?_) | (with_reducible refine M.blw_call ?_ (by assumption)))⟩
  · clear hx
    have ux := Veil.mk (unitsA_any sNull (by decide) (by unfold Ascii; decide))
    have bx := Veil.mk (back_any sNull (by decide) (by unfold Ascii; decide))
    go_enter Tryd.func24, Tryd.ntmps24
    go_wp2_with (first | (go_at_call 53; ((with_reducible refine (ux.out _).mono ?_); intro e w3 hp; obtain ⟨v, rfl, hown, hb3⟩ := hp; obtain ⟨a3, c3, rfl, hnm⟩ := W.own_nums hown; have HNM := Veil.mk hnm; clear hnm hown; refine Hid.out ?_)))
    refine Lib.hid ?_
    go_wp2_with (first | (go_at_call 28; ((with_reducible refine (bx.out _ _ _ HNM.out).mono ?_); rintro e w4 ⟨rfl, hb4⟩)))
    go_ret2
    exact ⟨rfl, by repeat (first | (with_reducible assumption) | (with_reducible exact Below.refl _ _) | (with_reducible refine M.blw_alloc _ ?_) | (with_reducible refine M.blw_call ?_ (by assumption)))⟩
  · clear hx
    go_enter Tryd.func24, Tryd.ntmps24
    go_wp2
    go_ret2
    exact ⟨rfl, (Below.refl _ _).alloc (Nat.le_refl _) _⟩
  · clear hx
    have ux := Veil.mk (unitsA_any sFalse (by decide) (by unfold Ascii; decide))
    have bx := Veil.mk (back_any sFalse (by decide) (by unfold Ascii; decide))
    go_enter Tryd.func24, Tryd.ntmps24
    go_wp2_with (first | (go_at_call 53; ((with_reducible refine (ux.out _).mono ?_); intro e w3 hp; obtain ⟨v, rfl, hown, hb3⟩ := hp; obtain ⟨a3, c3, rfl, hnm⟩ := W.own_nums hown; have HNM := Veil.mk hnm; clear hnm hown; refine Hid.out ?_)))
    refine Lib.hid ?_
    go_wp2_with (first | (go_at_call 28; ((with_reducible refine (bx.out _ _ _ HNM.out).mono ?_); rintro e w4 ⟨rfl, hb4⟩)))
    go_ret2
    exact ⟨rfl, by repeat (first | (with_reducible assumption) | (with_reducible exact Below.refl _ _) | (with_reducible refine M.blw_alloc _ ?_) | (with_reducible refine M.blw_call ?_ (by assumption)))⟩
  · clear hx
    have ux := Veil.mk (unitsA_any sTrue (by decide) (by unfold Ascii; decide))
    have bx := Veil.mk (back_any sTrue (by decide) (by unfold Ascii; decide))
    go_enter Tryd.func24, Tryd.ntmps24
    go_wp2_with (first | (go_at_call 53; ((with_reducible refine (ux.out _).mono ?_); intro e w3 hp; obtain ⟨v, rfl, hown, hb3⟩ := hp; obtain ⟨a3, c3, rfl, hnm⟩ := W.own_nums hown; have HNM := Veil.mk hnm; clear hnm hown; refine Hid.out ?_)))
    refine Lib.hid ?_
    go_wp2_with (first | (go_at_call 28; ((with_reducible refine (bx.out _ _ _ HNM.out).mono ?_); rintro e w4 ⟨rfl, hb4⟩)))
    go_ret2
    exact ⟨rfl, by repeat (first | (with_reducible assumption) | (with_reducible exact Below.refl _ _) | (with_reducible refine M.blw_alloc _ ?_) | (with_reducible refine M.blw_call ?_ (by assumption)))⟩
  · clear hx
    have hN : M.Num 4 0 := .inl ⟨rfl, rfl⟩
    have qx := Veil.mk (fun wx => M.of_any hN wx)
    have tx := Veil.mk (fun wx => M.rtext_any hN wx)
    have ux := Veil.mk (unitsA_any (M.txt 4 0) (by have := txt_size hN; omega) (txt_ascii _ _))
    have bx := Veil.mk (back_any (M.txt 4 0) (txt_size hN) (txt_ascii _ _))
    clear hN
    go_enter Tryd.func24, Tryd.ntmps24
    go_wp2_with (first | (go_at_call 43; ((with_reducible refine (qx.out _).mono ?_); rintro e w1 ⟨rfl, hb1⟩)) | (go_at_call 52; ((with_reducible refine (tx.out _ (HT.out.on (by repeat (first | (with_reducible assumption) | (with_reducible exact Below.refl _ _) | (with_reducible refine M.blw_alloc _ ?_) | (with_reducible refine M.blw_call ?_ (by assumption)))))).mono ?_); rintro e w2 ⟨rfl, hb2⟩)) | (go_at_call 53; ((with_reducible refine (ux.out _).mono ?_); intro e w3 hp; obtain ⟨v, rfl, hown, hb3⟩ := hp; obtain ⟨a3, c3, rfl, hnm⟩ := W.own_nums hown; have HNM := Veil.mk hnm; clear hnm hown; refine Hid.out ?_)))
    refine Lib.hid ?_
    go_wp2_with (first | (go_at_call 28; ((with_reducible refine (bx.out _ _ _ HNM.out).mono ?_); rintro e w4 ⟨rfl, hb4⟩)))
    go_ret2
    exact ⟨rfl, by repeat (first | (with_reducible assumption) | (with_reducible exact Below.refl _ _) | (with_reducible refine M.blw_alloc _ ?_) | (with_reducible refine M.blw_call ?_ (by assumption)))⟩
  · clear hx
    have hN : M.Num 5 1 := .inr (.inl ⟨rfl, rfl⟩)
    have qx := Veil.mk (fun wx => M.of_any hN wx)
    have tx := Veil.mk (fun wx => M.rtext_any hN wx)
    have ux := Veil.mk (unitsA_any (M.txt 5 1) (by have := txt_size hN; omega) (txt_ascii _ _))
    have bx := Veil.mk (back_any (M.txt 5 1) (txt_size hN) (txt_ascii _ _))
    clear hN
    go_enter Tryd.func24, Tryd.ntmps24
    go_wp2_with (first | (go_at_call 43; ((with_reducible refine (qx.out _).mono ?_); rintro e w1 ⟨rfl, hb1⟩)) | (go_at_call 52; ((with_reducible refine (tx.out _ (HT.out.on (by repeat (first | (with_reducible assumption) | (with_reducible exact Below.refl _ _) | (with_reducible refine M.blw_alloc _ ?_) | (with_reducible refine M.blw_call ?_ (by assumption)))))).mono ?_); rintro e w2 ⟨rfl, hb2⟩)) | (go_at_call 53; ((with_reducible refine (ux.out _).mono ?_); intro e w3 hp; obtain ⟨v, rfl, hown, hb3⟩ := hp; obtain ⟨a3, c3, rfl, hnm⟩ := W.own_nums hown; have HNM := Veil.mk hnm; clear hnm hown; refine Hid.out ?_)))
    refine Lib.hid ?_
    go_wp2_with (first | (go_at_call 28; ((with_reducible refine (bx.out _ _ _ HNM.out).mono ?_); rintro e w4 ⟨rfl, hb4⟩)))
    go_ret2
    exact ⟨rfl, by repeat (first | (with_reducible assumption) | (with_reducible exact Below.refl _ _) | (with_reducible refine M.blw_alloc _ ?_) | (with_reducible refine M.blw_call ?_ (by assumption)))⟩
  · clear hx
    have hN : M.Num 5 (-1) := .inr (.inr (.inl ⟨rfl, rfl⟩))
    have qx := Veil.mk (fun wx => M.of_any hN wx)
    have tx := Veil.mk (fun wx => M.rtext_any hN wx)
    have ux := Veil.mk (unitsA_any (M.txt 5 (-1)) (by have := txt_size hN; omega) (txt_ascii _ _))
    have bx := Veil.mk (back_any (M.txt 5 (-1)) (txt_size hN) (txt_ascii _ _))
    clear hN
    go_enter Tryd.func24, Tryd.ntmps24
    go_wp2_with (first | (go_at_call 43; ((with_reducible refine (qx.out _).mono ?_); rintro e w1 ⟨rfl, hb1⟩)) | (go_at_call 52; ((with_reducible refine (tx.out _ (HT.out.on (by repeat (first | (with_reducible assumption) | (with_reducible exact Below.refl _ _) | (with_reducible refine M.blw_alloc _ ?_) | (with_reducible refine M.blw_call ?_ (by assumption)))))).mono ?_); rintro e w2 ⟨rfl, hb2⟩)) | (go_at_call 53; ((with_reducible refine (ux.out _).mono ?_); intro e w3 hp; obtain ⟨v, rfl, hown, hb3⟩ := hp; obtain ⟨a3, c3, rfl, hnm⟩ := W.own_nums hown; have HNM := Veil.mk hnm; clear hnm hown; refine Hid.out ?_)))
    refine Lib.hid ?_
    go_wp2_with (first | (go_at_call 28; ((with_reducible refine (bx.out _ _ _ HNM.out).mono ?_); rintro e w4 ⟨rfl, hb4⟩)))
    go_ret2
    exact ⟨rfl, by repeat (first | (with_reducible assumption) | (with_reducible exact Below.refl _ _) | (with_reducible refine M.blw_alloc _ ?_) | (with_reducible refine M.blw_call ?_ (by assumption)))⟩
  · clear hx
    have hN : M.Num 6 0 := .inr (.inr (.inr (.inl ⟨rfl, rfl⟩)))
    have qx := Veil.mk (fun wx => M.of_any hN wx)
    have tx := Veil.mk (fun wx => M.rtext_any hN wx)
    have ux := Veil.mk (unitsA_any (M.txt 6 0) (by have := txt_size hN; omega) (txt_ascii _ _))
    have bx := Veil.mk (back_any (M.txt 6 0) (txt_size hN) (txt_ascii _ _))
    clear hN
    go_enter Tryd.func24, Tryd.ntmps24
    go_wp2_with (first | (go_at_call 43; ((with_reducible refine (qx.out _).mono ?_); rintro e w1 ⟨rfl, hb1⟩)) | (go_at_call 52; ((with_reducible refine (tx.out _ (HT.out.on (by repeat (first | (with_reducible assumption) | (with_reducible exact Below.refl _ _) | (with_reducible refine M.blw_alloc _ ?_) | (with_reducible refine M.blw_call ?_ (by assumption)))))).mono ?_); rintro e w2 ⟨rfl, hb2⟩)) | (go_at_call 53; ((with_reducible refine (ux.out _).mono ?_); intro e w3 hp; obtain ⟨v, rfl, hown, hb3⟩ := hp; obtain ⟨a3, c3, rfl, hnm⟩ := W.own_nums hown; have HNM := Veil.mk hnm; clear hnm hown; refine Hid.out ?_)))
    refine Lib.hid ?_
    go_wp2_with (first | (go_at_call 28; ((with_reducible refine (bx.out _ _ _ HNM.out).mono ?_); rintro e w4 ⟨rfl, hb4⟩)))
    go_ret2
    exact ⟨rfl, by repeat (first | (with_reducible assumption) | (with_reducible exact Below.refl _ _) | (with_reducible refine M.blw_alloc _ ?_) | (with_reducible refine M.blw_call ?_ (by assumption)))⟩
  · clear hx
    have hN : M.Num 3 n := .inr (.inr (.inr (.inr ⟨rfl, hn.1, hn.2⟩)))
    have qx := Veil.mk (fun wx => M.of_any hN wx)
    have tx := Veil.mk (fun wx => M.rtext_any hN wx)
    have ux := Veil.mk (unitsA_any (M.txt 3 n) (by have := txt_size hN; omega) (txt_ascii _ _))
    have bx := Veil.mk (back_any (M.txt 3 n) (txt_size hN) (txt_ascii _ _))
    clear hN
    clear hn
    go_enter Tryd.func24, Tryd.ntmps24
    go_wp2_with (first | (go_at_call 43; ((with_reducible refine (qx.out _).mono ?_); rintro e w1 ⟨rfl, hb1⟩)) | (go_at_call 52; ((with_reducible refine (tx.out _ (HT.out.on (by repeat (first | (with_reducible assumption) | (with_reducible exact Below.refl _ _) | (with_reducible refine M.blw_alloc _ ?_) | (with_reducible refine M.blw_call ?_ (by assumption)))))).mono ?_); rintro e w2 ⟨rfl, hb2⟩)) | (go_at_call 53; ((with_reducible refine (ux.out _).mono ?_); intro e w3 hp; obtain ⟨v, rfl, hown, hb3⟩ := hp; obtain ⟨a3, c3, rfl, hnm⟩ := W.own_nums hown; have HNM := Veil.mk hnm; clear hnm hown; refine Hid.out ?_)))
    refine Lib.hid ?_
    go_wp2_with (first | (go_at_call 28; ((with_reducible refine (bx.out _ _ _ HNM.out).mono ?_); rintro e w4 ⟨rfl, hb4⟩)))
    go_ret2
    exact ⟨rfl, by repeat (first | (with_reducible assumption) | (with_reducible exact Below.refl _ _) | (with_reducible refine M.blw_alloc _ ?_) | (with_reducible refine M.blw_call ?_ (by assumption)))⟩
  · clear hn hx
    go_enter Tryd.func24, Tryd.ntmps24
    go_wp2
    go_ret2
    exact ⟨rfl, (Below.refl _ _).alloc (Nat.le_refl _) _⟩
  · clear hn hx
    go_enter Tryd.func24, Tryd.ntmps24
    go_wp2
    go_ret2
    exact ⟨rfl, (Below.refl _ _).alloc (Nat.le_refl _) _⟩
  · clear hn hx
    go_enter Tryd.func24, Tryd.ntmps24
    go_wp2
    go_ret2
    exact ⟨rfl, (Below.refl _ _).alloc (Nat.le_refl _) _⟩
end Go.Proofs.YtbkgophgclpijaaDoor
