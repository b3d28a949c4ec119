/- What is shown of functions; arrays and Delete in a machine with properties. -/
import Derived.Test.YtgdkjkfbknbgkaaGreatDoorVp
namespace Go.Proofs.YtgdkjkfbknbgkaaGreatDoor
open Go Go.RowKit

/-- What Go says of a text's units. -/
def goT (s : ByteArray) : ByteArray := ⟨(W.goL (W.signs (W.units (uOf s)))).toArray⟩
theorem goT_size (s : ByteArray) : (goT s).size ≤ 12 * s.size := by
  have h1 := W.goL_len (W.signs (W.units (uOf s)))
  have h2 := W.signs_count (W.units (uOf s))
  have h3 : (W.units (uOf s)).length ≤ 2 * s.size := W.ofB_len s
  show (W.goL _).toArray.size ≤ _
  simp only [List.size_toArray]
  omega
theorem go_u (s : ByteArray) (hs : s.size ≤ 1000) (w : World) : Calls Tryz.prog 16 #[.string ⟨(uOf s).toArray⟩] w fun e w' => e = .returned (.string (goT s)) ∧ Below w.heap.size w w' :=
  W.go_at (W.units (uOf s)) _ _ ⟨(W.ofB_strU s).symm⟩ (fun u hu => W.units_lt _ u hu) (by have : (W.units (uOf s)).length ≤ 2 * s.size := W.ofB_len s; omega) ⟨rfl⟩ w
theorem of_u (s : ByteArray) (hs : s.size ≤ 1000) (w : World) : Calls Tryz.prog 20 #[.string s] w fun e w' => e = .returned (.string ⟨(uOf s).toArray⟩) ∧ Below w.heap.size w w' := W.of_any s (by omega) w
theorem leaf_str (s r : ByteArray) (n : Int) (HG : ∀ w, Calls Tryz.prog 16 #[.string s] w fun e w' => e = .returned (.string r) ∧ Below w.heap.size w w') (mv av : Value) (w : World) : Calls Tryz.prog 28 #[mv, valV (7, n, s), av] w fun e w' => e = .returned (.string r) ∧ Below w.heap.size w w' :=
  within_str w mv av (7, n, s) rfl r ⟨fun w => HG w⟩
section
variable {W W' : World} {h A m : Nat} {f : Nat → Int} {os : List OS} {ts ts1 ts2 : List TO}
theorem MP.array (H : MP W h A m f ts) (sv : Value) (l : List Vt) (hr : RowV W sv l) (hl : l.length ≤ 10000) (hn : ts.length < 100000) : Calls Tryz.prog 24 #[.pointer (some ⟨m, 0, none⟩), sv] W fun e w' => e = .returned (valV (9, (ts.length : Int) + 1, ⟨#[]⟩)) ∧ ∃ b ev, MP w' h A m f (ts ++ [TO.plain b 1 (f 2) ev]) ∧ RowV w' ev l ∧ Bk A W w' := by
  refine (H.mm.array sv l hr hl (by rw [List.length_map]; omega)).mono ?_
  rintro e w' ⟨he, b, ev, hb, h1, h2, h3, h4, h5, -⟩
  rw [List.length_map] at he
  exact ⟨he, b, ev, H.new (t := TO.plain b 1 (f 2) ev) h1 h5 h3 hb (fun _ h => h) (.inl ⟨rfl, rfl, rfl⟩), h2, Bk.of_kp h3 h4⟩
theorem MP.delete {t : TO} (H : MP W h A m f (ts1 ++ t :: ts2)) (hc : (t.cl == 1) = false) (hn : t.O.length < 40000) (k : Vt) (hk6 : keyT k = k) (hk : k.2.2.size ≤ 1000) (x : Vt) (fl : Int) (hfl : (bits .and .i64 fl 4 == 0) = false) (HLK : lookO t.O k = (x, fl, true)) :
    Calls Tryz.prog 22 #[.pointer (some ⟨t.b, 0, none⟩), valV k] W fun e w' => e = .returned (.bool true) ∧ ∃ F', MP w' h A m f (ts1 ++ ⟨t.b, t.cl, t.proto, t.pv, t.ev, t.fn, t.kd, F', dropK k t.O⟩ :: ts2) ∧ Bk A W w' := by
  have hm : t ∈ ts1 ++ t :: ts2 := by simp
  rcases H.pr t hm with ⟨h1, h2, -⟩ | ⟨tt, h1, hT⟩
  · rw [h2] at HLK
    cases HLK
  · have hb := H.mem_b hm
    rw [h1] at hb
    refine (delete_plain hb hc hT hn k hk6 hk x fl hfl HLK).mono ?_
    rintro e w' ⟨he, F', hb', hT', ht, hF⟩
    refine ⟨he, F', ?_⟩
    have := H.step t.pv t.ev t.fn t.kd F' (dropK k t.O) (ht.mono (fun k hk => .inr hk)) (by rw [h1]; exact hb') (.inr ⟨tt, h1, hT'⟩) hF
    exact this
/-- What is shown of a function. -/
theorem MP.fnleaf (H : MP W h A m f ts) (i : Nat) (t : TO) (ht : ts[i]? = some t) (hcl : t.cl = 2) (x : Vt) (fl : Int) (bl : Bool) (hx : lookO t.O kName = (x, fl, bl)) (hx9 : (x.1 == 9) = false) (r : ByteArray) (hr : r.size ≤ 1000000000) (HW : ∀ (mv av : Value) (w : World), Calls Tryz.prog 28 #[mv, valV x, av] w fun e w' => e = .returned (.string r) ∧ Below w.heap.size w w') (s : ByteArray) :
    ∀ W' a, Below W.heap.size W W' → Calls Tryz.prog 28 #[.pointer (some ⟨m, 0, none⟩), valV (9, (i : Int) + 1, s), .int .i64 a] W' fun e w' => e = .returned (.string (⟨#[102, 117, 110, 99, 116, 105, 111, 110, 32]⟩ ++ r)) ∧ Below W'.heap.size W' w' := by
  intro W1 a hb1
  have hm := List.mem_of_getElem? ht
  refine within_obj W1 _ _ (9, (i : Int) + 1, s) rfl _ ⟨fun W2 hb2 => ?_⟩
  have H2 := (H.on hb1).on hb2
  have hbx := H2.mem_b hm
  refine printed_fn W2 m t.b (9, (i : Int) + 1, s) _ _ hbx (by rw [hcl]; rfl) x fl bl r hr ⟨fun W3 hb3 => ?_⟩ ⟨fun W3 hb3 => ?_⟩ ⟨fun W3 hb3 => ?_⟩
  · have H3 := H2.on hb3
    refine object_yes (W := W3) m h (9, (i : Int) + 1, s) H3.mm.cell0 H3.mm.mb.lt t.b ⟨fun W5 hb5 => ?_⟩
    exact (H3.on hb5).mm.of_ i t.os (by rw [List.getElem?_map, ht]; rfl) s
  · have H3 := H2.on hb3
    have := own_plain (H3.mem_b hm) (by rw [hcl]; rfl) (H3.pr t hm) kName (by decide)
    rw [keyT_str, hx] at this
    exact this
  · have H3 := H2.on hb3
    exact brief_no W3 m h x H3.mm.cell0 H3.mm.mb.lt hx9 r ⟨fun W4 _ => HW _ _ W4⟩
end
end Go.Proofs.YtgdkjkfbknbgkaaGreatDoor
