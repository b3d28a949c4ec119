/- HeapLengths: a number's digits, an array on its own in a heap. -/
import Derived.Test.YtbeapojjbgkalaaDoorHa
import Derived.Test.YtbeapojjbgkalaaDoorWe
import Derived.Test.YtbeapojjbgkalaaDoorMg
namespace Go.Proofs.YtbeapojjbgkalaaDoor
open Go Go.RowKit

theorem conv_byte1 (w3 : World) (c : UInt8) : Sem.run Tryd.prog (convert 63 9 (.slice (some ⟨w3.heap.size, 0, none⟩) 1 1)) (w3.alloc (.cells #[.int .u8 (c.toNat : Int)] 5)) = .ok (.string ⟨#[c]⟩) (w3.alloc (.cells #[.int .u8 (c.toNat : Int)] 5)) :=
  run_convert_bytes_back (P := Tryd.prog) (w3.alloc (.cells #[.int .u8 (c.toNat : Int)] 5)) 63 9 5 ⟨w3.heap.size, 0, none⟩ 1 [c] Tryd.underlying63 Tryd.underlying5 Tryd.underlying9 (fun j hj => by
    have hj0 : j = 0 := by
      have : j < 1 := hj
      omega
    subst hj0
    exact news_at w3 _ rfl [.int .u8 (c.toNat : Int)] _ 0 _ rfl)
def dg1 (n : Nat) : ByteArray := ⟨#[UInt8.ofNat (48 + n)]⟩
def digS (n : Nat) : ByteArray := if n < 10 then dg1 n else if n < 100 then dg1 (n / 10) ++ dg1 (n % 10) else (dg1 (n / 100) ++ dg1 (n / 10 % 10)) ++ dg1 (n % 10)
/-- The key of a place. -/
def digK (n : Nat) : ByteArray := ⟨(W.ofB (digS n)).toArray⟩
theorem digS_size (n : Nat) (hn : n < 300) : (digS n).size ≤ 3 := by
  have h : ∀ n < 300, (digS n).size ≤ 3 := by decide +kernel
  exact h n hn
theorem digK_all (n : Nat) (hn : n < 300) : W.idxU (W.unitsS (digK n)) = (n : Int) ∧ (digK n).size ≤ 16777216 ∧ ((digK n).toList == [0, 108, 0, 101, 0, 110, 0, 103, 0, 116, 0, 104]) = false := by
  have h : ∀ n < 300, W.idxU (W.unitsS (digK n)) = ((n : Nat) : Int) ∧ (digK n).size ≤ 16777216 ∧ ((digK n).toList == [0, 108, 0, 101, 0, 110, 0, 103, 0, 116, 0, 104]) = false := by decide +kernel
  exact h n hn
theorem digit_1 (n : Nat) (hn : n < 10) (w : World) : Calls Tryd.prog 22 #[.int .i64 (n : Int)] w fun e w' => e = .returned (.string (dg1 n)) ∧ Below w.heap.size w w' := by
  unfold dg1
  obtain ⟨bc, hbc⟩ : ∃ bc, UInt8.ofNat (48 + n) = bc := ⟨_, rfl⟩
  rw [hbc]
  have hbcw : (bc.toNat : Int) = 48 + (n : Int) := by
    rw [← hbc]
    have h : ∀ c : Nat, c < 10 → ((UInt8.ofNat (48 + c)).toNat : Int) = 48 + (c : Int) := by decide +kernel
    exact h n hn
  have hcv := conv_byte1 w bc
  rw [hbcw] at hcv
  have hal : Below w.heap.size w (w.alloc (.cells #[.int .u8 (48 + (n : Int))] 5)) := (Below.refl _ _).alloc (Nat.le_refl _) _
  have hn' : (n : Int) < 10 := by omega
  have hn0 : (0 : Int) ≤ (n : Int) := by omega
  clear hbc hbcw
  go_enter Tryd.func22, Tryd.ntmps22
  go_wp2
  go_ret
  exact ⟨rfl, hal⟩
theorem digit_step (n q r : Nat) (hnq : n = 10 * q + r) (hr : r < 10) (h10 : 10 ≤ n) (hn : n < 300) (a b : ByteArray) (ha : a.size ≤ 10) (hb : b.size ≤ 10) (w : World)
    (h1 : ∀ w, Calls Tryd.prog 22 #[.int .i64 (q : Int)] w fun e w' => e = .returned (.string a) ∧ Below w.heap.size w w')
    (h2 : ∀ w, Calls Tryd.prog 22 #[.int .i64 (r : Int)] w fun e w' => e = .returned (.string b) ∧ Below w.heap.size w w') :
    Calls Tryd.prog 22 #[.int .i64 (n : Int)] w fun e w' => e = .returned (.string (a ++ b)) ∧ Below w.heap.size w w' := by
  have e1 : (n : Int).tdiv 10 = (q : Int) := by
    rw [Int.tdiv_eq_ediv_of_nonneg (by omega)]
    omega
  have e2 : (n : Int) / 10 = (q : Int) := by omega
  have e3 : (n : Int).tmod 10 = (r : Int) := by
    rw [Int.tmod_eq_emod_of_nonneg (by omega)]
    omega
  have e4 : (n : Int) % 10 = (r : Int) := by omega
  have hn' : ¬ (n : Int) < 10 := by omega
  have hn2 : (n : Int) < 300 := by omega
  have H1 := Veil.mk h1
  have H2 := Veil.mk h2
  clear hnq hr h10 hn h1 h2
  go_enter Tryd.func22, Tryd.ntmps22
  go_wp2_with (go_at_call 22; first | ((with_reducible refine (H1.out _).mono ?_); rintro e w2 ⟨rfl, hb2⟩) | ((with_reducible refine (H2.out _).mono ?_); rintro e w3 ⟨rfl, hb3⟩))
  go_ret
  exact ⟨rfl, blw2 hb2 hb3⟩
theorem digit_any (n : Nat) (hn : n < 300) (w : World) : Calls Tryd.prog 22 #[.int .i64 (n : Int)] w fun e w' => e = .returned (.string (digS n)) ∧ Below w.heap.size w w' := by
  unfold digS
  have one : ∀ k, (dg1 k).size = 1 := fun _ => rfl
  have two : ∀ k j, (dg1 k ++ dg1 j).size ≤ 10 := fun k j => by rw [ByteArray.size_append, one, one]; omega
  split
  · rename_i h
    exact digit_1 n h w
  · rename_i h
    split
    · rename_i h2
      exact digit_step n (n / 10) (n % 10) (by omega) (by omega) (by omega) hn _ _ (by rw [one]; omega) (by rw [one]; omega) w (digit_1 _ (by omega)) (digit_1 _ (by omega))
    · rename_i h2
      have h3 : ∀ w, Calls Tryd.prog 22 #[.int .i64 ((n / 10 : Nat) : Int)] w fun e w' => e = .returned (.string (dg1 (n / 100) ++ dg1 (n / 10 % 10))) ∧ Below w.heap.size w w' := fun w =>
        digit_step (n / 10) (n / 100) (n / 10 % 10) (by omega) (by omega) (by omega) (by omega) _ _ (by rw [one]; omega) (by rw [one]; omega) w (digit_1 _ (by omega)) (digit_1 _ (by omega))
      exact digit_step n (n / 10) (n % 10) (by omega) (by omega) (by omega) hn _ _ (two _ _) (by rw [one]; omega) w h3 (digit_1 _ (by omega))
theorem val_dig (n : Nat) (hn : n < 300) (w : World) : Calls Tryd.prog 21 #[.string (digS n)] w fun e w' => e = .returned (valV (7, 0, digK n)) ∧ Below w.heap.size w w' :=
  W.val_any (digS n) (by have := digS_size n hn; omega) w
end Go.Proofs.YtbeapojjbgkalaaDoor
namespace Go.Proofs.YtbeapojjbgkalaaDoor
open Go Go.RowKit

theorem ElP.pre {w W w' : World} {B o n' : Nat} {proto : Int} {ev : Value} (hb : Below w.heap.size w W) (h : ElP W B o proto ev n' w') : ElP w B o proto ev n' w' := by
  obtain ⟨ev', xs', a, b, d, e⟩ := h
  exact ⟨ev', xs', a, b, (Touch.of_below (S := fun k => k = o ∨ ev.ownBlock = some k) hb).trans d, fun k hk => (e k hk).imp id (fun h => Nat.le_trans hb.size h)⟩
theorem ElQ.pre {w W w' : World} {B o n' i : Nat} {v : Vt} {proto : Int} {ev : Value} (hb : Below w.heap.size w W) (h : ElQ W B o proto ev n' i v w') : ElQ w B o proto ev n' i v w' := by
  obtain ⟨ev', xs', a, b, c, d, e⟩ := h
  exact ⟨ev', xs', a, b, c, (Touch.of_below (S := fun k => k = o ∨ ev.ownBlock = some k) hb).trans d, fun k hk => (e k hk).imp id (fun h => Nat.le_trans hb.size h)⟩
structure LA (w0 : World) (B h A : Nat) (cv fv rv : Value) (o : Nat) (ev : Value) (n : Nat) (xs : Nat → Vt) (w : World) : Prop where
  hp : HpAt w B h A cv fv rv ⟨[objB o], [], 1, []⟩
  ob : Box w o 38 (objC 1 0 false (.pointer none) ev)
  el : EL w B ev n xs
  lo : w0.heap.size ≤ B ∧ B ≤ o
  bel : Below w0.heap.size w0 w
section
variable {w0 w w' : World} {B h A o n : Nat} {cv fv rv ev : Value} {xs : Nat → Vt}
theorem LA.on (H : LA w0 B h A cv fv rv o ev n xs w) (hb : Below w.heap.size w w') : LA w0 B h A cv fv rv o ev n xs w' :=
  ⟨⟨H.hp.hb.below hb, H.hp.ar.on hb, H.hp.hB⟩, H.ob.below hb, H.el.on hb, H.lo, H.bel.trans (hb.mono H.bel.size)⟩
theorem LA.sz (H : LA w0 B h A cv fv rv o ev n xs w) : B ≤ w.heap.size := by have := H.ob.lt; have := H.lo.2; omega
theorem LA.off (H : LA w0 B h A cv fv rv o ev n xs w) {g : Nat} {e : TypeId} (hl : Lab w g e) (h1 : e ≠ 38) (h2 : e ≠ 45) : ¬ (g = o ∨ ev.ownBlock = some g) := by
  rintro (e9 | e9)
  · exact hl.ne H.ob.lab h1 e9
  · exact hl.ne (H.el.own_lt g e9).2.2 h2 rfl
theorem LA.step (H : LA w0 B h A cv fv rv o ev n xs w) {ev' : Value} {n' : Nat} {xs' : Nat → Vt} (hb : Box w' o 38 (objC 1 0 false (.pointer none) ev')) (he : EL w' B ev' n' xs') (ht : Touch (fun k => k = o ∨ ev.ownBlock = some k) w w') : LA w0 B h A cv fv rv o ev' n' xs' w' := by
  refine ⟨⟨H.hp.hb.touch ht (H.off H.hp.hb.lab (by decide) (by decide)), H.hp.ar.touch ht (fun k hk => ?_), H.hp.hB⟩, hb, he, H.lo, H.bel.trans (ht.below H.bel.size (fun k hk => ?_))⟩
  · rintro (rfl | e9)
    · exact AFoot.lab H.hp.ar H.ob.lab (by decide) (by decide) (by decide) hk
    · exact AFoot.lab H.hp.ar (H.el.own_lt k e9).2.2 (by decide) (by decide) (by decide) hk
  · rcases hk with rfl | e9
    · have := H.lo; omega
    · have := (H.el.own_lt k e9).1; have := H.lo; omega
theorem LA.elp (H : LA w0 B h A cv fv rv o ev n xs w) {n' : Nat} (hp : ElP w B o 0 ev n' w') : ∃ ev' xs', LA w0 B h A cv fv rv o ev' n' xs' w' := by
  obtain ⟨ev', xs', a, b, d, -⟩ := hp
  exact ⟨ev', xs', H.step a b d⟩
theorem LA.elq (H : LA w0 B h A cv fv rv o ev n xs w) {n' i : Nat} {v : Vt} (hp : ElQ w B o 0 ev n' i v w') : ∃ ev' xs', xs' i = v ∧ LA w0 B h A cv fv rv o ev' n' xs' w' := by
  obtain ⟨ev', xs', a, b, c, d, -⟩ := hp
  exact ⟨ev', xs', c, H.step a b d⟩
theorem LA.own_len (H : LA w0 B h A cv fv rv o ev n xs w) : Calls Tryd.prog 23 #[.pointer (some ⟨o, 0, none⟩), valV (7, 0, lenB)] w fun e w' => e = .returned (.tuple #[valV (3, (n : Int), ⟨#[]⟩), .int .i64 1, .bool true]) ∧ Below w.heap.size w w' := Go.Proofs.YtbeapojjbgkalaaDoor.own_len H.ob H.el
theorem LA.put_lenP (H : LA w0 B h A cv fv rv o ev n xs w) (v : Vt) (res : Bool) (P : World → World → Prop) (hP : ∀ W w', Below w.heap.size w W → P W w' → P w w')
    (hS : ∀ W, Below w.heap.size w W → Calls Tryd.prog 49 #[.pointer (some ⟨o, 0, none⟩), valV v, .int .i64 1] W fun e w' => e = .returned (.bool res) ∧ P W w')
    (hP2 : ∀ W0 W w', Below w.heap.size w W0 → Below W0.heap.size W0 W → P W w' → P W0 w') :
    Calls Tryd.prog 20 #[.pointer (some ⟨h, 0, none⟩), .int .i64 1, valV (7, 0, lenB), valV v] w fun e w' => e = .returned (.bool res) ∧ P w w' :=
  put_ok H.hp H.ob _ _ (3, (n : Int), ⟨#[]⟩) 1 plain_1 res P hP (fun _ hb => (H.on hb).own_len) (fun W hb => define_len (H.on hb).ob _ _ (3, (n : Int), ⟨#[]⟩) res P (fun W2 w' hb2 h2 => hP2 W W2 w' hb hb2 h2) (fun _ hb2 => ((H.on hb).on hb2).own_len) (fun _ hb2 => isLen_len ((H.on hb).on hb2).ob) (fun W2 hb2 => hS W2 (blw2 hb hb2)))
theorem LA.put_len (H : LA w0 B h A cv fv rv o ev n xs w) (n' : Nat) (hn : n' ≤ 10000) :
    Calls Tryd.prog 20 #[.pointer (some ⟨h, 0, none⟩), .int .i64 1, valV (7, 0, lenB), valV (3, (n' : Int), ⟨#[]⟩)] w fun e w' => e = .returned (.bool true) ∧ ElP w B o 0 ev n' w' :=
  H.put_lenP (3, (n' : Int), ⟨#[]⟩) true (fun W w' => ElP W B o 0 ev n' w') (fun _ _ hb h2 => h2.pre hb) (fun _ hb => setLen_ok (H.on hb).ob (H.on hb).el (H.on hb).sz n' hn) (fun _ _ _ _ hb h2 => h2.pre hb)
theorem LA.put_bad (H : LA w0 B h A cv fv rv o ev n xs w) (m : Int) (hv : m < 0 ∨ 10000 < m) :
    Calls Tryd.prog 20 #[.pointer (some ⟨h, 0, none⟩), .int .i64 1, valV (7, 0, lenB), valV (3, m, ⟨#[]⟩)] w fun e w' => e = .returned (.bool false) ∧ Below w.heap.size w w' :=
  H.put_lenP (3, m, ⟨#[]⟩) false (fun W w' => Below W.heap.size W w') (fun _ _ hb h2 => blw2 hb h2) (fun _ _ => setLen_bad m hv) (fun _ _ _ _ hb h2 => blw2 hb h2)
theorem LA.put_str (H : LA w0 B h A cv fv rv o ev n xs w) :
    Calls Tryd.prog 20 #[.pointer (some ⟨h, 0, none⟩), .int .i64 1, valV (7, 0, lenB), valV (7, 0, ⟨#[]⟩)] w fun e w' => e = .returned (.bool false) ∧ Below w.heap.size w w' :=
  H.put_lenP (7, 0, ⟨#[]⟩) false (fun W w' => Below W.heap.size W w') (fun _ _ hb h2 => blw2 hb h2) (fun _ _ => setLen_str) (fun _ _ _ _ hb h2 => blw2 hb h2)
theorem LA.elem (H : LA w0 B h A cv fv rv o ev n xs w) (i : Nat) (hi : i < 300) : Calls Tryd.prog 48 #[.pointer (some ⟨o, 0, none⟩), valV (7, 0, digK i)] w fun e w' => e = .returned (.int .i64 (i : Int)) ∧ Below w.heap.size w w' :=
  elem_arr H.ob _ (digK_all i hi).2.1 _ (digK_all i hi).1
theorem LA.isl (H : LA w0 B h A cv fv rv o ev n xs w) (i : Nat) (hi : i < 300) : Calls Tryd.prog 46 #[.pointer (some ⟨o, 0, none⟩), valV (7, 0, digK i)] w fun e w' => e = .returned (.bool false) ∧ Below w.heap.size w w' :=
  isLen_no H.ob _ (digK_all i hi).2.2
theorem LA.own_el (H : LA w0 B h A cv fv rv o ev n xs w) (i : Nat) (hi : i < 300) (hin : i < n) (hx : (xs i).1 ≠ 10) : Calls Tryd.prog 23 #[.pointer (some ⟨o, 0, none⟩), valV (7, 0, digK i)] w fun e w' => e = .returned (.tuple #[valV (xs i), .int .i64 7, .bool true]) ∧ Below w.heap.size w w' :=
  Go.Proofs.YtbeapojjbgkalaaDoor.own_el H.ob H.el _ (digK_all i hi).2.1 (digK_all i hi).2.2 i (digK_all i hi).1 hin hx
theorem LA.own_no (H : LA w0 B h A cv fv rv o ev n xs w) (i : Nat) (hi : i < 300) (hin : n ≤ i ∨ (i < n ∧ (xs i).1 = 10)) : Calls Tryd.prog 23 #[.pointer (some ⟨o, 0, none⟩), valV (7, 0, digK i)] w fun e w' => e = .returned (.tuple #[valV zV, .int .i64 0, .bool false]) ∧ Below w.heap.size w w' := by
  rcases hin with hin | ⟨hin, hx⟩
  · exact own_out H.ob H.el _ (digK_all i hi).2.1 (digK_all i hi).2.2 i (digK_all i hi).1 hin
  · exact own_hole H.ob H.el _ (digK_all i hi).2.1 (digK_all i hi).2.2 i (digK_all i hi).1 hin hx
theorem LA.set_el (H : LA w0 B h A cv fv rv o ev n xs w) (i : Nat) (hi : i < 300) (v : Vt) : Calls Tryd.prog 50 #[.pointer (some ⟨o, 0, none⟩), .int .i64 (i : Int), valV v, .int .i64 7] w fun e w' => e = .returned (.bool true) ∧ ElQ w B o 0 ev (max n (i + 1)) i v w' := by
  by_cases hin : n ≤ i
  · rw [show max n (i + 1) = i + 1 by omega]
    exact setEl_grow H.ob H.el H.sz i (by omega) hin v
  · rw [show max n (i + 1) = n by omega]
    have hob := H.ob
    rcases H.el with ⟨_, e2⟩ | ⟨g, cap, rfl, he⟩
    · omega
    · exact setEl_in hob he H.sz i (by omega) (by omega) v
theorem LA.put_el (H : LA w0 B h A cv fv rv o ev n xs w) (i : Nat) (hi : i < 300) (v : Vt) :
    Calls Tryd.prog 20 #[.pointer (some ⟨h, 0, none⟩), .int .i64 1, valV (7, 0, digK i), valV v] w fun e w' => e = .returned (.bool true) ∧ ElQ w B o 0 ev (max n (i + 1)) i v w' := by
  by_cases hin : n ≤ i ∨ (i < n ∧ (xs i).1 = 10)
  · exact put_new H.hp H.ob _ _ zV true (fun W w' => ElQ W B o 0 ev (max n (i + 1)) i v w') (fun _ _ hb h2 => h2.pre hb) (fun _ hb => (H.on hb).own_no i hi hin) (fun W hb => define_eln (H.on hb).ob _ _ zV i true (fun W w' => ElQ W B o 0 ev (max n (i + 1)) i v w') (fun _ _ hb h2 => h2.pre hb) (fun _ hb2 => ((H.on hb).on hb2).own_no i hi hin) (fun _ hb2 => ((H.on hb).on hb2).isl i hi) (fun _ hb2 => ((H.on hb).on hb2).elem i hi) (fun _ hb2 => ((H.on hb).on hb2).set_el i hi v))
  · have h1 : i < n := by omega
    have h2 : (xs i).1 ≠ 10 := fun e => hin (.inr ⟨h1, e⟩)
    exact put_ok H.hp H.ob _ _ (xs i) 7 plain_7 true (fun W w' => ElQ W B o 0 ev (max n (i + 1)) i v w') (fun _ _ hb h2 => h2.pre hb) (fun _ hb => (H.on hb).own_el i hi h1 h2) (fun W hb => define_el (H.on hb).ob _ _ (xs i) i true (fun W w' => ElQ W B o 0 ev (max n (i + 1)) i v w') (fun _ _ hb h2 => h2.pre hb) (fun _ hb2 => ((H.on hb).on hb2).own_el i hi h1 h2) (fun _ hb2 => ((H.on hb).on hb2).isl i hi) (fun _ hb2 => ((H.on hb).on hb2).elem i hi) (fun _ hb2 => ((H.on hb).on hb2).set_el i hi v))
set_option maxRecDepth 100000 in
theorem LA.del_len (H : LA w0 B h A cv fv rv o ev n xs w) :
    Calls Tryd.prog 24 #[.pointer (some ⟨o, 0, none⟩), valV (7, 0, lenB)] w fun e w' => e = .returned (.bool false) ∧ Below w.heap.size w w' := by
  have HOW : Veil (∀ W, Below w.heap.size w W → Calls Tryd.prog 23 #[.pointer (some ⟨o, 0, none⟩), valV (7, 0, lenB)] W fun e w' => e = .returned (.tuple #[valV (3, (n : Int), ⟨#[]⟩), .int .i64 1, .bool true]) ∧ Below W.heap.size W w') := ⟨fun _ hb => (H.on hb).own_len⟩
  obtain ⟨kb, hkb⟩ : ∃ kb, w.heap.size = kb := ⟨_, rfl⟩
  have b1 := Box.new w 45 #[.int .i64 7, .int .i64 0, .string lenB]
  have bb : Below w.heap.size w (w.alloc (.cells #[.int .i64 7, .int .i64 0, .string lenB] 45)) := (Below.refl _ _).alloc (Nat.le_refl _) _
  obtain ⟨W0, hW0⟩ : ∃ W0, w.alloc (.cells #[.int .i64 7, .int .i64 0, .string lenB] 45) = W0 := ⟨_, rfl⟩
  rw [hW0] at b1 bb
  rw [hkb] at b1
  have x0 : W0.cell? ⟨kb, 0, none⟩ = some (.int .i64 7) := b1.at_ 0
  have x1 : W0.cell? ⟨kb, 1, none⟩ = some (.int .i64 0) := b1.at_ 1
  have x2 : W0.cell? ⟨kb, 2, none⟩ = some (.string lenB) := b1.at_ 2
  have HW0 := Veil.mk (And.intro hW0 hkb)
  have HB0 := Veil.mk bb
  clear H b1 bb hW0 hkb
  go_enter Tryd.func24, Tryd.ntmps24
  go_upto_region 1 with (fail)
  rw [HW0.out.1, HW0.out.2]
  go_wp2_with (go_at_call 23; ((with_reducible refine (HOW.out _ HB0.out).mono ?_); rintro e w1 ⟨rfl, hb1⟩))
  go_ret
  exact ⟨rfl, (blw2 HB0.out hb1).alloc (blw2 HB0.out hb1).size _⟩
end
end Go.Proofs.YtbeapojjbgkalaaDoor
