/- Show on both sides: symbols, objects, arrays. -/
import Derived.Test.YtgdkjkfbknbgkaaGreatDoorKg
import Derived.Test.YtgdkjkfbknbgkaaGreatDoorKe
namespace Go.Proofs.YtgdkjkfbknbgkaaGreatDoor
open Go Go.RowKit
attribute [local go_sem] Oper.semAt_some

theorem goB_size (s : ByteArray) : (goB s).size ≤ 3 * s.size := by
  show (W.goL _).toArray.size ≤ _
  simp only [List.size_toArray]
  have h1 := W.goL_len (W.signs (W.unitsS s))
  have h2 := W.signs_count (W.unitsS s)
  have h3 := W.unitsS_length s
  omega
/-- What is printed of a symbol. -/
def symS (s : ByteArray) : ByteArray := ⟨#[83, 121, 109, 98, 111, 108, 40]⟩ ++ goB s ++ ⟨#[41]⟩
set_option maxHeartbeats 1000000 in
set_option maxRecDepth 100000 in
theorem rshow_sym (x : Vt) (o : Nat) (d : Int) (hk : x.1 = 8) (s : ByteArray) (hs : s.size ≤ 6000) (w : World) (ho : o < w.heap.size) (h4 : w.cell? ⟨o, 4, none⟩ = some (.int .i64 7)) (h6 : w.cell? ⟨o, 6, none⟩ = some (.string s)) : Calls Tryz.prog 12 #[RV x (some ⟨o, 0, none⟩), .int .i64 d] w fun e w' => e = .returned (.string (symS s)) ∧ Below w.heap.size w w' := by
  obtain ⟨k, n, xs⟩ := x
  simp only at hk
  subst hk
  have HL := Veil.mk (list_b s hs)
  have HG := Veil.mk (rgo_b s hs)
  have hgz := goB_size s
  have hgz : (goB s).size ≤ 18000 := by omega
  have HY : Veil (symS s = ⟨#[83, 121, 109, 98, 111, 108, 40]⟩ ++ goB s ++ ⟨#[41]⟩) := ⟨rfl⟩
  generalize goB s = g at HG HY hgz
  have z1 : ¬ 9223372036854775807 < 7 + g.size := by omega
  have z2 : ¬ 9223372036854775807 < 7 + g.size + 1 := by omega
  have z3 : ¬ 9223372036854775807 < 7 + (g.size + 1) := by omega
  have bb : Below w.heap.size w (w.alloc (.cells #[.int .i64 8, .int .i64 n, .string xs, .pointer (some ⟨o, 0, none⟩)] 33)) := (Below.refl _ _).alloc (Nat.le_refl _) _
  have g4 : (w.alloc (.cells #[.int .i64 8, .int .i64 n, .string xs, .pointer (some ⟨o, 0, none⟩)] 33)).cell? ⟨o, 4, none⟩ = some (.int .i64 7) := by rw [bb.cell (p := ⟨o, 4, none⟩) ho]; exact h4
  have g6 : (w.alloc (.cells #[.int .i64 8, .int .i64 n, .string xs, .pointer (some ⟨o, 0, none⟩)] 33)).cell? ⟨o, 6, none⟩ = some (.string s) := by rw [bb.cell (p := ⟨o, 6, none⟩) ho]; exact h6
  clear hgz hs ho h4 h6 bb
  go_enter Tryz.func12, Tryz.ntmps12
  go_wp2_with (first | (go_at_call 30; ((with_reducible refine (HL.out _).mono ?_); rintro e w2 ⟨⟨la, lc, rfl, hN⟩, hb2⟩; have HN := Veil.mk hN; clear hN)) | (go_at_call 29; ((with_reducible refine (HG.out _ _ _ HN.out).mono ?_); rintro e w3 ⟨rfl, hb3⟩)))
  go_ret
  exact ⟨by rw [HY.out]; rfl, by repeat (first | (with_reducible assumption) | (with_reducible exact Below.refl _ _) | (with_reducible refine M.blw_alloc _ ?_) | (with_reducible refine M.blw_call ?_ (by assumption)))⟩
set_option maxHeartbeats 1000000 in
set_option maxRecDepth 100000 in
theorem rshow_obj (x : Vt) (o : Option Addr) (d : Int) (hk : x.1 = 9) (r : ByteArray) (w : World) (HO : Veil (∀ W, Below w.heap.size w W → Calls Tryz.prog 31 #[.pointer o, .int .i64 d] W fun e w' => e = .returned (.string r) ∧ Below W.heap.size W w')) : Calls Tryz.prog 12 #[RV x o, .int .i64 d] w fun e w' => e = .returned (.string r) ∧ Below w.heap.size w w' := by
  obtain ⟨k, n, xs⟩ := x
  simp only at hk
  subst hk
  go_enter Tryz.func12, Tryz.ntmps12
  go_wp2_with (first | (go_at_call 31; ((with_reducible refine (HO.out _ (by repeat (first | (with_reducible assumption) | (with_reducible exact Below.refl _ _) | (with_reducible refine M.blw_alloc _ ?_) | (with_reducible refine M.blw_call ?_ (by assumption))))).mono ?_); rintro e w2 ⟨rfl, hb2⟩)))
  go_ret
  exact ⟨rfl, by repeat (first | (with_reducible assumption) | (with_reducible exact Below.refl _ _) | (with_reducible refine M.blw_alloc _ ?_) | (with_reducible refine M.blw_call ?_ (by assumption)))⟩
/-- The names of the classes that grow makes. -/
def cls : List ByteArray := [⟨#[79, 98, 106, 101, 99, 116]⟩, ⟨#[77, 97, 112]⟩, ⟨#[83, 101, 116]⟩, ⟨#[87, 101, 97, 107, 77, 97, 112]⟩, ⟨#[87, 101, 97, 107, 83, 101, 116]⟩, ⟨#[87, 101, 97, 107, 82, 101, 102]⟩, ⟨#[70, 105, 110, 97, 108, 105, 122, 97, 116, 105, 111, 110, 82, 101, 103, 105, 115, 116, 114, 121]⟩, ⟨#[71, 101, 110, 101, 114, 97, 116, 111, 114]⟩, ⟨#[80, 114, 111, 109, 105, 115, 101]⟩]
set_option maxHeartbeats 2000000 in
set_option maxRecDepth 100000 in
theorem robj_class (o : Nat) (c : ByteArray) (hc : c ∈ cls) (d : Int) (hd : d ≤ 8) (w : World) (h0 : w.cell? ⟨o, 0, none⟩ = some (.string c)) : Calls Tryz.prog 31 #[.pointer (some ⟨o, 0, none⟩), .int .i64 d] w fun e w' => e = .returned (.string (⟨#[91]⟩ ++ c ++ ⟨#[93]⟩)) ∧ Below w.heap.size w w' := by
  have d8 : ¬ 8 < d := by omega
  clear hd
  simp only [cls, List.mem_cons, List.not_mem_nil, or_false] at hc
  rcases hc with rfl | rfl | rfl | rfl | rfl | rfl | rfl | rfl | rfl <;>
    (go_enter Tryz.func31, Tryz.ntmps31
     go_wp2
     go_ret
     exact ⟨rfl, by repeat (first | (with_reducible assumption) | (with_reducible exact Below.refl _ _) | (with_reducible refine M.blw_alloc _ ?_) | (with_reducible refine M.blw_call ?_ (by assumption)))⟩)
set_option maxHeartbeats 1000000 in
set_option maxRecDepth 100000 in
theorem robj_deep (o : Nat) (d : Int) (h2 : 2 < d) (hd : d ≤ 8) (w : World) (h0 : w.cell? ⟨o, 0, none⟩ = some (.string ⟨#[65, 114, 114, 97, 121]⟩)) : Calls Tryz.prog 31 #[.pointer (some ⟨o, 0, none⟩), .int .i64 d] w fun e w' => e = .returned (.string ⟨#[91, 46, 46, 93]⟩) ∧ Below w.heap.size w w' := by
  have d8 : ¬ 8 < d := by omega
  clear hd
  go_enter Tryz.func31, Tryz.ntmps31
  go_wp2
  go_ret
  exact ⟨rfl, by repeat (first | (with_reducible assumption) | (with_reducible exact Below.refl _ _) | (with_reducible refine M.blw_alloc _ ?_) | (with_reducible refine M.blw_call ?_ (by assumption)))⟩
end Go.Proofs.YtgdkjkfbknbgkaaGreatDoor
namespace Go.Proofs.YtgdkjkfbknbgkaaGreatDoor
open Go Go.RowKit
attribute [local go_sem] Oper.semAt_some

/-- A row of values of the reference. -/
def RRow (W : World) (ev : Value) (l : List (Vt × Option Addr)) : Prop := ∃ ao cap, ev = .slice ao l.length cap ∧ (ao = none → l = []) ∧ ∀ ad, ao = some ad → ∃ g, ad = ⟨g, 0, none⟩ ∧ g < W.heap.size ∧ ∀ (i : Nat) x, l[i]? = some x → W.cell? ⟨g, i * 4, none⟩ = some (.int .i64 x.1.1) ∧ W.cell? ⟨g, i * 4 + 1, none⟩ = some (.int .i64 x.1.2.1) ∧ W.cell? ⟨g, i * 4 + 2, none⟩ = some (.string x.1.2.2) ∧ W.cell? ⟨g, i * 4 + 3, none⟩ = some (.pointer x.2)
/-- What stands in front of the last bracket. -/
def accS (ps : List ByteArray) : ByteArray := ⟨(91 :: Lib.join (ps.map (·.data.toList)) [44, 32]).toArray⟩
theorem ba_ext {a b : ByteArray} (h : a.data.toList = b.data.toList) : a = b := ByteArray.ext (Array.ext' h)
theorem accS_one (p : ByteArray) : accS [p] = ⟨#[91]⟩ ++ p := by
  apply ba_ext
  simp [accS, Lib.join_one]
theorem accS_more (a : ByteArray) (r : List ByteArray) (p : ByteArray) : accS ((a :: r) ++ [p]) = accS (a :: r) ++ ⟨#[44, 32]⟩ ++ p := by
  apply ba_ext
  simp [accS, Lib.join_cons, Lib.joinTail]
theorem arrS_acc (ps : List ByteArray) : arrS ps = accS ps ++ ⟨#[93]⟩ := by
  apply ba_ext
  simp [arrS, accS]
set_option maxHeartbeats 2000000 in
set_option maxRecDepth 100000 in
theorem robj_arr (o d : Nat) (hd : d < 3) (l : List (Vt × Option Addr)) (parts : List ByteArray) (hpl : parts.length = l.length) (hll : l.length ≤ 1000000) (ev : Value) (W : World) (ho : o < W.heap.size) (h0 : W.cell? ⟨o, 0, none⟩ = some (.string ⟨#[65, 114, 114, 97, 121]⟩)) (h3 : W.cell? ⟨o, 3, none⟩ = some ev) (HR : RRow W ev l)
    (hz : ∀ k, (accS (parts.take k)).size ≤ 140737488355328) (hzp : ∀ p ∈ parts, p.size ≤ 140737488355328)
    (HE : ∀ (i : Nat) x p, l[i]? = some x → parts[i]? = some p → ∀ W', Below W.heap.size W W' → Calls Tryz.prog 12 #[RV x.1 x.2, .int .i64 ((d : Int) + 1)] W' fun e w' => e = .returned (.string p) ∧ Below W'.heap.size W' w') :
    Calls Tryz.prog 31 #[.pointer (some ⟨o, 0, none⟩), .int .i64 (d : Int)] W fun e w' => e = .returned (.string (arrS parts)) ∧ Below W.heap.size W w' := by
  obtain ⟨ao, cap, rfl, hno, hso⟩ := HR
  obtain ⟨n, hn⟩ : ∃ n, l.length = n := ⟨_, rfl⟩
  have HN := Veil.mk (And.intro hn hpl)
  have hll : n ≤ 1000000 := by omega
  have HS := Veil.mk hso
  have HNO := Veil.mk hno
  have HEV := Veil.mk HE
  have HZ := Veil.mk (And.intro hz hzp)
  have HO := Veil.mk (And.intro ho h3)
  have d8 : ¬ (8 : Int) < (d : Int) := by omega
  have d2 : ¬ (2 : Int) < (d : Int) := by omega
  have d0 : (0 : Int) ≤ (d : Int) := by omega
  have d3 : (d : Int) < 3 := by omega
  have hw1 : IntKind.i64.wrap ((d : Int) + 1) = (d : Int) + 1 := by rw [IntKind.wrap_i64]; omega
  rw [hn] at h3 HO
  clear hno hso HE hz hzp hn hpl ho h3
  go_enter Tryz.func31, Tryz.ntmps31
  go_wp2
  go_loopw [5, 6] (fun s i wr => ∃ k : Nat, k ≤ n ∧ i = .int .i64 (k : Int) ∧ s = .string (accS (parts.take k)) ∧ Below W.heap.size W wr) (fun _ i _ => n - (intOf i).toNat)
  case atStart => exact ⟨0, by omega, rfl, rfl, Below.refl _ _⟩
  case round =>
    obtain ⟨k, hk, rfl, rfl, hb⟩ := hrel
    have hk0 : (0 : Int) ≤ (k : Int) := by omega
    have c3 : wr.cell? ⟨o, 3, none⟩ = some (.slice ao n cap) := by rw [hb.cell (p := ⟨o, 3, none⟩) HO.out.1]; exact HO.out.2
    have hz := HZ.out.1 k
    by_cases hlt : k < n
    · have hlt' : (k : Int) < (n : Int) := by omega
      obtain ⟨x, hx⟩ : ∃ x, l[k]? = some x := ⟨_, List.getElem?_eq_getElem (by rw [HN.out.1]; exact hlt)⟩
      obtain ⟨p, hp⟩ : ∃ p, parts[k]? = some p := ⟨_, List.getElem?_eq_getElem (by rw [HN.out.2, HN.out.1]; exact hlt)⟩
      obtain ⟨g, hg⟩ : ∃ g, ao = some ⟨g, 0, none⟩ := by
        cases ao with
        | none =>
          have h1 := HNO.out rfl
          have h2 : n = 0 := by rw [← HN.out.1, h1]; rfl
          omega
        | some ad =>
          obtain ⟨g, e, -⟩ := HS.out ad rfl
          exact ⟨g, by rw [e]⟩
      subst hg
      obtain ⟨g', hgg, hlb, hcs⟩ := HS.out _ rfl
      cases hgg
      obtain ⟨f0, f1, f2, f3⟩ := hcs k x hx
      have c0 : wr.cell? ⟨g, k * 4, none⟩ = some (.int .i64 x.1.1) := by rw [hb.cell (p := ⟨g, _, none⟩) hlb]; exact f0
      have c1 : wr.cell? ⟨g, k * 4 + 1, none⟩ = some (.int .i64 x.1.2.1) := by rw [hb.cell (p := ⟨g, _, none⟩) hlb]; exact f1
      have c2 : wr.cell? ⟨g, k * 4 + 2, none⟩ = some (.string x.1.2.2) := by rw [hb.cell (p := ⟨g, _, none⟩) hlb]; exact f2
      have cp : wr.cell? ⟨g, k * 4 + 3, none⟩ = some (.pointer x.2) := by rw [hb.cell (p := ⟨g, _, none⟩) hlb]; exact f3
      have htk : parts.take (k + 1) = parts.take k ++ [p] := by rw [List.take_add_one, hp]; rfl
      have hpz := HZ.out.2 p (List.mem_of_getElem? hp)
      have HW := Veil.mk (fun W' (hb' : Below wr.heap.size wr W') => HEV.out k x p hx hp W' (hb.trans (hb'.mono hb.size)))
      have HP := Veil.mk (And.intro hx (And.intro hp hb))
      obtain ⟨⟨xk, xn, xs⟩, xp⟩ := x
      clear hcs hx hp hb f0 f1 f2 f3 hlb
      by_cases hkz : k = 0
      · have hgt : ¬ (0 : Int) < (k : Int) := by omega
        have HX : Veil (Value.string (accS (parts.take k) ++ p) = .string (accS (parts.take (k + 1)))) := ⟨by
          rw [htk]
          have e : parts.take k = [] := by rw [hkz]; rfl
          rw [e]
          exact congrArg Value.string (accS_one p).symm⟩
        generalize accS (parts.take k) = acc at hz HX
        have z1 : ¬ 9223372036854775807 < acc.size + p.size := by omega
        clear htk hkz
        go_wp2_with (first | (go_at_call 12; ((with_reducible refine (HW.out _ (Below.refl _ _)).mono ?_); rintro e w3 ⟨rfl, hb3⟩)))
        go_roundw
        case rel => exact ⟨k + 1, by omega, by go_num, HX.out, HP.out.2.2.trans (hb3.mono HP.out.2.2.size)⟩
        case measure => simp [intOf]; omega
      · have hgt : (0 : Int) < (k : Int) := by omega
        have HX : Veil (Value.string (accS (parts.take k) ++ ⟨#[44, 32]⟩ ++ p) = .string (accS (parts.take (k + 1)))) := ⟨by
          rw [htk]
          obtain ⟨a, r, e⟩ : ∃ a r, parts.take k = a :: r := by
            cases e : parts.take k with
            | nil =>
              have h1 := congrArg List.length e
              have h2 := HN.out
              simp only [List.length_take, List.length_nil] at h1
              omega
            | cons a r => exact ⟨a, r, rfl⟩
          rw [e]
          exact congrArg Value.string (accS_more a r p).symm⟩
        generalize accS (parts.take k) = acc at hz HX
        have z1 : ¬ 9223372036854775807 < acc.size + 2 := by omega
        have z2 : ¬ 9223372036854775807 < acc.size + 2 + p.size := by omega
        have z3 : ¬ 9223372036854775807 < acc.size + (2 + p.size) := by omega
        clear htk hkz
        go_wp2_with (first | (go_at_call 12; ((with_reducible refine (HW.out _ (Below.refl _ _)).mono ?_); rintro e w3 ⟨rfl, hb3⟩)))
        go_roundw
        case rel => exact ⟨k + 1, by omega, by go_num, HX.out, HP.out.2.2.trans (hb3.mono HP.out.2.2.size)⟩
        case measure => simp [intOf]; omega
    · obtain rfl : k = n := by omega
      have hlt' : ¬ (k : Int) < (k : Int) := by omega
      have HX : Veil (accS (parts.take k) ++ ⟨#[93]⟩ = arrS parts) := ⟨by
        rw [List.take_of_length_le (Nat.le_of_eq (HN.out.2.trans HN.out.1))]
        exact (arrS_acc parts).symm⟩
      generalize accS (parts.take k) = acc at hz HX
      have z1 : ¬ 9223372036854775807 < acc.size + 1 := by omega
      clear hlt hk
      go_wp2
      go_ret
      exact ⟨by rw [← HX.out]; rfl, hb⟩
end Go.Proofs.YtgdkjkfbknbgkaaGreatDoor
namespace Go.Proofs.YtgdkjkfbknbgkaaGreatDoor.Y
open Go Go.RowKit
attribute [local go_sem] Oper.semAt_some

/-- An object's type; a symbol's (three cells). -/
def oty (o : OS) : TypeId := if o.2.size = 3 then 141 else 99
def pty (o : OS) : TypeId := if o.2.size = 3 then 139 else 40
theorem oty_obj {o : OS} (h : o.2.size ≠ 3) : oty o = 99 := if_neg h
theorem pty_obj {o : OS} (h : o.2.size ≠ 3) : pty o = 40 := if_neg h
theorem oty_a (o : OS) : oty o ≠ 155 := by unfold oty; split <;> decide
theorem oty_b (o : OS) : oty o ≠ 137 := by unfold oty; split <;> decide
theorem oty_c (o : OS) : oty o ≠ 3 := by unfold oty; split <;> decide
theorem oty_m (o : OS) : oty o ≠ 61 := by unfold oty; split <;> decide
theorem oty_v (o : OS) : oty o ≠ 30 := by unfold oty; split <;> decide
abbrev mmT : List TypeId := [61, 99, 141, 102, 155, 137, 3]
theorem oty_mem (o : OS) : oty o ∈ mmT := by unfold oty; split <;> decide
/-- A machine whose heap has these objects and symbols, none freed. -/
structure MM (W : World) (h A m : Nat) (f : Nat → Int) (os : List OS) : Prop where
  hp : ∃ cv fv rv, HpAt W A h A cv fv rv ⟨os.map fun o => some (pty o, o.1), [], os.length, []⟩
  mb : Box W m 61 (machV (.pointer (some ⟨h, 0, none⟩)) f hostV)
  ob : ∀ o ∈ os, Box W o.1 (oty o) o.2
  am : A ≤ m
  al : ∀ o ∈ os, A ≤ o.1
  nd : (os.map Prod.fst).Nodup
section
variable {W W' : World} {h A m : Nat} {f : Nat → Int} {os : List OS}
theorem MM.alt (H : MM W h A m f os) : A < W.heap.size := by
  obtain ⟨cv, fv, rv, hp⟩ := H.hp
  exact hp.ar.box.lt
theorem MM.on (H : MM W h A m f os) (hb : Below W.heap.size W W') : MM W' h A m f os := by
  obtain ⟨⟨cv, fv, rv, hp⟩, mb, ob, am, al, nd⟩ := H
  exact ⟨⟨cv, fv, rv, hp.hb.below hb, hp.ar.on hb, hp.hB⟩, mb.below hb, fun o ho => (ob o ho).below hb, am, al, nd⟩
/-- A new object. -/
theorem MM.make (H : MM W h A m f os) (cl proto : Int) (hl : os.length < 1000000) : Calls Tryz.prog 13 #[.pointer (some ⟨h, 0, none⟩), .int .i64 cl, .int .i64 proto] W fun e w' => e = .returned (.tuple #[.int .i64 ((os.length : Int) + 1), .pointer (some ⟨W.heap.size, 0, none⟩)]) ∧ MM w' h A m f (os ++ [(W.heap.size, obj0 cl proto)]) ∧ Below A W w' ∧ Kp arT W w' ∧ Kq A W w' := by
  obtain ⟨⟨cv, fv, rv, hp⟩, mb, ob, am, al, nd⟩ := H
  refine (heap_make hp cl proto rfl (by show os.length < _; omega) (by rw [List.length_map]; omega)).mono ?_
  rintro e w' ⟨he, hbo, ht, cv', fv', rv', hp', hF⟩
  rw [show (⟨os.map fun o => some (pty o, o.1), [], os.length, []⟩ : AD).cells.length = os.length from List.length_map ..] at he
  have keep : ∀ b (t : TypeId) cs, Box W b t cs → t ≠ 155 → t ≠ 137 → t ≠ 3 → Box w' b t cs := fun b t cs hx e1 e2 e3 => hx.touch ht (AFoot.lab hp.ar hx.lab e1 e2 e3)
  refine ⟨he, ⟨⟨cv', fv', rv', ?_⟩, keep _ _ _ mb (by decide) (by decide) (by decide), fun o ho => ?_, am, fun o ho => ?_, ?_⟩, ht.below (Nat.le_of_lt (Nat.lt_of_le_of_lt hp.ar.ha hp.ar.box.lt)) (fun k hk => (AFoot.lt hp.ar hk).1), fun k t hl ht2 => ht.block k (lab_lt hl) (AFoot.lab hp.ar hl (fun e => (by subst e; cases ht2)) (fun e => (by subst e; cases ht2)) (fun e => (by subst e; cases ht2))), ⟨fun k hk hn => ht.block k hk (fun h9 => hn ((FO.of hp.ar k).2 h9)), fun k hk => (hF k ((FO.of hp'.ar k).1 hk)).imp (FO.of hp.ar k).2 id, ht.size⟩⟩
  · rw [List.map_append, List.length_append]
    exact hp'
  · rcases List.mem_append.1 ho with h9 | h9
    · exact keep _ _ _ (ob o h9) (oty_a o) (oty_b o) (oty_c o)
    · rw [List.mem_singleton.1 h9]
      exact hbo
  · rcases List.mem_append.1 ho with h9 | h9
    · exact al o h9
    · rw [List.mem_singleton.1 h9]
      exact Nat.le_of_lt (Nat.lt_of_le_of_lt am mb.lt)
  · rw [List.map_append, List.nodup_append]
    refine ⟨nd, by simp, fun x hx y hy e => ?_⟩
    obtain ⟨o, ho, rfl⟩ := List.mem_map.1 hx
    have := (ob o ho).lt
    have : y = W.heap.size := by simpa using hy
    omega
/-- A prototype's cell is written. -/
theorem MM.proto (H : MM W h A m f os) (k : Nat) (hk : k < 21) (x : Int) : MM (W.setCell ⟨m, 1 + k, none⟩ (.int .i64 x)) h A m (fun j => if j = k then x else f j) os := by
  obtain ⟨⟨cv, fv, rv, hp⟩, mb, ob, am, al, nd⟩ := H
  have ht : Touch (fun b => b = m) W (W.setCell ⟨m, 1 + k, none⟩ (.int .i64 x)) := Touch.put (S := fun b => b = m) rfl _ _
  refine ⟨⟨cv, fv, rv, hp.hb.touch ht (fun e => hp.hb.lab.ne mb.lab (by decide) e), hp.ar.touch ht (fun b hb e => ?_), hp.hB⟩, ?_, fun o ho => (ob o ho).touch ht (fun e => (ob o ho).lab.ne mb.lab (oty_m o) e), am, al, nd⟩
  · subst e
    exact AFoot.lab hp.ar mb.lab (by decide) (by decide) (by decide) hb
  · have := mb.put (1 + k) (.int .i64 x)
    rw [machV_put _ _ _ _ k hk] at this
    exact this
theorem MM.obj (H : MM W h A m f os) (i : Nat) (o : OS) (ho : os[i]? = some o) (h3 : o.2.size ≠ 3) : Calls Tryz.prog 26 #[.pointer (some ⟨h, 0, none⟩), .int .i64 ((i : Int) + 1)] W fun e w' => e = .returned (.pointer (some ⟨o.1, 0, none⟩)) ∧ w' = W := by
  obtain ⟨⟨cv, fv, rv, hp⟩, mb, ob, am, al, nd⟩ := H
  refine obj_some hp _ o.1 ?_
  have hi : i < os.length := (List.getElem?_eq_some_iff.1 ho).1
  unfold AD.get
  rw [if_pos ⟨by omega, by show (i : Int) + 1 ≤ ((os.map _).length : Nat); rw [List.length_map]; omega⟩, show ((i : Int) + 1 - 1).toNat = i by omega]
  show (os.map _)[i]?.getD none = _
  rw [List.getElem?_map, ho]
  show some (pty o, o.1) = _
  rw [pty_obj h3]
set_option maxRecDepth 100000 in
theorem MM.proto_any (H : MM W h A m f os) (k : Nat) (hk : k < 21) : Calls Tryz.prog 54 #[.pointer (some ⟨m, 0, none⟩), .int .i64 (k : Int)] W fun e w' => e = .returned (.int .i64 (f k)) ∧ w' = W := by
  have c0 : W.cell? ⟨m, 1 + k, none⟩ = some (.int .i64 (f k)) := by rw [H.mb.at_ (1 + k)]; exact machV_at _ _ _ k hk
  have h0 : (0 : Int) ≤ (k : Int) := by omega
  have h1 : (k : Int) < 21 := by omega
  clear H
  go_enter Tryz.func54, Tryz.ntmps54
  go_wp2
  go_ret
  exact ⟨rfl, rfl⟩
set_option maxRecDepth 100000 in
/-- A new object, by the machine. -/
theorem MM.create (H : MM W h A m f os) (cl proto : Int) (hl : os.length < 1000000) : Calls Tryz.prog 53 #[.pointer (some ⟨m, 0, none⟩), .int .i64 cl, .int .i64 proto] W fun e w' => e = .returned (.tuple #[.int .i64 ((os.length : Int) + 1), .pointer (some ⟨W.heap.size, 0, none⟩)]) ∧ MM w' h A m f (os ++ [(W.heap.size, obj0 cl proto)]) ∧ Below A W w' ∧ Kp arT W w' ∧ Kq A W w' := by
  have c0 : W.cell? ⟨m, 0, none⟩ = some (.pointer (some ⟨h, 0, none⟩)) := H.mb.at_ 0
  have HM := Veil.mk (H.make cl proto hl)
  clear H
  go_enter Tryz.func53, Tryz.ntmps53
  go_wp2_with (first | (go_at_call 13; ((with_reducible refine HM.out.mono ?_); rintro e w9 ⟨rfl, hm9, hb9, hk9, hq9⟩)))
  refine bodyPost_ret (v := .tuple #[.int .i64 ((os.length : Int) + 1), .pointer (some ⟨W.heap.size, 0, none⟩)]) (by simp [results, Tryz.results53, go_sem]) rfl ⟨rfl, hm9, hb9, hk9, hq9⟩
theorem MM.of_ (H : MM W h A m f os) (i : Nat) (o : OS) (ho : os[i]? = some o) (h3 : o.2.size ≠ 3) (s : ByteArray) : Calls Tryz.prog 21 #[.pointer (some ⟨h, 0, none⟩), valV (9, (i : Int) + 1, s)] W fun e w' => e = .returned (.pointer (some ⟨o.1, 0, none⟩)) ∧ Below W.heap.size W w' :=
  of_yes h o.1 (9, (i : Int) + 1, s) rfl W ⟨fun _ hb => (H.on hb).obj i o ho h3⟩
theorem MM.kp {ts : List TypeId} (H : MM W h A m f os) (hk : Kp ts W W') (ht : ∀ t ∈ mmT, ts.contains t = false) : MM W' h A m f os := by
  obtain ⟨⟨cv, fv, rv, hp⟩, mb, ob, am, al, nd⟩ := H
  refine ⟨⟨cv, fv, rv, hk.box hp.hb (ht _ (by simp)), ⟨hk.box hp.ar.box (ht _ (by simp)), own_kp hp.ar.co hk (ht _ (by simp)), own_kp hp.ar.fo hk (ht _ (by simp)), own_kp hp.ar.ro hk (ht _ (by simp)), hp.ar.ap, hp.ar.ha⟩, hp.hB⟩, hk.box mb (ht _ (by simp)), fun o ho => hk.box (ob o ho) (ht _ (oty_mem o)), am, al, nd⟩
/-- A cell of an object is written. -/
theorem MM.setObj {b : Nat} {cs : Array Value} {os1 os2 : List OS} (H : MM W h A m f (os1 ++ (b, cs) :: os2)) (hs : cs.size ≠ 3) (j : Nat) (u : Value) : MM (W.setCell ⟨b, j, none⟩ u) h A m f (os1 ++ (b, cs.setIfInBounds j u) :: os2) := by
  obtain ⟨⟨cv, fv, rv, hp⟩, mb, ob, am, al, nd⟩ := H
  have hb : Box W b 99 cs := by have := ob (b, cs) (by simp); rwa [oty_obj hs] at this
  have hs2 : (cs.setIfInBounds j u).size ≠ 3 := by simpa using hs
  have ht : Touch (fun k => k = b) W (W.setCell ⟨b, j, none⟩ u) := Touch.put (S := fun k => k = b) rfl _ _
  have nd2 : ∀ o ∈ os1 ++ os2, o.1 ≠ b := fun o ho e => by
    rw [List.map_append, List.map_cons] at nd
    obtain ⟨-, n2, n3⟩ := List.nodup_append.1 nd
    have n2 := (List.nodup_cons.1 n2).1
    rcases List.mem_append.1 ho with h9 | h9
    · exact n3 o.1 (List.mem_map.2 ⟨o, h9, rfl⟩) b (by simp) e
    · exact n2 (List.mem_map.2 ⟨o, h9, e⟩)
  refine ⟨⟨cv, fv, rv, ?_⟩, mb.touch ht (fun e => mb.lab.ne hb.lab (by decide) e), fun o ho => ?_, am, fun o ho => ?_, ?_⟩
  · have e1 : ((os1 ++ (b, cs.setIfInBounds j u) :: os2).map fun o => some (pty o, o.1)) = ((os1 ++ (b, cs) :: os2).map fun o => some (pty o, o.1)) := by simp [pty]
    have e2 : (os1 ++ (b, cs.setIfInBounds j u) :: os2).length = (os1 ++ (b, cs) :: os2).length := by simp
    rw [e1, e2]
    refine ⟨hp.hb.touch ht (fun e => hp.hb.lab.ne hb.lab (by decide) e), hp.ar.touch ht (fun k hk e => ?_), hp.hB⟩
    subst e
    exact AFoot.lab hp.ar hb.lab (by decide) (by decide) (by decide) hk
  · have : o = (b, cs.setIfInBounds j u) ∨ o ∈ os1 ++ os2 := by
      simp only [List.mem_append, List.mem_cons] at ho ⊢
      rcases ho with h9 | h9 | h9 <;> simp [h9]
    rcases this with rfl | h9
    · rw [oty_obj hs2]; exact hb.put j u
    · refine (ob o ?_).touch ht (nd2 o h9)
      simp only [List.mem_append, List.mem_cons] at h9 ⊢
      rcases h9 with h9 | h9 <;> simp [h9]
  · have : o.1 = b ∨ o ∈ os1 ++ os2 := by
      simp only [List.mem_append, List.mem_cons] at ho ⊢
      rcases ho with h9 | h9 | h9 <;> simp [h9]
    rcases this with e | h9
    · rw [e]; exact al (b, cs) (by simp)
    · refine al o ?_
      simp only [List.mem_append, List.mem_cons] at h9 ⊢
      rcases h9 with h9 | h9 <;> simp [h9]
  · have e1 : (os1 ++ (b, cs.setIfInBounds j u) :: os2).map Prod.fst = (os1 ++ (b, cs) :: os2).map Prod.fst := by simp
    rw [e1]
    exact nd
set_option maxHeartbeats 1000000 in
set_option maxRecDepth 100000 in
/-- An array of these values. -/
theorem MM.array (H : MM W h A m f os) (sv : Value) (l : List Vt) (hr : RowV W sv l) (hl : l.length ≤ 10000) (hn : os.length < 1000000) : Calls Tryz.prog 24 #[.pointer (some ⟨m, 0, none⟩), sv] W fun e w' => e = .returned (valV (9, (os.length : Int) + 1, ⟨#[]⟩)) ∧ ∃ b ev, W.heap.size ≤ b ∧ MM w' h A m f (os ++ [(b, objC 1 (f 2) false (.pointer none) ev)]) ∧ RowV w' ev l ∧ Below A W w' ∧ Kp arT W w' ∧ Kq A W w' ∧ ∀ ad n cap, ev = .slice (some ad) n cap → W.heap.size < ad.block := by
  obtain ⟨ao, ca, rfl, hr2⟩ := hr
  have HRW : Veil (RowV W (.slice ao l.length ca) l) := ⟨ao, ca, rfl, hr2⟩
  clear hr2
  obtain ⟨vb, hvb⟩ : ∃ vb, W.heap.size = vb := ⟨_, rfl⟩
  obtain ⟨W0, hW0⟩ : ∃ W0, W.alloc (.cells #[.int .i64 0, .int .i64 0, .string ⟨#[]⟩] 30) = W0 := ⟨_, rfl⟩
  have b1 := Box.new W 30 #[.int .i64 0, .int .i64 0, .string ⟨#[]⟩]
  have bb : Below W.heap.size W (W.alloc (.cells #[.int .i64 0, .int .i64 0, .string ⟨#[]⟩] 30)) := (Below.refl _ _).alloc (Nat.le_refl _) _
  rw [hW0] at b1 bb
  rw [hvb] at b1
  have HW0 := Veil.mk (And.intro hW0 hvb)
  have H0 := Veil.mk (H.on bb)
  have HPR : Veil (Calls Tryz.prog 54 #[.pointer (some ⟨m, 0, none⟩), .int .i64 2] W0 fun e w' => e = .returned (.int .i64 (f 2)) ∧ w' = W0) := ⟨H0.out.proto_any 2 (by decide)⟩
  have HCR := Veil.mk (H0.out.create 1 (f 2) hn)
  have HAT : Veil (A < W.heap.size) := ⟨H.alt⟩
  have HAM : Veil (A ≤ m ∧ m < W.heap.size) := ⟨H.am, H.mb.lt⟩
  have HX := Veil.mk (And.intro b1 bb)
  have hle : ¬ (10000 : Int) < (l.length : Int) := by omega
  obtain ⟨n, hn2⟩ : ∃ n, l.length = n := ⟨_, rfl⟩
  have HN := Veil.mk hn2
  rw [hn2] at HRW hle ⊢
  clear hW0 hvb b1 bb H hn2 hl hn
  go_enter Tryz.func24, Tryz.ntmps24
  go_upto_region 1 with (fail)
  rw [HW0.out.1, HW0.out.2]
  go_upto_region 7 with (first | (go_at_call 54; ((with_reducible refine HPR.out.mono ?_); rintro e w1 ⟨rfl, h1⟩; subst w1)) | (go_at_call 53; ((with_reducible refine HCR.out.mono ?_); rintro e w2 ⟨rfl, hm2, hb2, hk2, hq2⟩)))
  have HKQ2 := Veil.mk ((Kq.of_below HAT.out HX.out.2).trans hq2)
  clear hq2
  have HQ2 := Veil.mk (And.intro hm2 (And.intro ((HX.out.2.mono (by have := HAM.out; omega)).trans hb2) ((Kp.of_below HX.out.2).trans hk2)))
  have HC2 := Veil.mk (clone_v (.slice ao n ca) l (by have := HN.out; omega) w2 (HRW.out.kp HQ2.out.2.2 rfl))
  have bv2 := hk2.box HX.out.1 rfl
  have bo2 : Box w2 W0.heap.size 99 (obj0 1 (f 2)) := hm2.ob (W0.heap.size, obj0 1 (f 2)) (by simp)
  have HB2 := Veil.mk (And.intro bv2 bo2)
  obtain ⟨ob, hob⟩ : ∃ ob, W0.heap.size = ob := ⟨_, rfl⟩
  rw [hob] at HB2 HQ2 ⊢
  have HOB := Veil.mk hob
  clear hob
  clear hm2 hb2 hk2 bv2 bo2 HPR HCR
  skip
  go_upto_region 8 with (go_at_call 55; ((with_reducible refine HC2.out.mono ?_); rintro e w3 ⟨v, rfl, hb3, hv3, hg3⟩; have HG3 := Veil.mk hg3; clear hg3; have HB3 := Veil.mk (And.intro hb3 (And.intro hv3 (And.intro (HB2.out.1.below hb3) (HB2.out.2.below hb3)))); have o4 : w3.cell? ⟨ob, 4, none⟩ = some (.slice none 0 0) := HB3.out.2.2.2.at_ 4; have of4 := HB3.out.2.2.2.free 4; obtain ⟨a9, c9, hv9, -⟩ := HB3.out.2.1; subst hv9; clear hb3 hv3))
  have HM4 := Veil.mk ((HQ2.out.1.on HB3.out.1).setObj (os1 := os) (os2 := []) (by intro e; cases e) 4 (.slice a9 l.length c9))
  have ht4 : Touch (fun k => k = ob) w3 (w3.setCell ⟨ob, 4, none⟩ (.slice a9 l.length c9)) := Touch.put (S := fun k => k = ob) rfl _ _
  have HV4 : Veil (Box (w3.setCell ⟨ob, 4, none⟩ (.slice a9 l.length c9)) vb 30 #[.int .i64 0, .int .i64 0, .string ⟨#[]⟩]) := ⟨HB3.out.2.2.1.touch ht4 (fun e => HB3.out.2.2.1.lab.ne HB3.out.2.2.2.lab (by decide) e)⟩
  have HR4 : Veil (RowV (w3.setCell ⟨ob, 4, none⟩ (.slice a9 l.length c9)) (.slice a9 l.length c9) l) := ⟨HB3.out.2.1.kp (Kp.put (ts := [99]) HB3.out.2.2.2.lab rfl _ _) rfl⟩
  have HK4 : Veil (Below A W (w3.setCell ⟨ob, 4, none⟩ (.slice a9 l.length c9)) ∧ Kp arT W (w3.setCell ⟨ob, 4, none⟩ (.slice a9 l.length c9)) ∧ Kq A W (w3.setCell ⟨ob, 4, none⟩ (.slice a9 l.length c9))) := by
    have hA : A ≤ W.heap.size := by have := HAM.out; omega
    have ho : W.heap.size ≤ ob := by rw [← HOB.out]; exact HX.out.2.size
    have hb3 := HQ2.out.2.1.trans (HB3.out.1.mono (Nat.le_trans hA HQ2.out.2.1.size))
    exact ⟨hb3.setCell (p := ⟨ob, 4, none⟩) (by show A ≤ ob; omega) _, (HQ2.out.2.2.trans (Kp.of_below HB3.out.1)).new ho _ _, (HKQ2.out.trans (Kq.of_below (Nat.lt_of_lt_of_le HAT.out HKQ2.out.size) HB3.out.1)).new HAT.out ho _ _⟩
  have HG4 : Veil (∀ ad n cap, Value.slice a9 l.length c9 = .slice (some ad) n cap → vb < ad.block) := ⟨fun ad n cap e => by
    have h1 := HG3.out ad n cap e
    have h2 := HB2.out.1.lt
    omega⟩
  clear ht4 HB3 HB2 HQ2 HC2 H0 HG3 HRW o4 of4
  generalize (w3.setCell ⟨ob, 4, none⟩ (.slice a9 l.length c9)) = w4 at HM4 HV4 HR4 HK4 ⊢
  have HVO := Veil.mk (object_mk ((os.length : Int) + 1) w4)
  go_wp2_with (go_at_call 18; ((with_reducible refine HVO.out.mono ?_); rintro e w5 ⟨rfl, hb5⟩; have HB5 := Veil.mk (And.intro hb5 (HV4.out.below hb5)); have v0 : w5.cell? ⟨vb, 0, none⟩ = some (.int .i64 0) := HB5.out.2.at_ 0; have v1 : w5.cell? ⟨vb, 1, none⟩ = some (.int .i64 0) := HB5.out.2.at_ 1; have v2 : w5.cell? ⟨vb, 2, none⟩ = some (.string ⟨#[]⟩) := HB5.out.2.at_ 2; have g0 := HB5.out.2.free 0; have g1 := HB5.out.2.free 1; have g2 := HB5.out.2.free 2; clear hb5))
  have hr6 := ((HB5.out.2.put 0 (.int .i64 9)).put 1 (.int .i64 ((os.length : Int) + 1))).put 2 (.string ⟨#[]⟩)
  have y0 := hr6.at_ 0
  have y1 := hr6.at_ 1
  have y2 := hr6.at_ 2
  have hA : A ≤ W.heap.size := by have := HAM.out; omega
  have hvb : W.heap.size = vb := HW0.out.2
  have kx : Kp [30] w5 (((w5.setCell ⟨vb, 0, none⟩ (.int .i64 9)).setCell ⟨vb, 1, none⟩ (.int .i64 ((os.length : Int) + 1))).setCell ⟨vb, 2, none⟩ (.string ⟨#[]⟩)) := ((Kp.put HB5.out.2.lab rfl _ _).trans (Kp.put (HB5.out.2.put 0 _).lab rfl _ _)).trans (Kp.put ((HB5.out.2.put 0 _).put 1 _).lab rfl _ _)
  have hm6 := ((HM4.out.on HB5.out.1).kp kx (by decide))
  refine bodyPost_ret (v := valV (9, (os.length : Int) + 1, ⟨#[]⟩)) (by simp [results, Tryz.results24, go_sem, y0, y1, y2]) rfl ⟨rfl, ob, _, by rw [← HOB.out]; exact HX.out.2.size, hm6, ?_, ?_, ?_, ?_, ?_⟩
  · have hG : ∀ ad n cap, Value.slice a9 l.length c9 = .slice (some ad) n cap → ad.block ≠ vb := fun ad n cap e => by have := HG4.out ad n cap e; omega
    exact (((HR4.out.on HB5.out.1).put vb _ _ hG).put vb _ _ hG).put vb _ _ hG
  · exact (((HK4.out.1.trans (HB5.out.1.mono (Nat.le_trans hA HK4.out.1.size))).setCell (p := ⟨vb, 0, none⟩) (by show A ≤ vb; omega) _).setCell (p := ⟨vb, 1, none⟩) (by show A ≤ vb; omega) _).setCell (p := ⟨vb, 2, none⟩) (by show A ≤ vb; omega) _
  · exact (((HK4.out.2.1.trans (Kp.of_below HB5.out.1)).new (by omega) _ _).new (by omega) _ _).new (by omega) _ _
  · exact (((HK4.out.2.2.trans (Kq.of_below (Nat.lt_of_lt_of_le HAT.out HK4.out.2.2.size) HB5.out.1)).new HAT.out (by omega) _ _).new HAT.out (by omega) _ _).new HAT.out (by omega) _ _
  · intro ad n cap e
    rw [hvb]
    exact HG4.out ad n cap e
theorem MM.arrAt {W : World} {h A m : Nat} {f : Nat → Int} {os : List OS} (H : MM W h A m f os) (i : Nat) (b : Nat) (cs : Array Value) (ho : os[i]? = some (b, cs)) (h3 : cs.size ≠ 3) (h0 : cs[0]? = some (.int .i64 1)) (ev : Value) (h4 : cs[4]? = some ev) (l : List Vt) (hr : RowV W ev l) (hl : l.length ≤ 1000000) (s : ByteArray) : ArrAt W h (9, (i : Int) + 1, s) l :=
  ⟨rfl, hl, b, cs, ev, fun _ hb => (H.on hb).obj i (b, cs) ho h3, (oty_obj (o := (b, cs)) h3) ▸ H.ob (b, cs) (List.mem_of_getElem? ho), h0, h4, hr⟩
theorem MM.of_plain (H : Go.Proofs.YtgdkjkfbknbgkaaGreatDoor.MM W h A m f os) (hs : ∀ o ∈ os, o.2.size ≠ 3) : MM W h A m f os := by
  obtain ⟨⟨cv, fv, rv, hp⟩, mb, ob, am, al, nd⟩ := H
  refine ⟨⟨cv, fv, rv, ?_⟩, mb, fun o ho => ?_, am, al, nd⟩
  · have e : (os.map fun o => some (pty o, o.1)) = os.map fun o => some (40, o.1) := List.map_congr_left fun o ho => by rw [pty_obj (hs o ho)]
    rw [e]
    exact hp
  · rw [oty_obj (hs o ho)]
    exact ob o ho
end
end Go.Proofs.YtgdkjkfbknbgkaaGreatDoor.Y
namespace Go.Proofs.YtgdkjkfbknbgkaaGreatDoor
open Go Go.RowKit
attribute [local go_sem] Oper.semAt_some

/-- The classes that grow makes, and their names. -/
def clsN : List Int := [0, 3, 4, 6, 7, 8, 9, 10, 11]
set_option maxHeartbeats 1000000 in
set_option maxRecDepth 100000 in
theorem class_name (i : Nat) (c : Int) (s : ByteArray) (hc : clsN[i]? = some c) (hs : cls[i]? = some s) (w : World) : Calls Tryz.prog 92 #[.int .i64 c] w fun e w' => e = .returned (.string s) ∧ w' = w := by
  have hi : i < 9 := (List.getElem?_eq_some_iff.1 hc).1
  obtain rfl | rfl | rfl | rfl | rfl | rfl | rfl | rfl | rfl : i = 0 ∨ i = 1 ∨ i = 2 ∨ i = 3 ∨ i = 4 ∨ i = 5 ∨ i = 6 ∨ i = 7 ∨ i = 8 := by omega
  all_goals
    cases hc
    cases hs
    go_enter Tryz.func92, Tryz.ntmps92
    go_wp2
    go_ret
    exact ⟨rfl, rfl⟩
set_option maxHeartbeats 1000000 in
set_option maxRecDepth 100000 in
theorem printed_class (W : World) (m o : Nat) (v : Vt) (av : Value) (c : Int) (r : ByteArray) (ho : o < W.heap.size) (h0 : W.cell? ⟨o, 0, none⟩ = some (.int .i64 c)) (e1 : (c == 1) = false) (e2 : (c == 2) = false) (e12 : (c == 12) = false) (hr : r.size ≤ 1000000)
    (HSO : Veil (∀ W', Below W.heap.size W W' → Calls Tryz.prog 82 #[(.pointer (some ⟨m, 0, none⟩)), valV v] W' fun e w' => e = .returned (.pointer (some ⟨o, 0, none⟩)) ∧ Below W'.heap.size W' w'))
    (HCN : Veil (∀ W', Calls Tryz.prog 92 #[.int .i64 c] W' fun e w' => e = .returned (.string r) ∧ w' = W')) :
    Calls Tryz.prog 61 #[(.pointer (some ⟨m, 0, none⟩)), valV v, av] W fun e w' => e = .returned (.string (⟨#[91]⟩ ++ r ++ ⟨#[93]⟩)) ∧ Below W.heap.size W w' := by
  have b1 := Box.new W 30 #[.int .i64 v.1, .int .i64 v.2.1, .string v.2.2]
  have bb : Below W.heap.size W (W.alloc (.cells #[.int .i64 v.1, .int .i64 v.2.1, .string v.2.2] 30)) := (Below.refl _ _).alloc (Nat.le_refl _) _
  obtain ⟨kb, hkb⟩ : ∃ kb, W.heap.size = kb := ⟨_, rfl⟩
  obtain ⟨W0, hW0⟩ : ∃ W0, W.alloc (.cells #[.int .i64 v.1, .int .i64 v.2.1, .string v.2.2] 30) = W0 := ⟨_, rfl⟩
  rw [hW0] at b1 bb
  have HW0 := Veil.mk (And.intro hW0 hkb)
  rw [hkb] at b1
  have HBB := Veil.mk (And.intro bb b1)
  have x0 : W0.cell? ⟨kb, 0, none⟩ = some (.int .i64 v.1) := b1.at_ 0
  have x1 : W0.cell? ⟨kb, 1, none⟩ = some (.int .i64 v.2.1) := b1.at_ 1
  have x2 : W0.cell? ⟨kb, 2, none⟩ = some (.string v.2.2) := b1.at_ 2
  have HSO := Veil.mk (HSO.out W0 HBB.out.1)
  have HO := Veil.mk (And.intro ho h0)
  have z1 : ¬ 9223372036854775807 < 1 + r.size := by omega
  have z2 : ¬ 9223372036854775807 < 1 + r.size + 1 := by omega
  have z3 : ¬ 9223372036854775807 < 1 + (r.size + 1) := by omega
  clear hW0 hkb b1 bb ho h0 hr
  go_enter Tryz.func61, Tryz.ntmps61
  go_upto_region 1 with (fail)
  rw [HW0.out.1, HW0.out.2]
  go_upto_region 4 with (go_at_call 82; ((with_reducible refine HSO.out.mono ?_); rintro e w4 ⟨rfl, hb4⟩; have HB4 := Veil.mk (HBB.out.1.trans (hb4.mono HBB.out.1.size)); clear hb4))
  have o0 : w4.cell? ⟨o, 0, none⟩ = some (.int .i64 c) := by rw [HB4.out.cell (p := ⟨o, 0, none⟩) HO.out.1]; exact HO.out.2
  go_wp2_with (go_at_call 92; ((with_reducible refine (HCN.out _).mono ?_); rintro e w9 ⟨rfl, rfl⟩))
  go_ret
  exact ⟨rfl, HB4.out⟩
set_option maxRecDepth 100000 in
theorem ref_8 (x : Vt) (hx : x.1 = 8) (w : World) : Calls Tryz.prog 48 #[valV x] w fun e w' => e = .returned (.int .i64 x.2.1) ∧ Below w.heap.size w w' := by
  have b1 := Box.new w 30 #[.int .i64 x.1, .int .i64 x.2.1, .string x.2.2]
  have bb : Below w.heap.size w (w.alloc (.cells #[.int .i64 x.1, .int .i64 x.2.1, .string x.2.2] 30)) := (Below.refl _ _).alloc (Nat.le_refl _) _
  obtain ⟨kb, hkb⟩ : ∃ kb, w.heap.size = kb := ⟨_, rfl⟩
  obtain ⟨W0, hW0⟩ : ∃ W0, w.alloc (.cells #[.int .i64 x.1, .int .i64 x.2.1, .string x.2.2] 30) = W0 := ⟨_, rfl⟩
  rw [hW0] at b1 bb
  have HW0 := Veil.mk (And.intro hW0 hkb)
  rw [hkb] at b1
  have HBB := Veil.mk (And.intro bb b1)
  have x0 : W0.cell? ⟨kb, 0, none⟩ = some (.int .i64 x.1) := b1.at_ 0
  have x1 : W0.cell? ⟨kb, 1, none⟩ = some (.int .i64 x.2.1) := b1.at_ 1
  have x2 : W0.cell? ⟨kb, 2, none⟩ = some (.string x.2.2) := b1.at_ 2
  clear hW0 hkb b1 bb
  rw [hx] at x0
  clear hx
  go_enter Tryz.func48, Tryz.ntmps48
  go_upto_region 1 with (fail)
  rw [HW0.out.1, HW0.out.2]
  go_wp2
  go_ret
  exact ⟨rfl, HBB.out.1⟩

set_option maxHeartbeats 1000000 in
set_option maxRecDepth 100000 in
theorem symbol_shown (W : World) (m h A g : Nat) (v : Vt) (hv : v.1 = 8) (s r : ByteArray) (hr : r.size ≤ 1000000) (hm : W.cell? ⟨m, 0, none⟩ = some (.pointer (some ⟨h, 0, none⟩))) (hml : m < W.heap.size) (hh : W.cell? ⟨h, 0, none⟩ = some (.pointer (some ⟨A, 0, none⟩))) (hhl : h < W.heap.size) (hg0 : W.cell? ⟨g, 0, none⟩ = some (.int .i64 7)) (hg2 : W.cell? ⟨g, 2, none⟩ = some (.string s)) (hgl : g < W.heap.size)
    (HGT : Veil (∀ W', Below W.heap.size W W' → Calls Tryz.prog 58 #[(.pointer (some ⟨A, 0, none⟩)), .int .i64 v.2.1] W' fun e w' => e = .returned (.iface 139 (.pointer (some ⟨g, 0, none⟩))) ∧ Below W'.heap.size W' w'))
    (HG : Veil (∀ W, Calls Tryz.prog 16 #[.string s] W fun e w' => e = .returned (.string r) ∧ Below W.heap.size W w')) :
    Calls Tryz.prog 60 #[(.pointer (some ⟨m, 0, none⟩)), valV v] W fun e w' => e = .returned (.string (⟨#[83, 121, 109, 98, 111, 108, 40]⟩ ++ r ++ ⟨#[41]⟩)) ∧ Below W.heap.size W w' := by
  have b1 := Box.new W 30 #[.int .i64 v.1, .int .i64 v.2.1, .string v.2.2]
  have bb : Below W.heap.size W (W.alloc (.cells #[.int .i64 v.1, .int .i64 v.2.1, .string v.2.2] 30)) := (Below.refl _ _).alloc (Nat.le_refl _) _
  obtain ⟨kb, hkb⟩ : ∃ kb, W.heap.size = kb := ⟨_, rfl⟩
  obtain ⟨W0, hW0⟩ : ∃ W0, W.alloc (.cells #[.int .i64 v.1, .int .i64 v.2.1, .string v.2.2] 30) = W0 := ⟨_, rfl⟩
  rw [hW0] at b1 bb
  have HW0 := Veil.mk (And.intro hW0 hkb)
  rw [hkb] at b1
  have HBB := Veil.mk (And.intro bb b1)
  have HY : Veil ((⟨#[83, 121, 109, 98, 111, 108, 40]⟩ ++ r ++ ⟨#[41]⟩ : ByteArray) = ⟨#[83, 121, 109, 98, 111, 108, 40]⟩ ++ r ++ ⟨#[41]⟩) := ⟨rfl⟩
  have HRF := Veil.mk (fun W' => ref_8 v hv W')
  have HBF : Veil (Below W.heap.size W W0) := ⟨bb⟩
  have HC : Veil ((∀ W, Below W0.heap.size W0 W → W.cell? ⟨m, 0, none⟩ = some (.pointer (some ⟨h, 0, none⟩))) ∧ (∀ W, Below W0.heap.size W0 W → W.cell? ⟨h, 0, none⟩ = some (.pointer (some ⟨A, 0, none⟩))) ∧ (∀ W, Below W0.heap.size W0 W → W.cell? ⟨kb, 0, none⟩ = some (.int .i64 v.1) ∧ W.cell? ⟨kb, 1, none⟩ = some (.int .i64 v.2.1) ∧ W.cell? ⟨kb, 2, none⟩ = some (.string v.2.2)) ∧ ∀ W, Below W0.heap.size W0 W → W.cell? ⟨g, 0, none⟩ = some (.int .i64 7) ∧ W.cell? ⟨g, 2, none⟩ = some (.string s)) :=
    ⟨fun W2 hb => by rw [(bb.trans (hb.mono bb.size)).cell (p := ⟨m, 0, none⟩) hml]; exact hm, fun W2 hb => by rw [(bb.trans (hb.mono bb.size)).cell (p := ⟨h, 0, none⟩) hhl]; exact hh, fun W2 hb => ⟨(b1.below hb).at_ 0, (b1.below hb).at_ 1, (b1.below hb).at_ 2⟩, fun W2 hb => ⟨by rw [(bb.trans (hb.mono bb.size)).cell (p := ⟨g, 0, none⟩) hgl]; exact hg0, by rw [(bb.trans (hb.mono bb.size)).cell (p := ⟨g, 2, none⟩) hgl]; exact hg2⟩⟩
  have z1 : ¬ 9223372036854775807 < 7 + r.size := by omega
  have z2 : ¬ 9223372036854775807 < 7 + r.size + 1 := by omega
  have z3 : ¬ 9223372036854775807 < 7 + (r.size + 1) := by omega
  clear hW0 hkb b1 bb hr hm hml hh hhl hg0 hg2 hgl hv
  go_enter Tryz.func60, Tryz.ntmps60
  go_upto_region 1 with (fail)
  rw [HW0.out.1, HW0.out.2]
  go_upto_region 3 with (fail)
  refine wp_region_gen (.val (· = (.pointer (some ⟨m, 0, none⟩))) :: .val (· = (.pointer (some ⟨m, 0, none⟩))) :: .val (· = (.pointer (some ⟨m, 0, none⟩))) :: .val (· = (.pointer (some ⟨h, 0, none⟩))) :: .val (· = (.pointer (some ⟨h, 0, none⟩))) :: .val (· = (.pointer (some ⟨h, 0, none⟩))) :: .val (· = (.pointer (some ⟨A, 0, none⟩))) :: .val (· = valV v) :: .val (· = .int .i64 v.2.1) :: .val (· = (.iface 139 (.pointer (some ⟨g, 0, none⟩)))) :: .val (· = (.tuple #[(.pointer (some ⟨g, 0, none⟩)), .bool true])) :: .val (· = (.tuple #[(.pointer (some ⟨g, 0, none⟩)), .bool true])) :: .val (· = (.pointer (some ⟨g, 0, none⟩))) :: .val (· = .bool true) :: .val (· = (.pointer (some ⟨g, 0, none⟩))) :: .val (· = .bool true) :: [] : List Kd) [some 11, some 12, some 13, some 14, some 15, some 16, some 17, some 18, some 19, some 20, some 21, some 10, some 22, some 23, some 6, some 7] (curV' _ [some 11, some 12, some 13, some 14, some 15, some 16, some 17, some 18, some 19, some 20, some 21, some 10, some 22, some 23, some 6, some 7]) (by kernel_rfl) rfl rfl (puts_cur _ _) ?_ (by kernel_rfl) ?_
  · refine Steps.cons rfl (fun bb aa w' hbs hb0 hbp hI K hK => ?_) ?_
    · obtain ⟨us, hus, ha, hI⟩ := hI
      obtain ⟨u0, u1, u2, u3, u4, u5, u6, u7, u8, u9, u10, u11, u12, u13, u14, u15, rfl⟩ := lenA16 hus
      have HI := Veil.mk hI
      clear hI
      rw [ha]
      simp only [puts, setAll, List.setIfInBounds_toArray, List.set_cons_zero, List.set_cons_succ]
      go_simp
      exact hK _ _ (gen_val HI.out hus hbs 0 _ _ (by show 0 < 16; decide) (fit_of rfl) rfl hb0 rfl (Below.refl _ _) (by simp only [puts, setAll, List.set_cons_zero, List.set_cons_succ, List.setIfInBounds_toArray]))
    refine Steps.cons rfl (fun bb aa w' hbs hb0 hbp hI K hK => ?_) ?_
    · obtain ⟨us, hus, ha, hI⟩ := hI
      obtain ⟨u0, u1, u2, u3, u4, u5, u6, u7, u8, u9, u10, u11, u12, u13, u14, u15, rfl⟩ := lenA16 hus
      have e0 : u0 = (.pointer (some ⟨m, 0, none⟩)) := hI.val 0 _ rfl (gen_after 0 (by kernel_rfl) hbp)
      subst e0
      have HI := Veil.mk hI
      clear hI
      rw [ha]
      simp only [puts, setAll, List.setIfInBounds_toArray, List.set_cons_zero, List.set_cons_succ]
      go_simp
      exact hK _ _ (gen_val HI.out hus hbs 1 _ _ (by show 1 < 16; decide) (fit_of rfl) rfl hb0 rfl (Below.refl _ _) (by simp only [puts, setAll, List.set_cons_zero, List.set_cons_succ, List.setIfInBounds_toArray]))
    refine Steps.cons rfl (fun bb aa w' hbs hb0 hbp hI K hK => ?_) ?_
    · obtain ⟨us, hus, ha, hI⟩ := hI
      obtain ⟨u0, u1, u2, u3, u4, u5, u6, u7, u8, u9, u10, u11, u12, u13, u14, u15, rfl⟩ := lenA16 hus
      have e1 : u1 = (.pointer (some ⟨m, 0, none⟩)) := hI.val 1 _ rfl (gen_after 1 (by kernel_rfl) hbp)
      subst e1
      have HI := Veil.mk hI
      clear hI
      rw [ha]
      simp only [puts, setAll, List.setIfInBounds_toArray, List.set_cons_zero, List.set_cons_succ]
      go_simp
      exact hK _ _ (gen_val HI.out hus hbs 2 _ _ (by show 2 < 16; decide) (fit_of rfl) rfl hb0 rfl (Below.refl _ _) (by simp only [puts, setAll, List.set_cons_zero, List.set_cons_succ, List.setIfInBounds_toArray]))
    refine Steps.cons rfl (fun bb aa w' hbs hb0 hbp hI K hK => ?_) ?_
    · obtain ⟨us, hus, ha, hI⟩ := hI
      obtain ⟨u0, u1, u2, u3, u4, u5, u6, u7, u8, u9, u10, u11, u12, u13, u14, u15, rfl⟩ := lenA16 hus
      have e2 : u2 = (.pointer (some ⟨m, 0, none⟩)) := hI.val 2 _ rfl (gen_after 2 (by kernel_rfl) hbp)
      subst e2
      have hch := hI.below
      have c0 := HC.out.1 w' hch
      clear hch
      have HI := Veil.mk hI
      clear hI
      rw [ha]
      simp only [puts, setAll, List.setIfInBounds_toArray, List.set_cons_zero, List.set_cons_succ]
      go_simp
      exact hK _ _ (gen_val HI.out hus hbs 3 _ _ (by show 3 < 16; decide) (fit_of rfl) rfl hb0 rfl (Below.refl _ _) (by simp only [puts, setAll, List.set_cons_zero, List.set_cons_succ, List.setIfInBounds_toArray]))
    refine Steps.cons rfl (fun bb aa w' hbs hb0 hbp hI K hK => ?_) ?_
    · obtain ⟨us, hus, ha, hI⟩ := hI
      obtain ⟨u0, u1, u2, u3, u4, u5, u6, u7, u8, u9, u10, u11, u12, u13, u14, u15, rfl⟩ := lenA16 hus
      have e3 : u3 = (.pointer (some ⟨h, 0, none⟩)) := hI.val 3 _ rfl (gen_after 3 (by kernel_rfl) hbp)
      subst e3
      have HI := Veil.mk hI
      clear hI
      rw [ha]
      simp only [puts, setAll, List.setIfInBounds_toArray, List.set_cons_zero, List.set_cons_succ]
      go_simp
      exact hK _ _ (gen_val HI.out hus hbs 4 _ _ (by show 4 < 16; decide) (fit_of rfl) rfl hb0 rfl (Below.refl _ _) (by simp only [puts, setAll, List.set_cons_zero, List.set_cons_succ, List.setIfInBounds_toArray]))
    refine Steps.cons rfl (fun bb aa w' hbs hb0 hbp hI K hK => ?_) ?_
    · obtain ⟨us, hus, ha, hI⟩ := hI
      obtain ⟨u0, u1, u2, u3, u4, u5, u6, u7, u8, u9, u10, u11, u12, u13, u14, u15, rfl⟩ := lenA16 hus
      have e4 : u4 = (.pointer (some ⟨h, 0, none⟩)) := hI.val 4 _ rfl (gen_after 4 (by kernel_rfl) hbp)
      subst e4
      have HI := Veil.mk hI
      clear hI
      rw [ha]
      simp only [puts, setAll, List.setIfInBounds_toArray, List.set_cons_zero, List.set_cons_succ]
      go_simp
      exact hK _ _ (gen_val HI.out hus hbs 5 _ _ (by show 5 < 16; decide) (fit_of rfl) rfl hb0 rfl (Below.refl _ _) (by simp only [puts, setAll, List.set_cons_zero, List.set_cons_succ, List.setIfInBounds_toArray]))
    refine Steps.cons rfl (fun bb aa w' hbs hb0 hbp hI K hK => ?_) ?_
    · obtain ⟨us, hus, ha, hI⟩ := hI
      obtain ⟨u0, u1, u2, u3, u4, u5, u6, u7, u8, u9, u10, u11, u12, u13, u14, u15, rfl⟩ := lenA16 hus
      have e5 : u5 = (.pointer (some ⟨h, 0, none⟩)) := hI.val 5 _ rfl (gen_after 5 (by kernel_rfl) hbp)
      subst e5
      have hch := hI.below
      have c0 := HC.out.2.1 w' hch
      clear hch
      have HI := Veil.mk hI
      clear hI
      rw [ha]
      simp only [puts, setAll, List.setIfInBounds_toArray, List.set_cons_zero, List.set_cons_succ]
      go_simp
      exact hK _ _ (gen_val HI.out hus hbs 6 _ _ (by show 6 < 16; decide) (fit_of rfl) rfl hb0 rfl (Below.refl _ _) (by simp only [puts, setAll, List.set_cons_zero, List.set_cons_succ, List.setIfInBounds_toArray]))
    refine Steps.cons rfl (fun bb aa w' hbs hb0 hbp hI K hK => ?_) ?_
    · obtain ⟨us, hus, ha, hI⟩ := hI
      obtain ⟨u0, u1, u2, u3, u4, u5, u6, u7, u8, u9, u10, u11, u12, u13, u14, u15, rfl⟩ := lenA16 hus
      have hch := hI.below
      obtain ⟨c0, c1, c2⟩ := HC.out.2.2.1 w' hch
      clear hch
      have HI := Veil.mk hI
      clear hI
      rw [ha]
      simp only [puts, setAll, List.setIfInBounds_toArray, List.set_cons_zero, List.set_cons_succ]
      go_simp
      exact hK _ _ (gen_val HI.out hus hbs 7 _ _ (by show 7 < 16; decide) (fit_of rfl) rfl hb0 rfl (Below.refl _ _) (by simp only [puts, setAll, List.set_cons_zero, List.set_cons_succ, List.setIfInBounds_toArray]))
    refine Steps.cons rfl (fun bb aa w' hbs hb0 hbp hI K hK => ?_) ?_
    · obtain ⟨us, hus, ha, hI⟩ := hI
      obtain ⟨u0, u1, u2, u3, u4, u5, u6, u7, u8, u9, u10, u11, u12, u13, u14, u15, rfl⟩ := lenA16 hus
      have e7 : u7 = valV v := hI.val 7 _ rfl (gen_after 7 (by kernel_rfl) hbp)
      subst e7
      have hch := hI.below
      have HX9 := Veil.mk (HRF.out w')
      clear hch
      have HI := Veil.mk hI
      clear hI
      rw [ha]
      simp only [puts, setAll, List.setIfInBounds_toArray, List.set_cons_zero, List.set_cons_succ]
      go_simp
      go_at_call 48
      refine HX9.out.mono ?_
      rintro e9 w9 ⟨rfl, hb9⟩
      go_simp
      exact hK _ _ (gen_val HI.out hus hbs 8 _ _ (by show 8 < 16; decide) (fit_of rfl) rfl hb0 rfl hb9 (by simp only [puts, setAll, List.set_cons_zero, List.set_cons_succ, List.setIfInBounds_toArray]))
    refine Steps.cons rfl (fun bb aa w' hbs hb0 hbp hI K hK => ?_) ?_
    · obtain ⟨us, hus, ha, hI⟩ := hI
      obtain ⟨u0, u1, u2, u3, u4, u5, u6, u7, u8, u9, u10, u11, u12, u13, u14, u15, rfl⟩ := lenA16 hus
      have e6 : u6 = (.pointer (some ⟨A, 0, none⟩)) := hI.val 6 _ rfl (gen_after 6 (by kernel_rfl) hbp)
      subst e6
      have e8 : u8 = .int .i64 v.2.1 := hI.val 8 _ rfl (gen_after 8 (by kernel_rfl) hbp)
      subst e8
      have hch := hI.below
      have HX9 := Veil.mk (HGT.out w' (HBF.out.trans (hch.mono HBF.out.size)))
      clear hch
      have HI := Veil.mk hI
      clear hI
      rw [ha]
      simp only [puts, setAll, List.setIfInBounds_toArray, List.set_cons_zero, List.set_cons_succ]
      go_simp
      go_at_call 58
      refine HX9.out.mono ?_
      rintro e9 w9 ⟨rfl, hb9⟩
      go_simp
      exact hK _ _ (gen_val HI.out hus hbs 9 _ _ (by show 9 < 16; decide) (fit_of rfl) rfl hb0 rfl hb9 (by simp only [puts, setAll, List.set_cons_zero, List.set_cons_succ, List.setIfInBounds_toArray]))
    refine Steps.cons rfl (fun bb aa w' hbs hb0 hbp hI K hK => ?_) ?_
    · obtain ⟨us, hus, ha, hI⟩ := hI
      obtain ⟨u0, u1, u2, u3, u4, u5, u6, u7, u8, u9, u10, u11, u12, u13, u14, u15, rfl⟩ := lenA16 hus
      have e9 : u9 = (.iface 139 (.pointer (some ⟨g, 0, none⟩))) := hI.val 9 _ rfl (gen_after 9 (by kernel_rfl) hbp)
      subst e9
      have HI := Veil.mk hI
      clear hI
      rw [ha]
      simp only [puts, setAll, List.setIfInBounds_toArray, List.set_cons_zero, List.set_cons_succ]
      go_simp
      exact hK _ _ (gen_val HI.out hus hbs 10 _ _ (by show 10 < 16; decide) (fit_of rfl) rfl hb0 rfl (Below.refl _ _) (by simp only [puts, setAll, List.set_cons_zero, List.set_cons_succ, List.setIfInBounds_toArray, if_true]; rfl))
    refine Steps.cons rfl (fun bb aa w' hbs hb0 hbp hI K hK => ?_) ?_
    · obtain ⟨us, hus, ha, hI⟩ := hI
      obtain ⟨u0, u1, u2, u3, u4, u5, u6, u7, u8, u9, u10, u11, u12, u13, u14, u15, rfl⟩ := lenA16 hus
      have e10 : u10 = (.tuple #[(.pointer (some ⟨g, 0, none⟩)), .bool true]) := hI.val 10 _ rfl (gen_after 10 (by kernel_rfl) hbp)
      subst e10
      have HI := Veil.mk hI
      clear hI
      rw [ha]
      simp only [puts, setAll, List.setIfInBounds_toArray, List.set_cons_zero, List.set_cons_succ]
      go_simp
      exact hK _ _ (gen_val HI.out hus hbs 11 _ _ (by show 11 < 16; decide) (fit_of rfl) rfl hb0 rfl (Below.refl _ _) (by simp only [puts, setAll, List.set_cons_zero, List.set_cons_succ, List.setIfInBounds_toArray]))
    refine Steps.cons rfl (fun bb aa w' hbs hb0 hbp hI K hK => ?_) ?_
    · obtain ⟨us, hus, ha, hI⟩ := hI
      obtain ⟨u0, u1, u2, u3, u4, u5, u6, u7, u8, u9, u10, u11, u12, u13, u14, u15, rfl⟩ := lenA16 hus
      have e11 : u11 = (.tuple #[(.pointer (some ⟨g, 0, none⟩)), .bool true]) := hI.val 11 _ rfl (gen_after 11 (by kernel_rfl) hbp)
      subst e11
      have HI := Veil.mk hI
      clear hI
      rw [ha]
      simp only [puts, setAll, List.setIfInBounds_toArray, List.set_cons_zero, List.set_cons_succ]
      go_simp
      exact hK _ _ (gen_val HI.out hus hbs 12 _ _ (by show 12 < 16; decide) (fit_of rfl) rfl hb0 rfl (Below.refl _ _) (by simp only [puts, setAll, List.set_cons_zero, List.set_cons_succ, List.setIfInBounds_toArray]))
    refine Steps.cons rfl (fun bb aa w' hbs hb0 hbp hI K hK => ?_) ?_
    · obtain ⟨us, hus, ha, hI⟩ := hI
      obtain ⟨u0, u1, u2, u3, u4, u5, u6, u7, u8, u9, u10, u11, u12, u13, u14, u15, rfl⟩ := lenA16 hus
      have e11 : u11 = (.tuple #[(.pointer (some ⟨g, 0, none⟩)), .bool true]) := hI.val 11 _ rfl (gen_after 11 (by kernel_rfl) hbp)
      subst e11
      have HI := Veil.mk hI
      clear hI
      rw [ha]
      simp only [puts, setAll, List.setIfInBounds_toArray, List.set_cons_zero, List.set_cons_succ]
      go_simp
      exact hK _ _ (gen_val HI.out hus hbs 13 _ _ (by show 13 < 16; decide) (fit_of rfl) rfl hb0 rfl (Below.refl _ _) (by simp only [puts, setAll, List.set_cons_zero, List.set_cons_succ, List.setIfInBounds_toArray]))
    refine Steps.cons rfl (fun bb aa w' hbs hb0 hbp hI K hK => ?_) ?_
    · obtain ⟨us, hus, ha, hI⟩ := hI
      obtain ⟨u0, u1, u2, u3, u4, u5, u6, u7, u8, u9, u10, u11, u12, u13, u14, u15, rfl⟩ := lenA16 hus
      have e12 : u12 = (.pointer (some ⟨g, 0, none⟩)) := hI.val 12 _ rfl (gen_after 12 (by kernel_rfl) hbp)
      subst e12
      have HI := Veil.mk hI
      clear hI
      rw [ha]
      simp only [puts, setAll, List.setIfInBounds_toArray, List.set_cons_zero, List.set_cons_succ]
      go_simp
      exact hK _ _ (gen_val HI.out hus hbs 14 _ _ (by show 14 < 16; decide) (fit_of rfl) rfl hb0 rfl (Below.refl _ _) (by simp only [puts, setAll, List.set_cons_zero, List.set_cons_succ, List.setIfInBounds_toArray]))
    refine Steps.cons rfl (fun bb aa w' hbs hb0 hbp hI K hK => ?_) ?_
    · obtain ⟨us, hus, ha, hI⟩ := hI
      obtain ⟨u0, u1, u2, u3, u4, u5, u6, u7, u8, u9, u10, u11, u12, u13, u14, u15, rfl⟩ := lenA16 hus
      have e13 : u13 = .bool true := hI.val 13 _ rfl (gen_after 13 (by kernel_rfl) hbp)
      subst e13
      have HI := Veil.mk hI
      clear hI
      rw [ha]
      simp only [puts, setAll, List.setIfInBounds_toArray, List.set_cons_zero, List.set_cons_succ]
      go_simp
      exact hK _ _ (gen_val HI.out hus hbs 15 _ _ (by show 15 < 16; decide) (fit_of rfl) rfl hb0 rfl (Below.refl _ _) (by simp only [puts, setAll, List.set_cons_zero, List.set_cons_succ, List.setIfInBounds_toArray]))
    exact Steps.nil
  · intro us wE hus dd hD2 hJ
    obtain ⟨p0, p1, p2, p3, p4, p5, p6, p7, p8, p9, p10, p11, p12, p13, p14, p15, rfl⟩ := lenA16 hus
    have hbE := hJ.below
    have e0 : p0 = (.pointer (some ⟨m, 0, none⟩)) := hJ.val 0 _ rfl (hD2 0 (by show 0 < 16; decide))
    subst e0
    have e1 : p1 = (.pointer (some ⟨m, 0, none⟩)) := hJ.val 1 _ rfl (hD2 1 (by show 1 < 16; decide))
    subst e1
    have e2 : p2 = (.pointer (some ⟨m, 0, none⟩)) := hJ.val 2 _ rfl (hD2 2 (by show 2 < 16; decide))
    subst e2
    have e3 : p3 = (.pointer (some ⟨h, 0, none⟩)) := hJ.val 3 _ rfl (hD2 3 (by show 3 < 16; decide))
    subst e3
    have e4 : p4 = (.pointer (some ⟨h, 0, none⟩)) := hJ.val 4 _ rfl (hD2 4 (by show 4 < 16; decide))
    subst e4
    have e5 : p5 = (.pointer (some ⟨h, 0, none⟩)) := hJ.val 5 _ rfl (hD2 5 (by show 5 < 16; decide))
    subst e5
    have e6 : p6 = (.pointer (some ⟨A, 0, none⟩)) := hJ.val 6 _ rfl (hD2 6 (by show 6 < 16; decide))
    subst e6
    have e7 : p7 = valV v := hJ.val 7 _ rfl (hD2 7 (by show 7 < 16; decide))
    subst e7
    have e8 : p8 = .int .i64 v.2.1 := hJ.val 8 _ rfl (hD2 8 (by show 8 < 16; decide))
    subst e8
    have e9 : p9 = (.iface 139 (.pointer (some ⟨g, 0, none⟩))) := hJ.val 9 _ rfl (hD2 9 (by show 9 < 16; decide))
    subst e9
    have e10 : p10 = (.tuple #[(.pointer (some ⟨g, 0, none⟩)), .bool true]) := hJ.val 10 _ rfl (hD2 10 (by show 10 < 16; decide))
    subst e10
    have e11 : p11 = (.tuple #[(.pointer (some ⟨g, 0, none⟩)), .bool true]) := hJ.val 11 _ rfl (hD2 11 (by show 11 < 16; decide))
    subst e11
    have e12 : p12 = (.pointer (some ⟨g, 0, none⟩)) := hJ.val 12 _ rfl (hD2 12 (by show 12 < 16; decide))
    subst e12
    have e13 : p13 = .bool true := hJ.val 13 _ rfl (hD2 13 (by show 13 < 16; decide))
    subst e13
    have e14 : p14 = (.pointer (some ⟨g, 0, none⟩)) := hJ.val 14 _ rfl (hD2 14 (by show 14 < 16; decide))
    subst e14
    have e15 : p15 = .bool true := hJ.val 15 _ rfl (hD2 15 (by show 15 < 16; decide))
    subst e15
    clear hJ hD2
    obtain ⟨d0, d2⟩ := HC.out.2.2.2 wE hbE
    have HE := Veil.mk hbE
    clear hbE
    simp only [puts, setAll, List.setIfInBounds_toArray, List.set_cons_zero, List.set_cons_succ]
    go_wp2_with (go_at_call 16; ((with_reducible refine (HG.out _).mono ?_); rintro e w9 ⟨rfl, hb9⟩; have HB9 := Veil.mk hb9; clear hb9))
    go_ret
    exact ⟨rfl, (HBF.out.trans (HE.out.mono HBF.out.size)).trans (HB9.out.mono (Nat.le_trans HBF.out.size HE.out.size))⟩
set_option maxHeartbeats 1000000 in
set_option maxRecDepth 100000 in
theorem within_sym (W : World) (mv av : Value) (v : Vt) (hx : v.1 = 8) (r : ByteArray) (HG : Veil (∀ W', Below W.heap.size W W' → Calls Tryz.prog 60 #[mv, valV v] W' fun e w' => e = .returned (.string r) ∧ Below W'.heap.size W' w')) : Calls Tryz.prog 28 #[mv, valV v, av] W fun e w' => e = .returned (.string r) ∧ Below W.heap.size W w' := by
  have b1 := Box.new W 30 #[.int .i64 v.1, .int .i64 v.2.1, .string v.2.2]
  have bb : Below W.heap.size W (W.alloc (.cells #[.int .i64 v.1, .int .i64 v.2.1, .string v.2.2] 30)) := (Below.refl _ _).alloc (Nat.le_refl _) _
  obtain ⟨kb, hkb⟩ : ∃ kb, W.heap.size = kb := ⟨_, rfl⟩
  obtain ⟨W0, hW0⟩ : ∃ W0, W.alloc (.cells #[.int .i64 v.1, .int .i64 v.2.1, .string v.2.2] 30) = W0 := ⟨_, rfl⟩
  rw [hW0] at b1 bb
  have HW0 := Veil.mk (And.intro hW0 hkb)
  rw [hkb] at b1
  have HBB := Veil.mk (And.intro bb b1)
  have x0 : W0.cell? ⟨kb, 0, none⟩ = some (.int .i64 v.1) := b1.at_ 0
  have x1 : W0.cell? ⟨kb, 1, none⟩ = some (.int .i64 v.2.1) := b1.at_ 1
  have x2 : W0.cell? ⟨kb, 2, none⟩ = some (.string v.2.2) := b1.at_ 2
  clear hW0 hkb b1 bb
  have HG := Veil.mk (HG.out W0 HBB.out.1)
  have e7 : (v.1 == 7) = false := by rw [hx]; rfl
  have e10 : (v.1 == 10) = false := by rw [hx]; rfl
  have e8 : (v.1 == 8) = true := by rw [hx]; rfl
  clear hx
  go_enter Tryz.func28, Tryz.ntmps28
  go_upto_region 1 with (fail)
  rw [HW0.out.1, HW0.out.2]
  go_wp2_with (go_at_call 60; ((with_reducible refine HG.out.mono ?_); rintro e w9 ⟨rfl, hb9⟩; have HB9 := Veil.mk hb9; clear hb9))
  go_ret
  exact ⟨rfl, HBB.out.1.trans (HB9.out.mono HBB.out.1.size)⟩
end Go.Proofs.YtgdkjkfbknbgkaaGreatDoor
namespace Go.Proofs.YtgdkjkfbknbgkaaGreatDoor
open Go Go.RowKit
attribute [local go_sem] Oper.semAt_some

abbrev markB (e : Nat) : Bd := (139, e)
theorem HpAt.on {w w' : World} {B h A : Nat} {cv fv rv : Value} {d : AD} (hp : HpAt w B h A cv fv rv d) (hb : Below w.heap.size w w') : HpAt w' B h A cv fv rv d := ⟨hp.hb.below hb, hp.ar.on hb, hp.hB⟩
theorem hp_make {w : World} {B h A : Nat} {cv fv rv : Value} {d : AD} (hp : HpAt w B h A cv fv rv d) (nb : Bd) (hf : d.free = []) (hc : d.count < 1000000) (hl : d.cells.length < 1000000) :
    Calls Tryz.prog 33 #[.pointer (some ⟨A, 0, none⟩), nodeV nb] w fun e w' => e = .returned (.int .i64 ((d.cells.length : Int) + 1)) ∧ Touch (AFoot A cv fv rv) w w' ∧ ∃ cv' fv' rv', HpAt w' B h A cv' fv' rv' ⟨d.cells ++ [some nb], [], d.count + 1, d.roots⟩ ∧ ∀ k, AFoot A cv' fv' rv' k → AFoot A cv fv rv k ∨ w.heap.size ≤ k := by
  have em : d.mk2 nb = (⟨d.cells ++ [some nb], d.free, d.count + 1, d.roots⟩, d.cells.length + 1) := by
    unfold AD.mk2
    rw [hf]
    rfl
  refine (make_new B A cv fv rv d nb w hp.ar hf (by omega) hl).mono ?_
  rintro e w' ⟨h1, cv', fv', rv', p1, p2, p3⟩
  rw [em] at h1 p1
  rw [hf] at p1
  exact ⟨h1, p2, cv', fv', rv', ⟨hp.hb.touch p2 (AFoot.lab hp.ar hp.hb.lab (by decide) (by decide) (by decide)), p1, hp.hB⟩, p3⟩
def SySt (B h A : Nat) (cv fv rv : Value) (d : AD) (x : Vt) (WD : World) : Nat → (Nat → Value) → World → Prop
  | 0 => fun _ w => w = WD
  | 1 => fun _ w => w = WD.alloc (.cells #[.int .i64 x.1, .int .i64 x.2.1, .string x.2.2] 141)
  | _ => fun _ w' => Box w' WD.heap.size 141 #[.int .i64 x.1, .int .i64 x.2.1, .string x.2.2] ∧ Touch (AFoot A cv fv rv) WD w' ∧ ∃ cv' fv' rv', HpAt w' B h A cv' fv' rv' ⟨d.cells ++ [some (markB WD.heap.size)], [], d.count + 1, d.roots⟩ ∧ ∀ k, AFoot A cv' fv' rv' k → AFoot A cv fv rv k ∨ WD.heap.size ≤ k
theorem SySt.below {B h A : Nat} {cv fv rv : Value} {d : AD} {x : Vt} {WD w : World} {s : Nat} {f : Nat → Value} (hs : s ≤ 1) (hst : SySt B h A cv fv rv d x WD s f w) : Below WD.heap.size WD w := by
  match s, hs, hst with
  | 0, _, hst => rw [show w = WD from hst]; exact Below.refl _ _
  | 1, _, hst => rw [show w = WD.alloc _ from hst]; exact (Below.refl _ _).alloc (Nat.le_refl _) _
theorem symbol_mk (r : Int) (w : World) : Calls Tryz.prog 59 #[.int .i64 r] w fun e w' => e = .returned (valV (8, r, ⟨#[]⟩)) ∧ Below w.heap.size w w' := by
  obtain ⟨vb, hvb⟩ : ∃ vb, w.heap.size = vb := ⟨_, rfl⟩
  obtain ⟨W0, hW0⟩ : ∃ W0, w.alloc (.cells #[.int .i64 0, .int .i64 0, .string ⟨#[]⟩] 30) = W0 := ⟨_, rfl⟩
  have b1 := Box.new w 30 #[.int .i64 0, .int .i64 0, .string ⟨#[]⟩]
  have bb : Below w.heap.size w (w.alloc (.cells #[.int .i64 0, .int .i64 0, .string ⟨#[]⟩] 30)) := (Below.refl _ _).alloc (Nat.le_refl _) _
  rw [hW0] at b1 bb
  rw [hvb] at b1 bb ⊢
  have HW0 := Veil.mk (And.intro hW0 hvb)
  have HBB := Veil.mk (And.intro bb b1)
  have z0 : W0.cell? ⟨vb, 0, none⟩ = some (.int .i64 0) := b1.at_ 0
  have z1 : W0.cell? ⟨vb, 1, none⟩ = some (.int .i64 0) := b1.at_ 1
  have z2 : W0.cell? ⟨vb, 2, none⟩ = some (.string ⟨#[]⟩) := b1.at_ 2
  have f0 := b1.free 0
  have f1 := b1.free 1
  have f2 := b1.free 2
  clear hW0 hvb b1 bb
  go_enter Tryz.func59, Tryz.ntmps59
  go_upto_region 1 with (fail)
  rw [HW0.out.1, HW0.out.2]
  go_wp2
  have hr3 := ((HBB.out.2.put 0 (.int .i64 8)).put 1 (.int .i64 r)).put 2 (.string ⟨#[]⟩)
  have y0 := hr3.at_ 0
  have y1 := hr3.at_ 1
  have y2 := hr3.at_ 2
  exact bodyPost_ret (v := valV (8, r, ⟨#[]⟩)) (by simp [results, Tryz.results59, go_sem, y0, y1, y2]) rfl ⟨rfl, ((HBB.out.1.setCell (p := ⟨vb, 0, none⟩) (Nat.le_refl _) _).setCell (p := ⟨vb, 1, none⟩) (Nat.le_refl _) _).setCell (p := ⟨vb, 2, none⟩) (Nat.le_refl _) _⟩
set_option maxHeartbeats 4000000 in
set_option maxRecDepth 100000 in
theorem symbol_any {w : World} {B h A : Nat} {cv fv rv : Value} {d : AD} (hp : HpAt w B h A cv fv rv d) (hf : d.free = []) (hc : d.count < 1000000) (hl : d.cells.length < 1000000) (x : Vt) :
    Calls Tryz.prog 27 #[.pointer (some ⟨h, 0, none⟩), valV x] w fun e w' => e = .returned (valV (8, (d.cells.length : Int) + 1, ⟨#[]⟩)) ∧ Touch (fun k => AFoot A cv fv rv k ∨ w.heap.size ≤ k) w w' ∧ ∃ m, w.heap.size ≤ m ∧ Box w' m 141 #[.int .i64 x.1, .int .i64 x.2.1, .string x.2.2] ∧ ∃ cv' fv' rv', HpAt w' B h A cv' fv' rv' ⟨d.cells ++ [some (markB m)], [], d.count + 1, d.roots⟩ ∧ ∀ k, AFoot A cv' fv' rv' k → AFoot A cv fv rv k ∨ w.heap.size ≤ k := by
  obtain ⟨kb, hkb⟩ : ∃ kb, w.heap.size = kb := ⟨_, rfl⟩
  obtain ⟨vb, hvb⟩ : ∃ vb, kb + 1 = vb := ⟨_, rfl⟩
  have b1 := (Box.new w 30 #[.int .i64 x.1, .int .i64 x.2.1, .string x.2.2]).more (.cells #[.int .i64 0, .int .i64 0, .string ⟨#[]⟩] 30)
  have b2 := Box.new (w.alloc (.cells #[.int .i64 x.1, .int .i64 x.2.1, .string x.2.2] 30)) 30 #[.int .i64 0, .int .i64 0, .string ⟨#[]⟩]
  have bb : Below w.heap.size w ((w.alloc (.cells #[.int .i64 x.1, .int .i64 x.2.1, .string x.2.2] 30)).alloc (.cells #[.int .i64 0, .int .i64 0, .string ⟨#[]⟩] 30)) := ((Below.refl _ _).alloc (Nat.le_refl _) _).alloc (by simp) _
  rw [World.size_alloc] at b2
  obtain ⟨W0, hW0⟩ : ∃ W0, ((w.alloc (.cells #[.int .i64 x.1, .int .i64 x.2.1, .string x.2.2] 30)).alloc (.cells #[.int .i64 0, .int .i64 0, .string ⟨#[]⟩] 30)) = W0 := ⟨_, rfl⟩
  rw [hW0] at b1 b2 bb
  have HW0 := Veil.mk (And.intro hW0 (And.intro hkb hvb))
  rw [hkb] at b1 b2
  rw [hvb] at b2
  have HB0 := Veil.mk (And.intro bb (And.intro b1 b2))
  have HPO := Veil.mk hp
  have HDD := Veil.mk (And.intro hf (And.intro hc hl))
  clear hp hf b1 b2 bb hW0 hkb hvb
  go_enter Tryz.func27, Tryz.ntmps27
  go_upto_region 1 with (fail)
  rw [HW0.out.1, HW0.out.2.1, HW0.out.2.2]
  go_upto_region 3 with (fail)
  obtain ⟨WD, hWD⟩ : ∃ WD, W0.drew = WD := ⟨_, rfl⟩
  have hbd : Below w.heap.size w WD := by rw [← hWD]; exact HB0.out.1.drew
  have HPD : Veil (HpAt WD B h A cv fv rv d) := ⟨HPO.out.on hbd⟩
  have HKB : Veil (Box WD kb 30 #[.int .i64 x.1, .int .i64 x.2.1, .string x.2.2]) := ⟨by rw [← hWD]; exact HB0.out.2.1.drew⟩
  have HVB : Veil (Box WD vb 30 #[.int .i64 0, .int .i64 0, .string ⟨#[]⟩]) := ⟨by rw [← hWD]; exact HB0.out.2.2.drew⟩
  have HBD := Veil.mk hbd
  have HWD := Veil.mk hWD
  clear hbd hWD HB0
  refine wp_region_chain ([some (· = .pointer (some ⟨h, 0, none⟩)), some (· = .pointer (some ⟨h, 0, none⟩)), some (· = .pointer (some ⟨h, 0, none⟩)), some (· = .pointer (some ⟨A, 0, none⟩)), some (· = valV x), some (· = valV x), some (· = .pointer (some ⟨WD.heap.size, 0, none⟩)), some (· = nodeV (markB WD.heap.size)), some (· = .int .i64 ((d.cells.length : Int) + 1)), some (· = .int .i64 ((d.cells.length : Int) + 1))] : List (Option (Value → Prop))) (LPh [6, 8] (SySt B h A cv fv rv d x WD)) [some 9, some 10, some 11, some 12, some 13, some 14, some 15, some 16, some 17, some 5] (curV' _ [some 9, some 10, some 11, some 12, some 13, some 14, some 15, some 16, some 17, some 5]) (by kernel_rfl) rfl rfl (puts_cur _ _) (LPh.start (show W0.drew = WD from HWD.out)) ?_ (by kernel_rfl) ?_
  · refine Steps.cons rfl (fun bb aa w' hbs hb0 hbp hI K hK => ?_) ?_
    · obtain ⟨us, hus, ha, hI⟩ := hI
      obtain ⟨u0, u1, u2, u3, u4, u5, u6, u7, u8, u9, rfl⟩ := len10 hus
      have HI := Veil.mk hI
      clear hI
      rw [ha]
      simp only [puts, setAll, List.setIfInBounds_toArray, List.set_cons_zero, List.set_cons_succ]
      go_simp
      exact hK _ _ (chain_step HI.out hus hbs 0 _ (by show 0 < 10; decide) rfl hbp (val_of rfl rfl) (HI.out.ph.step 0 _ (by decide) (by decide)) (by simp only [puts, setAll, List.set_cons_zero, List.set_cons_succ, List.setIfInBounds_toArray]))
    refine Steps.cons rfl (fun bb aa w' hbs hb0 hbp hI K hK => ?_) ?_
    · obtain ⟨us, hus, ha, hI⟩ := hI
      obtain ⟨u0, u1, u2, u3, u4, u5, u6, u7, u8, u9, rfl⟩ := len10 hus
      have e0 : u0 = .pointer (some ⟨h, 0, none⟩) := hI.val 0 _ rfl (gen_after 0 (by kernel_rfl) hbp)
      subst e0
      have HI := Veil.mk hI
      clear hI
      rw [ha]
      simp only [puts, setAll, List.setIfInBounds_toArray, List.set_cons_zero, List.set_cons_succ]
      go_simp
      exact hK _ _ (chain_step HI.out hus hbs 1 _ (by show 1 < 10; decide) rfl hbp (val_of rfl rfl) (HI.out.ph.step 1 _ (by decide) (by decide)) (by simp only [puts, setAll, List.set_cons_zero, List.set_cons_succ, List.setIfInBounds_toArray]))
    refine Steps.cons rfl (fun bb aa w' hbs hb0 hbp hI K hK => ?_) ?_
    · obtain ⟨us, hus, ha, hI⟩ := hI
      obtain ⟨u0, u1, u2, u3, u4, u5, u6, u7, u8, u9, rfl⟩ := len10 hus
      have e1 : u1 = .pointer (some ⟨h, 0, none⟩) := hI.val 1 _ rfl (gen_after 1 (by kernel_rfl) hbp)
      subst e1
      have HI := Veil.mk hI
      clear hI
      rw [ha]
      simp only [puts, setAll, List.setIfInBounds_toArray, List.set_cons_zero, List.set_cons_succ]
      go_simp
      exact hK _ _ (chain_step HI.out hus hbs 2 _ (by show 2 < 10; decide) rfl hbp (val_of rfl rfl) (HI.out.ph.step 2 _ (by decide) (by decide)) (by simp only [puts, setAll, List.set_cons_zero, List.set_cons_succ, List.setIfInBounds_toArray]))
    refine Steps.cons rfl (fun bb aa w' hbs hb0 hbp hI K hK => ?_) ?_
    · obtain ⟨us, hus, ha, hI⟩ := hI
      obtain ⟨u0, u1, u2, u3, u4, u5, u6, u7, u8, u9, rfl⟩ := len10 hus
      have e2 : u2 = .pointer (some ⟨h, 0, none⟩) := hI.val 2 _ rfl (gen_after 2 (by kernel_rfl) hbp)
      subst e2
      have h8 := hI.before 8 3 rfl (by kernel_rfl) hb0
      obtain ⟨sg, hsg, hstg⟩ := hI.ph.le 1 8 rfl h8
      have hbl := SySt.below hsg hstg
      have c0 : w'.cell? ⟨h, 0, none⟩ = some (.pointer (some ⟨A, 0, none⟩)) := (HPD.out.hb.below hbl).at_ 0
      clear hstg hbl
      have HI := Veil.mk hI
      clear hI h8
      rw [ha]
      simp only [puts, setAll, List.setIfInBounds_toArray, List.set_cons_zero, List.set_cons_succ]
      go_simp
      exact hK _ _ (chain_step HI.out hus hbs 3 _ (by show 3 < 10; decide) rfl hbp (val_of rfl rfl) (HI.out.ph.step 3 _ (by decide) (by decide)) (by simp only [puts, setAll, List.set_cons_zero, List.set_cons_succ, List.setIfInBounds_toArray]))
    refine Steps.cons rfl (fun bb aa w' hbs hb0 hbp hI K hK => ?_) ?_
    · obtain ⟨us, hus, ha, hI⟩ := hI
      obtain ⟨u0, u1, u2, u3, u4, u5, u6, u7, u8, u9, rfl⟩ := len10 hus
      have h5 := hI.before 5 4 rfl (by kernel_rfl) hb0
      have h6 := hI.before 6 5 rfl (by kernel_rfl) h5
      have hst := hI.ph.at_ 0 6 rfl h6 (.inl rfl)
      clear h6 h5
      have c0 : w'.cell? ⟨kb, 0, none⟩ = some (.int .i64 x.1) := by rw [show w' = WD from hst]; exact HKB.out.at_ 0
      have c1 : w'.cell? ⟨kb, 1, none⟩ = some (.int .i64 x.2.1) := by rw [show w' = WD from hst]; exact HKB.out.at_ 1
      have c2 : w'.cell? ⟨kb, 2, none⟩ = some (.string x.2.2) := by rw [show w' = WD from hst]; exact HKB.out.at_ 2
      have HI := Veil.mk hI
      clear hI
      rw [ha]
      simp only [puts, setAll, List.setIfInBounds_toArray, List.set_cons_zero, List.set_cons_succ]
      go_simp
      exact hK _ _ (chain_step HI.out hus hbs 4 _ (by show 4 < 10; decide) rfl hbp (val_of rfl rfl) (HI.out.ph.step 4 _ (by decide) (by decide)) (by simp only [puts, setAll, List.set_cons_zero, List.set_cons_succ, List.setIfInBounds_toArray]))
    refine Steps.cons rfl (fun bb aa w' hbs hb0 hbp hI K hK => ?_) ?_
    · obtain ⟨us, hus, ha, hI⟩ := hI
      obtain ⟨u0, u1, u2, u3, u4, u5, u6, u7, u8, u9, rfl⟩ := len10 hus
      have e4 : u4 = valV x := hI.val 4 _ rfl (gen_after 4 (by kernel_rfl) hbp)
      subst e4
      have HI := Veil.mk hI
      clear hI
      rw [ha]
      simp only [puts, setAll, List.setIfInBounds_toArray, List.set_cons_zero, List.set_cons_succ]
      go_simp
      exact hK _ _ (chain_step HI.out hus hbs 5 _ (by show 5 < 10; decide) rfl hbp (val_of rfl rfl) (HI.out.ph.step 5 _ (by decide) (by decide)) (by simp only [puts, setAll, List.set_cons_zero, List.set_cons_succ, List.setIfInBounds_toArray]))
    refine Steps.cons rfl (fun bb aa w' hbs hb0 hbp hI K hK => ?_) ?_
    · obtain ⟨us, hus, ha, hI⟩ := hI
      obtain ⟨u0, u1, u2, u3, u4, u5, u6, u7, u8, u9, rfl⟩ := len10 hus
      have e5 : u5 = valV x := hI.val 5 _ rfl (gen_after 5 (by kernel_rfl) hbp)
      subst e5
      have hst := hI.ph.at_ 0 6 rfl hb0 (.inl rfl)
      have HST := Veil.mk (show w' = WD from hst)
      clear hst
      have HI := Veil.mk hI
      clear hI
      rw [ha]
      simp only [puts, setAll, List.setIfInBounds_toArray, List.set_cons_zero, List.set_cons_succ]
      go_simp
      exact hK _ _ (chain_step HI.out hus hbs 6 (.pointer (some ⟨w'.heap.size, 0, none⟩)) (by show 6 < 10; decide) rfl hbp (val_of rfl (by rw [HST.out])) (HI.out.ph.next 0 6 _ rfl hb0 (.inl rfl) (by decide) (show _ = WD.alloc (.cells #[.int .i64 x.1, .int .i64 x.2.1, .string x.2.2] 141) by rw [HST.out])) (by simp only [puts, setAll, List.set_cons_zero, List.set_cons_succ, List.setIfInBounds_toArray]))
    refine Steps.cons rfl (fun bb aa w' hbs hb0 hbp hI K hK => ?_) ?_
    · obtain ⟨us, hus, ha, hI⟩ := hI
      obtain ⟨u0, u1, u2, u3, u4, u5, u6, u7, u8, u9, rfl⟩ := len10 hus
      have e6 : u6 = .pointer (some ⟨WD.heap.size, 0, none⟩) := hI.val 6 _ rfl (gen_after 6 (by kernel_rfl) hbp)
      subst e6
      have HI := Veil.mk hI
      clear hI
      rw [ha]
      simp only [puts, setAll, List.setIfInBounds_toArray, List.set_cons_zero, List.set_cons_succ]
      go_simp
      exact hK _ _ (chain_step HI.out hus hbs 7 _ (by show 7 < 10; decide) rfl hbp (val_of rfl rfl) (HI.out.ph.step 7 _ (by decide) (by decide)) (by simp only [puts, setAll, List.set_cons_zero, List.set_cons_succ, List.setIfInBounds_toArray]))
    refine Steps.cons rfl (fun bb aa w' hbs hb0 hbp hI K hK => ?_) ?_
    · obtain ⟨us, hus, ha, hI⟩ := hI
      obtain ⟨u0, u1, u2, u3, u4, u5, u6, u7, u8, u9, rfl⟩ := len10 hus
      have e3 : u3 = .pointer (some ⟨A, 0, none⟩) := hI.val 3 _ rfl (gen_after 3 (by kernel_rfl) hbp)
      subst e3
      have e7 : u7 = nodeV (markB WD.heap.size) := hI.val 7 _ rfl (gen_after 7 (by kernel_rfl) hbp)
      subst e7
      have HB6 := hI.back 7 6 rfl (by kernel_rfl) (gen_after 7 (by kernel_rfl) hbp)
      have hst := hI.ph.at_ 1 8 rfl hb0 (.inr ⟨6, rfl, HB6⟩)
      have HST := Veil.mk (show w' = WD.alloc (.cells #[.int .i64 x.1, .int .i64 x.2.1, .string x.2.2] 141) from hst)
      have hal : Below WD.heap.size WD w' := by rw [HST.out]; exact (Below.refl _ _).alloc (Nat.le_refl _) _
      have HM := Veil.mk (hp_make (HPD.out.on hal) (markB WD.heap.size) HDD.out.1 HDD.out.2.1 HDD.out.2.2)
      have HAL := Veil.mk hal
      have hbx1 : Box w' WD.heap.size 141 #[.int .i64 x.1, .int .i64 x.2.1, .string x.2.2] := by rw [HST.out]; exact Box.new _ _ _
      have HBX1 := Veil.mk (And.intro hbx1 (HPD.out.on HAL.out).ar)
      clear hbx1
      clear hst hal
      have HI := Veil.mk hI
      clear hI
      rw [ha]
      simp only [puts, setAll, List.setIfInBounds_toArray, List.set_cons_zero, List.set_cons_succ]
      go_simp
      go_at_call 33
      refine HM.out.mono ?_
      rintro e9 w9 ⟨rfl, ht9, cv9, fv9, rv9, hp9, ho9⟩
      go_simp
      exact hK _ _ (chain_step HI.out hus hbs 8 (.int .i64 ((d.cells.length : Int) + 1)) (by show 8 < 10; decide) rfl hbp (val_of rfl rfl) (HI.out.ph.next 1 8 _ rfl hb0 (.inr ⟨6, rfl, HB6⟩) (by decide) ⟨HBX1.out.1.touch ht9 (AFoot.lab HBX1.out.2 HBX1.out.1.lab (by decide) (by decide) (by decide)), (Touch.of_below HAL.out).trans ht9, cv9, fv9, rv9, hp9, fun k hk => (ho9 k hk).imp id (fun h => Nat.le_trans HAL.out.size h)⟩) (by simp only [puts, setAll, List.set_cons_zero, List.set_cons_succ, List.setIfInBounds_toArray]))
    refine Steps.cons rfl (fun bb aa w' hbs hb0 hbp hI K hK => ?_) ?_
    · obtain ⟨us, hus, ha, hI⟩ := hI
      obtain ⟨u0, u1, u2, u3, u4, u5, u6, u7, u8, u9, rfl⟩ := len10 hus
      have e8 : u8 = .int .i64 ((d.cells.length : Int) + 1) := hI.val 8 _ rfl (gen_after 8 (by kernel_rfl) hbp)
      subst e8
      have HI := Veil.mk hI
      clear hI
      rw [ha]
      simp only [puts, setAll, List.setIfInBounds_toArray, List.set_cons_zero, List.set_cons_succ]
      go_simp
      exact hK _ _ (chain_step HI.out hus hbs 9 _ (by show 9 < 10; decide) rfl hbp (val_of rfl rfl) (HI.out.ph.step 9 _ (by decide) (by decide)) (by simp only [puts, setAll, List.set_cons_zero, List.set_cons_succ, List.setIfInBounds_toArray]))
    exact Steps.nil
  · intro us w9 hus dd hD2 hJ
    obtain ⟨p0, p1, p2, p3, p4, p5, p6, p7, p8, p9, rfl⟩ := len10 hus
    have q1 := hJ.ph.all (fun c hc => hD2 c (by
      have : c = 6 ∨ c = 8 := by simpa using hc
      show c < 10
      omega))
    obtain ⟨hx9, ht9, cv9, fv9, rv9, hp9, ho9⟩ := q1
    have e9 : p9 = .int .i64 ((d.cells.length : Int) + 1) := hJ.val 9 _ rfl (hD2 9 (by show 9 < 10; decide))
    subst e9
    have hvb9 := HVB.out.touch ht9 (AFoot.lab HPD.out.ar HVB.out.lab (by decide) (by decide) (by decide))
    have HV9 := Veil.mk hvb9
    have hne : (((d.cells.length : Int) + 1) == 0) = false := beq_eq_false_iff_ne.2 (by omega)
    have HSM := Veil.mk (fun w => symbol_mk ((d.cells.length : Int) + 1) w)
    have HF9 := Veil.mk (And.intro ht9 (And.intro hp9 ho9))
    have HX9 := Veil.mk hx9
    clear hJ hD2 ht9 hp9 ho9 hvb9 hx9
    simp only [puts, setAll, List.set_cons_zero, List.set_cons_succ, List.setIfInBounds_toArray]
    go_wp2_with (go_at_call 59; ((with_reducible refine (HSM.out _).mono ?_); rintro e w8 ⟨rfl, hb8⟩; have HV8 := Veil.mk (HV9.out.below hb8); have f0 := HV8.out.free 0; have f1 := HV8.out.free 1; have f2 := HV8.out.free 2; have z0 : w8.cell? ⟨vb, 0, none⟩ = some (.int .i64 0) := HV8.out.at_ 0; have z1 : w8.cell? ⟨vb, 1, none⟩ = some (.int .i64 0) := HV8.out.at_ 1; have z2 : w8.cell? ⟨vb, 2, none⟩ = some (.string ⟨#[]⟩) := HV8.out.at_ 2; have HB8 := Veil.mk hb8; clear hb8))
    obtain ⟨ht9, hp9, ho9⟩ := HF9.out
    have hp8 := hp9.on HB8.out
    have hr3 := ((HV8.out.put 0 (.int .i64 8)).put 1 (.int .i64 ((d.cells.length : Int) + 1))).put 2 (.string ⟨#[]⟩)
    have t3 : Touch (fun k => k = vb) w8 (((w8.setCell ⟨vb, 0, none⟩ (.int .i64 8)).setCell ⟨vb, 1, none⟩ (.int .i64 ((d.cells.length : Int) + 1))).setCell ⟨vb, 2, none⟩ (.string ⟨#[]⟩)) := ((Touch.put (S := fun k => k = vb) rfl _ _).trans (Touch.put (S := fun k => k = vb) rfl _ _)).trans (Touch.put (S := fun k => k = vb) rfl _ _)
    have hvk : w.heap.size ≤ vb := by have := HW0.out.2.1; have := HW0.out.2.2; omega
    have lv := HV8.out.lab
    have y0 := hr3.at_ 0
    have y1 := hr3.at_ 1
    have y2 := hr3.at_ 2
    have hfin : Touch (fun k => AFoot A cv fv rv k ∨ w.heap.size ≤ k) w (((w8.setCell ⟨vb, 0, none⟩ (.int .i64 8)).setCell ⟨vb, 1, none⟩ (.int .i64 ((d.cells.length : Int) + 1))).setCell ⟨vb, 2, none⟩ (.string ⟨#[]⟩)) := ((((Touch.of_below HBD.out).trans ht9).trans (Touch.of_below HB8.out)).mono (fun k hk => .inl hk)).trans (t3.mono (fun k hk => .inr (by rw [hk]; exact hvk)))
    exact bodyPost_ret (v := valV (8, (d.cells.length : Int) + 1, ⟨#[]⟩)) (by simp [results, Tryz.results27, go_sem, y0, y1, y2]) rfl ⟨rfl, hfin, WD.heap.size, HBD.out.size, (HX9.out.below HB8.out).touch t3 (fun e => (HX9.out.below HB8.out).lab.ne lv (by decide) e), cv9, fv9, rv9, ⟨hp8.hb.touch t3 (fun e => hp8.hb.lab.ne lv (by decide) e), hp8.ar.touch t3 (fun k hk e => AFoot.lab hp8.ar lv (by decide) (by decide) (by decide) (by rw [← e]; exact hk)), hp8.hB⟩, fun k hk => (ho9 k hk).imp id (fun h => Nat.le_trans HBD.out.size h)⟩
namespace Y
/-- A new symbol. -/
theorem MM.symbol {W : World} {h A m : Nat} {f : Nat → Int} {os : List OS} (H : MM W h A m f os) (x : Vt) (hl : os.length < 1000000) : Calls Tryz.prog 27 #[.pointer (some ⟨h, 0, none⟩), valV x] W fun e w' => e = .returned (valV (8, (os.length : Int) + 1, ⟨#[]⟩)) ∧ ∃ b, MM w' h A m f (os ++ [(b, #[.int .i64 x.1, .int .i64 x.2.1, .string x.2.2])]) ∧ Below A W w' ∧ Kp arT W w' ∧ Kq A W w' := by
  obtain ⟨⟨cv, fv, rv, hp⟩, mb, ob, am, al, nd⟩ := H
  refine (symbol_any hp rfl (by show os.length < _; omega) (by rw [List.length_map]; omega) x).mono ?_
  rintro e w' ⟨he, ht0, b, hb, hbo, cv', fv', rv', hp', hF⟩
  rw [show (⟨os.map fun o => some (pty o, o.1), [], os.length, []⟩ : AD).cells.length = os.length from List.length_map ..] at he
  have ht : Touch (AFoot A cv fv rv) W w' := ⟨ht0.os, ht0.tape, ht0.output, ht0.size, fun k hk hn => ht0.block k hk (fun h9 => h9.elim hn (fun h8 => by omega))⟩
  have keep : ∀ b (t : TypeId) cs, Box W b t cs → t ≠ 155 → t ≠ 137 → t ≠ 3 → Box w' b t cs := fun b t cs hx e1 e2 e3 => hx.touch ht (AFoot.lab hp.ar hx.lab e1 e2 e3)
  refine ⟨he, b, ⟨⟨cv', fv', rv', ?_⟩, keep _ _ _ mb (by decide) (by decide) (by decide), fun o ho => ?_, am, fun o ho => ?_, ?_⟩, ht.below (Nat.le_of_lt (Nat.lt_of_le_of_lt hp.ar.ha hp.ar.box.lt)) (fun k hk => (AFoot.lt hp.ar hk).1), fun k t hl ht2 => ht.block k (lab_lt hl) (AFoot.lab hp.ar hl (fun e => (by subst e; cases ht2)) (fun e => (by subst e; cases ht2)) (fun e => (by subst e; cases ht2))), ⟨fun k hk hn => ht.block k hk (fun h9 => hn ((FO.of hp.ar k).2 h9)), fun k hk => (hF k ((FO.of hp'.ar k).1 hk)).imp (FO.of hp.ar k).2 id, ht.size⟩⟩
  · rw [List.map_append, List.length_append]
    exact hp'
  · rcases List.mem_append.1 ho with h9 | h9
    · exact keep _ _ _ (ob o h9) (oty_a o) (oty_b o) (oty_c o)
    · rw [List.mem_singleton.1 h9]
      exact hbo
  · rcases List.mem_append.1 ho with h9 | h9
    · exact al o h9
    · rw [List.mem_singleton.1 h9]
      exact Nat.le_trans am (Nat.le_trans (Nat.le_of_lt mb.lt) hb)
  · rw [List.map_append, List.nodup_append]
    refine ⟨nd, by simp, fun x hx y hy e => ?_⟩
    obtain ⟨o, ho, rfl⟩ := List.mem_map.1 hx
    have := (ob o ho).lt
    have : y = b := by simpa using hy
    omega
/-- The cell of a symbol. -/
theorem MM.get {W : World} {h A m : Nat} {f : Nat → Int} {os : List OS} (H : MM W h A m f os) (i : Nat) (o : OS) (ho : os[i]? = some o) : Calls Tryz.prog 58 #[.pointer (some ⟨A, 0, none⟩), .int .i64 ((i : Int) + 1)] W fun e w' => e = .returned (.iface (pty o) (.pointer (some ⟨o.1, 0, none⟩))) ∧ w' = W := by
  obtain ⟨⟨cv, fv, rv, hp⟩, mb, ob, am, al, nd⟩ := H
  refine (get_any A A cv fv rv _ ((i : Int) + 1) W hp.ar).mono ?_
  rintro e w' ⟨he, hw⟩
  refine ⟨he.trans ?_, hw⟩
  have hi : i < os.length := (List.getElem?_eq_some_iff.1 ho).1
  unfold AD.get
  rw [if_pos ⟨by omega, by show (i : Int) + 1 ≤ ((os.map _).length : Nat); rw [List.length_map]; omega⟩, show ((i : Int) + 1 - 1).toNat = i by omega]
  show Ending.returned (bodyV ((os.map _)[i]?.getD none)) = _
  rw [List.getElem?_map, ho]
  rfl
end Y
end Go.Proofs.YtgdkjkfbknbgkaaGreatDoor
