/- ArenaKeeps: many roots pushed at once; light; what a list of steps reads as. -/
import Derived.Test.YtkkbfadfgdjkdaaKa
namespace Go.Proofs.Ytkkbfadfgdjkdaa
open Go Go.RowKit

theorem wpList_append_nil {P : Program} (w : World) {ops : Array Oper} {rest : List Oper} {o : Oper} {a : Act} {Q : Exit → Act → World → Prop} (hgd : o.guard = none) (s x : Operand) (t : TypeId)
    (ho : o.op = .call { callee := .builtin .append, args := #[s, x], argTypes := #[t, t] })
    (e : TypeId) (i : TypeInfo) (z : Value) (size bytes : Nat) (ht : P.underlying t = some (.slice e)) (hi : P.info? e = some i) (hz : i.zero = some z)
    (hsize : i.size = size) (hby : i.bytes = bytes) (hzs : z.cells.size = size) (hsz : 0 < size)
    (A n : Nat) (v : Value) (cs : List Value) (hs : a.eval s = .slice none 0 0) (hx : a.eval x = v) (hr : Rd w A v n size cs) (h1 : ∀ u ∈ cs, u.oneCell' = true) (h63 : n ≤ maxLen) (hbytes : n * bytes ≤ 140737488355328)
    (h : ∀ v' w', Below w.heap.size w w' → w'.ownsRow w.heap.size e size v' n cs → wpList P ops Q rest (a.put o.dst v') w') : wpList P ops Q (o :: rest) a w :=
  wpList_plain hgd fun _ hK => wp_append_nil w s x t ho e i z size bytes ht hi hz hsize hby hzs hsz A n v cs hs hx hr h1 h63 hbytes fun v' w' h2 h3 => hK _ _ (h v' w' h2 h3)
set_option maxHeartbeats 2000000 in
set_option maxRecDepth 100000 in
theorem push_many (B A A0 : Nat) (cv fv : Value) (d : AD) (v : Value) (l : List Int) (w : World) (h : ArAt w B A cv fv (.slice none 0 0) d) (hv : Rd w A0 v l.length 1 (intsV l)) (hl : l.length ≤ 1000) :
    Calls Try.prog 11 #[.pointer (some ⟨A, 0, none⟩), v] w fun e w' => e = .returned (.tuple #[]) ∧ ArPost B A { d with roots := l } (AFoot A cv fv (.slice none 0 0)) w w' := by
  obtain ⟨i0, hi, hz0, hz1, hz2⟩ := info_parts Try.infoI
  have hv0 := hv
  obtain ⟨_, sa, sc, rfl, _⟩ := hv
  have d0 : w.cell? ⟨A, 3, none⟩ = some (.slice none 0 0) := h.box.at_ 3
  have hBs : B ≤ w.heap.size := by have := h.ha; have := h.box.lt; omega
  have H := Veil.mk h
  clear h
  go_enter Try.func11, Try.ntmps11
  go_wp2_with (at_builtin; go_loud (refine wpList_append_nil _ rfl _ _ 22 rfl 3 i0 (.int .i64 0) 1 8 Try.underlying22 hi hz0 hz1 hz2 rfl (by decide) A0 l.length _ (intsV l) rfl rfl hv0 (intsV_one l) (by unfold maxLen; omega) (by omega) ?_); intro v3 w3 hb3 ho3; have hx3 := H.out.box.below hb3; have e12 : w3.cell? ⟨A, 3, none⟩ = some (.slice none 0 0) := hx3.at_ 3; have e13 := hx3.free 3; obtain ⟨a3, c3, e3, -⟩ := slice_own ho3; subst e3; refine Hid.out ?_)
  have c3' := own_below H.out.co hb3
  have f3 := own_below H.out.fo hb3
  have tp : Touch (fun k => k = A) w3 (w3.setCell ⟨A, 3, none⟩ (.slice a3 l.length c3)) := Touch.put (S := fun k => k = A) rfl _ _
  have hnew := own_touch (own_monoB ho3 hBs) tp (fun k hk e => ((own_lab ho3 k hk).ne hx3.lab (by decide)) e)
  have hD : ArPost B A { d with roots := l } (AFoot A cv fv (.slice none 0 0)) w (w3.setCell ⟨A, 3, none⟩ (.slice a3 l.length c3)) := by
    refine ⟨_, _, _, ⟨hx3.put 3 _, own_touch c3' tp (fun k hk e => ((own_lab c3' k hk).ne hx3.lab (by decide)) e), own_touch f3 tp (fun k hk e => ((own_lab f3 k hk).ne hx3.lab (by decide)) e), hnew, fun k hk hk2 => ?_, H.out.ha⟩, (Touch.of_below hb3).trans (tp.mono (fun k hk => .inl hk)), fun k hk => ?_⟩
    · have h1 := (own_lt H.out.fo k hk).2
      have h2 := (own_lt ho3 k hk2).1
      omega
    · rcases hk with hk | hk | hk | hk
      · exact .inl (.inl hk)
      · exact .inl (.inr (.inl hk))
      · exact .inl (.inr (.inr (.inl hk)))
      · exact .inr (own_lt ho3 k hk).1
  have HD := Veil.mk hD
  clear hD tp hnew c3' f3 ho3 hb3 hx3
  refine Lib.hid ?_
  go_wp2
  exact bodyPost_end (results_none rfl _ _ _) rfl ⟨rfl, HD.out⟩
/-- A step as it reads. -/
structure SI where
  k : Int
  s1 : Value
  s2 : Value
  s3 : Value
  L : List Int
  T : List (Int × Int)
  G : List Int
  n : Int
/-- A slice value reads as these steps. -/
structure StA (w : World) (A : Nat) (a : Option Addr) (n : Nat) (l : List SI) : Prop where
  len : l.length = n
  cells : 0 < n → ∃ b o, a = some ⟨b, o, none⟩ ∧ b < A ∧ ∀ (i : Nat) s, l[i]? = some s → w.cell? ⟨b, o + i * 5, none⟩ = some (.int .i64 s.k) ∧ w.cell? ⟨b, o + i * 5 + 1, none⟩ = some s.s1 ∧ w.cell? ⟨b, o + i * 5 + 2, none⟩ = some s.s2 ∧ w.cell? ⟨b, o + i * 5 + 3, none⟩ = some s.s3 ∧ w.cell? ⟨b, o + i * 5 + 4, none⟩ = some (.int .i64 s.n)
  rd : ∀ s ∈ l, Rd w A s.s1 s.L.length 1 (intsV s.L) ∧ Rd w A s.s2 s.T.length 2 (flat2 s.T) ∧ Rd w A s.s3 s.G.length 1 (intsV s.G) ∧ s.L.length ≤ 1000000000000000 ∧ s.T.length ≤ 1000000000000000 ∧ s.G.length ≤ 1000000000000000 ∧ ∀ q ∈ s.T, -9223372036854775808 ≤ q.2 ∧ q.2 ≤ 9223372036854775807
theorem StA.on {w w' : World} {A : Nat} {a : Option Addr} {n : Nat} {l : List SI} (h : StA w A a n l) (hb : Below A w w') : StA w' A a n l :=
  ⟨h.len, fun hn => by
    obtain ⟨b, o, e, hlt, hc⟩ := h.cells hn
    refine ⟨b, o, e, hlt, fun i s hi => ?_⟩
    obtain ⟨c0, c1, c2, c3, c4⟩ := hc i s hi
    have f : ∀ j, w'.cell? ⟨b, j, none⟩ = w.cell? ⟨b, j, none⟩ := fun j => hb.cell (p := ⟨b, j, none⟩) hlt
    rw [f, f, f, f, f]
    exact ⟨c0, c1, c2, c3, c4⟩, fun s hs => by
    obtain ⟨r1, r2, r3, r4⟩ := h.rd s hs
    exact ⟨r1.on hb, r2.on hb, r3.on hb, r4⟩⟩
set_option maxHeartbeats 4000000 in
set_option maxRecDepth 100000 in
theorem light_any (a : Option Addr) (n c : Nat) (l : List SI) (w : World) (h : StA w w.heap.size a n l) :
    Calls Try.prog 15 #[.slice a n c] w fun e w' => ∃ v, e = .returned (.bool v) ∧ Below w.heap.size w w' ∧ (v = true → n ≤ 200 ∧ ∀ s ∈ l, s.L.length ≤ 2000 ∧ s.T.length ≤ 2000 ∧ s.G.length ≤ 2000) := by
  have HS := Veil.mk h
  clear h
  by_cases hbig : 200 < n
  · have hbig' : (200 : Int) < (n : Int) := by omega
    go_enter Try.func15, Try.ntmps15
    go_wp2
    go_ret
    exact ⟨false, rfl, Below.refl _ _, fun h => by cases h⟩
  have hbig' : ¬ (200 : Int) < (n : Int) := by omega
  go_enter Try.func15, Try.ntmps15
  go_upto_region 5 with (fail)
  go_loopw [3, 11] (fun sv iv wr => ∃ k S : Nat, k ≤ n ∧ S ≤ 2000 ∧ sv = .int .i64 (S : Int) ∧ iv = .int .i64 (k : Int) ∧ Below w.heap.size w wr ∧ ∀ (i : Nat) s, i < k → l[i]? = some s → s.L.length ≤ 2000 ∧ s.T.length ≤ 2000 ∧ s.G.length ≤ 2000) (fun _ i _ => n - (intOf i).toNat)
  case atStart => exact ⟨0, 0, Nat.zero_le _, Nat.zero_le _, rfl, rfl, Below.refl _ _, fun i s hi => by omega⟩
  case round =>
    obtain ⟨k, S, hk, hS, rfl, rfl, hb, hl⟩ := hrel
    have hk0 : (0 : Int) ≤ (k : Int) := by omega
    have hkb : (k : Int) ≤ 200 := by omega
    have hS0 : (0 : Int) ≤ (S : Int) := by omega
    have hSb : (S : Int) ≤ 2000 := by omega
    by_cases hlt : k < n
    · have hlt' : (k : Int) < (n : Int) := by omega
      obtain ⟨s, hs⟩ : ∃ s, l[k]? = some s := ⟨_, List.getElem?_eq_getElem (by rw [HS.out.len]; exact hlt)⟩
      obtain ⟨b, o, rfl, hbl, hc⟩ := (HS.out.on hb).cells (by omega)
      obtain ⟨c0, c1, c2, c3, c4⟩ := hc k s hs
      obtain ⟨⟨_, a1, k1, e1, _⟩, ⟨_, a2, k2, e2, _⟩, ⟨_, a3, k3, e3, _⟩, m1, m2, m3, _⟩ := HS.out.rd s (List.mem_of_getElem? hs)
      rw [e1] at c1
      rw [e2] at c2
      rw [e3] at c3
      obtain ⟨x1, hx1⟩ : ∃ x, s.L.length = x := ⟨_, rfl⟩
      obtain ⟨x2, hx2⟩ : ∃ x, s.T.length = x := ⟨_, rfl⟩
      obtain ⟨x3, hx3⟩ : ∃ x, s.G.length = x := ⟨_, rfl⟩
      obtain ⟨sk, hsk⟩ : ∃ x, s.k = x := ⟨_, rfl⟩
      obtain ⟨sn, hsn⟩ : ∃ x, s.n = x := ⟨_, rfl⟩
      rw [hx1] at c1 m1
      rw [hx2] at c2 m2
      rw [hx3] at c3 m3
      rw [hsk] at c0
      rw [hsn] at c4
      have q1 : (0 : Int) ≤ (x1 : Int) := by omega
      have q2 : (0 : Int) ≤ (x2 : Int) := by omega
      have q3 : (0 : Int) ≤ (x3 : Int) := by omega
      have m1' : (x1 : Int) ≤ 1000000000000000 := by omega
      have m2' : (x2 : Int) ≤ 1000000000000000 := by omega
      have m3' : (x3 : Int) ≤ 1000000000000000 := by omega
      have hB2 : Below w.heap.size w (wr.alloc (.cells #[.int .i64 sk, .slice a1 x1 k1, .slice a2 x2 k2, .slice a3 x3 k3, .int .i64 sn] 48)) := hb.alloc hb.size _
      have HB := Veil.mk hB2
      have HL := Veil.mk (And.intro hl (And.intro hs (And.intro hx1 (And.intro hx2 hx3))))
      clear hl hs hx1 hx2 hx3 hsk hsn hb hc e1 e2 e3 hB2 hbl
      by_cases hbg : 2000 < S + (x1 + x2 + x3)
      · have hbg' : (2000 : Int) < (S : Int) + ((x1 : Int) + (x2 : Int) + (x3 : Int)) := by omega
        go_wp2
        go_ret
        exact ⟨false, rfl, HB.out, fun h => by cases h⟩
      · have hbg' : ¬ (2000 : Int) < (S : Int) + ((x1 : Int) + (x2 : Int) + (x3 : Int)) := by omega
        go_wp2
        go_round
        case rel =>
          refine ⟨k + 1, S + (x1 + x2 + x3), by omega, by omega, by go_num, by go_num, HB.out, fun i s' hi hs' => ?_⟩
          obtain ⟨hl, hs, e1, e2, e3⟩ := HL.out
          rcases Nat.lt_or_ge i k with h | h
          · exact hl i s' h hs'
          · obtain rfl : i = k := by omega
            rw [hs] at hs'
            injection hs' with hs'
            subst hs'
            omega
        case measure => simp [intOf]; omega
    · obtain rfl : k = n := by omega
      have hlt' : ¬ (k : Int) < (k : Int) := by omega
      have HB := Veil.mk (And.intro hb hl)
      clear hb hl
      go_wp2
      go_ret
      refine .inr ⟨rfl, HB.out.1, by omega, fun s hs => ?_⟩
      obtain ⟨i, hi, he⟩ := List.getElem_of_mem hs
      exact HB.out.2 i s (by rw [← HS.out.len]; exact hi) (by rw [← he]; exact List.getElem?_eq_getElem hi)
end Go.Proofs.Ytkkbfadfgdjkdaa
