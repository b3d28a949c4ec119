/- Package arena: how an arena lies in memory. -/
import Derived.Test.YtgdkjkfbknbgkaaGreatDoorFa
namespace Go.Proofs.YtgdkjkfbknbgkaaGreatDoor
open Go Go.RowKit

theorem own_put {w : World} {B g n cap : Nat} {e : TypeId} {xs : List Value} (h : w.ownsRow B e 1 (.slice (some ⟨g, 0, none⟩) n cap) n xs) (i : Nat) (u : Value) : (w.setCell ⟨g, i, none⟩ u).ownsRow B e 1 (.slice (some ⟨g, 0, none⟩) n cap) n (xs.set i u) := by
  refine ⟨by rw [List.length_set]; exact h.1, ?_⟩
  rcases h.2 with ⟨h1, _⟩ | ⟨g', cap', cur, h1, h2, h3, h4, h5, h6, h7⟩
  · cases h1
  · cases h1
    refine .inr ⟨g, cap, cur.setIfInBounds i u, rfl, h2, ?_, h4, h5, by rw [Array.size_setIfInBounds]; exact h6, ?_⟩
    · show (w.heap.modify g _)[g]? = _
      simp [Array.getElem?_modify, h3]
    · rw [Array.toList_setIfInBounds, List.take_set, h7]
theorem Box.drew {w : World} {g : Nat} {t : TypeId} {cs : Array Value} (h : Box w g t cs) : Box w.drew g t cs := h
theorem own_drew {w : World} {base : Nat} {e : TypeId} {size : Nat} {v : Value} {n : Nat} {xs : List Value} (h : w.ownsRow base e size v n xs) : w.drew.ownsRow base e size v n xs := h
theorem cells_drew {w : World} {a : Addr} {cs : List Value} (h : ∀ j u, cs[j]? = some u → w.cell? (a.add j) = some u) : ∀ j u, cs[j]? = some u → w.drew.cell? (a.add j) = some u := h
theorem news_at (w : World) (n : Nat) (hn : w.heap.size = n) (cs : List Value) (t : TypeId) : ∀ j u, cs[j]? = some u → (w.alloc (.cells cs.toArray t)).cell? ((⟨n, 0, none⟩ : Addr).add j) = some u := by subst hn; exact cells_new w cs t

theorem own_free {w : World} {B g n cap size : Nat} {e : TypeId} {xs : List Value} (h : w.ownsRow B e size (.slice (some ⟨g, 0, none⟩) n cap) n xs) (i : Nat) : w.frozen? ⟨g, i, none⟩ = false := by
  rcases h.2 with ⟨h1, _⟩ | ⟨g', cap', cur, h1, h2, h3, _⟩
  · cases h1
  · cases h1
    simp [World.frozen?, h3]
def Lab (w : World) (k : Nat) (e : TypeId) : Prop := ∃ cs fr, w.heap[k]? = some (.cells cs e fr)
theorem Lab.ne {w : World} {k k' : Nat} {e e' : TypeId} (h : Lab w k e) (h' : Lab w k' e') (he : e ≠ e') : k ≠ k' := by
  rintro rfl
  obtain ⟨cs, fr, h⟩ := h
  obtain ⟨cs', fr', h'⟩ := h'
  rw [h] at h'
  injection h' with h'
  injection h' with _ h'
  exact he h'
theorem Box.lab {w : World} {g : Nat} {t : TypeId} {cs : Array Value} (h : Box w g t cs) : Lab w g t := ⟨cs, _, h⟩
theorem own_lab {w : World} {B n size : Nat} {v : Value} {xs : List Value} {e : TypeId} (h : w.ownsRow B e size v n xs) : ∀ k, v.ownBlock = some k → Lab w k e := fun k hk => by
  rcases h.2 with ⟨rfl, _⟩ | ⟨g, cap, cur, rfl, _, hc, _⟩
  · cases hk
  · cases hk; exact ⟨cur, _, hc⟩
theorem own_lt {w : World} {B n size : Nat} {v : Value} {xs : List Value} {e : TypeId} (h : w.ownsRow B e size v n xs) : ∀ k, v.ownBlock = some k → B ≤ k ∧ k < w.heap.size := fun k hk => h.lt k hk
theorem slice_own {w : World} {B n size : Nat} {v : Value} {xs : List Value} {e : TypeId} (h : w.ownsRow B e size v n xs) : ∃ ao cap, v = .slice ao n cap ∧ n ≤ cap ∧ (0 < n → ∃ g, ao = some ⟨g, 0, none⟩) ∧ cap ≤ maxLen := by
  rcases h.2 with ⟨rfl, h0⟩ | ⟨g, cap, cur, rfl, _, _, hc, hm, _⟩
  · exact ⟨none, 0, by rw [h0], by omega, fun h => by omega, by unfold maxLen; omega⟩
  · exact ⟨_, cap, rfl, hc, fun _ => ⟨g, rfl⟩, hm⟩
theorem own_take {w : World} {B g n cap m : Nat} {e : TypeId} {xs : List Value} (h : w.ownsRow B e 1 (.slice (some ⟨g, 0, none⟩) n cap) n xs) (hm : m ≤ n) : w.ownsRow B e 1 (.slice (some ⟨g, 0, none⟩) m cap) m (xs.take m) := by
  refine ⟨by rw [List.length_take, h.1]; omega, ?_⟩
  rcases h.2 with ⟨h1, _⟩ | ⟨g', cap', cur, h1, h2, h3, h4, h5, h6, h7⟩
  · cases h1
  · cases h1
    refine .inr ⟨g, cap, cur, rfl, h2, h3, by omega, h5, h6, ?_⟩
    rw [← h7, List.take_take]
    congr 1
    omega
theorem Below.lab {w w' : World} {k : Nat} {e : TypeId} (h : Lab w k e) (hk : k < w.heap.size) (hb : Below w.heap.size w w') : Lab w' k e := by
  obtain ⟨cs, fr, h⟩ := h
  exact ⟨cs, fr, (hb.block k hk).trans h⟩
theorem own_below {w w' : World} {B n size : Nat} {v : Value} {xs : List Value} {e : TypeId} (h : w.ownsRow B e size v n xs) (hb : Below w.heap.size w w') : w'.ownsRow B e size v n xs := own_touch h (Touch.of_below (S := fun _ => False) hb) (fun _ _ h => h)
theorem Box.below {w w' : World} {g : Nat} {t : TypeId} {cs : Array Value} (h : Box w g t cs) (hb : Below w.heap.size w w') : Box w' g t cs := h.on hb h.lt
/-- A slice value reads as these numbers. -/
def Ints (w : World) (a : Option Addr) (n : Nat) (l : List Int) : Prop := l.length = n ∧ (0 < n → ∃ b o, a = some ⟨b, o, none⟩ ∧ b < w.heap.size ∧ Lab w b 3 ∧ ∀ i, i < n → w.cell? ⟨b, o + i, none⟩ = some (.int .i64 (l[i]?.getD 0)))
theorem cell_touch {S : Nat → Prop} {w w' : World} {b o : Nat} (ht : Touch S w w') (hb : b < w.heap.size) (hn : ¬ S b) : w'.cell? ⟨b, o, none⟩ = w.cell? ⟨b, o, none⟩ := by
  have h := ht.block b hb hn
  simp only [World.cell?, h]
theorem Ints.touch {S : Nat → Prop} {w w' : World} {a : Option Addr} {n : Nat} {l : List Int} (h : Ints w a n l) (ht : Touch S w w') (hn : ∀ b o, a = some ⟨b, o, none⟩ → ¬ S b) : Ints w' a n l :=
  ⟨h.1, fun hp => by
    obtain ⟨b, o, e, hlt, ⟨cs, fr, hl⟩, hc⟩ := h.2 hp
    exact ⟨b, o, e, by have := ht.size; omega, ⟨cs, fr, (ht.block b hlt (hn b o e)).trans hl⟩, fun i hi => by rw [cell_touch ht hlt (hn b o e)]; exact hc i hi⟩⟩
theorem Ints.on {w w1 : World} {a : Option Addr} {n : Nat} {l : List Int} (h : Ints w a n l) (hb : Below w.heap.size w w1) : Ints w1 a n l := h.touch (S := fun _ => False) (Touch.of_below hb) (fun _ _ _ h => h)
theorem Ints.nil (w : World) : Ints w none 0 [] := ⟨rfl, fun h => by omega⟩
abbrev numsV (l : List Nat) : List Value := l.map fun (r : Nat) => .int .i64 (r : Int)
abbrev intsV (l : List Int) : List Value := l.map fun r => .int .i64 r
/-- A body: a node's block, or none. -/
abbrev Bd := TypeId × Nat
def bodyV (o : Option Bd) : Value := match o with | none => .nilIface | some nb => .iface nb.1 (.pointer (some ⟨nb.2, 0, none⟩))
/-- What an arena has. -/
structure AD where
  cells : List (Option Bd)
  free : List Nat
  count : Nat
  roots : List Int
structure ArAt (w : World) (B A : Nat) (cv fv rv : Value) (d : AD) : Prop where
  box : Box w A 155 #[cv, fv, .int .i64 (d.count : Int), rv]
  co : w.ownsRow B 137 1 cv d.cells.length (d.cells.map bodyV)
  fo : w.ownsRow B 3 1 fv d.free.length (numsV d.free)
  ro : w.ownsRow B 3 1 rv d.roots.length (intsV d.roots)
  ap : ∀ k, fv.ownBlock = some k → rv.ownBlock ≠ some k
  ha : B ≤ A
/-- An arena's own blocks. -/
def AFoot (A : Nat) (cv fv rv : Value) (k : Nat) : Prop := k = A ∨ cv.ownBlock = some k ∨ fv.ownBlock = some k ∨ rv.ownBlock = some k
theorem ArAt.touch {w w' : World} {B A : Nat} {cv fv rv : Value} {d : AD} {S : Nat → Prop} (h : ArAt w B A cv fv rv d) (ht : Touch S w w') (hn : ∀ k, AFoot A cv fv rv k → ¬ S k) : ArAt w' B A cv fv rv d :=
  ⟨h.box.touch ht (hn A (.inl rfl)), own_touch h.co ht (fun k hk => hn k (.inr (.inl hk))), own_touch h.fo ht (fun k hk => hn k (.inr (.inr (.inl hk)))), own_touch h.ro ht (fun k hk => hn k (.inr (.inr (.inr hk)))), h.ap, h.ha⟩
theorem ArAt.on {w w' : World} {B A : Nat} {cv fv rv : Value} {d : AD} (h : ArAt w B A cv fv rv d) (hb : Below w.heap.size w w') : ArAt w' B A cv fv rv d := h.touch (S := fun _ => False) (Touch.of_below hb) (fun _ _ h => h)
theorem AFoot.lt {w : World} {B A : Nat} {cv fv rv : Value} {d : AD} (h : ArAt w B A cv fv rv d) {k : Nat} (hk : AFoot A cv fv rv k) : B ≤ k ∧ k < w.heap.size := by
  rcases hk with rfl | hk | hk | hk
  · exact ⟨h.ha, h.box.lt⟩
  · exact own_lt h.co k hk
  · exact own_lt h.fo k hk
  · exact own_lt h.ro k hk
/-- How an arena lies behind a call: F is what was its own before. -/
def ArPost (B A : Nat) (d : AD) (F : Nat → Prop) (w w' : World) : Prop := ∃ cv fv rv, ArAt w' B A cv fv rv d ∧ Touch F w w' ∧ ∀ k, AFoot A cv fv rv k → F k ∨ w.heap.size ≤ k
theorem cell_body {w : World} {B A : Nat} {cv fv rv : Value} {d : AD} (h : ArAt w B A cv fv rv d) (i : Nat) (hi : i < d.cells.length) : ∃ g cap, cv = .slice (some ⟨g, 0, none⟩) d.cells.length cap ∧ w.cell? ⟨g, i, none⟩ = some (bodyV (d.cells[i]?.getD none)) := by
  obtain ⟨ao, cap, rfl, hcap, hg, -⟩ := slice_own h.co
  obtain ⟨g, rfl⟩ := hg (by omega)
  refine ⟨g, cap, rfl, ?_⟩
  rw [h.co.cellAt i (by omega), List.getElem?_map, List.getElem?_eq_getElem hi]
  rfl
theorem len_le {w : World} {B n size : Nat} {v : Value} {xs : List Value} {e : TypeId} (h : w.ownsRow B e size v n xs) : n ≤ maxLen := by
  obtain ⟨ao, cap, rfl, hcap, hg, hm⟩ := slice_own h
  omega
set_option maxRecDepth 100000 in
theorem body_nil (o : Option Bd) (w : World) : (binOp .eql 137 (bodyV o) .nilIface).run Tryz.prog w = .ok (.bool o.isNone) w := by
  cases o <;> rfl
set_option maxRecDepth 100000 in
theorem body_nnil (o : Option Bd) (w : World) : (binOp .neq 137 (bodyV o) .nilIface).run Tryz.prog w = .ok (.bool (!o.isNone)) w := by
  cases o <;> rfl
/-! New, Count, Depth, Get -/
abbrev emptyD : AD := ⟨[], [], 0, []⟩
set_option maxRecDepth 100000 in
theorem new_any (w : World) : Calls Tryz.prog 91 #[] w fun e w' => e = .returned (.pointer (some ⟨w.heap.size, 0, none⟩)) ∧ Below w.heap.size w w' ∧ w.heap.size < w'.heap.size ∧ ArAt w' w.heap.size w.heap.size (.slice none 0 0) (.slice none 0 0) (.slice none 0 0) emptyD := by
  have hb : Below w.heap.size w (w.alloc (.cells #[.slice none 0 0, .slice none 0 0, .int .i64 0, .slice none 0 0] 155)) := (Below.refl _ _).alloc (Nat.le_refl _) _
  have bx := Box.new w 155 #[.slice none 0 0, .slice none 0 0, .int .i64 0, .slice none 0 0]
  go_enter Tryz.func91, Tryz.ntmps91
  go_wp2
  go_ret
  exact ⟨rfl, hb, bx.lt, ⟨bx, ⟨rfl, .inl ⟨rfl, rfl⟩⟩, ⟨rfl, .inl ⟨rfl, rfl⟩⟩, ⟨rfl, .inl ⟨rfl, rfl⟩⟩, (fun k hk => by cases hk), Nat.le_refl _⟩⟩
set_option maxRecDepth 100000 in
theorem count_any (B A : Nat) (cv fv rv : Value) (d : AD) (w : World) (h : ArAt w B A cv fv rv d) : Calls Tryz.prog 114 #[.pointer (some ⟨A, 0, none⟩)] w fun e w' => e = .returned (.int .i64 (d.count : Int)) ∧ w' = w := by
  have c2 : w.cell? ⟨A, 2, none⟩ = some (.int .i64 (d.count : Int)) := h.box.at_ 2
  clear h
  go_enter Tryz.func114, Tryz.ntmps114
  go_wp2
  go_ret
  exact ⟨rfl, rfl⟩
/-- The cell of a number. -/
def AD.get (d : AD) (r : Int) : Option Bd := if 1 ≤ r ∧ r ≤ d.cells.length then d.cells[(r - 1).toNat]?.getD none else none
set_option maxHeartbeats 1000000 in
set_option maxRecDepth 100000 in
theorem get_any (B A : Nat) (cv fv rv : Value) (d : AD) (r : Int) (w : World) (h : ArAt w B A cv fv rv d) : Calls Tryz.prog 58 #[.pointer (some ⟨A, 0, none⟩), .int .i64 r] w fun e w' => e = .returned (bodyV (d.get r)) ∧ w' = w := by
  obtain ⟨ao, cap, hcv, -, -, -⟩ := slice_own h.co
  have c0 : w.cell? ⟨A, 0, none⟩ = some (.slice ao d.cells.length cap) := by rw [h.box.at_ 0, hcv]; rfl
  by_cases h1 : r < 1
  · have hg : d.get r = none := by unfold AD.get; rw [if_neg (by omega)]
    rw [hg]
    clear h hcv hg
    go_enter Tryz.func58, Tryz.ntmps58
    go_wp2
    go_ret
    exact ⟨rfl, rfl⟩
  · by_cases h2 : (d.cells.length : Int) < r
    · have hg : d.get r = none := by unfold AD.get; rw [if_neg (by omega)]
      rw [hg]
      clear h hcv hg
      go_enter Tryz.func58, Tryz.ntmps58
      go_wp2
      go_ret
      exact ⟨rfl, rfl⟩
    · have hg : d.get r = d.cells[(r - 1).toNat]?.getD none := by unfold AD.get; rw [if_pos (by omega)]
      obtain ⟨k, hk⟩ : ∃ k : Nat, r = (k : Int) + 1 := ⟨(r - 1).toNat, by omega⟩
      subst hk
      obtain ⟨g, cap', e, hc⟩ := cell_body h k (by omega)
      rw [hcv] at e
      injection e with e1 e2 e3
      subst e1 e3
      rw [hg, show ((k : Int) + 1 - 1).toNat = k by omega]
      obtain ⟨b, hb⟩ : ∃ b, d.cells[k]?.getD none = b := ⟨_, rfl⟩
      rw [hb] at hc ⊢
      have hm := len_le h.co
      unfold maxLen at hm
      have hk0 : (0 : Int) ≤ (k : Int) := by omega
      have hkl : (k : Int) < (d.cells.length : Int) := by omega
      have hk1 : (k : Int) + 1 - 1 = (k : Int) := by omega
      clear h hcv hg hb
      go_enter Tryz.func58, Tryz.ntmps58
      go_wp2
      go_ret
      exact ⟨rfl, rfl⟩
end Go.Proofs.YtgdkjkfbknbgkaaGreatDoor
