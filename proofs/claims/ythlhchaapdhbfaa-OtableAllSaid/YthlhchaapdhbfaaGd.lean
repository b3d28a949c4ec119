/- The reference's table: its entries in memory; key and Find. -/
import Derived.Test.YthlhchaapdhbfaaFv
namespace Go.Proofs.Ythlhchaapdhbfaa
open Go.RowKit

/-- An entry of the reference's table. -/
structure Re where
  key : Vt
  val : Vt
  fl : Int
  gone : Bool
def reC (e : Re) : List Value := [.int .i64 e.key.1, .int .i64 e.key.2.1, .string e.key.2.2, .int .i64 e.val.1, .int .i64 e.val.2.1, .string e.val.2.2, .int .i64 e.fl, .bool e.gone]
def reFlat (l : List Re) : List Value := l.flatMap reC
abbrev reV (e : Re) : Value := .agg #[.int .i64 e.key.1, .int .i64 e.key.2.1, .string e.key.2.2, .int .i64 e.val.1, .int .i64 e.val.2.1, .string e.val.2.2, .int .i64 e.fl, .bool e.gone]
theorem reFlat_at : ∀ (l : List Re) (i : Nat) (s : Re), l[i]? = some s → ∀ c, c < 8 → (reFlat l)[i * 8 + c]? = (reC s)[c]?
  | [], i, s, h, c, _ => by simp at h
  | x :: l, 0, s, h, c, hc => by
    simp at h; subst h
    show (reC x ++ reFlat l)[0 * 8 + c]? = _
    rw [Nat.zero_mul, Nat.zero_add, List.getElem?_append_left (by simpa [reC] using hc)]
  | x :: l, i + 1, s, h, c, hc => by
    have h' : l[i]? = some s := by simpa using h
    show (reC x ++ reFlat l)[(i + 1) * 8 + c]? = _
    rw [List.getElem?_append_right (by simp [reC]; omega), ← reFlat_at l i s h' c hc]
    congr 1
    simp [reC]; omega
theorem reFlat_snoc (l : List Re) (s : Re) : reFlat (l ++ [s]) = reFlat l ++ reC s := by simp [reFlat]
theorem reFlat_setc : ∀ (l : List Re) (i c : Nat) (s s' : Re) (u : Value), l[i]? = some s → c < 8 → (reC s).set c u = reC s' → (reFlat l).set (i * 8 + c) u = reFlat (l.set i s')
  | [], i, c, s, s', u, h, _, _ => by simp at h
  | x :: l, 0, c, s, s', u, h, hc, he => by
    simp at h; subst h
    show (reC x ++ reFlat l).set (0 * 8 + c) u = reC s' ++ reFlat l
    rw [Nat.zero_mul, Nat.zero_add, List.set_append_left _ _ (by simpa [reC] using hc), he]
  | x :: l, i + 1, c, s, s', u, h, hc, he => by
    have h' : l[i]? = some s := by simpa using h
    show (reC x ++ reFlat l).set ((i + 1) * 8 + c) u = reC x ++ reFlat (l.set i s')
    rw [List.set_append_right _ _ (by simp [reC]; omega), ← reFlat_setc l i c s s' u h' hc he]
    congr 2
    simp [reC]; omega
/-- The cells of an entry. -/
structure ReAt (w : World) (g i : Nat) (s : Re) : Prop where
  k0 : w.cell? ⟨g, i * 8, none⟩ = some (.int .i64 s.key.1)
  k1 : w.cell? ⟨g, i * 8 + 1, none⟩ = some (.int .i64 s.key.2.1)
  k2 : w.cell? ⟨g, i * 8 + 2, none⟩ = some (.string s.key.2.2)
  v0 : w.cell? ⟨g, i * 8 + 3, none⟩ = some (.int .i64 s.val.1)
  v1 : w.cell? ⟨g, i * 8 + 4, none⟩ = some (.int .i64 s.val.2.1)
  v2 : w.cell? ⟨g, i * 8 + 5, none⟩ = some (.string s.val.2.2)
  f : w.cell? ⟨g, i * 8 + 6, none⟩ = some (.int .i64 s.fl)
  l : w.cell? ⟨g, i * 8 + 7, none⟩ = some (.bool s.gone)
/-- The reference's table g lies so in memory, all of it from B on. -/
structure RT (w : World) (B g : Nat) (l : List Re) (cl : Int) (vl : Value) : Prop where
  box : Box w g 70 #[vl, .int .i64 cl]
  own : w.ownsRow B 84 8 vl l.length (reFlat l)
  bt : B ≤ g
section
variable {w w' : World} {B g : Nat} {l : List Re} {cl : Int} {vl : Value}
theorem RT.at_ {n cap r : Nat} (h : RT w B g l cl (.slice (some ⟨r, 0, none⟩) n cap)) (i : Nat) (s : Re) (hs : l[i]? = some s) : ReAt w r i s := by
  have key : ∀ c u, c < 8 → (reC s)[c]? = some u → w.cell? ⟨r, i * 8 + c, none⟩ = some u := fun c u hc hu => by
    have := h.own.cells (g := r) rfl (i * 8 + c) u (by rw [reFlat_at l i s hs c hc]; exact hu)
    rwa [add_off] at this
  exact ⟨key 0 _ (by omega) rfl, key 1 _ (by omega) rfl, key 2 _ (by omega) rfl, key 3 _ (by omega) rfl, key 4 _ (by omega) rfl, key 5 _ (by omega) rfl, key 6 _ (by omega) rfl, key 7 _ (by omega) rfl⟩
/-- The blocks of the reference's table. -/
def RF (g : Nat) (vl : Value) (k : Nat) : Prop := k = g ∨ vl.ownBlock = some k
theorem RT.touch {S : Nat → Prop} (h : RT w B g l cl vl) (ht : Touch S w w') (hn : ∀ k, RF g vl k → ¬ S k) : RT w' B g l cl vl :=
  ⟨h.box.touch ht (hn g (.inl rfl)), own_touch h.own ht (fun k hk => hn k (.inr hk)), h.bt⟩
theorem RT.on (h : RT w B g l cl vl) (hb : Below w.heap.size w w') : RT w' B g l cl vl := h.touch (S := fun _ => False) (Touch.of_below hb) (fun _ _ h => h)
theorem RT.lt (h : RT w B g l cl vl) {k : Nat} (hk : RF g vl k) : B ≤ k ∧ k < w.heap.size := by
  rcases hk with rfl | hk
  · exact ⟨h.bt, h.box.lt⟩
  · exact own_lt h.own k hk
theorem RT.lab (h : RT w B g l cl vl) {k : Nat} (hk : RF g vl k) : Lab w k 70 ∨ Lab w k 84 := by
  rcases hk with rfl | hk
  · exact .inl h.box.lab
  · exact .inr (own_lab h.own k hk)
end
set_option maxRecDepth 100000 in
theorem rkey_any (x : Vt) (w : World) : Calls Try.prog 77 #[valV x] w fun e w' => e = .returned (valV (keyT x)) ∧ Below w.heap.size w w' := by
  obtain ⟨k, n, s⟩ := x
  obtain ⟨W, hW⟩ : ∃ W, W = (w.alloc (.cells #[.int .i64 k, .int .i64 n, .string s] 82)).alloc (.cells #[.int .i64 0, .int .i64 0, .string ⟨#[]⟩] 82) := ⟨_, rfl⟩
  have hBW : Below w.heap.size w W := by rw [hW]; exact ((Below.refl _ _).alloc (Nat.le_refl _) _).alloc (by simp) _
  have bx : Box W w.heap.size 82 #[.int .i64 k, .int .i64 n, .string s] := by rw [hW]; exact (Box.new w _ _).more _
  have bz : Box W (w.heap.size + 1) 82 #[.int .i64 0, .int .i64 0, .string ⟨#[]⟩] := by
    rw [hW]
    have := Box.new (w.alloc (.cells #[.int .i64 k, .int .i64 n, .string s] 82)) 82 #[.int .i64 0, .int .i64 0, .string ⟨#[]⟩]
    rwa [World.size_alloc] at this
  have x0 : W.cell? ⟨w.heap.size, 0, none⟩ = some (.int .i64 k) := bx.at_ 0
  have x1 : W.cell? ⟨w.heap.size, 1, none⟩ = some (.int .i64 n) := bx.at_ 1
  have x2 : W.cell? ⟨w.heap.size, 2, none⟩ = some (.string s) := bx.at_ 2
  have z0 : W.cell? ⟨w.heap.size + 1, 0, none⟩ = some (.int .i64 0) := bz.at_ 0
  have z1 : W.cell? ⟨w.heap.size + 1, 1, none⟩ = some (.int .i64 0) := bz.at_ 1
  have z2 : W.cell? ⟨w.heap.size + 1, 2, none⟩ = some (.string ⟨#[]⟩) := bz.at_ 2
  have g0 := bz.free 0
  have g1 := bz.free 1
  have g2 := bz.free 2
  have HW := Veil.mk hW
  clear hW
  have fin : ∀ (k' n' : Int) (s' : ByteArray), ∃ y0 y1 y2, (((W.setCell ⟨w.heap.size + 1, 0, none⟩ (.int .i64 k')).setCell ⟨w.heap.size + 1, 1, none⟩ (.int .i64 n')).setCell ⟨w.heap.size + 1, 2, none⟩ (.string s')).cell? ⟨w.heap.size + 1, 0, none⟩ = some y0 ∧ y0 = .int .i64 k' ∧ (((W.setCell ⟨w.heap.size + 1, 0, none⟩ (.int .i64 k')).setCell ⟨w.heap.size + 1, 1, none⟩ (.int .i64 n')).setCell ⟨w.heap.size + 1, 2, none⟩ (.string s')).cell? ⟨w.heap.size + 1, 1, none⟩ = some y1 ∧ y1 = .int .i64 n' ∧ (((W.setCell ⟨w.heap.size + 1, 0, none⟩ (.int .i64 k')).setCell ⟨w.heap.size + 1, 1, none⟩ (.int .i64 n')).setCell ⟨w.heap.size + 1, 2, none⟩ (.string s')).cell? ⟨w.heap.size + 1, 2, none⟩ = some y2 ∧ y2 = .string s' ∧ Below w.heap.size w (((W.setCell ⟨w.heap.size + 1, 0, none⟩ (.int .i64 k')).setCell ⟨w.heap.size + 1, 1, none⟩ (.int .i64 n')).setCell ⟨w.heap.size + 1, 2, none⟩ (.string s')) := fun k' n' s' => by
    have bz2 := ((bz.put 0 (.int .i64 k')).put 1 (.int .i64 n')).put 2 (.string s')
    exact ⟨_, _, _, bz2.at_ 0, rfl, bz2.at_ 1, rfl, bz2.at_ 2, rfl, ((hBW.setCell (p := ⟨w.heap.size + 1, 0, none⟩) (Nat.le_succ _) _).setCell (p := ⟨w.heap.size + 1, 1, none⟩) (Nat.le_succ _) _).setCell (p := ⟨w.heap.size + 1, 2, none⟩) (Nat.le_succ _) _⟩
  by_cases h : k = 6
  · subst h
    obtain ⟨y0, y1, y2, h0, rfl, h1, rfl, h2, rfl, hb⟩ := fin 3 0 ⟨#[]⟩
    clear fin bx bz
    go_enter Try.func77, Try.ntmps77
    go_upto_region 1 with (fail)
    rw [← HW.out]
    go_wp2
    exact bodyPost_ret (v := valV (3, 0, e0)) (by simp [results, Try.results77, go_sem, h0, h1, h2]) rfl ⟨rfl, hb⟩
  · have hk : (k == 6) = false := by simpa using h
    have e : Veil (keyT (k, n, s) = (k, n, s)) := ⟨if_neg h⟩
    obtain ⟨y0, y1, y2, h0, rfl, h1, rfl, h2, rfl, hb⟩ := fin k n s
    clear fin bx bz h
    go_enter Try.func77, Try.ntmps77
    go_upto_region 1 with (fail)
    rw [← HW.out]
    go_wp2
    exact bodyPost_ret (v := valV (k, n, s)) (by simp [results, Try.results77, go_sem, h0, h1, h2]) rfl ⟨by rw [e.out], hb⟩
def ReIs (e : Re) (k : Vt) : Prop := e.gone = false ∧ e.key = k
/-- What Find answers. -/
def RFind (l : List Re) (k : Vt) (w : World) (e : Ending) (w' : World) : Prop := ∃ r : Int, e = .returned (.int .i64 r) ∧ ((∃ (j : Nat) (x : Re), r = (j : Int) ∧ l[j]? = some x ∧ ReIs x k) ∨ (r = -1 ∧ ∀ x ∈ l, ¬ ReIs x k)) ∧ Below w.heap.size w w'
set_option maxHeartbeats 1000000 in
set_option maxRecDepth 100000 in
theorem rfind_any (B g : Nat) (l : List Re) (cl : Int) (vl : Value) (hl : l.length < 100000) (k : Vt) (w : World) (h : RT w B g l cl vl) :
    Calls Try.prog 63 #[.pointer (some ⟨g, 0, none⟩), valV k] w (RFind l (keyT k) w) := by
  obtain ⟨a, cap, rfl, hcap, hg2, hm2⟩ := slice_own h.own
  obtain ⟨W, hW⟩ : ∃ W, W = w.alloc (.cells #[.int .i64 k.1, .int .i64 k.2.1, .string k.2.2] 82) := ⟨_, rfl⟩
  have hBW : Below w.heap.size w W := by rw [hW]; exact (Below.refl _ _).alloc (Nat.le_refl _) _
  have hx : Box W w.heap.size 82 #[.int .i64 k.1, .int .i64 k.2.1, .string k.2.2] := by rw [hW]; exact Box.new w _ _
  have hT := h.on hBW
  have HW := Veil.mk hW
  have HTW := Veil.mk hT
  have HX := Veil.mk hx
  have HK := Veil.mk rkey_any
  clear hW h hT hx
  go_enter Try.func63, Try.ntmps63
  go_upto_region 1 with (fail)
  rw [← HW.out]
  clear HW
  go_wp2
  go_loopw [5] (fun i wr => ∃ p : Nat, p ≤ l.length ∧ i = .int .i64 (p : Int) ∧ Veil (∀ x ∈ l.take p, ¬ ReIs x (keyT k)) ∧ Below W.heap.size W wr) (fun i _ => l.length - (intOf i).toNat)
  case atStart => exact ⟨0, Nat.zero_le _, rfl, ⟨by simp⟩, Below.refl _ _⟩
  case round =>
    obtain ⟨p, hp, rfl, hno, hbw⟩ := hrel
    have t0 : wr.cell? ⟨g, 0, none⟩ = some (.slice a l.length cap) := (HTW.out.on hbw).box.at_ 0
    by_cases hlt : p < l.length
    · have hlt' : (p : Int) < (l.length : Int) := by omega
      have hp0 : (0 : Int) ≤ (p : Int) := by omega
      obtain ⟨r, rfl⟩ := hg2 (by omega)
      obtain ⟨x, hx⟩ : ∃ x, l[p]? = some x := ⟨_, List.getElem?_eq_getElem hlt⟩
      obtain ⟨k0, k1, k2, v0, v1, v2, ff, fg⟩ := (HTW.out.on hbw).at_ p x hx
      have HXP := Veil.mk hx
      have HB := Veil.mk hbw
      clear v0 v1 v2 ff hx hg2
      go_upto_region 4 with (fail)
      have HS : Veil (¬ ReIs x (keyT k) → Veil (∀ x ∈ l.take (p + 1), ¬ ReIs x (keyT k))) := ⟨fun hn => ⟨fun y hy => by
        rw [List.take_add_one, HXP.out] at hy
        rcases List.mem_append.1 hy with h | h
        · exact hno.out y h
        · simp at h
          subst h
          exact hn⟩⟩
      clear hno
      rcases hgn : x.gone with _ | _
      · rw [hgn] at fg
        have lg : g < wr.heap.size := World.block_lt_of_cell? wr _ t0
        have lr : r < wr.heap.size := World.block_lt_of_cell? wr _ k0
        have x0 : wr.cell? ⟨w.heap.size, 0, none⟩ = some (.int .i64 k.1) := (HX.out.on HB.out HX.out.lt).at_ 0
        have x1 : wr.cell? ⟨w.heap.size, 1, none⟩ = some (.int .i64 k.2.1) := (HX.out.on HB.out HX.out.lt).at_ 1
        have x2 : wr.cell? ⟨w.heap.size, 2, none⟩ = some (.string k.2.2) := (HX.out.on HB.out HX.out.lt).at_ 2
        have lx : w.heap.size < wr.heap.size := World.block_lt_of_cell? wr _ x0
        have hbD : Below wr.heap.size wr wr.drew := (Below.refl _ _).drew
        obtain ⟨⟨kk0, kk1, kk2⟩, hkk⟩ : ∃ q, keyT k = q := ⟨_, rfl⟩
        have HK2 : Veil (∀ w, Calls Try.prog 77 #[valV k] w fun e w' => e = .returned (.agg #[.int .i64 kk0, .int .i64 kk1, .string kk2]) ∧ Below w.heap.size w w') := ⟨fun w => by
          have := HK.out k w
          rw [hkk] at this
          exact this⟩
        have HKK := Veil.mk hkk
        have HGN := Veil.mk hgn
        clear hkk hgn
        obtain ⟨ek, hek⟩ : ∃ q, x.key.1 = q := ⟨_, rfl⟩
        obtain ⟨en, hen⟩ : ∃ q, x.key.2.1 = q := ⟨_, rfl⟩
        obtain ⟨es, hes⟩ : ∃ q, x.key.2.2 = q := ⟨_, rfl⟩
        rw [hek] at k0
        rw [hen] at k1
        rw [hes] at k2
        have HEK : Veil (x.key = (ek, en, es)) := ⟨by rw [← hek, ← hen, ← hes]⟩
        clear hek hen hes
        by_cases he : ((ek, en, es) : Vt) = (kk0, kk1, kk2)
        · simp only [Prod.mk.injEq] at he
          obtain ⟨rfl, rfl, rfl⟩ := he
          have HF : Veil (∀ w', Below wr.heap.size wr w' → RFind l (keyT k) w (.returned (.int .i64 (p : Int))) w') := ⟨fun w' hb => ⟨p, rfl, .inl ⟨p, x, rfl, HXP.out, HGN.out, by rw [HEK.out, HKK.out]⟩, hBW.trans ((HB.out.trans (hb.mono HB.out.size)).mono hBW.size)⟩⟩
          clear HS HK
          go_region_held3 (fun w' => w'.cell? ⟨g, 0, none⟩ = some (.slice (some ⟨r, 0, none⟩) l.length cap) ∧ w'.cell? ⟨r, p * 8, none⟩ = some (.int .i64 ek) ∧ w'.cell? ⟨r, p * 8 + 1, none⟩ = some (.int .i64 en) ∧ w'.cell? ⟨r, p * 8 + 2, none⟩ = some (.string es) ∧ w'.cell? ⟨r, p * 8 + 7, none⟩ = some (.bool false) ∧ w'.cell? ⟨w.heap.size, 0, none⟩ = some (.int .i64 k.1) ∧ w'.cell? ⟨w.heap.size, 1, none⟩ = some (.int .i64 k.2.1) ∧ w'.cell? ⟨w.heap.size, 2, none⟩ = some (.string k.2.2)) (go_keep) (first | (go_at_call 77; ((with_reducible refine (HK2.out _).mono ?_); rintro e w1 ⟨rfl, hb1⟩; replace hbD := blw2 hbD hb1; clear hb1; have y0 := (hbD.cell (p := ⟨g, 0, none⟩) lg).trans t0; have y1 := (hbD.cell (p := ⟨r, p * 8, none⟩) lr).trans k0; have y2 := (hbD.cell (p := ⟨r, p * 8 + 1, none⟩) lr).trans k1; have y3 := (hbD.cell (p := ⟨r, p * 8 + 2, none⟩) lr).trans k2; have y4 := (hbD.cell (p := ⟨r, p * 8 + 7, none⟩) lr).trans fg; have y5 := (hbD.cell (p := ⟨w.heap.size, 0, none⟩) lx).trans x0; have y6 := (hbD.cell (p := ⟨w.heap.size, 1, none⟩) lx).trans x1; have y7 := (hbD.cell (p := ⟨w.heap.size, 2, none⟩) lx).trans x2)))
          all_goals
            go_wp2
            go_ret
            exact HF.out _ hbD
        · have HN : Veil (¬ ReIs x (keyT k)) := ⟨fun h => he (by rw [← HEK.out, ← HKK.out]; exact h.2)⟩
          have hne := vne (fun e => he e.symm)
          simp only at hne
          clear he HK
          rcases hne with hne | ⟨h1, hne⟩ | ⟨h1, h2, hne⟩
          · have q1 : (ek == kk0) = false := beq_eq_false_iff_ne.2 hne
            clear hne
            go_region_held3 (fun w' => w'.cell? ⟨g, 0, none⟩ = some (.slice (some ⟨r, 0, none⟩) l.length cap) ∧ w'.cell? ⟨r, p * 8, none⟩ = some (.int .i64 ek) ∧ w'.cell? ⟨r, p * 8 + 1, none⟩ = some (.int .i64 en) ∧ w'.cell? ⟨r, p * 8 + 2, none⟩ = some (.string es) ∧ w'.cell? ⟨r, p * 8 + 7, none⟩ = some (.bool false) ∧ w'.cell? ⟨w.heap.size, 0, none⟩ = some (.int .i64 k.1) ∧ w'.cell? ⟨w.heap.size, 1, none⟩ = some (.int .i64 k.2.1) ∧ w'.cell? ⟨w.heap.size, 2, none⟩ = some (.string k.2.2)) (go_keep) (first | (go_at_call 77; ((with_reducible refine (HK2.out _).mono ?_); rintro e w1 ⟨rfl, hb1⟩; replace hbD := blw2 hbD hb1; clear hb1; have y0 := (hbD.cell (p := ⟨g, 0, none⟩) lg).trans t0; have y1 := (hbD.cell (p := ⟨r, p * 8, none⟩) lr).trans k0; have y2 := (hbD.cell (p := ⟨r, p * 8 + 1, none⟩) lr).trans k1; have y3 := (hbD.cell (p := ⟨r, p * 8 + 2, none⟩) lr).trans k2; have y4 := (hbD.cell (p := ⟨r, p * 8 + 7, none⟩) lr).trans fg; have y5 := (hbD.cell (p := ⟨w.heap.size, 0, none⟩) lx).trans x0; have y6 := (hbD.cell (p := ⟨w.heap.size, 1, none⟩) lx).trans x1; have y7 := (hbD.cell (p := ⟨w.heap.size, 2, none⟩) lx).trans x2)))
            all_goals
              go_wp2
              go_roundw
              case rel => exact ⟨p + 1, by omega, by go_num, HS.out HN.out, HB.out.trans (hbD.mono HB.out.size)⟩
              case measure => simp [intOf]; omega
          · obtain rfl : ek = kk0 := h1
            have q1 : (en == kk1) = false := beq_eq_false_iff_ne.2 hne
            clear hne
            go_region_held3 (fun w' => w'.cell? ⟨g, 0, none⟩ = some (.slice (some ⟨r, 0, none⟩) l.length cap) ∧ w'.cell? ⟨r, p * 8, none⟩ = some (.int .i64 ek) ∧ w'.cell? ⟨r, p * 8 + 1, none⟩ = some (.int .i64 en) ∧ w'.cell? ⟨r, p * 8 + 2, none⟩ = some (.string es) ∧ w'.cell? ⟨r, p * 8 + 7, none⟩ = some (.bool false) ∧ w'.cell? ⟨w.heap.size, 0, none⟩ = some (.int .i64 k.1) ∧ w'.cell? ⟨w.heap.size, 1, none⟩ = some (.int .i64 k.2.1) ∧ w'.cell? ⟨w.heap.size, 2, none⟩ = some (.string k.2.2)) (go_keep) (first | (go_at_call 77; ((with_reducible refine (HK2.out _).mono ?_); rintro e w1 ⟨rfl, hb1⟩; replace hbD := blw2 hbD hb1; clear hb1; have y0 := (hbD.cell (p := ⟨g, 0, none⟩) lg).trans t0; have y1 := (hbD.cell (p := ⟨r, p * 8, none⟩) lr).trans k0; have y2 := (hbD.cell (p := ⟨r, p * 8 + 1, none⟩) lr).trans k1; have y3 := (hbD.cell (p := ⟨r, p * 8 + 2, none⟩) lr).trans k2; have y4 := (hbD.cell (p := ⟨r, p * 8 + 7, none⟩) lr).trans fg; have y5 := (hbD.cell (p := ⟨w.heap.size, 0, none⟩) lx).trans x0; have y6 := (hbD.cell (p := ⟨w.heap.size, 1, none⟩) lx).trans x1; have y7 := (hbD.cell (p := ⟨w.heap.size, 2, none⟩) lx).trans x2)))
            all_goals
              go_wp2
              go_roundw
              case rel => exact ⟨p + 1, by omega, by go_num, HS.out HN.out, HB.out.trans (hbD.mono HB.out.size)⟩
              case measure => simp [intOf]; omega
          · obtain rfl : ek = kk0 := h1
            obtain rfl : en = kk1 := h2
            have q1 : (es.toList == kk2.toList) = false := beq_eq_false_iff_ne.2 hne
            clear hne
            go_region_held3 (fun w' => w'.cell? ⟨g, 0, none⟩ = some (.slice (some ⟨r, 0, none⟩) l.length cap) ∧ w'.cell? ⟨r, p * 8, none⟩ = some (.int .i64 ek) ∧ w'.cell? ⟨r, p * 8 + 1, none⟩ = some (.int .i64 en) ∧ w'.cell? ⟨r, p * 8 + 2, none⟩ = some (.string es) ∧ w'.cell? ⟨r, p * 8 + 7, none⟩ = some (.bool false) ∧ w'.cell? ⟨w.heap.size, 0, none⟩ = some (.int .i64 k.1) ∧ w'.cell? ⟨w.heap.size, 1, none⟩ = some (.int .i64 k.2.1) ∧ w'.cell? ⟨w.heap.size, 2, none⟩ = some (.string k.2.2)) (go_keep) (first | (go_at_call 77; ((with_reducible refine (HK2.out _).mono ?_); rintro e w1 ⟨rfl, hb1⟩; replace hbD := blw2 hbD hb1; clear hb1; have y0 := (hbD.cell (p := ⟨g, 0, none⟩) lg).trans t0; have y1 := (hbD.cell (p := ⟨r, p * 8, none⟩) lr).trans k0; have y2 := (hbD.cell (p := ⟨r, p * 8 + 1, none⟩) lr).trans k1; have y3 := (hbD.cell (p := ⟨r, p * 8 + 2, none⟩) lr).trans k2; have y4 := (hbD.cell (p := ⟨r, p * 8 + 7, none⟩) lr).trans fg; have y5 := (hbD.cell (p := ⟨w.heap.size, 0, none⟩) lx).trans x0; have y6 := (hbD.cell (p := ⟨w.heap.size, 1, none⟩) lx).trans x1; have y7 := (hbD.cell (p := ⟨w.heap.size, 2, none⟩) lx).trans x2)))
            all_goals
              go_wp2
              go_roundw
              case rel => exact ⟨p + 1, by omega, by go_num, HS.out HN.out, HB.out.trans (hbD.mono HB.out.size)⟩
              case measure => simp [intOf]; omega
      · have HN : Veil (¬ ReIs x (keyT k)) := ⟨fun h => by rw [h.1] at hgn; cases hgn⟩
        rw [hgn] at fg
        clear hgn k0 k1 k2
        go_quiet (fail)
        go_wp2
        go_roundw
        case rel => exact ⟨p + 1, by omega, by go_num, HS.out HN.out, below_drewN HB.out _⟩
        case measure => simp [intOf]; omega
    · have hlt' : ¬ (p : Int) < (l.length : Int) := by omega
      have hno2 := hno.out
      rw [List.take_of_length_le (by omega)] at hno2
      have HF : Veil (RFind l (keyT k) w (.returned (.int .i64 (-1))) wr) := ⟨⟨-1, rfl, .inr ⟨rfl, hno2⟩, hBW.trans (hbw.mono hBW.size)⟩⟩
      clear hno hno2
      go_wp2
      go_ret
      exact HF.out
end Go.Proofs.Ythlhchaapdhbfaa
