/- Tables by what is seen of them. -/
import Derived.Test.YtgdkjkfbknbgkaaGreatDoorFl
namespace Go.Proofs.YtgdkjkfbknbgkaaGreatDoor
open Go.RowKit

abbrev noRow : Value := .slice none 0 0
def T0 : Tab := ⟨[], [], 0, 0, []⟩
theorem good0 : Good T0 := ⟨⟨rfl, .inl rfl, Nat.le_refl _, fun i s h hs => by simp [T0] at hs, fun i s hs => by simp [T0] at hs, fun i j s t hs => by simp [T0] at hs, rfl, fun h hh => by simp [T0] at hh⟩, by simp [T0], fun c hc => by simp [T0] at hc⟩
theorem nil_own (w : World) (B : Nat) (e : TypeId) (size : Nat) : w.ownsRow B e size noRow 0 [] := ⟨by simp, .inl ⟨rfl, rfl⟩⟩
theorem tab0 (w : World) (B : Nat) (hB : B ≤ w.heap.size) : TabAt (w.alloc (.cells #[noRow, noRow, .int .i64 0, noRow] 173)) B w.heap.size T0 noRow noRow noRow :=
  ⟨Box.new w _ _, nil_own _ _ _ _, nil_own _ _ _ _, nil_own _ _ _ _, fun i c hc => by simp [T0] at hc, hB⟩
set_option maxRecDepth 100000 in
theorem tnew_any (w : World) : Calls Tryz.prog 74 #[] w fun e w' => e = .returned (.pointer (some ⟨w.heap.size, 0, none⟩)) ∧ w' = w.alloc (.cells #[noRow, noRow, .int .i64 0, noRow] 173) := by
  go_enter Tryz.func74, Tryz.ntmps74
  go_wp2
  go_ret
  exact ⟨rfl, rfl⟩
set_option maxRecDepth 100000 in
theorem find_nil (k : Vt) (w : World) : Calls Tryz.prog 87 #[.pointer none, valV k] w fun e w' => e = .returned (.int .i64 (-1)) ∧ Below w.heap.size w w' := by
  have hB : Below w.heap.size w (w.alloc (.cells #[.int .i64 k.1, .int .i64 k.2.1, .string k.2.2] 30)) := (Below.refl _ _).alloc (Nat.le_refl _) _
  go_enter Tryz.func87, Tryz.ntmps87
  go_wp2
  go_ret
  exact ⟨rfl, hB⟩
set_option maxRecDepth 100000 in
theorem del_nil (k : Vt) (w : World) : Calls Tryz.prog 51 #[.pointer none, valV k] w fun e w' => e = .returned (.bool false) ∧ Below w.heap.size w w' := by
  have hB : Below w.heap.size w (w.alloc (.cells #[.int .i64 k.1, .int .i64 k.2.1, .string k.2.2] 30)) := (Below.refl _ _).alloc (Nat.le_refl _) _
  have HKEY := Veil.mk (fun w => key_any k w)
  have HF := Veil.mk (fun w => find_nil (keyT k) w)
  go_enter Tryz.func51, Tryz.ntmps51
  go_wp2_with (first | (go_at_call 88; ((with_reducible refine (HKEY.out _).mono ?_); rintro e w1 ⟨rfl, hb1⟩)) | (go_at_call 87; ((with_reducible refine (HF.out _).mono ?_); rintro e w2 ⟨rfl, hb2⟩)))
  go_ret
  exact ⟨rfl, blw2 hB (blw2 hb1 hb2)⟩
abbrev zeroV : Value := .agg #[.int .i64 0, .int .i64 0, .string ⟨#[]⟩]
set_option maxRecDepth 100000 in
theorem get_nil (k : Vt) (w : World) : Calls Tryz.prog 85 #[.pointer none, valV k] w fun e w' => e = .returned (.tuple #[zeroV, .int .i64 0, .bool false]) ∧ Below w.heap.size w w' := by
  have HKEY := Veil.mk (fun w => key_any k w)
  have HF := Veil.mk (fun w => find_nil (keyT k) w)
  obtain ⟨W, hW⟩ : ∃ W, W = (w.alloc (.cells #[.int .i64 k.1, .int .i64 k.2.1, .string k.2.2] 30)).alloc (.cells #[.int .i64 0, .int .i64 0, .string ⟨#[]⟩] 30) := ⟨_, rfl⟩
  have hBW : Below w.heap.size w W := by rw [hW]; exact ((Below.refl _ _).alloc (Nat.le_refl _) _).alloc (by simp) _
  have hK : Box W w.heap.size 30 #[.int .i64 k.1, .int .i64 k.2.1, .string k.2.2] := by rw [hW]; exact (Box.new w _ _).more _
  have hZ : Box W (w.heap.size + 1) 30 #[.int .i64 0, .int .i64 0, .string ⟨#[]⟩] := by
    rw [hW]
    have := Box.new (w.alloc (.cells #[.int .i64 k.1, .int .i64 k.2.1, .string k.2.2] 30)) 30 #[.int .i64 0, .int .i64 0, .string ⟨#[]⟩]
    rwa [World.size_alloc] at this
  have HW := Veil.mk hW
  have x0 : W.cell? ⟨w.heap.size, 0, none⟩ = some (.int .i64 k.1) := hK.at_ 0
  have x1 : W.cell? ⟨w.heap.size, 1, none⟩ = some (.int .i64 k.2.1) := hK.at_ 1
  have x2 : W.cell? ⟨w.heap.size, 2, none⟩ = some (.string k.2.2) := hK.at_ 2
  have hlz := hZ.lt
  clear hW hK
  go_enter Tryz.func85, Tryz.ntmps85
  go_upto_region 1 with (fail)
  rw [← HW.out]
  go_upto_region 2 with (first | (go_at_call 88; ((with_reducible refine (HKEY.out _).mono ?_); rintro e w1 ⟨rfl, hb1⟩)) | (go_at_call 87; ((with_reducible refine (HF.out _).mono ?_); rintro e w2 ⟨rfl, hb2⟩)))
  have hZ2 := hZ.on (blw2 hb1 hb2) hlz
  have z0 : w2.cell? ⟨w.heap.size + 1, 0, none⟩ = some (.int .i64 0) := hZ2.at_ 0
  have z1 : w2.cell? ⟨w.heap.size + 1, 1, none⟩ = some (.int .i64 0) := hZ2.at_ 1
  have z2 : w2.cell? ⟨w.heap.size + 1, 2, none⟩ = some (.string ⟨#[]⟩) := hZ2.at_ 2
  have g0 := hZ2.free 0
  have g1 := hZ2.free 1
  have g2 := hZ2.free 2
  have hb : Below w.heap.size w w2 := blw2 hBW (blw2 hb1 hb2)
  have HE : Veil (∀ (a b c : Value), Below w.heap.size w (((w2.setCell ⟨w.heap.size + 1, 0, none⟩ a).setCell ⟨w.heap.size + 1, 1, none⟩ b).setCell ⟨w.heap.size + 1, 2, none⟩ c)) := ⟨fun a b c => ((hb.setCell (p := ⟨w.heap.size + 1, 0, none⟩) (by simp) _).setCell (p := ⟨w.heap.size + 1, 1, none⟩) (by simp) _).setCell (p := ⟨w.heap.size + 1, 2, none⟩) (by simp) _⟩
  clear x0 x1 x2 hb1 hZ hlz hBW HW HKEY HF hZ2
  go_wp2
  have hz3 : True := trivial
  exact bodyPost_ret (v := .tuple #[zeroV, .int .i64 0, .bool false]) (by simp [results, Tryz.results85, go_sem, z0, z1, z2]) rfl ⟨rfl, HE.out _ _ _⟩
def GetPost (T : Tab) (k : Vt) (w : World) (e : Ending) (w' : World) : Prop := ((∃ x ∈ (obs T).1, x.1 = keyT k ∧ e = .returned (.tuple #[valV x.2.1, .int .i64 x.2.2, .bool true])) ∨ (¬ hasK (obs T).1 (keyT k) ∧ e = .returned (.tuple #[zeroV, .int .i64 0, .bool false]))) ∧ Below w.heap.size w w'
set_option maxHeartbeats 4000000 in
set_option maxRecDepth 100000 in
theorem tget_any (B t : Nat) (T : Tab) (vs vb vc : Value) (hI : Inv T) (k : Vt) (hk : k.2.2.size ≤ 1000) (w : World) (h : TabAt w B t T vs vb vc) : Calls Tryz.prog 85 #[.pointer (some ⟨t, 0, none⟩), valV k] w (GetPost T k w) := by
  have HKEY := Veil.mk (fun w => key_any k w)
  obtain ⟨W, hW⟩ : ∃ W, W = (w.alloc (.cells #[.int .i64 k.1, .int .i64 k.2.1, .string k.2.2] 30)).alloc (.cells #[.int .i64 0, .int .i64 0, .string ⟨#[]⟩] 30) := ⟨_, rfl⟩
  have hBW : Below w.heap.size w W := by rw [hW]; exact ((Below.refl _ _).alloc (Nat.le_refl _) _).alloc (by simp) _
  have hK : Box W w.heap.size 30 #[.int .i64 k.1, .int .i64 k.2.1, .string k.2.2] := by rw [hW]; exact (Box.new w _ _).more _
  have hZ : Box W (w.heap.size + 1) 30 #[.int .i64 0, .int .i64 0, .string ⟨#[]⟩] := by
    rw [hW]
    have := Box.new (w.alloc (.cells #[.int .i64 k.1, .int .i64 k.2.1, .string k.2.2] 30)) 30 #[.int .i64 0, .int .i64 0, .string ⟨#[]⟩]
    rwa [World.size_alloc] at this
  have HW := Veil.mk hW
  have x0 : W.cell? ⟨w.heap.size, 0, none⟩ = some (.int .i64 k.1) := hK.at_ 0
  have x1 : W.cell? ⟨w.heap.size, 1, none⟩ = some (.int .i64 k.2.1) := hK.at_ 1
  have x2 : W.cell? ⟨w.heap.size, 2, none⟩ = some (.string k.2.2) := hK.at_ 2
  have hlz := hZ.lt
  have hT := h.on hBW
  have HT := Veil.mk hT
  have HF := Veil.mk (fun w1 (hb : Below W.heap.size W w1) => find_all B t T vs vb vc hI (keyT k) (keyT_size2 k hk) w1 (hT.on hb))
  have hne : w.heap.size ≤ w.heap.size + 1 := Nat.le_succ _
  clear hW hK hT
  have hlt : ∀ g, vs.ownBlock = some g → g < w.heap.size := fun g hg => (own_lt h.os g hg).2
  have htl := h.box.lt
  clear h
  go_enter Tryz.func85, Tryz.ntmps85
  go_upto_region 1 with (fail)
  rw [← HW.out]
  go_upto_region 2 with (first | (go_at_call 88; ((with_reducible refine (HKEY.out _).mono ?_); rintro e w1 ⟨rfl, hb1⟩)) | (go_at_call 87; ((with_reducible refine (HF.out _ hb1).mono ?_); rintro e w2 ⟨r, rfl, hr, hb2⟩)))
  have hZ2 := hZ.on (blw2 hb1 hb2) hlz
  have hT2 := HT.out.on (blw2 hb1 hb2)
  have z0 : w2.cell? ⟨w.heap.size + 1, 0, none⟩ = some (.int .i64 0) := hZ2.at_ 0
  have z1 : w2.cell? ⟨w.heap.size + 1, 1, none⟩ = some (.int .i64 0) := hZ2.at_ 1
  have z2 : w2.cell? ⟨w.heap.size + 1, 2, none⟩ = some (.string ⟨#[]⟩) := hZ2.at_ 2
  have g0 := hZ2.free 0
  have g1 := hZ2.free 1
  have g2 := hZ2.free 2
  have hb : Below w.heap.size w w2 := blw2 hBW (blw2 hb1 hb2)
  have HE : Veil (∀ (a b c : Value), Below w.heap.size w (((w2.setCell ⟨w.heap.size + 1, 0, none⟩ a).setCell ⟨w.heap.size + 1, 1, none⟩ b).setCell ⟨w.heap.size + 1, 2, none⟩ c)) := ⟨fun a b c => ((hb.setCell (p := ⟨w.heap.size + 1, 0, none⟩) (by simp) _).setCell (p := ⟨w.heap.size + 1, 1, none⟩) (by simp) _).setCell (p := ⟨w.heap.size + 1, 2, none⟩) (by simp) _⟩
  clear x0 x1 x2 hb1 hZ hlz hBW HW HKEY HF HT
  rcases hr with ⟨i, rfl, s, hs, hlv, hkey⟩ | ⟨rfl, hno⟩
  · obtain ⟨sa, cs, rfl, hcs, hgs2, hms⟩ := slice_own hT2.os
    have hi := (List.getElem?_eq_some_iff.1 hs).1
    obtain ⟨gs, rfl⟩ := hgs2 (by omega)
    have hgl := hlt gs rfl
    have c0 : w2.cell? ⟨t, 0, none⟩ = some (.slice (some ⟨gs, 0, none⟩) T.sl.length cs) := hT2.box.at_ 0
    obtain ⟨k0, k1, k2, v0, v1, v2, ff, fl, fn⟩ := hT2.slot i s hs
    have i0 : ¬ (i : Int) < 0 := by omega
    have i01 : (0 : Int) ≤ (i : Int) := by omega
    have i1 : (i : Int) < (T.sl.length : Int) := by omega
    have n1 : gs ≠ w.heap.size + 1 := by omega
    have n2 : t ≠ w.heap.size + 1 := by omega
    have HX : Veil (∃ x ∈ (obs T).1, x.1 = keyT k ∧ (Ending.returned (.tuple #[.agg #[.int .i64 s.val.1, .int .i64 s.val.2.1, .string s.val.2.2], .int .i64 s.fl, .bool true])) = .returned (.tuple #[valV x.2.1, .int .i64 x.2.2, .bool true])) := ⟨⟨ent s, List.mem_map.2 ⟨s, List.mem_filter.2 ⟨List.mem_of_getElem? hs, hlv⟩, rfl⟩, hkey, rfl⟩⟩
    have HZ2 := Veil.mk hZ2
    clear hs hlv hkey hT2 hgs2 hlt k0 k1 k2 fl fn hZ2
    go_upto_region 4 with (fail)
    go_region
    have HD := Veil.mk (HE.out (.int .i64 s.val.1) (.int .i64 s.val.2.1) (.string s.val.2.2))
    have hZ3 := ((HZ2.out.put 0 (.int .i64 s.val.1)).put 1 (.int .i64 s.val.2.1)).put 2 (.string s.val.2.2)
    generalize ((w2.setCell ⟨w.heap.size + 1, 0, none⟩ (.int .i64 s.val.1)).setCell ⟨w.heap.size + 1, 1, none⟩ (.int .i64 s.val.2.1)).setCell ⟨w.heap.size + 1, 2, none⟩ (.string s.val.2.2) = w3 at HD hZ3 ⊢
    have y0 : w3.drew.cell? ⟨w.heap.size + 1, 0, none⟩ = some (.int .i64 s.val.1) := hZ3.at_ 0
    have y1 : w3.drew.cell? ⟨w.heap.size + 1, 1, none⟩ = some (.int .i64 s.val.2.1) := hZ3.at_ 1
    have y2 : w3.drew.cell? ⟨w.heap.size + 1, 2, none⟩ = some (.string s.val.2.2) := hZ3.at_ 2
    clear HE z0 z1 z2 g0 g1 g2 v0 v1 v2 ff c0
    go_wp2
    exact bodyPost_ret (v := .tuple #[.agg #[.int .i64 s.val.1, .int .i64 s.val.2.1, .string s.val.2.2], .int .i64 s.fl, .bool true]) (by simp [results, Tryz.results85, go_sem, y0, y1, y2]) rfl ⟨.inl HX.out, HD.out.drew⟩
  · have hno' : ¬ hasK (obs T).1 (keyT k) := fun h => by
      obtain ⟨a, ha⟩ := (hasK_found T (keyT k)).1 h
      exact hno a ha
    clear hT2 hZ2 hno
    go_wp2
    exact bodyPost_ret (v := .tuple #[zeroV, .int .i64 0, .bool false]) (by simp [results, Tryz.results85, go_sem, z0, z1, z2]) rfl ⟨.inr ⟨hno', rfl⟩, HE.out _ _ _⟩
end Go.Proofs.YtgdkjkfbknbgkaaGreatDoor
namespace Go.Proofs.YtgdkjkfbknbgkaaGreatDoor
open Go.RowKit

theorem Tryz.infoC : (Tryz.prog.info? 94).map (fun i => (i.zero, i.size, i.bytes)) = some (some (.pointer none), 1, 8) := by kernel_rfl
def curT (T : Tab) (c : Nat) : Tab := { T with cur := T.cur ++ [(c, 0)] }
theorem good_cur {T : Tab} (h : Good T) (c : Nat) : Good (curT T c) := ⟨⟨h.inv.hlen, h.inv.nb, h.inv.cap, h.inv.next, h.inv.live, h.inv.uniq, h.inv.cnt, h.inv.hlt⟩, h.slack, fun x hx => by
  rcases List.mem_append.1 (show x ∈ T.cur ++ [(c, 0)] from hx) with h1 | h1
  · exact h.cat x h1
  · cases List.mem_singleton.1 h1; exact Nat.zero_le _⟩
theorem obs_cur (T : Tab) (c : Nat) : obs (curT T c) = ((obs T).1, (obs T).2 ++ [(c, (obs T).1)]) := by
  unfold obs curT
  simp
def CurPost (B t : Nat) (T : Tab) (F : Nat → Prop) (w : World) (e : Ending) (w' : World) : Prop := e = .returned (.pointer (some ⟨w.heap.size, 0, none⟩)) ∧ TabPost B t (curT T w.heap.size) F w w'

end Go.Proofs.YtgdkjkfbknbgkaaGreatDoor
namespace Go.Proofs.YtgdkjkfbknbgkaaGreatDoor
open Go.RowKit

def cutT (T : Tab) (i c q : Nat) : Tab := { T with cur := T.cur.set i (c, q) }
theorem ents_step {l : List Sl} {p : Nat} {s : Sl} (h : l[p]? = some s) : ents (l.drop p) = (if s.live then [ent s] else []) ++ ents (l.drop (p + 1)) := by
  obtain ⟨hp, e⟩ := List.getElem?_eq_some_iff.1 h
  rw [List.drop_eq_getElem_cons hp, e]
  show ents ([s] ++ _) = _
  rw [ents_app]
  congr 1
  cases hl : s.live <;> simp [ents, hl]
theorem cur_same (T : Tab) (i c a : Nat) (h : T.cur[i]? = some (c, a)) : cutT T i c a = T := by
  unfold cutT
  have : T.cur.set i (c, a) = T.cur := by
    apply List.ext_getElem?
    intro j
    by_cases e : i = j
    · subst e; rw [List.getElem?_set_self (List.getElem?_eq_some_iff.1 h).1, h]
    · rw [List.getElem?_set_ne e]
  rw [this]
theorem cut_next {w : World} {B t : Nat} {T : Tab} {vs vb vc : Value} {i c p : Nat} (hi : i < T.cur.length) (h : TabAt w B t (cutT T i c p) vs vb vc) (q : Nat) : TabAt (w.setCell ⟨c, 1, none⟩ (.int .i64 (q : Int))) B t (cutT T i c q) vs vb vc := by
  have := h.setAt i (c, p) (List.getElem?_set_self hi) q
  unfold cutT at this ⊢
  simp only [List.set_set] at this
  exact this
def NextPost (B t : Nat) (T : Tab) (vs vb vc : Value) (i c : Nat) (x : En) (r : List En) (w : World) (e : Ending) (w' : World) : Prop :=
  ∃ q, e = .returned (.tuple #[valV x.1, valV x.2.1, .int .i64 x.2.2, .bool true]) ∧ q ≤ T.sl.length ∧ ents (T.sl.drop q) = r ∧ TabAt w' B t (cutT T i c q) vs vb vc ∧ Touch (fun k => k = c) w w'

end Go.Proofs.YtgdkjkfbknbgkaaGreatDoor
namespace Go.Proofs.YtgdkjkfbknbgkaaGreatDoor
open Go.RowKit

/-- A table t stands from B on, and O is what is seen of it. -/
def Tb (B t : Nat) (O : Ob) (w : World) : Prop := ∃ T vs vb vc, TabAt w B t T vs vb vc ∧ Good T ∧ obs T = O
/-- What lies below B stands, and so does each box of a value. -/
structure Fr (B : Nat) (w w' : World) : Prop where
  low : Below B w w'
  kept : ∀ g cs, Box w g 30 cs → Box w' g 30 cs
theorem Fr.refl (B : Nat) (w : World) : Fr B w w := ⟨Below.refl _ _, fun _ _ h => h⟩
theorem Fr.trans {B : Nat} {a b c : World} (h : Fr B a b) (h2 : Fr B b c) : Fr B a c := ⟨h.low.trans h2.low, fun g cs hg => h2.kept g cs (h.kept g cs hg)⟩
theorem Fr.of_below {B : Nat} {w w' : World} (hB : B ≤ w.heap.size) (h : Below w.heap.size w w') : Fr B w w' := ⟨h.mono hB, fun _ _ hg => hg.on h hg.lt⟩
theorem Tb.on {B t : Nat} {O : Ob} {w w' : World} (h : Tb B t O w) (hb : Below w.heap.size w w') : Tb B t O w' := by
  obtain ⟨T, vs, vb, vc, h1, h2, h3⟩ := h
  exact ⟨T, vs, vb, vc, h1.on hb, h2, h3⟩
theorem Tb.le {B t : Nat} {O : Ob} {w : World} (h : Tb B t O w) : B ≤ w.heap.size := by
  obtain ⟨T, vs, vb, vc, h1, h2, h3⟩ := h
  have := h1.bt
  have := h1.box.lt
  omega
theorem foot_val {w : World} {B t : Nat} {T : Tab} {vs vb vc : Value} (h : TabAt w B t T vs vb vc) {g : Nat} {cs : Array Value} (hg : Box w g 30 cs) : ¬ Foot t T vs vb vc g := fun hk => by
  have hl := hg.lab
  rcases hk with e | e | e | e | ⟨d, hd, e⟩
  · rw [e] at hl; exact hl.ne h.box.lab (by decide) rfl
  · exact (own_lab h.os g e).ne hl (by decide) rfl
  · exact (own_lab h.ob g e).ne hl (by decide) rfl
  · exact (own_lab h.oc g e).ne hl (by decide) rfl
  · obtain ⟨m, hm, rfl⟩ := List.mem_iff_getElem.1 hd
    have := (h.cs m _ (List.getElem?_eq_getElem hm)).2.lab
    rw [e] at this
    exact this.ne hl (by decide) rfl
theorem fr_touch {w w' : World} {B t : Nat} {T : Tab} {vs vb vc : Value} (h : TabAt w B t T vs vb vc) (ht : Touch (Foot t T vs vb vc) w w') : Fr B w w' :=
  ⟨ht.below (by have := h.bt; have := h.box.lt; omega) (fun k hk => (Foot.lt h hk).1), fun g cs hg => hg.touch ht (foot_val h hg)⟩
theorem Tb.post {B t : Nat} {T T' : Tab} {vs vb vc : Value} {O : Ob} {w w' : World} (h : TabAt w B t T vs vb vc) (hG : Good T') (ho : obs T' = O) (hp : TabPost B t T' (Foot t T vs vb vc) w w') : Tb B t O w' ∧ Fr B w w' := by
  obtain ⟨vs', vb', vc', h1, h2, h3⟩ := hp
  exact ⟨⟨T', vs', vb', vc', h1, hG, ho⟩, fr_touch h h2⟩
theorem obs_sizes {T : Tab} (h : Good T) {O : Ob} (ho : obs T = O) : T.cnt = O.1.length ∧ T.cur.length = O.2.length := by
  subst ho
  refine ⟨?_, by unfold obs; rw [List.length_map]⟩
  show T.cnt = (ents T.sl).length
  rw [ents_len]
  exact h.inv.cnt
theorem put_tb {B t : Nat} {O : Ob} {w : World} (h : Tb B t O w) (h1 : O.1.length < 40000) (h2 : O.2.length < 100000) (k v : Vt) (f : Int) (hk : k.2.2.size ≤ 1000) :
    Calls Tryz.prog 75 #[.pointer (some ⟨t, 0, none⟩), valV k, valV v, .int .i64 f] w fun e w' => e = .returned (.tuple #[]) ∧ Tb B t (putO O (keyT k) v f) w' ∧ Fr B w w' := by
  obtain ⟨T, vs, vb, vc, hT, hG, ho⟩ := h
  obtain ⟨s1, s2⟩ := obs_sizes hG ho
  refine (put_any B t T vs vb vc hG (by omega) (by omega) k v f hk w hT).mono ?_
  rintro e w' ⟨rfl, T', hG', ho', _, _, hp⟩
  exact ⟨rfl, Tb.post hT hG' (by rw [ho', ho]) hp⟩
theorem del_tb {B t : Nat} {O : Ob} {w : World} (h : Tb B t O w) (h1 : O.1.length < 40000) (h2 : O.2.length < 100000) (k : Vt) (hk : k.2.2.size ≤ 1000) :
    Calls Tryz.prog 51 #[.pointer (some ⟨t, 0, none⟩), valV k] w fun e w' => ∃ r : Bool, e = .returned (.bool r) ∧ (r = true ↔ hasK O.1 (keyT k)) ∧ Tb B t (delO O (keyT k)) w' ∧ Fr B w w' := by
  obtain ⟨T, vs, vb, vc, hT, hG, ho⟩ := h
  obtain ⟨s1, s2⟩ := obs_sizes hG ho
  refine (del_any B t T vs vb vc hG (by omega) (by omega) k hk w hT).mono ?_
  rintro e w' ⟨r, rfl, hr, T', hG', ho', _, _, hp⟩
  exact ⟨r, rfl, by rw [hr, ho], Tb.post hT hG' (by rw [ho', ho]) hp⟩
theorem get_tb {B t : Nat} {O : Ob} {w : World} (h : Tb B t O w) (k : Vt) (hk : k.2.2.size ≤ 1000) :
    Calls Tryz.prog 85 #[.pointer (some ⟨t, 0, none⟩), valV k] w fun e w' => ((∃ x ∈ O.1, x.1 = keyT k ∧ e = .returned (.tuple #[valV x.2.1, .int .i64 x.2.2, .bool true])) ∨ (¬ hasK O.1 (keyT k) ∧ e = .returned (.tuple #[zeroV, .int .i64 0, .bool false]))) ∧ Tb B t O w' ∧ Fr B w w' := by
  have hle := h.le
  have hh := h
  obtain ⟨T, vs, vb, vc, hT, hG, ho⟩ := h
  refine (tget_any B t T vs vb vc hG.inv k hk w hT).mono ?_
  rintro e w' ⟨hr, hb⟩
  rw [ho] at hr
  exact ⟨hr, hh.on hb, Fr.of_below hle hb⟩
theorem new_tb {B : Nat} {w : World} (hB : B ≤ w.heap.size) : Calls Tryz.prog 74 #[] w fun e w' => ∃ t, e = .returned (.pointer (some ⟨t, 0, none⟩)) ∧ Tb B t ([], []) w' ∧ Fr B w w' := by
  refine (tnew_any w).mono ?_
  rintro e w' ⟨rfl, rfl⟩
  exact ⟨_, rfl, ⟨T0, _, _, _, tab0 w B hB, good0, rfl⟩, Fr.of_below hB ((Below.refl _ _).alloc (Nat.le_refl _) _)⟩
end Go.Proofs.YtgdkjkfbknbgkaaGreatDoor
namespace Go.Proofs.YtgdkjkfbknbgkaaGreatDoor
open Go.RowKit

/-- Cursor i is closed: the last one, z, takes its place. -/
def clT (T : Tab) (i : Nat) (z : Nat × Nat) : Tab := { T with cur := (T.cur.set i z).take (T.cur.length - 1) }
theorem curC_cl (T : Tab) (i m : Nat) (z : Nat × Nat) (v : Value) (hm : m + 1 = T.cur.length) : (((curC T.cur).set i (.pointer (some ⟨z.1, 0, none⟩))).set m v).take m = curC (clT T i z).cur := by
  unfold curC clT
  rw [show T.cur.length - 1 = m by omega]
  show _ = List.map _ ((T.cur.set i z).take m)
  rw [List.map_take, List.map_set]
  apply List.ext_getElem?
  intro j
  rw [List.getElem?_take, List.getElem?_take]
  split
  · rw [List.getElem?_set_ne (by omega)]
  · rfl
theorem cl_get {T : Tab} {i j m : Nat} {z x : Nat × Nat} (hm : m + 1 = T.cur.length) (h : (clT T i z).cur[j]? = some x) : j < m ∧ ((j = i ∧ x = z) ∨ (j ≠ i ∧ T.cur[j]? = some x)) := by
  unfold clT at h
  rw [show T.cur.length - 1 = m by omega] at h
  have h' : ((T.cur.set i z).take m)[j]? = some x := h
  rw [List.getElem?_take] at h'
  split at h'
  · refine ⟨by assumption, ?_⟩
    by_cases e : i = j
    · subst e
      rw [List.getElem?_set_self (by omega)] at h'
      cases h'
      exact .inl ⟨rfl, rfl⟩
    · rw [List.getElem?_set_ne e] at h'
      exact .inr ⟨fun e2 => e e2.symm, h'⟩
  · cases h'
theorem cs_ne {w : World} {B t : Nat} {T : Tab} {vs vb vc : Value} (h : TabAt w B t T vs vb vc) {i j : Nat} {x y : Nat × Nat} (hx : T.cur[i]? = some x) (hy : T.cur[j]? = some y) (hij : i ≠ j) : x.1 ≠ y.1 := fun e => by
  have h1 := (h.cs i x hx).2
  have h2 := (h.cs j y hy).2
  rw [e] at h1
  have := (show w.heap[y.1]? = _ from h1).symm.trans h2
  simp at this
  omega

end Go.Proofs.YtgdkjkfbknbgkaaGreatDoor
namespace Go.Proofs.YtgdkjkfbknbgkaaGreatDoor
open Go.RowKit

def EndPost (B t : Nat) (T : Tab) (i c : Nat) (F : Nat → Prop) (w : World) (e : Ending) (w' : World) : Prop :=
  e = .returned (.tuple #[zeroV, zeroV, .int .i64 0, .bool false]) ∧ ∃ q z, q ≤ T.sl.length ∧ ents (T.sl.drop q) = [] ∧ (cutT T i c q).cur[T.cur.length - 1]? = some z ∧ TabPost B t (clT (cutT T i c q) i z) F w w' ∧ ∃ x y, Box w' c 199 #[.pointer none, x, y]
theorem TabPost.more {B t : Nat} {T : Tab} {F S : Nat → Prop} {w w2 w3 : World} (h : TabPost B t T F w w2) (ht : Touch S w2 w3) (hS : ∀ k, S k → w.heap.size ≤ k ∧ ∃ cs, Box w2 k 30 cs) : TabPost B t T F w w3 := by
  obtain ⟨vs, vb, vc, h1, h2, h3⟩ := h
  refine ⟨vs, vb, vc, h1.touch ht (fun k hk hs => ?_), ⟨ht.os.trans h2.os, ht.tape.trans h2.tape, ht.output.trans h2.output, Nat.le_trans h2.size ht.size, fun k hk hn => (ht.block k (Nat.lt_of_lt_of_le hk h2.size) (fun hs => by have := (hS k hs).1; omega)).trans (h2.block k hk hn)⟩, h3⟩
  obtain ⟨_, cs, hb⟩ := hS k hs
  exact foot_val h1 hb hk

end Go.Proofs.YtgdkjkfbknbgkaaGreatDoor
namespace Go.Proofs.YtgdkjkfbknbgkaaGreatDoor
open Go.RowKit

/-- Table t lies from B on; F are its own blocks; O is what is seen of it. -/
def Tf (B t : Nat) (F : Nat → Prop) (O : Ob) (w : World) : Prop := ∃ T vs vb vc, TabAt w B t T vs vb vc ∧ Good T ∧ obs T = O ∧ F = Foot t T vs vb vc
/-- The table's own blocks go over from F to F'; of what lay there nothing else changes. -/
structure Fs (F F' : Nat → Prop) (w w' : World) : Prop where
  touch : Touch F w w'
  fresh : ∀ k, F' k → F k ∨ w.heap.size ≤ k
theorem Fs.refl (F : Nat → Prop) (w : World) : Fs F F w w := ⟨Touch.refl _ _, fun _ h => .inl h⟩
theorem Fs.trans {F F1 F2 : Nat → Prop} {a b c : World} (h : Fs F F1 a b) (h2 : Fs F1 F2 b c) : Fs F F2 a c :=
  ⟨⟨h2.touch.os.trans h.touch.os, h2.touch.tape.trans h.touch.tape, h2.touch.output.trans h.touch.output, Nat.le_trans h.touch.size h2.touch.size,
    fun k hk hn => (h2.touch.block k (Nat.lt_of_lt_of_le hk h.touch.size) (fun hs => by rcases h.fresh k hs with h3 | h3; exact hn h3; omega)).trans (h.touch.block k hk hn)⟩,
    fun k hk => by
      rcases h2.fresh k hk with h3 | h3
      · exact h.fresh k h3
      · exact .inr (Nat.le_trans h.touch.size h3)⟩
theorem Fs.of_below {F : Nat → Prop} {w w' : World} (h : Below w.heap.size w w') : Fs F F w w' := ⟨Touch.of_below h, fun _ h => .inl h⟩
section
variable {B t : Nat} {F : Nat → Prop} {O : Ob} {w w' : World}
theorem Tf.on (h : Tf B t F O w) (hb : Below w.heap.size w w') : Tf B t F O w' := by
  obtain ⟨T, vs, vb, vc, h1, h2, h3, h4⟩ := h
  exact ⟨T, vs, vb, vc, h1.on hb, h2, h3, h4⟩
theorem Tf.touch {S : Nat → Prop} (h : Tf B t F O w) (ht : Touch S w w') (hn : ∀ k, F k → ¬ S k) : Tf B t F O w' := by
  obtain ⟨T, vs, vb, vc, h1, h2, h3, rfl⟩ := h
  exact ⟨T, vs, vb, vc, h1.touch ht hn, h2, h3, rfl⟩
theorem Tf.tb (h : Tf B t F O w) : Tb B t O w := by
  obtain ⟨T, vs, vb, vc, h1, h2, h3, h4⟩ := h
  exact ⟨T, vs, vb, vc, h1, h2, h3⟩
theorem Tb.tf (h : Tb B t O w) : ∃ F, Tf B t F O w := by
  obtain ⟨T, vs, vb, vc, h1, h2, h3⟩ := h
  exact ⟨_, T, vs, vb, vc, h1, h2, h3, rfl⟩
theorem Tf.lt (h : Tf B t F O w) (k : Nat) (hk : F k) : B ≤ k ∧ k < w.heap.size := by
  obtain ⟨T, vs, vb, vc, h1, h2, h3, rfl⟩ := h
  exact Foot.lt h1 hk
theorem Tf.le (h : Tf B t F O w) : B ≤ w.heap.size := h.tb.le
theorem Tf.lab (h : Tf B t F O w) (k : Nat) (hk : F k) : Lab w k 173 ∨ Lab w k 169 ∨ Lab w k 3 ∨ Lab w k 94 ∨ ∃ a b, Box w k 199 #[.pointer (some ⟨t, 0, none⟩), a, b] := by
  obtain ⟨T, vs, vb, vc, h1, h2, h3, rfl⟩ := h
  rcases hk with rfl | e | e | e | ⟨d, hd, rfl⟩
  · exact .inl h1.box.lab
  · exact .inr (.inl (own_lab h1.os k e))
  · exact .inr (.inr (.inl (own_lab h1.ob k e)))
  · exact .inr (.inr (.inr (.inl (own_lab h1.oc k e))))
  · obtain ⟨m, hm, rfl⟩ := List.mem_iff_getElem.1 hd
    exact .inr (.inr (.inr (.inr ⟨_, _, (h1.cs m _ (List.getElem?_eq_getElem hm)).2⟩)))
/-- A block of another type is none of the table's. -/
theorem Tf.not_lab (h : Tf B t F O w) {g : Nat} {e : TypeId} (hl : Lab w g e) (he : e ≠ 173 ∧ e ≠ 169 ∧ e ≠ 3 ∧ e ≠ 94 ∧ e ≠ 199) : ¬ F g := fun hk => by
  rcases h.lab g hk with h1 | h1 | h1 | h1 | ⟨a, b, h1⟩
  · exact hl.ne h1 he.1 rfl
  · exact hl.ne h1 he.2.1 rfl
  · exact hl.ne h1 he.2.2.1 rfl
  · exact hl.ne h1 he.2.2.2.1 rfl
  · exact hl.ne h1.lab he.2.2.2.2 rfl
theorem Tf.not_val (h : Tf B t F O w) {g : Nat} {cs : Array Value} (hg : Box w g 30 cs) : ¬ F g := h.not_lab hg.lab (by decide)
/-- A closed cursor is none of the table's. -/
theorem Tf.not_closed (h : Tf B t F O w) {g : Nat} {x y : Value} (hg : Box w g 199 #[.pointer none, x, y]) : ¬ F g := fun hk => by
  rcases h.lab g hk with h1 | h1 | h1 | h1 | ⟨a, b, h1⟩
  · exact hg.lab.ne h1 (by decide) rfl
  · exact hg.lab.ne h1 (by decide) rfl
  · exact hg.lab.ne h1 (by decide) rfl
  · exact hg.lab.ne h1 (by decide) rfl
  · have := (show w.heap[g]? = _ from hg).symm.trans h1
    simp at this
theorem Fs.box {F F' : Nat → Prop} {w w' : World} (h : Fs F F' w w') {g : Nat} {e : TypeId} {cs : Array Value} (hg : Box w g e cs) (hn : ¬ F g) : Box w' g e cs ∧ ¬ F' g :=
  ⟨hg.touch h.touch hn, fun hk => (h.fresh g hk).elim hn (fun h2 => by have := hg.lt; omega)⟩
theorem Fs.val {F' : Nat → Prop} (h : Tf B t F O w) (hs : Fs F F' w w') {g : Nat} {cs : Array Value} (hg : Box w g 30 cs) : Box w' g 30 cs := (hs.box hg (h.not_val hg)).1
theorem Fs.below {F' : Nat → Prop} (h : Tf B t F O w) (hs : Fs F F' w w') : Below B w w' := hs.touch.below h.le (fun k hk => (h.lt k hk).1)
theorem Fs.fr {F' : Nat → Prop} (h : Tf B t F O w) (hs : Fs F F' w w') : Fr B w w' := ⟨hs.below h, fun _ _ hg => hs.val h hg⟩
theorem Tf.post {T T' : Tab} {vs vb vc : Value} (hG : Good T') (ho : obs T' = O) (hp : TabPost B t T' (Foot t T vs vb vc) w w') : ∃ F', Tf B t F' O w' ∧ Fs (Foot t T vs vb vc) F' w w' := by
  obtain ⟨vs', vb', vc', h1, h2, h3⟩ := hp
  exact ⟨_, ⟨T', vs', vb', vc', h1, hG, ho, rfl⟩, h2, h3⟩
end
def PutP (B t : Nat) (F : Nat → Prop) (O : Ob) (w w' : World) : Prop := ∃ F', Tf B t F' O w' ∧ Fs F F' w w'
theorem put_tf {B t : Nat} {F : Nat → Prop} {O : Ob} {w : World} (h : Tf B t F O w) (h1 : O.1.length < 40000) (h2 : O.2.length < 100000) (k v : Vt) (f : Int) (hk : k.2.2.size ≤ 1000) :
    Calls Tryz.prog 75 #[.pointer (some ⟨t, 0, none⟩), valV k, valV v, .int .i64 f] w fun e w' => e = .returned (.tuple #[]) ∧ PutP B t F (putO O (keyT k) v f) w w' := by
  obtain ⟨T, vs, vb, vc, hT, hG, ho, rfl⟩ := h
  obtain ⟨s1, s2⟩ := obs_sizes hG ho
  refine (put_any B t T vs vb vc hG (by omega) (by omega) k v f hk w hT).mono ?_
  rintro e w' ⟨rfl, T', hG', ho', _, _, hp⟩
  exact ⟨rfl, Tf.post hG' (by rw [ho', ho]) hp⟩
def DelP (B t : Nat) (F : Nat → Prop) (O : Ob) (k : Vt) (w : World) (e : Ending) (w' : World) : Prop := ∃ r : Bool, e = .returned (.bool r) ∧ (r = true ↔ hasK O.1 k) ∧ PutP B t F (delO O k) w w'
theorem del_tf {B t : Nat} {F : Nat → Prop} {O : Ob} {w : World} (h : Tf B t F O w) (h1 : O.1.length < 40000) (h2 : O.2.length < 100000) (k : Vt) (hk : k.2.2.size ≤ 1000) :
    Calls Tryz.prog 51 #[.pointer (some ⟨t, 0, none⟩), valV k] w (DelP B t F O (keyT k) w) := by
  obtain ⟨T, vs, vb, vc, hT, hG, ho, rfl⟩ := h
  obtain ⟨s1, s2⟩ := obs_sizes hG ho
  refine (del_any B t T vs vb vc hG (by omega) (by omega) k hk w hT).mono ?_
  rintro e w' ⟨r, rfl, hr, T', hG', ho', _, _, hp⟩
  exact ⟨r, rfl, by rw [hr, ho], Tf.post hG' (by rw [ho', ho]) hp⟩
theorem cut_good {T : Tab} (hG : Good T) (i c q : Nat) (hq : q ≤ T.sl.length) : Good (cutT T i c q) :=
  ⟨⟨hG.inv.hlen, hG.inv.nb, hG.inv.cap, hG.inv.next, hG.inv.live, hG.inv.uniq, hG.inv.cnt, hG.inv.hlt⟩, hG.slack, fun y hy => by
    rcases List.mem_or_eq_of_mem_set (show y ∈ T.cur.set i (c, q) from hy) with h | h
    · exact hG.cat y h
    · rw [h]; exact hq⟩
theorem cut_foot {T : Tab} {t i c a q : Nat} {vs vb vc : Value} (hc : T.cur[i]? = some (c, a)) : Foot t (cutT T i c q) vs vb vc = Foot t T vs vb vc := by
  have hi := (List.getElem?_eq_some_iff.1 hc).1
  funext k
  apply propext
  constructor
  · rintro (h | h | h | h | ⟨x, hx, h⟩)
    · exact .inl h
    · exact .inr (.inl h)
    · exact .inr (.inr (.inl h))
    · exact .inr (.inr (.inr (.inl h)))
    · rcases List.mem_or_eq_of_mem_set (show x ∈ T.cur.set i (c, q) from hx) with h2 | h2
      · exact .inr (.inr (.inr (.inr ⟨x, h2, h⟩)))
      · exact .inr (.inr (.inr (.inr ⟨(c, a), List.mem_of_getElem? hc, by rw [← h, h2]⟩)))
  · rintro (h | h | h | h | ⟨x, hx, h⟩)
    · exact .inl h
    · exact .inr (.inl h)
    · exact .inr (.inr (.inl h))
    · exact .inr (.inr (.inr (.inl h)))
    · obtain ⟨j, hj⟩ := List.mem_iff_getElem?.1 hx
      by_cases e : i = j
      · subst e
        rw [hc] at hj
        cases hj
        exact .inr (.inr (.inr (.inr ⟨(c, q), List.mem_of_getElem? (List.getElem?_set_self hi), h⟩)))
      · exact .inr (.inr (.inr (.inr ⟨x, List.mem_of_getElem? (by rw [show (cutT T i c q).cur = T.cur.set i (c, q) from rfl, List.getElem?_set_ne e]; exact hj), h⟩)))
/-- What a table has without cursor c. -/
theorem set_take_perm {α : Type} : ∀ (l : List α) (i : Nat) (x z : α), l[i]? = some x → l[l.length - 1]? = some z → (x :: (l.set i z).take (l.length - 1)).Perm l := by
  intro l i x z hx hz
  rcases List.eq_nil_or_concat l with rfl | ⟨m, y, rfl⟩
  · simp at hx
  · simp only [List.concat_eq_append, List.length_append, List.length_cons, List.length_nil, Nat.add_sub_cancel] at *
    rw [List.getElem?_append_right (Nat.le_refl _)] at hz
    simp at hz
    subst hz
    by_cases hi : i < m.length
    · rw [List.getElem?_append_left hi] at hx
      rw [List.set_append_left _ _ hi, List.take_left' (by simp)]
      have h1 : (x :: m.set i y).Perm (y :: m) := by
        obtain ⟨h2, rfl⟩ := List.getElem?_eq_some_iff.1 hx
        have e1 : m = m.take i ++ m[i] :: m.drop (i + 1) := by rw [← List.drop_eq_getElem_cons h2, List.take_append_drop]
        have e2 : m.set i y = m.take i ++ y :: m.drop (i + 1) := by rw [List.set_eq_take_append_cons_drop, if_pos h2]
        rw [e2]
        conv => rhs; rw [e1]
        refine ((List.Perm.cons _ List.perm_middle).trans (List.Perm.swap _ _ _)).trans ?_
        exact List.Perm.cons _ List.perm_middle.symm
      exact h1.trans (List.perm_append_singleton y m).symm
    · have hi2 : i = m.length := by
        have := (List.getElem?_eq_some_iff.1 hx).1
        simp at this; omega
      subst hi2
      rw [List.getElem?_append_right (Nat.le_refl _)] at hx
      simp at hx
      subst hx
      rw [List.set_append_right _ _ (Nat.le_refl _), List.take_left' rfl]
      exact (List.perm_append_singleton _ m).symm
/-- Cursor c is closed and none of the table's any more. -/
def ShutP (B t : Nat) (F : Nat → Prop) (O : Ob) (c : Nat) (r : List En) (w w' : World) : Prop := ∃ F' L, Tf B t F' (O.1, L) w' ∧ Fs F F' w w' ∧ ((c, r) :: L).Perm O.2 ∧ ∃ x y, Box w' c 199 #[.pointer none, x, y]
theorem clT_good {T : Tab} (hG : Good T) (i : Nat) (z : Nat × Nat) (hz : z.2 ≤ T.sl.length) : Good (clT T i z) :=
  ⟨⟨hG.inv.hlen, hG.inv.nb, hG.inv.cap, hG.inv.next, hG.inv.live, hG.inv.uniq, hG.inv.cnt, hG.inv.hlt⟩, hG.slack, fun y hy => by
    rcases List.mem_or_eq_of_mem_set (List.mem_of_mem_take (show y ∈ (T.cur.set i z).take (T.cur.length - 1) from hy)) with h | h
    · exact hG.cat y h
    · rw [h]; exact hz⟩
theorem shut_post {B t : Nat} {T : Tab} {vs vb vc : Value} {w w' : World} (hG : Good T) (i c a : Nat) (hc : T.cur[i]? = some (c, a)) (z : Nat × Nat) (hz : T.cur[T.cur.length - 1]? = some z) (hp : TabPost B t (clT T i z) (Foot t T vs vb vc) w w') (hb : ∃ x y, Box w' c 199 #[.pointer none, x, y]) :
    ShutP B t (Foot t T vs vb vc) (obs T) c (ents (T.sl.drop a)) w w' := by
  obtain ⟨F', h1, h2⟩ := Tf.post (clT_good hG i z (hG.cat z (List.mem_of_getElem? hz))) rfl hp
  refine ⟨F', _, h1, h2, ?_, hb⟩
  have := (set_take_perm T.cur i (c, a) z hc hz).map (fun c : Nat × Nat => (c.1, ents (T.sl.drop c.2)))
  exact this
theorem new_tf {B : Nat} {w : World} (hB : B ≤ w.heap.size) : Calls Tryz.prog 74 #[] w fun e w' => e = .returned (.pointer (some ⟨w.heap.size, 0, none⟩)) ∧ Tf B w.heap.size (fun k => k = w.heap.size) ([], []) w' ∧ Below w.heap.size w w' := by
  refine (tnew_any w).mono ?_
  rintro e w' ⟨rfl, rfl⟩
  refine ⟨rfl, ⟨T0, _, _, _, tab0 w B hB, good0, rfl, ?_⟩, (Below.refl _ _).alloc (Nat.le_refl _) _⟩
  funext k
  apply propext
  constructor
  · intro h; exact .inl h
  · rintro (h | h | h | h | ⟨x, hx, h⟩)
    · exact h
    · simp [Value.ownBlock] at h
    · simp [Value.ownBlock] at h
    · simp [Value.ownBlock] at h
    · simp [T0] at hx
end Go.Proofs.YtgdkjkfbknbgkaaGreatDoor
