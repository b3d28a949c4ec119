/- Tables: New, Len, Storage, Get; what a table that is none answers. -/
import Derived.Test.YtbeapojjbgkalaaDoorFl
namespace Go.Proofs.YtbeapojjbgkalaaDoor
open Go.RowKit

abbrev noRow : Value := .slice none 0 0
def T0 : Tab := ⟨[], [], 0, 0, []⟩
theorem good0 : Good T0 := ⟨⟨rfl, .inl rfl, Nat.le_refl _, fun i s h hs => by simp [T0] at hs, fun i s hs => by simp [T0] at hs, fun i j s t hs => by simp [T0] at hs, rfl, fun h hh => by simp [T0] at hh⟩, by simp [T0], fun c hc => by simp [T0] at hc⟩
theorem nil_own (w : World) (B : Nat) (e : TypeId) (size : Nat) : w.ownsRow B e size noRow 0 [] := ⟨by simp, .inl ⟨rfl, rfl⟩⟩
theorem tab0 (w : World) (B : Nat) (hB : B ≤ w.heap.size) : TabAt (w.alloc (.cells #[noRow, noRow, .int .i64 0, noRow] 73)) B w.heap.size T0 noRow noRow noRow :=
  ⟨Box.new w _ _, nil_own _ _ _ _, nil_own _ _ _ _, nil_own _ _ _ _, fun i c hc => by simp [T0] at hc, hB⟩
set_option maxRecDepth 100000 in
theorem tnew_any (w : World) : Calls Tryd.prog 9 #[] w fun e w' => e = .returned (.pointer (some ⟨w.heap.size, 0, none⟩)) ∧ w' = w.alloc (.cells #[noRow, noRow, .int .i64 0, noRow] 73) := by
  go_enter Tryd.func9, Tryd.ntmps9
  go_wp2
  go_ret
  exact ⟨rfl, rfl⟩
set_option maxRecDepth 100000 in
theorem len_any (B t : Nat) (T : Tab) (vs vb vc : Value) (w : World) (h : TabAt w B t T vs vb vc) : Calls Tryd.prog 19 #[.pointer (some ⟨t, 0, none⟩)] w fun e w' => e = .returned (.int .i64 (T.cnt : Int)) ∧ w' = w := by
  have c2 : w.cell? ⟨t, 2, none⟩ = some (.int .i64 (T.cnt : Int)) := h.box.at_ 2
  clear h
  go_enter Tryd.func19, Tryd.ntmps19
  go_wp2
  go_ret
  exact ⟨rfl, rfl⟩
set_option maxRecDepth 100000 in
theorem len_nil (w : World) : Calls Tryd.prog 19 #[.pointer none] w fun e w' => e = .returned (.int .i64 0) ∧ w' = w := by
  go_enter Tryd.func19, Tryd.ntmps19
  go_wp2
  go_ret
  exact ⟨rfl, rfl⟩
set_option maxRecDepth 100000 in
theorem find_nil (k : Vt) (w : World) : Calls Tryd.prog 32 #[.pointer none, valV k] w fun e w' => e = .returned (.int .i64 (-1)) ∧ Below w.heap.size w w' := by
  have hB : Below w.heap.size w (w.alloc (.cells #[.int .i64 k.1, .int .i64 k.2.1, .string k.2.2] 45)) := (Below.refl _ _).alloc (Nat.le_refl _) _
  go_enter Tryd.func32, Tryd.ntmps32
  go_wp2
  go_ret
  exact ⟨rfl, hB⟩
set_option maxRecDepth 100000 in
theorem del_nil (k : Vt) (w : World) : Calls Tryd.prog 43 #[.pointer none, valV k] w fun e w' => e = .returned (.bool false) ∧ Below w.heap.size w w' := by
  have hB : Below w.heap.size w (w.alloc (.cells #[.int .i64 k.1, .int .i64 k.2.1, .string k.2.2] 45)) := (Below.refl _ _).alloc (Nat.le_refl _) _
  have HKEY := Veil.mk (fun w => key_any k w)
  have HF := Veil.mk (fun w => find_nil (keyT k) w)
  go_enter Tryd.func43, Tryd.ntmps43
  go_wp2_with (first | (go_at_call 31; ((with_reducible refine (HKEY.out _).mono ?_); rintro e w1 ⟨rfl, hb1⟩)) | (go_at_call 32; ((with_reducible refine (HF.out _).mono ?_); rintro e w2 ⟨rfl, hb2⟩)))
  go_ret
  exact ⟨rfl, blw2 hB (blw2 hb1 hb2)⟩
set_option maxRecDepth 100000 in
theorem clear_nil (w : World) : Calls Tryd.prog 132 #[.pointer none] w fun e w' => e = .returned (.tuple #[]) ∧ w' = w := by
  go_enter Tryd.func132, Tryd.ntmps132
  go_wp2
  exact bodyPost_ret (results_none rfl _ _ _) rfl ⟨rfl, rfl⟩
set_option maxRecDepth 100000 in
theorem cursor_nil (w : World) : Calls Tryd.prog 64 #[.pointer none] w fun e w' => e = .returned (.pointer none) ∧ w' = w := by
  go_enter Tryd.func64, Tryd.ntmps64
  go_wp2
  go_ret
  exact ⟨rfl, rfl⟩
set_option maxRecDepth 100000 in
theorem open_nil (w : World) : Calls Tryd.prog 79 #[.pointer none] w fun e w' => e = .returned (.bool false) ∧ w' = w := by
  go_enter Tryd.func79, Tryd.ntmps79
  go_wp2
  go_ret
  exact ⟨rfl, rfl⟩
set_option maxRecDepth 100000 in
theorem open_any (c t : Nat) (a b : Value) (w : World) (h : Box w c 133 #[.pointer (some ⟨t, 0, none⟩), a, b]) : Calls Tryd.prog 79 #[.pointer (some ⟨c, 0, none⟩)] w fun e w' => e = .returned (.bool true) ∧ w' = w := by
  have c0 : w.cell? ⟨c, 0, none⟩ = some (.pointer (some ⟨t, 0, none⟩)) := h.at_ 0
  clear h
  go_enter Tryd.func79, Tryd.ntmps79
  go_wp2
  go_ret
  exact ⟨rfl, rfl⟩
set_option maxRecDepth 100000 in
theorem close_nil (w : World) : Calls Tryd.prog 65 #[.pointer none] w fun e w' => e = .returned (.tuple #[]) ∧ w' = w := by
  have HO := Veil.mk (fun w => open_nil w)
  go_enter Tryd.func65, Tryd.ntmps65
  go_wp2_with (first | (go_at_call 79; ((with_reducible refine (HO.out _).mono ?_); rintro e w1 ⟨rfl, rfl⟩)))
  exact bodyPost_ret (results_none rfl _ _ _) rfl ⟨rfl, rfl⟩
abbrev zeroV : Value := .agg #[.int .i64 0, .int .i64 0, .string ⟨#[]⟩]
set_option maxRecDepth 100000 in
theorem next_nil (w : World) : Calls Tryd.prog 66 #[.pointer none] w fun e w' => e = .returned (.tuple #[zeroV, zeroV, .int .i64 0, .bool false]) ∧ Below w.heap.size w w' := by
  have HO := Veil.mk (fun w => open_nil w)
  go_enter Tryd.func66, Tryd.ntmps66
  go_wp2_with (first | (go_at_call 79; ((with_reducible refine (HO.out _).mono ?_); rintro e w1 ⟨rfl, rfl⟩)))
  exact bodyPost_ret (v := .tuple #[zeroV, zeroV, .int .i64 0, .bool false]) (by simp [results, Tryd.results66, go_sem]) rfl ⟨rfl, ((Below.refl _ _).alloc (Nat.le_refl _) _).alloc (by simp) _⟩
set_option maxRecDepth 100000 in
theorem get_nil (k : Vt) (w : World) : Calls Tryd.prog 16 #[.pointer none, valV k] w fun e w' => e = .returned (.tuple #[zeroV, .int .i64 0, .bool false]) ∧ Below w.heap.size w w' := by
  have HKEY := Veil.mk (fun w => key_any k w)
  have HF := Veil.mk (fun w => find_nil (keyT k) w)
  obtain ⟨W, hW⟩ : ∃ W, W = (w.alloc (.cells #[.int .i64 k.1, .int .i64 k.2.1, .string k.2.2] 45)).alloc (.cells #[.int .i64 0, .int .i64 0, .string ⟨#[]⟩] 45) := ⟨_, rfl⟩
  have hBW : Below w.heap.size w W := by rw [hW]; exact ((Below.refl _ _).alloc (Nat.le_refl _) _).alloc (by simp) _
  have hK : Box W w.heap.size 45 #[.int .i64 k.1, .int .i64 k.2.1, .string k.2.2] := by rw [hW]; exact (Box.new w _ _).more _
  have hZ : Box W (w.heap.size + 1) 45 #[.int .i64 0, .int .i64 0, .string ⟨#[]⟩] := by
    rw [hW]
    have := Box.new (w.alloc (.cells #[.int .i64 k.1, .int .i64 k.2.1, .string k.2.2] 45)) 45 #[.int .i64 0, .int .i64 0, .string ⟨#[]⟩]
    rwa [World.size_alloc] at this
  have HW := Veil.mk hW
  have x0 : W.cell? ⟨w.heap.size, 0, none⟩ = some (.int .i64 k.1) := hK.at_ 0
  have x1 : W.cell? ⟨w.heap.size, 1, none⟩ = some (.int .i64 k.2.1) := hK.at_ 1
  have x2 : W.cell? ⟨w.heap.size, 2, none⟩ = some (.string k.2.2) := hK.at_ 2
  have hlz := hZ.lt
  clear hW hK
  go_enter Tryd.func16, Tryd.ntmps16
  go_upto_region 1 with (fail)
  rw [← HW.out]
  go_upto_region 2 with (first | (go_at_call 31; ((with_reducible refine (HKEY.out _).mono ?_); rintro e w1 ⟨rfl, hb1⟩)) | (go_at_call 32; ((with_reducible refine (HF.out _).mono ?_); rintro e w2 ⟨rfl, hb2⟩)))
  have hZ2 := hZ.on (blw2 hb1 hb2) hlz
  have z0 : w2.cell? ⟨w.heap.size + 1, 0, none⟩ = some (.int .i64 0) := hZ2.at_ 0
  have z1 : w2.cell? ⟨w.heap.size + 1, 1, none⟩ = some (.int .i64 0) := hZ2.at_ 1
  have z2 : w2.cell? ⟨w.heap.size + 1, 2, none⟩ = some (.string ⟨#[]⟩) := hZ2.at_ 2
  have g0 := hZ2.free 0
  have g1 := hZ2.free 1
  have g2 := hZ2.free 2
  have hb : Below w.heap.size w w2 := blw2 hBW (blw2 hb1 hb2)
  have HE : Veil (∀ (a b c : Value), Below w.heap.size w (((w2.setCell ⟨w.heap.size + 1, 0, none⟩ a).setCell ⟨w.heap.size + 1, 1, none⟩ b).setCell ⟨w.heap.size + 1, 2, none⟩ c)) := ⟨fun a b c => ((hb.setCell (p := ⟨w.heap.size + 1, 0, none⟩) (by simp) _).setCell (p := ⟨w.heap.size + 1, 1, none⟩) (by simp) _).setCell (p := ⟨w.heap.size + 1, 2, none⟩) (by simp) _⟩
  clear x0 x1 x2 hb1 hZ hlz hBW HW HKEY HF hZ2
  go_wp2
  have hz3 : True := trivial
  exact bodyPost_ret (v := .tuple #[zeroV, .int .i64 0, .bool false]) (by simp [results, Tryd.results16, go_sem, z0, z1, z2]) rfl ⟨rfl, HE.out _ _ _⟩
def GetPost (T : Tab) (k : Vt) (w : World) (e : Ending) (w' : World) : Prop := ((∃ x ∈ (obs T).1, x.1 = keyT k ∧ e = .returned (.tuple #[valV x.2.1, .int .i64 x.2.2, .bool true])) ∨ (¬ hasK (obs T).1 (keyT k) ∧ e = .returned (.tuple #[zeroV, .int .i64 0, .bool false]))) ∧ Below w.heap.size w w'
set_option maxHeartbeats 4000000 in
set_option maxRecDepth 100000 in
theorem tget_any (B t : Nat) (T : Tab) (vs vb vc : Value) (hI : Inv T) (k : Vt) (hk : k.2.2.size ≤ 1000) (w : World) (h : TabAt w B t T vs vb vc) : Calls Tryd.prog 16 #[.pointer (some ⟨t, 0, none⟩), valV k] w (GetPost T k w) := by
  have HKEY := Veil.mk (fun w => key_any k w)
  obtain ⟨W, hW⟩ : ∃ W, W = (w.alloc (.cells #[.int .i64 k.1, .int .i64 k.2.1, .string k.2.2] 45)).alloc (.cells #[.int .i64 0, .int .i64 0, .string ⟨#[]⟩] 45) := ⟨_, rfl⟩
  have hBW : Below w.heap.size w W := by rw [hW]; exact ((Below.refl _ _).alloc (Nat.le_refl _) _).alloc (by simp) _
  have hK : Box W w.heap.size 45 #[.int .i64 k.1, .int .i64 k.2.1, .string k.2.2] := by rw [hW]; exact (Box.new w _ _).more _
  have hZ : Box W (w.heap.size + 1) 45 #[.int .i64 0, .int .i64 0, .string ⟨#[]⟩] := by
    rw [hW]
    have := Box.new (w.alloc (.cells #[.int .i64 k.1, .int .i64 k.2.1, .string k.2.2] 45)) 45 #[.int .i64 0, .int .i64 0, .string ⟨#[]⟩]
    rwa [World.size_alloc] at this
  have HW := Veil.mk hW
  have x0 : W.cell? ⟨w.heap.size, 0, none⟩ = some (.int .i64 k.1) := hK.at_ 0
  have x1 : W.cell? ⟨w.heap.size, 1, none⟩ = some (.int .i64 k.2.1) := hK.at_ 1
  have x2 : W.cell? ⟨w.heap.size, 2, none⟩ = some (.string k.2.2) := hK.at_ 2
  have hlz := hZ.lt
  have hT := h.on hBW
  have HT := Veil.mk hT
  have HF := Veil.mk (fun w1 (hb : Below W.heap.size W w1) => find_all B t T vs vb vc hI (keyT k) (keyT_size2 k hk) w1 (hT.on hb))
  have hne : w.heap.size ≤ w.heap.size + 1 := Nat.le_succ _
  clear hW hK hT
  have hlt : ∀ g, vs.ownBlock = some g → g < w.heap.size := fun g hg => (own_lt h.os g hg).2
  have htl := h.box.lt
  clear h
  go_enter Tryd.func16, Tryd.ntmps16
  go_upto_region 1 with (fail)
  rw [← HW.out]
  go_upto_region 2 with (first | (go_at_call 31; ((with_reducible refine (HKEY.out _).mono ?_); rintro e w1 ⟨rfl, hb1⟩)) | (go_at_call 32; ((with_reducible refine (HF.out _ hb1).mono ?_); rintro e w2 ⟨r, rfl, hr, hb2⟩)))
  have hZ2 := hZ.on (blw2 hb1 hb2) hlz
  have hT2 := HT.out.on (blw2 hb1 hb2)
  have z0 : w2.cell? ⟨w.heap.size + 1, 0, none⟩ = some (.int .i64 0) := hZ2.at_ 0
  have z1 : w2.cell? ⟨w.heap.size + 1, 1, none⟩ = some (.int .i64 0) := hZ2.at_ 1
  have z2 : w2.cell? ⟨w.heap.size + 1, 2, none⟩ = some (.string ⟨#[]⟩) := hZ2.at_ 2
  have g0 := hZ2.free 0
  have g1 := hZ2.free 1
  have g2 := hZ2.free 2
  have hb : Below w.heap.size w w2 := blw2 hBW (blw2 hb1 hb2)
  have HE : Veil (∀ (a b c : Value), Below w.heap.size w (((w2.setCell ⟨w.heap.size + 1, 0, none⟩ a).setCell ⟨w.heap.size + 1, 1, none⟩ b).setCell ⟨w.heap.size + 1, 2, none⟩ c)) := ⟨fun a b c => ((hb.setCell (p := ⟨w.heap.size + 1, 0, none⟩) (by simp) _).setCell (p := ⟨w.heap.size + 1, 1, none⟩) (by simp) _).setCell (p := ⟨w.heap.size + 1, 2, none⟩) (by simp) _⟩
  clear x0 x1 x2 hb1 hZ hlz hBW HW HKEY HF HT
  rcases hr with ⟨i, rfl, s, hs, hlv, hkey⟩ | ⟨rfl, hno⟩
  · obtain ⟨sa, cs, rfl, hcs, hgs2, hms⟩ := slice_own hT2.os
    have hi := (List.getElem?_eq_some_iff.1 hs).1
    obtain ⟨gs, rfl⟩ := hgs2 (by omega)
    have hgl := hlt gs rfl
    have c0 : w2.cell? ⟨t, 0, none⟩ = some (.slice (some ⟨gs, 0, none⟩) T.sl.length cs) := hT2.box.at_ 0
    obtain ⟨k0, k1, k2, v0, v1, v2, ff, fl, fn⟩ := hT2.slot i s hs
    have i0 : ¬ (i : Int) < 0 := by omega
    have i01 : (0 : Int) ≤ (i : Int) := by omega
    have i1 : (i : Int) < (T.sl.length : Int) := by omega
    have n1 : gs ≠ w.heap.size + 1 := by omega
    have n2 : t ≠ w.heap.size + 1 := by omega
    have HX : Veil (∃ x ∈ (obs T).1, x.1 = keyT k ∧ (Ending.returned (.tuple #[.agg #[.int .i64 s.val.1, .int .i64 s.val.2.1, .string s.val.2.2], .int .i64 s.fl, .bool true])) = .returned (.tuple #[valV x.2.1, .int .i64 x.2.2, .bool true])) := ⟨⟨ent s, List.mem_map.2 ⟨s, List.mem_filter.2 ⟨List.mem_of_getElem? hs, hlv⟩, rfl⟩, hkey, rfl⟩⟩
    have HZ2 := Veil.mk hZ2
    clear hs hlv hkey hT2 hgs2 hlt k0 k1 k2 fl fn hZ2
    go_upto_region 4 with (fail)
    go_region
    have HD := Veil.mk (HE.out (.int .i64 s.val.1) (.int .i64 s.val.2.1) (.string s.val.2.2))
    have hZ3 := ((HZ2.out.put 0 (.int .i64 s.val.1)).put 1 (.int .i64 s.val.2.1)).put 2 (.string s.val.2.2)
    generalize ((w2.setCell ⟨w.heap.size + 1, 0, none⟩ (.int .i64 s.val.1)).setCell ⟨w.heap.size + 1, 1, none⟩ (.int .i64 s.val.2.1)).setCell ⟨w.heap.size + 1, 2, none⟩ (.string s.val.2.2) = w3 at HD hZ3 ⊢
    have y0 : w3.drew.cell? ⟨w.heap.size + 1, 0, none⟩ = some (.int .i64 s.val.1) := hZ3.at_ 0
    have y1 : w3.drew.cell? ⟨w.heap.size + 1, 1, none⟩ = some (.int .i64 s.val.2.1) := hZ3.at_ 1
    have y2 : w3.drew.cell? ⟨w.heap.size + 1, 2, none⟩ = some (.string s.val.2.2) := hZ3.at_ 2
    clear HE z0 z1 z2 g0 g1 g2 v0 v1 v2 ff c0
    go_wp2
    exact bodyPost_ret (v := .tuple #[.agg #[.int .i64 s.val.1, .int .i64 s.val.2.1, .string s.val.2.2], .int .i64 s.fl, .bool true]) (by simp [results, Tryd.results16, go_sem, y0, y1, y2]) rfl ⟨.inl HX.out, HD.out.drew⟩
  · have hno' : ¬ hasK (obs T).1 (keyT k) := fun h => by
      obtain ⟨a, ha⟩ := (hasK_found T (keyT k)).1 h
      exact hno a ha
    clear hT2 hZ2 hno
    go_wp2
    exact bodyPost_ret (v := .tuple #[zeroV, .int .i64 0, .bool false]) (by simp [results, Tryd.results16, go_sem, z0, z1, z2]) rfl ⟨.inr ⟨hno', rfl⟩, HE.out _ _ _⟩
end Go.Proofs.YtbeapojjbgkalaaDoor
