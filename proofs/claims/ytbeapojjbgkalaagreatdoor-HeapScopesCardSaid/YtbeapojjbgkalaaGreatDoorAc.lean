/- Package arena: Push, Pop; what they do where there is no arena. -/
import Derived.Test.YtbeapojjbgkalaaGreatDoorAb
namespace Go.Proofs.YtbeapojjbgkalaaGreatDoor
open Go Go.RowKit

set_option maxRecDepth 100000 in
theorem push_none (v : Value) (w : World) : Calls Tryz.prog 20 #[.pointer none, v] w fun e w' => e = .returned (.tuple #[]) ∧ w' = w := by
  go_enter Tryz.func20, Tryz.ntmps20
  go_wp2
  exact bodyPost_end (results_none rfl _ _ _) rfl ⟨rfl, rfl⟩
set_option maxRecDepth 100000 in
theorem make_none (v : Value) (w : World) : Calls Tryz.prog 51 #[.pointer none, v] w fun e w' => e = .returned (.int .i64 0) ∧ w' = w := by
  go_enter Tryz.func51, Tryz.ntmps51
  go_wp2
  go_ret
  exact ⟨rfl, rfl⟩
set_option maxRecDepth 100000 in
theorem get_none (r : Int) (w : World) : Calls Tryz.prog 39 #[.pointer none, .int .i64 r] w fun e w' => e = .returned .nilIface ∧ w' = w := by
  go_enter Tryz.func39, Tryz.ntmps39
  go_wp2
  go_ret
  exact ⟨rfl, rfl⟩
set_option maxRecDepth 100000 in
theorem count_none (w : World) : Calls Tryz.prog 17 #[.pointer none] w fun e w' => e = .returned (.int .i64 0) ∧ w' = w := by
  go_enter Tryz.func17, Tryz.ntmps17
  go_wp2
  go_ret
  exact ⟨rfl, rfl⟩
set_option maxRecDepth 100000 in
theorem collect_none (v : Value) (w : World) : Calls Tryz.prog 21 #[.pointer none, v] w fun e w' => e = .returned (.slice none 0 0) ∧ w' = w := by
  go_enter Tryz.func21, Tryz.ntmps21
  go_wp2
  go_ret
  exact ⟨rfl, rfl⟩
set_option maxRecDepth 100000 in
theorem make_nil (B A : Nat) (cv fv rv : Value) (d : AD) (w : World) (h : ArAt w B A cv fv rv d) : Calls Tryz.prog 51 #[.pointer (some ⟨A, 0, none⟩), .nilIface] w fun e w' => e = .returned (.int .i64 0) ∧ w' = w := by
  have c2 : w.cell? ⟨A, 2, none⟩ = some (.int .i64 (d.count : Int)) := h.box.at_ 2
  clear h
  go_enter Tryz.func51, Tryz.ntmps51
  go_wp2
  go_ret
  exact ⟨rfl, rfl⟩
def AD.pushed (d : AD) (r : Int) : AD := { d with roots := d.roots ++ [r] }
set_option maxHeartbeats 2000000 in
set_option maxRecDepth 100000 in
theorem push_one (B A : Nat) (cv fv rv : Value) (d : AD) (x : Nat) (r : Int) (w : World) (h : ArAt w B A cv fv rv d) (hx : w.cell? ⟨x, 0, none⟩ = some (.int .i64 r)) (hl : d.roots.length < 1000000) :
    Calls Tryz.prog 20 #[.pointer (some ⟨A, 0, none⟩), .slice (some ⟨x, 0, none⟩) 1 1] w fun e w' => e = .returned (.tuple #[]) ∧ ArPost B A (d.pushed r) (AFoot A cv fv rv) w w' := by
  obtain ⟨i0, hi, hz0, hz1, hz2⟩ := info_parts Tryz.infoI
  obtain ⟨ao, cap, rfl, hcap, hgc, hmc⟩ := slice_own h.ro
  have d0 : w.cell? ⟨A, 3, none⟩ = some (.slice ao d.roots.length cap) := h.box.at_ 3
  have hBs : B ≤ w.heap.size := by have := h.ha; have := h.box.lt; omega
  have hap := h.box.apart h.ro (by decide)
  have tl2 : A < w.heap.size := h.box.lt
  have hcx : ∀ j u, [Value.int .i64 r][j]? = some u → w.cell? ((⟨x, 0, none⟩ : Addr).add j) = some u := by
    intro j u hj
    match j, hj with
    | 0, hj => exact (hx.trans hj)
  have H := Veil.mk h
  clear hgc
  go_enter Tryz.func20, Tryz.ntmps20
  go_wp2_with (at_builtin; refine wpList_append_lies _ rfl _ _ 57 rfl B 3 i0 (.int .i64 0) 1 8 Tryz.underlying57 hi hz0 hz1 hz2 rfl (by decide) _ _ _ rfl H.out.ro ⟨x, 0, none⟩ 1 1 [.int .i64 r] rfl rfl hcx (by simp [Value.oneCell']) (by decide) (by unfold maxLen; omega) (by omega) hBs _ rfl ?_; intro g cap' w3 hown' hgrow3 hblk hg3; have hx3 : Box w3 A _ _ := H.out.box.grown hgrow3 hap; have e12 : w3.cell? ⟨A, 3, none⟩ = some (.slice ao d.roots.length cap) := hx3.at_ 3; have e13 := hx3.free 3; refine Hid.out ?_)
  have hgrow : w.grownBy w3 (Value.slice ao d.roots.length cap).ownBlock := hgrow3
  have hblk' : (Value.slice ao d.roots.length cap).ownBlock = some g ∨ g = w.heap.size := hblk
  have ht : Touch (fun k => (Value.slice ao d.roots.length cap).ownBlock = some k) w w3 := Touch.of_grown hgrow (fun k hk => hk)
  have lc := own_lab h.ro
  have c3 := own_touch h.co ht (fun k hk e => (lc k e).ne (own_lab h.co k hk) (by decide) rfl)
  have f3 := own_touch h.fo ht (fun k hk e => h.ap k hk e)
  have tp : Touch (fun k => k = A) w3 (w3.setCell ⟨A, 3, none⟩ (.slice (some ⟨g, 0, none⟩) (d.roots.length + 1) cap')) := Touch.put (S := fun k => k = A) rfl _ _
  have hnew : w3.ownsRow B 3 1 (.slice (some ⟨g, 0, none⟩) (d.roots.length + 1) cap') (d.roots ++ [r]).length (intsV (d.roots ++ [r])) := by
    have e : intsV (d.roots ++ [r]) = intsV d.roots ++ [.int .i64 r] := List.map_append
    rw [List.length_append, e]
    exact hown'
  have hD : ArPost B A (d.pushed r) (AFoot A cv fv (.slice ao d.roots.length cap)) w (w3.setCell ⟨A, 3, none⟩ (.slice (some ⟨g, 0, none⟩) (d.roots.length + 1) cap')) := by
    refine ⟨_, _, _, ⟨hx3.put 3 _, own_touch c3 tp (fun k hk e => ((own_lab c3 k hk).ne hx3.lab (by decide)) e), own_touch f3 tp (fun k hk e => ((own_lab f3 k hk).ne hx3.lab (by decide)) e), own_touch hnew tp (fun k hk e => ((own_lab hnew k hk).ne hx3.lab (by decide)) e), ?_, h.ha⟩, ?_, ?_⟩
    · intro k hk hk2
      injection hk2 with hk2
      have hk2 : g = k := hk2
      subst hk2
      rcases hblk' with hb | hb
      · exact h.ap g hk hb
      · have := (own_lt h.fo g hk).2
        omega
    · exact (ht.mono (fun k hk => .inr (.inr (.inr hk)))).trans (tp.mono (fun k hk => .inl hk))
    · rintro k (hk | hk | hk | hk)
      · exact .inl (.inl hk)
      · exact .inl (.inr (.inl hk))
      · exact .inl (.inr (.inr (.inl hk)))
      · cases hk
        rcases hblk' with hb | hb
        · exact .inl (.inr (.inr (.inr hb)))
        · exact .inr (by show w.heap.size ≤ g; omega)
  have HD := Veil.mk hD
  clear hD ht hblk' hgrow hgrow3 hblk hown' hap f3 c3 tp hnew h
  refine Lib.hid ?_
  go_wp2
  exact bodyPost_end (results_none rfl _ _ _) rfl ⟨rfl, HD.out⟩
end Go.Proofs.YtbeapojjbgkalaaGreatDoor
