/- Package arena: Push, Pop; what they do where there is no arena. -/
import Derived.Test.YtkkbfadfgdjkdaaAb
namespace Go.Proofs.Ytkkbfadfgdjkdaa
open Go Go.RowKit

set_option maxRecDepth 100000 in
theorem push_none (v : Value) (w : World) : Calls Try.prog 11 #[.pointer none, v] w fun e w' => e = .returned (.tuple #[]) ∧ w' = w := by
  go_enter Try.func11, Try.ntmps11
  go_wp2
  exact bodyPost_end (results_none rfl _ _ _) rfl ⟨rfl, rfl⟩
set_option maxRecDepth 100000 in
theorem pop_none (r : Int) (w : World) : Calls Try.prog 18 #[.pointer none, .int .i64 r] w fun e w' => e = .returned (.tuple #[]) ∧ w' = w := by
  go_enter Try.func18, Try.ntmps18
  go_wp2
  exact bodyPost_end (results_none rfl _ _ _) rfl ⟨rfl, rfl⟩
set_option maxRecDepth 100000 in
theorem make_none (v : Value) (w : World) : Calls Try.prog 10 #[.pointer none, v] w fun e w' => e = .returned (.int .i64 0) ∧ w' = w := by
  go_enter Try.func10, Try.ntmps10
  go_wp2
  go_ret
  exact ⟨rfl, rfl⟩
set_option maxRecDepth 100000 in
theorem get_none (r : Int) (w : World) : Calls Try.prog 17 #[.pointer none, .int .i64 r] w fun e w' => e = .returned .nilIface ∧ w' = w := by
  go_enter Try.func17, Try.ntmps17
  go_wp2
  go_ret
  exact ⟨rfl, rfl⟩
set_option maxRecDepth 100000 in
theorem count_none (w : World) : Calls Try.prog 13 #[.pointer none] w fun e w' => e = .returned (.int .i64 0) ∧ w' = w := by
  go_enter Try.func13, Try.ntmps13
  go_wp2
  go_ret
  exact ⟨rfl, rfl⟩
set_option maxRecDepth 100000 in
theorem depth_none (w : World) : Calls Try.prog 19 #[.pointer none] w fun e w' => e = .returned (.int .i64 0) ∧ w' = w := by
  go_enter Try.func19, Try.ntmps19
  go_wp2
  go_ret
  exact ⟨rfl, rfl⟩
set_option maxRecDepth 100000 in
theorem collect_none (v : Value) (w : World) : Calls Try.prog 12 #[.pointer none, v] w fun e w' => e = .returned (.slice none 0 0) ∧ w' = w := by
  go_enter Try.func12, Try.ntmps12
  go_wp2
  go_ret
  exact ⟨rfl, rfl⟩
set_option maxRecDepth 100000 in
theorem make_nil (B A : Nat) (cv fv rv : Value) (d : AD) (w : World) (h : ArAt w B A cv fv rv d) : Calls Try.prog 10 #[.pointer (some ⟨A, 0, none⟩), .nilIface] w fun e w' => e = .returned (.int .i64 0) ∧ w' = w := by
  have c2 : w.cell? ⟨A, 2, none⟩ = some (.int .i64 (d.count : Int)) := h.box.at_ 2
  clear h
  go_enter Try.func10, Try.ntmps10
  go_wp2
  go_ret
  exact ⟨rfl, rfl⟩
def AD.pushed (d : AD) (r : Int) : AD := { d with roots := d.roots ++ [r] }
set_option maxHeartbeats 2000000 in
set_option maxRecDepth 100000 in
theorem push_one (B A : Nat) (cv fv rv : Value) (d : AD) (x : Nat) (r : Int) (w : World) (h : ArAt w B A cv fv rv d) (hx : w.cell? ⟨x, 0, none⟩ = some (.int .i64 r)) (hl : d.roots.length < 1000000) :
    Calls Try.prog 11 #[.pointer (some ⟨A, 0, none⟩), .slice (some ⟨x, 0, none⟩) 1 1] w fun e w' => e = .returned (.tuple #[]) ∧ ArPost B A (d.pushed r) (AFoot A cv fv rv) w w' := by
  obtain ⟨i0, hi, hz0, hz1, hz2⟩ := info_parts Try.infoI
  obtain ⟨ao, cap, rfl, hcap, hgc, hmc⟩ := slice_own h.ro
  have d0 : w.cell? ⟨A, 3, none⟩ = some (.slice ao d.roots.length cap) := h.box.at_ 3
  have hBs : B ≤ w.heap.size := by have := h.ha; have := h.box.lt; omega
  have hap := h.box.apart h.ro (by decide)
  have tl2 : A < w.heap.size := h.box.lt
  have hcx : ∀ j u, [Value.int .i64 r][j]? = some u → w.cell? ((⟨x, 0, none⟩ : Addr).add j) = some u := by
    intro j u hj
    match j, hj with
    | 0, hj => exact (hx.trans hj)
  have H := Veil.mk h
  clear hgc
  go_enter Try.func11, Try.ntmps11
  go_wp2_with (at_builtin; refine wpList_append_lies _ rfl _ _ 22 rfl B 3 i0 (.int .i64 0) 1 8 Try.underlying22 hi hz0 hz1 hz2 rfl (by decide) _ _ _ rfl H.out.ro ⟨x, 0, none⟩ 1 1 [.int .i64 r] rfl rfl hcx (by simp [Value.oneCell']) (by decide) (by unfold maxLen; omega) (by omega) hBs _ rfl ?_; intro g cap' w3 hown' hgrow3 hblk hg3; have hx3 : Box w3 A _ _ := H.out.box.grown hgrow3 hap; have e12 : w3.cell? ⟨A, 3, none⟩ = some (.slice ao d.roots.length cap) := hx3.at_ 3; have e13 := hx3.free 3; refine Hid.out ?_)
  have hgrow : w.grownBy w3 (Value.slice ao d.roots.length cap).ownBlock := hgrow3
  have hblk' : (Value.slice ao d.roots.length cap).ownBlock = some g ∨ g = w.heap.size := hblk
  have ht : Touch (fun k => (Value.slice ao d.roots.length cap).ownBlock = some k) w w3 := Touch.of_grown hgrow (fun k hk => hk)
  have lc := own_lab h.ro
  have c3 := own_touch h.co ht (fun k hk e => (lc k e).ne (own_lab h.co k hk) (by decide) rfl)
  have f3 := own_touch h.fo ht (fun k hk e => h.ap k hk e)
  have tp : Touch (fun k => k = A) w3 (w3.setCell ⟨A, 3, none⟩ (.slice (some ⟨g, 0, none⟩) (d.roots.length + 1) cap')) := Touch.put (S := fun k => k = A) rfl _ _
  have hnew : w3.ownsRow B 3 1 (.slice (some ⟨g, 0, none⟩) (d.roots.length + 1) cap') (d.roots ++ [r]).length (intsV (d.roots ++ [r])) := by
    have e : intsV (d.roots ++ [r]) = intsV d.roots ++ [.int .i64 r] := List.map_append
    rw [List.length_append, e]
    exact hown'
  have hD : ArPost B A (d.pushed r) (AFoot A cv fv (.slice ao d.roots.length cap)) w (w3.setCell ⟨A, 3, none⟩ (.slice (some ⟨g, 0, none⟩) (d.roots.length + 1) cap')) := by
    refine ⟨_, _, _, ⟨hx3.put 3 _, own_touch c3 tp (fun k hk e => ((own_lab c3 k hk).ne hx3.lab (by decide)) e), own_touch f3 tp (fun k hk e => ((own_lab f3 k hk).ne hx3.lab (by decide)) e), own_touch hnew tp (fun k hk e => ((own_lab hnew k hk).ne hx3.lab (by decide)) e), ?_, h.ha⟩, ?_, ?_⟩
    · intro k hk hk2
      injection hk2 with hk2
      have hk2 : g = k := hk2
      subst hk2
      rcases hblk' with hb | hb
      · exact h.ap g hk hb
      · have := (own_lt h.fo g hk).2
        omega
    · exact (ht.mono (fun k hk => .inr (.inr (.inr hk)))).trans (tp.mono (fun k hk => .inl hk))
    · rintro k (hk | hk | hk | hk)
      · exact .inl (.inl hk)
      · exact .inl (.inr (.inl hk))
      · exact .inl (.inr (.inr (.inl hk)))
      · cases hk
        rcases hblk' with hb | hb
        · exact .inl (.inr (.inr (.inr hb)))
        · exact .inr (by show w.heap.size ≤ g; omega)
  have HD := Veil.mk hD
  clear hD ht hblk' hgrow hgrow3 hblk hown' hap f3 c3 tp hnew h
  refine Lib.hid ?_
  go_wp2
  exact bodyPost_end (results_none rfl _ _ _) rfl ⟨rfl, HD.out⟩
def AD.popped (d : AD) (k : Nat) : AD := { d with roots := d.roots.take (d.roots.length - k) }
set_option maxHeartbeats 2000000 in
set_option maxRecDepth 100000 in
theorem pop_any (B A : Nat) (cv fv rv : Value) (d : AD) (k : Nat) (hk : k ≤ d.roots.length) (hp : 0 < d.roots.length) (hl : d.roots.length < 1000000) (w : World) (h : ArAt w B A cv fv rv d) :
    Calls Try.prog 18 #[.pointer (some ⟨A, 0, none⟩), .int .i64 (k : Int)] w fun e w' => e = .returned (.tuple #[]) ∧ ArPost B A (d.popped k) (AFoot A cv fv rv) w w' := by
  obtain ⟨ao, cap, rfl, hcap, hgc, hmc⟩ := slice_own h.ro
  obtain ⟨g, rfl⟩ := hgc hp
  have d0 : w.cell? ⟨A, 3, none⟩ = some (.slice (some ⟨g, 0, none⟩) d.roots.length cap) := h.box.at_ 3
  have d0f := h.box.free 3
  obtain ⟨n, hn⟩ : ∃ n, d.roots.length = n := ⟨_, rfl⟩
  obtain ⟨m, hm⟩ : ∃ m, n - k = m := ⟨_, rfl⟩
  have q1 : max (k : Int) 0 = (k : Int) := by omega
  have q2 : min (k : Int) (n : Int) = (k : Int) := by omega
  have q3 : (n : Int) - (k : Int) = (m : Int) := by omega
  have q4 : (k : Int) ≤ (n : Int) := by omega
  have q5 : (0 : Int) ≤ (k : Int) := by omega
  have q6 : (m : Int) ≤ (cap : Int) := by omega
  have q7 : (0 : Int) ≤ (m : Int) := by omega
  have q8 : IntKind.i64.wrap (m : Int) = (m : Int) := IntWalk.i64_in _ (by omega)
  have hcut := own_take h.ro (m := m) (by omega)
  have he : (intsV d.roots).take m = intsV (d.roots.take m) := by simp
  rw [he] at hcut
  have hD : ∀ q, ArPost B A (d.popped k) (AFoot A cv fv (.slice (some ⟨g, 0, none⟩) d.roots.length cap)) w ((w.drewN q).setCell ⟨A, 3, none⟩ (.slice (some ⟨g, 0, none⟩) m cap)) := by
    intro q
    have hb : Below w.heap.size w (w.drewN q) := below_drewN (Below.refl _ _) q
    have h := h.on hb
    have hcut := own_below hcut hb
    have e1 : d.popped k = { d with roots := d.roots.take m } := by unfold AD.popped; rw [hn, hm]
    rw [e1]
    refine ⟨_, _, _, h.put3 (.slice (some ⟨g, 0, none⟩) m cap) (d.roots.take m) (by rw [List.length_take, hn, Nat.min_eq_left (by omega)]; exact hcut) (fun k hk e => h.ap k hk e), (Touch.of_below hb).trans ((Touch.put (S := fun k => k = A) rfl _ _).mono (fun k hk => .inl hk)), fun k hk => .inl ?_⟩
    rcases hk with hk | hk | hk | hk
    · exact .inl hk
    · exact .inr (.inl hk)
    · exact .inr (.inr (.inl hk))
    · exact .inr (.inr (.inr hk))
  have HD := Veil.mk hD
  rw [hn] at d0
  clear h hD hcut he hk hn hm hp hgc hl
  go_enter Try.func18, Try.ntmps18
  go_upto_region 1 with (fail)
  go_quiet (fail)
  go_wp2
  exact bodyPost_end (results_none rfl _ _ _) rfl ⟨rfl, HD.out _⟩
end Go.Proofs.Ytkkbfadfgdjkdaa
