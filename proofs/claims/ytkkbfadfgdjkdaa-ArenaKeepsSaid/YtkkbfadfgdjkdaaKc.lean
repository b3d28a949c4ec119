/- ArenaKeeps: the reference's Make, where nothing is free. -/
import Derived.Test.YtkkbfadfgdjkdaaKb
namespace Go.Proofs.Ytkkbfadfgdjkdaa
open Go Go.RowKit

theorem Try.infoRP : (Try.prog.info? 70).map (fun i => (i.zero, i.size, i.bytes)) = some (some (.pointer none), 1, 8) := by kernel_rfl
abbrev ptrsV (l : List Nat) : List Value := l.map fun y => .pointer (some ⟨y, 0, none⟩)
/-- The reference's list of cells: the first is none. -/
def RL (w : World) (B : Nat) (Lv : Value) (ys : List Nat) : Prop := (ys = [] ∧ Lv = .slice none 0 0) ∨ (w.ownsRow B 70 1 Lv (ys.length + 1) (.pointer none :: ptrsV ys))
def RMPost (B mb : Nat) (Lv : Value) (ys : List Nat) (y : Nat) (w : World) (e : Ending) (w' : World) : Prop :=
  e = .returned (.int .i64 ((ys.length + 1 : Nat) : Int)) ∧ ∃ Lv', Box w' mb 43 #[Lv', .slice none 0 0, .slice none 0 0] ∧ RL w' B Lv' (ys ++ [y]) ∧ Touch (fun k => k = mb ∨ Lv.ownBlock = some k) w w' ∧ ∀ k, Lv'.ownBlock = some k → Lv.ownBlock = some k ∨ w.heap.size ≤ k
set_option maxHeartbeats 4000000 in
set_option maxRecDepth 100000 in
theorem refmake_any (B mb y : Nat) (Lv : Value) (ys : List Nat) (hl : ys.length < 1000) (w : World) (hB : B ≤ w.heap.size) (hb : Box w mb 43 #[Lv, .slice none 0 0, .slice none 0 0]) (hr : RL w B Lv ys) :
    Calls Try.prog 32 #[.pointer (some ⟨mb, 0, none⟩), .pointer (some ⟨y, 0, none⟩)] w (RMPost B mb Lv ys y w) := by
  obtain ⟨iN, hiN, hN0, hN1, hN2⟩ := info_parts Try.infoRP
  rcases hr with ⟨rfl, rfl⟩ | hr
  · have c0 : w.cell? ⟨mb, 0, none⟩ = some (.slice none 0 0) := hb.at_ 0
    have b1 := hb.more (.cells #[.pointer none] 70)
    have c1 : (w.alloc (.cells #[.pointer none] 70)).cell? ⟨mb, 0, none⟩ = some (.slice none 0 0) := b1.at_ 0
    have c1f := b1.free 0
    obtain ⟨g, hg⟩ : ∃ g, w.heap.size = g := ⟨_, rfl⟩
    have hlt := hb.lt
    have o1 : (w.alloc (.cells #[.pointer none] 70)).ownsRow B 70 1 (.slice (some ⟨g, 0, none⟩) 1 1) 1 [.pointer none] := by
      rw [← hg]
      exact World.ownsRow_lit (base := B) (e := 70) (size := 1) w #[.pointer none] 1 hB (by unfold maxLen; omega) rfl
    have tp : Touch (fun k => k = mb) (w.alloc (.cells #[.pointer none] 70)) ((w.alloc (.cells #[.pointer none] 70)).setCell ⟨mb, 0, none⟩ (.slice (some ⟨g, 0, none⟩) 1 1)) := Touch.put (S := fun k => k = mb) rfl _ _
    have bb : Below w.heap.size w (w.alloc (.cells #[.pointer none] 70)) := (Below.refl _ _).alloc (Nat.le_refl _) _
    have HR5' := Veil.mk (And.intro (b1.put 0 (.slice (some ⟨g, 0, none⟩) 1 1)) (own_touch o1 tp (fun k hk e => (own_lab o1 k hk).ne b1.lab (by decide) e)))
    have HT5 := Veil.mk ((Touch.of_below bb (S := fun k => k = mb)).trans tp)
    have HG := Veil.mk (And.intro hg hlt)
    clear hb b1 o1 tp bb hg hlt
    go_enter Try.func32, Try.ntmps32
    go_upto_region 3 with (fail)
    obtain ⟨hg, hlt⟩ := HG.out
    rw [hg] at hlt ⊢
    obtain ⟨W, hW⟩ : ∃ W, (w.alloc (.cells #[.pointer none] 70)).setCell ⟨mb, 0, none⟩ (.slice (some ⟨g, 0, none⟩) 1 1) = W := ⟨_, rfl⟩
    rw [hW] at HR5' HT5 ⊢
    have HR5 := HR5'
    have hBW : B ≤ W.heap.size := by have := HT5.out.size; omega
    have HPO : Veil (∀ w' g2 cap2, Box w' mb 43 _ → w'.ownsRow B 70 1 (.slice (some ⟨g2, 0, none⟩) (1 + 1) cap2) (1 + 1) _ → Touch (fun k => k = mb ∨ k = g) W w' → (g2 = g ∨ W.heap.size ≤ g2) → RMPost B mb (.slice none 0 0) [] y w (.returned (.int .i64 (1 : Int))) w') := ⟨fun w' g2 cap2 h1 h2 h3 h4 => ⟨rfl, _, h1, .inr h2, (HT5.out.mono (fun k hk => .inl hk)).later h3 (fun k hk h => by
      rcases h with h | h
      · exact .inl h
      · omega), fun k hk => .inr (by
      have e : g2 = k := by injection hk
      have := HT5.out.size
      rcases h4 with h4 | h4 <;> omega)⟩⟩
    have c2 : W.cell? ⟨mb, 0, none⟩ = some (.slice (some ⟨g, 0, none⟩) 1 1) := HR5.out.1.at_ 0
    have c3 : W.cell? ⟨mb, 1, none⟩ = some (.slice none 0 0) := HR5.out.1.at_ 1
    clear HG hg hlt hW HR5' c0 c1 c1f
    go_wp2_with (at_builtin; go_loud (refine wpList_append_lies _ rfl _ _ 41 rfl B 70 iN (.pointer none) 1 8 Try.underlying41 hiN hN0 hN1 hN2 rfl (by decide) _ _ _ rfl (HR5.out.2.alloc _) ⟨W.heap.size, 0, none⟩ 1 1 [.pointer (some ⟨y, 0, none⟩)] rfl rfl (news_at _ _ rfl _ _) (by simp [Value.oneCell']) (by decide) (by unfold maxLen; omega) (by omega) (by simp; omega) _ rfl ?_); intro g2 cap2 w3 hown2 hgrow2 hblk2 hg2; have hx3 : Box w3 mb 43 _ := (HR5.out.1.more _).grown hgrow2 (HR5.out.1.apart HR5.out.2 (by decide)); have e12 : w3.cell? ⟨mb, 0, none⟩ = some (.slice (some ⟨g, 0, none⟩) 1 1) := hx3.at_ 0; have e13 := hx3.free 0; refine Hid.out ?_)
    have hgr : (W.alloc (.cells #[.pointer (some ⟨y, 0, none⟩)] 70)).grownBy w3 (Value.slice (some ⟨g, 0, none⟩) 1 1).ownBlock := hgrow2
    have t3 : Touch (fun k => k = g) W w3 := (Touch.of_below ((Below.refl W.heap.size W).alloc (Nat.le_refl _) (.cells #[.pointer (some ⟨y, 0, none⟩)] 70))).trans (Touch.of_grown hgr (fun k hk => by injection hk with hk; exact hk.symm))
    have tp : Touch (fun k => k = mb) w3 (w3.setCell ⟨mb, 0, none⟩ (.slice (some ⟨g2, 0, none⟩) (1 + 1) cap2)) := Touch.put (S := fun k => k = mb) rfl _ _
    have o9 := own_touch hown2 tp (fun k hk e => (own_lab hown2 k hk).ne hx3.lab (by decide) e)
    have b9 := hx3.put 0 (.slice (some ⟨g2, 0, none⟩) (1 + 1) cap2)
    have HP := Veil.mk (HPO.out _ g2 cap2 b9 o9 ((t3.mono (fun k hk => .inr hk)).trans (tp.mono (fun k hk => .inl hk))) (hblk2.imp (fun h => by injection h with h; exact h.symm) (fun h => by rw [h, World.size_alloc]; exact Nat.le_succ _)))
    have z9 : (w3.setCell ⟨mb, 0, none⟩ (.slice (some ⟨g2, 0, none⟩) (1 + 1) cap2)).cell? ⟨mb, 0, none⟩ = some (.slice (some ⟨g2, 0, none⟩) (1 + 1) cap2) := b9.at_ 0
    clear t3 tp o9 b9 hgr hgrow2 hown2 hblk2 hx3
    refine Lib.hid ?_
    go_wp2
    go_ret
    exact HP.out
  · obtain ⟨ao, cap, rfl, hcap, hg, hmx⟩ := slice_own hr
    obtain ⟨g, rfl⟩ := hg (by omega)
    have c2 : w.cell? ⟨mb, 0, none⟩ = some (.slice (some ⟨g, 0, none⟩) (ys.length + 1) cap) := hb.at_ 0
    have c3 : w.cell? ⟨mb, 1, none⟩ = some (.slice none 0 0) := hb.at_ 1
    obtain ⟨n, hn⟩ : ∃ n, ys.length + 1 = n := ⟨_, rfl⟩
    rw [hn] at hr hb c2 hcap
    have HR5 := Veil.mk (And.intro hb hr)
    have HPO : Veil (∀ w' g2 cap2, Box w' mb 43 _ → w'.ownsRow B 70 1 (.slice (some ⟨g2, 0, none⟩) (n + 1) cap2) (n + 1) _ → Touch (fun k => k = mb ∨ k = g) w w' → (g2 = g ∨ w.heap.size ≤ g2) → RMPost B mb (.slice (some ⟨g, 0, none⟩) n cap) ys y w (.returned (.int .i64 (n : Int))) w') := ⟨fun w' g2 cap2 h1 h2 h3 h4 => ⟨by rw [← hn], _, h1, .inr (by
      have e : .pointer none :: ptrsV (ys ++ [y]) = (.pointer none :: ptrsV ys) ++ [Value.pointer (some ⟨y, 0, none⟩)] := by
        rw [show ptrsV (ys ++ [y]) = ptrsV ys ++ [Value.pointer (some ⟨y, 0, none⟩)] from List.map_append]
        rfl
      rw [e, List.length_append, show ys.length + [y].length + 1 = n + 1 by simp; omega]
      exact h2), h3.mono (fun k hk => hk.imp id (fun h => by rw [h]; rfl)), fun k hk => by
      have e : g2 = k := by injection hk
      rcases h4 with h4 | h4
      · exact .inl (by rw [← e, h4]; rfl)
      · exact .inr (by omega)⟩⟩
    have hn0 : 0 < n := by omega
    have hn0' : ¬ (n : Int) = 0 := by omega
    have hn1 : n < 2000 := by omega
    have hnb : (n : Int) < 2000 := by omega
    have hnn : (0 : Int) ≤ (n : Int) := by omega
    rw [hn]
    have HNN := Veil.mk hn
    clear hb hr hn hg
    obtain ⟨W, hW⟩ : ∃ W, w = W := ⟨_, rfl⟩
    have HBW := Veil.mk hB
    clear hB
    subst hW
    have hB := HBW.out
    go_enter Try.func32, Try.ntmps32
    go_upto_region 3 with (fail)
    go_wp2_with (at_builtin; go_loud (refine wpList_append_lies _ rfl _ _ 41 rfl B 70 iN (.pointer none) 1 8 Try.underlying41 hiN hN0 hN1 hN2 rfl (by decide) _ _ _ rfl (HR5.out.2.alloc _) ⟨w.heap.size, 0, none⟩ 1 1 [.pointer (some ⟨y, 0, none⟩)] rfl rfl (news_at _ _ rfl _ _) (by simp [Value.oneCell']) (by decide) (by unfold maxLen; omega) (by omega) (by simp; omega) _ rfl ?_); intro g2 cap2 w3 hown2 hgrow2 hblk2 hg2; have hx3 : Box w3 mb 43 _ := (HR5.out.1.more _).grown hgrow2 (HR5.out.1.apart HR5.out.2 (by decide)); have e12 : w3.cell? ⟨mb, 0, none⟩ = some (.slice (some ⟨g, 0, none⟩) n cap) := hx3.at_ 0; have e13 := hx3.free 0; refine Hid.out ?_)
    have hgr : (w.alloc (.cells #[.pointer (some ⟨y, 0, none⟩)] 70)).grownBy w3 (Value.slice (some ⟨g, 0, none⟩) n cap).ownBlock := hgrow2
    have t3 : Touch (fun k => k = g) w w3 := (Touch.of_below ((Below.refl w.heap.size w).alloc (Nat.le_refl _) (.cells #[.pointer (some ⟨y, 0, none⟩)] 70))).trans (Touch.of_grown hgr (fun k hk => by injection hk with hk; exact hk.symm))
    have tp : Touch (fun k => k = mb) w3 (w3.setCell ⟨mb, 0, none⟩ (.slice (some ⟨g2, 0, none⟩) (n + 1) cap2)) := Touch.put (S := fun k => k = mb) rfl _ _
    have o9 := own_touch hown2 tp (fun k hk e => (own_lab hown2 k hk).ne hx3.lab (by decide) e)
    have b9 := hx3.put 0 (.slice (some ⟨g2, 0, none⟩) (n + 1) cap2)
    have HP := Veil.mk (HPO.out _ g2 cap2 b9 o9 ((t3.mono (fun k hk => .inr hk)).trans (tp.mono (fun k hk => .inl hk))) (hblk2.imp (fun h => by injection h with h; exact h.symm) (fun h => by rw [h, World.size_alloc]; exact Nat.le_succ _)))
    have z9 : (w3.setCell ⟨mb, 0, none⟩ (.slice (some ⟨g2, 0, none⟩) (n + 1) cap2)).cell? ⟨mb, 0, none⟩ = some (.slice (some ⟨g2, 0, none⟩) (n + 1) cap2) := b9.at_ 0
    clear t3 tp o9 b9 hgr hgrow2 hown2 hblk2 hx3
    refine Lib.hid ?_
    go_wp2
    go_ret
    exact HP.out
end Go.Proofs.Ytkkbfadfgdjkdaa
