/- CodeConstants: what Emit and Constant do. -/
import Derived.Test.YtbkgophgclpijaaDoorCa
import Derived.Deep.RegionHeld3
import Derived.Deep.RegionLaw
namespace Go.Proofs.YtbkgophgclpijaaDoor
open Go.RowKit

def EmitPost (F base n : Nat) (v8 v9 v10 : Value) (l : List (Int × Int × Int)) (o p q : Int) (w : World) (e : Ending) (w' : World) : Prop :=
  e = .returned (.int .i64 (n : Int)) ∧ ∃ g cap, Box w' F 53 (fcells (.slice (some ⟨g, 0, none⟩) (n + 1) cap) v9 v10) ∧ w'.ownsRow base 61 3 (.slice (some ⟨g, 0, none⟩) (n + 1) cap) (n + 1) (flat (l ++ [(o, p, q)])) ∧
    Touch (fun k => k = F ∨ v8.ownBlock = some k) w w' ∧ (v8.ownBlock = some g ∨ w.heap.size ≤ g)

set_option maxRecDepth 100000 in
theorem emit_any (F base n : Nat) (v8 v9 v10 : Value) (l : List (Int × Int × Int)) (o p q : Int) (hn : n ≤ 1000) (w : World) (hbase : base ≤ w.heap.size) (hbox : Box w F 53 (fcells v8 v9 v10)) (hown : w.ownsRow base 61 3 v8 n (flat l)) :
    Calls Tryd.prog 32 #[.pointer (some ⟨F, 0, none⟩), .int .i64 o, .int .i64 p, .int .i64 q] w (EmitPost F base n v8 v9 v10 l o p q w) := by
  obtain ⟨i1, hi1, hy0, hy1, hy2⟩ := info_parts Tryd.info61
  have hFlt := hbox.lt
  have f8 : w.cell? ⟨F, 8, none⟩ = some v8 := hbox.at_ 8
  have f8' := hbox.free 8
  go_enter Tryd.func32, Tryd.ntmps32
  go_upto_region 4 with (at_builtin; refine wpList_append_lies _ rfl (.tmp 15) (.tmp 20) 49 rfl base 61 i1 (.agg #[.int .i64 0, .int .i64 0, .int .i64 0]) 3 24 Tryd.underlying49 hi1 hy0 hy1 hy2 rfl (by decide) v8 n (flat l) rfl (hown.alloc _) ⟨w.heap.size, 0, none⟩ 1 1 [_, _, _] rfl rfl (three_new _ _ _ _ _ _ (by simp)) (by simp [Value.oneCell']) (by decide) (by unfold maxLen; omega) (by omega) (by simp; omega) _ rfl ?_; intro g cap' w3 hown' hgrow3 hblk hg3; have hx3 := (hbox.more _).grown hgrow3 (hbox.apart hown (by decide)); have e12 : w3.cell? ⟨F, 8, none⟩ = some v8 := hx3.at_ 8; have e13 := hx3.free 8)
  have hT : Touch (fun k => k = F ∨ v8.ownBlock = some k) w (w3.setCell ⟨F, 8, none⟩ (.slice (some ⟨g, 0, none⟩) (n + 1) cap')) :=
    ((Touch.of_below ((Below.refl _ w).alloc (Nat.le_refl _) _)).trans (Touch.of_grown hgrow3 (fun k hk => .inr hk))).trans (Touch.put (.inl rfl) 8 _)
  have hb4 := hx3.put 8 (.slice (some ⟨g, 0, none⟩) (n + 1) cap')
  rw [put_cells8] at hb4
  have hown4 : (w3.setCell ⟨F, 8, none⟩ (.slice (some ⟨g, 0, none⟩) (n + 1) cap')).ownsRow base 61 3 (.slice (some ⟨g, 0, none⟩) (n + 1) cap') (n + 1) (flat (l ++ [(o, p, q)])) := by
    rw [flat_snoc]
    exact hown'.kept ((Only.refl w3 F).put 8 _) (.inr (fun e => hx3.apart hown' (by decide) e.symm))
  have hgg : v8.ownBlock = some g ∨ w.heap.size ≤ g := by
    rcases hblk with h | h
    · exact .inl h
    · exact .inr (by simp at h; omega)
  obtain ⟨W4, hW4⟩ : ∃ W4, W4 = w3.setCell ⟨F, 8, none⟩ (.slice (some ⟨g, 0, none⟩) (n + 1) cap') := ⟨_, rfl⟩
  rw [← hW4] at hT hb4 hown4 ⊢
  have g8 : W4.cell? ⟨F, 8, none⟩ = some (.slice (some ⟨g, 0, none⟩) (n + 1) cap') := hb4.at_ 8
  clear hW4 hown' hgrow3 hblk hg3 hx3 e12 e13 f8 f8'
  go_wp2
  go_ret
  exact ⟨rfl, g, cap', hb4, hown4, hT, hgg⟩

def ConstPost (F base n : Nat) (v8 v9 v10 : Value) (l : List Vt) (v : Vt) (w : World) (e : Ending) (w' : World) : Prop :=
  e = .returned (.int .i64 (n : Int)) ∧ ∃ g cap, Box w' F 53 (fcells v8 (.slice (some ⟨g, 0, none⟩) (n + 1) cap) v10) ∧ w'.ownsRow base 27 3 (.slice (some ⟨g, 0, none⟩) (n + 1) cap) (n + 1) (vflat (l ++ [v])) ∧
    Touch (fun k => k = F ∨ v9.ownBlock = some k) w w' ∧ (v9.ownBlock = some g ∨ w.heap.size ≤ g)

theorem put_cells9 (v8 v9 v10 u : Value) : (fcells v8 v9 v10).setIfInBounds 9 u = fcells v8 u v10 := rfl
theorem const_hit (F base n k : Nat) (v8 v9 v10 : Value) (l : List Vt) (v : Vt) (hn : n ≤ 1000) (hl : l.length = n) (hk : l[k]? = some v) (hd : ∀ j x, j < k → l[j]? = some x → ¬ x = v) (w : World) (hbox : Box w F 53 (fcells v8 v9 v10)) (hown : w.ownsRow base 27 3 v9 n (vflat l)) :
    Calls Tryd.prog 31 #[.pointer (some ⟨F, 0, none⟩), valV v] w fun e w' => e = .returned (.int .i64 (k : Int)) ∧ Below w.heap.size w w' := by
  obtain ⟨a, ca, e9, hml, hv⟩ := vals_own hl hown
  subst e9
  have hFlt := hbox.lt
  obtain ⟨v0, v1, v2⟩ := v
  have hB : Below w.heap.size w (w.alloc (.cells #[.int .i64 v0, .int .i64 v1, .string v2] 27)) := (Below.refl _ _).alloc (Nat.le_refl _) _
  have f9 : (w.alloc (.cells #[.int .i64 v0, .int .i64 v1, .string v2] 27)).cell? ⟨F, 9, none⟩ = some (.slice a n ca) := (hbox.more _).at_ 9
  have hc := fun w' (h : Below (w.alloc (.cells #[.int .i64 v0, .int .i64 v1, .string v2] 27)).heap.size (w.alloc (.cells #[.int .i64 v0, .int .i64 v1, .string v2] 27)) w') => index_hit3 a n ca k l (v0, v1, v2) (by omega) hk hd w' ((hv.on hB).on h)
  have HC := Veil.mk hc
  clear hc hk hd hbox hown hv
  obtain ⟨W, hW⟩ : ∃ W, W = w.alloc (.cells #[.int .i64 v0, .int .i64 v1, .string v2] 27) := ⟨_, rfl⟩
  have x0 : W.cell? ⟨w.heap.size, 0, none⟩ = some (.int .i64 v0) := by rw [hW]; simp
  have x1 : W.cell? ⟨w.heap.size, 1, none⟩ = some (.int .i64 v1) := by rw [hW]; simp
  have x2 : W.cell? ⟨w.heap.size, 2, none⟩ = some (.string v2) := by rw [hW]; simp
  have hk0 : (0 : Int) ≤ (k : Int) := by omega
  rw [← hW] at f9 hB HC
  have HW := Lib.hid hW.symm
  clear hW
  go_enter Tryd.func31, Tryd.ntmps31
  go_upto_region 1 with (fail)
  rw [HW.out]
  go_wp2
  go_region_held3 (fun w' => w'.cell? ⟨F, 9, none⟩ = some (.slice a n ca) ∧ w'.cell? ⟨w.heap.size, 0, none⟩ = some (.int .i64 v0) ∧ w'.cell? ⟨w.heap.size, 1, none⟩ = some (.int .i64 v1) ∧ w'.cell? ⟨w.heap.size, 2, none⟩ = some (.string v2)) (first | exact ⟨cell_later hb2 f9 (Nat.le_refl _), cell_later hb2 x0 (Nat.le_refl _), cell_later hb2 x1 (Nat.le_refl _), cell_later hb2 x2 (Nat.le_refl _)⟩ | go_keep)
    (first | (go_at_call 56; ((with_reducible refine (HC.out _ (by first | exact (Below.refl _ _).drew | exact Below.refl _ _)).mono ?_); rintro e w2 ⟨rfl, hb2⟩)))
  go_wp2
  go_ret
  exact ⟨rfl, hB.trans (((Below.refl _ W).drew.trans hb2).mono hB.size)⟩

theorem Box.drew {w : World} {g : Nat} {t : TypeId} {cs : Array Value} (h : Box w g t cs) : Box w.drew g t cs := h
theorem own_drew {w : World} {base : Nat} {e : TypeId} {size : Nat} {v : Value} {n : Nat} {xs : List Value} (h : w.ownsRow base e size v n xs) : w.drew.ownsRow base e size v n xs := h
theorem three_drew {w : World} {x y z : Value} {t : TypeId} {n : Nat} (hn : w.heap.size = n) : ∀ j u, [x, y, z][j]? = some u → (w.alloc (.cells #[x, y, z] t)).drew.cell? ((⟨n, 0, none⟩ : Addr).add j) = some u := three_new w x y z t n hn

set_option maxRecDepth 100000 in
theorem const_miss (F base n : Nat) (v8 v9 v10 : Value) (l : List Vt) (v : Vt) (hn : n ≤ 1000) (hl : l.length = n) (hd : ∀ x ∈ l, ¬ x = v) (w : World) (hbase : base ≤ w.heap.size) (hbox : Box w F 53 (fcells v8 v9 v10)) (hown : w.ownsRow base 27 3 v9 n (vflat l)) :
    Calls Tryd.prog 31 #[.pointer (some ⟨F, 0, none⟩), valV v] w (ConstPost F base n v8 v9 v10 l v w) := by
  obtain ⟨a, ca, e9, hml, hv⟩ := vals_own hl hown
  subst e9
  obtain ⟨i1, hi1, hy0, hy1, hy2⟩ := info_parts Tryd.info27
  have hFlt := hbox.lt
  obtain ⟨v0, v1, v2⟩ := v
  have hB : Below w.heap.size w (w.alloc (.cells #[.int .i64 v0, .int .i64 v1, .string v2] 27)) := (Below.refl _ _).alloc (Nat.le_refl _) _
  have f9 : (w.alloc (.cells #[.int .i64 v0, .int .i64 v1, .string v2] 27)).cell? ⟨F, 9, none⟩ = some (.slice a n ca) := (hbox.more _).at_ 9
  have hc := fun w' (h : Below (w.alloc (.cells #[.int .i64 v0, .int .i64 v1, .string v2] 27)).heap.size (w.alloc (.cells #[.int .i64 v0, .int .i64 v1, .string v2] 27)) w') => index_miss3 a n ca l (v0, v1, v2) (by omega) hd w' ((hv.on hB).on h)
  have HC := Veil.mk hc
  have HBO := Veil.mk (And.intro hbox hown)
  clear hc hd hbox hown hv
  obtain ⟨W, hW⟩ : ∃ W, W = w.alloc (.cells #[.int .i64 v0, .int .i64 v1, .string v2] 27) := ⟨_, rfl⟩
  have x0 : W.cell? ⟨w.heap.size, 0, none⟩ = some (.int .i64 v0) := by rw [hW]; simp
  have x1 : W.cell? ⟨w.heap.size, 1, none⟩ = some (.int .i64 v1) := by rw [hW]; simp
  have x2 : W.cell? ⟨w.heap.size, 2, none⟩ = some (.string v2) := by rw [hW]; simp
  rw [← hW] at f9 hB HC
  have HW := Lib.hid hW.symm
  clear hW
  go_enter Tryd.func31, Tryd.ntmps31
  go_upto_region 1 with (fail)
  rw [HW.out]
  go_wp2
  go_region_held3 (fun w' => w'.cell? ⟨F, 9, none⟩ = some (.slice a n ca) ∧ w'.cell? ⟨w.heap.size, 0, none⟩ = some (.int .i64 v0) ∧ w'.cell? ⟨w.heap.size, 1, none⟩ = some (.int .i64 v1) ∧ w'.cell? ⟨w.heap.size, 2, none⟩ = some (.string v2)) (first | exact ⟨cell_later hb2 f9 (Nat.le_refl _), cell_later hb2 x0 (Nat.le_refl _), cell_later hb2 x1 (Nat.le_refl _), cell_later hb2 x2 (Nat.le_refl _)⟩ | go_keep)
    (first | (go_at_call 56; ((with_reducible refine (HC.out _ (by first | exact (Below.refl _ _).drew | exact Below.refl _ _)).mono ?_); rintro e w2 ⟨rfl, hb2⟩)))
  have hBW : Below w.heap.size w w2 := hB.trans (((Below.refl _ W).drew.trans hb2).mono hB.size)
  have f9b := cell_later hb2 f9 (Nat.le_refl _)
  have x0b := cell_later hb2 x0 (Nat.le_refl _)
  have x1b := cell_later hb2 x1 (Nat.le_refl _)
  have x2b := cell_later hb2 x2 (Nat.le_refl _)
  have hbox2 : Box w2 F 53 (fcells v8 (.slice a n ca) v10) := HBO.out.1.on hBW hFlt
  have hown2 : w2.ownsRow base 27 3 (.slice a n ca) n (vflat l) := own_touch (S := fun _ => False) HBO.out.2 (Touch.of_below hBW) (fun _ _ h => h)
  have hap := hbox2.apart hown2 (by decide)
  have hs2 := hBW.size
  have hF2 := hbox2.lt
  have hz2 := World.block_lt_of_cell? _ _ x0b
  simp only at hz2
  clear f9 x0 x1 x2 hb2 hB
  go_wp2
  go_region_law (refine step_append_lies _ rfl (.tmp 21) (.tmp 23) 50 rfl base 27 i1 (.agg #[.int .i64 0, .int .i64 0, .string ⟨#[]⟩]) 3 32 Tryd.underlying50 hi1 hy0 hy1 hy2 rfl (by decide) (.slice a n ca) n (vflat l) (by simp [Act.eval]) (by first | exact (own_drew hown2).alloc _ | exact own_drew (hown2.alloc _)) ⟨w2.heap.size, 0, none⟩ 1 1 [_, _, _] (by simp [Act.eval]) rfl (by first | exact three_new _ _ _ _ _ _ rfl | exact three_drew rfl) (by simp [Value.oneCell']) (by decide) (by unfold maxLen; omega) (by omega) (by simp; omega) _ rfl ?_; intro g cap' w3 hown' hgrow3 hblk hg3; have hx3 : Box w3 F 53 (fcells v8 (.slice a n ca) v10) := (by first | exact (Box.more (w := w2.drew) hbox2 _).grown hgrow3 hap | exact (Box.drew (hbox2.more _)).grown hgrow3 hap); have e12 : w3.cell? ⟨F, 9, none⟩ = some (.slice a n ca) := hx3.at_ 9; have e13 := hx3.free 9)
  all_goals
    have hT : Touch (fun k => k = F ∨ (Value.slice a n ca).ownBlock = some k) w (w3.setCell ⟨F, 9, none⟩ (.slice (some ⟨g, 0, none⟩) (n + 1) cap')) :=
      ((Touch.of_below (by first | exact hBW.trans ((Below.refl _ w2).drew.alloc hs2 _) | exact hBW.trans ((Below.refl _ w2).alloc hs2 _).drew)).trans (Touch.of_grown hgrow3 (fun k hk => .inr hk))).trans (Touch.put (.inl rfl) 9 _)
    have hb4 := hx3.put 9 (.slice (some ⟨g, 0, none⟩) (n + 1) cap')
    rw [put_cells9] at hb4
    have hown4 : (w3.setCell ⟨F, 9, none⟩ (.slice (some ⟨g, 0, none⟩) (n + 1) cap')).ownsRow base 27 3 (.slice (some ⟨g, 0, none⟩) (n + 1) cap') (n + 1) (vflat (l ++ [(v0, v1, v2)])) := by
      rw [vflat_snoc]
      exact hown'.kept ((Only.refl w3 F).put 9 _) (.inr (fun e => hx3.apart hown' (by decide) e.symm))
    have hgg : (Value.slice a n ca).ownBlock = some g ∨ w.heap.size ≤ g := by
      rcases hblk with h | h
      · exact .inl h
      · exact .inr (by simp at h; omega)
    obtain ⟨W4, hW4⟩ : ∃ W4, W4 = w3.setCell ⟨F, 9, none⟩ (.slice (some ⟨g, 0, none⟩) (n + 1) cap') := ⟨_, rfl⟩
    rw [← hW4] at hT hb4 hown4 ⊢
    have g8 : W4.cell? ⟨F, 9, none⟩ = some (.slice (some ⟨g, 0, none⟩) (n + 1) cap') := hb4.at_ 9
    clear hW4 hown' hgrow3 hblk hg3 hx3 e12 e13 f9b
    go_wp2
    go_ret
    exact ⟨rfl, g, cap', hb4, hown4, hT, hgg⟩
end Go.Proofs.YtbkgophgclpijaaDoor
