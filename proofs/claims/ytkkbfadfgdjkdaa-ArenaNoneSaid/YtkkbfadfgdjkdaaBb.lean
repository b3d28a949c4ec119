/- ArenaNone: the walk. -/
import Derived.Test.YtkkbfadfgdjkdaaBa
namespace Go.Proofs.Ytkkbfadfgdjkdaa
open Go Go.RowKit

theorem Touch.cell {S : Nat → Prop} {w w' : World} (h : Touch S w w') {p : Addr} (hp : p.block < w.heap.size) (hn : ¬ S p.block) : w'.cell? p = w.cell? p := by
  have hb := h.block p.block hp hn
  unfold World.cell?
  rw [hb]
theorem next_ne (r : Int) : (wrap64 (r + 1) == r) = false := by
  refine beq_eq_false_iff_ne.2 (fun h => ?_)
  unfold wrap64 at h
  omega
set_option maxHeartbeats 4000000 in
set_option maxRecDepth 100000 in
theorem none_law (r : Int) (w : World) : Calls Try.prog 5 #[.int .i64 r] w fun e w' => e = .returned (.bool true) ∧ Below w.heap.size w w' := by
  have HFT : Veil (∀ w, Calls Try.prog 8 #[] w fun e w' => e = .returned (.bool true) ∧ Below w.heap.size w w') := ⟨fit_any⟩
  have bx := Box.new w 3 #[.int .i64 r]
  have hb0 : Below w.heap.size w (w.alloc (.cells #[.int .i64 r] 3)) := (Below.refl _ _).alloc (Nat.le_refl _) _
  have HX0 := Veil.mk (And.intro bx hb0)
  clear bx hb0
  go_enter Try.func5, Try.ntmps5
  go_upto_region 3 with (first | (go_at_call 8; ((with_reducible refine (HFT.out _).mono ?_); rintro e9 w2 ⟨rfl, hb2⟩)))
  have bx2 := HX0.out.1.on hb2 HX0.out.1.lt
  have hB2 : Below w.heap.size w w2 := HX0.out.2.trans (hb2.mono HX0.out.2.size)
  obtain ⟨x, hx0⟩ : ∃ x, w.heap.size = x := ⟨_, rfl⟩
  rw [hx0] at bx2 hB2 ⊢
  have cx : w2.cell? ⟨x, 0, none⟩ = some (.int .i64 r) := bx2.at_ 0
  have HX2 := Veil.mk (And.intro hx0 (And.intro bx2 hB2))
  clear hb2 bx2 hB2 HX0 hx0
  have cx2 := ((HX2.out.2.1).more (.cells #[.int .i64 r, .int .i64 1, .int .i64 (wrap64 (r + 1)), .int .i64 2] 32)).at_ 0
  go_upto_region 4 with (fail)
  clear cx2 cx
  obtain ⟨hx0, bx2, hB2⟩ := HX2.out
  have bt := ((Box.new w2 32 #[.int .i64 r, .int .i64 1, .int .i64 (wrap64 (r + 1)), .int .i64 2]).more (.cells #[.int .i64 r] 3)).more (.cells #[.slice none 0 0, .slice (some ⟨w2.heap.size, 0, none⟩) 2 2, .slice (some ⟨w2.heap.size + 1, 0, none⟩) 1 1, .int .i64 0] 30)
  have bf := (Box.new (w2.alloc (.cells #[.int .i64 r, .int .i64 1, .int .i64 (wrap64 (r + 1)), .int .i64 2] 32)) 3 #[.int .i64 r]).more (.cells #[.slice none 0 0, .slice (some ⟨w2.heap.size, 0, none⟩) 2 2, .slice (some ⟨w2.heap.size + 1, 0, none⟩) 1 1, .int .i64 0] 30)
  have bn := Box.new ((w2.alloc (.cells #[.int .i64 r, .int .i64 1, .int .i64 (wrap64 (r + 1)), .int .i64 2] 32)).alloc (.cells #[.int .i64 r] 3)) 30 #[.slice none 0 0, .slice (some ⟨w2.heap.size, 0, none⟩) 2 2, .slice (some ⟨w2.heap.size + 1, 0, none⟩) 1 1, .int .i64 0]
  have hb5 : Below w2.heap.size w2 (((w2.alloc (.cells #[.int .i64 r, .int .i64 1, .int .i64 (wrap64 (r + 1)), .int .i64 2] 32)).alloc (.cells #[.int .i64 r] 3)).alloc (.cells #[.slice none 0 0, .slice (some ⟨w2.heap.size, 0, none⟩) 2 2, .slice (some ⟨w2.heap.size + 1, 0, none⟩) 1 1, .int .i64 0] 30)) :=
    (((Below.refl _ _).alloc (Nat.le_refl _) _).alloc (by rw [World.size_alloc]; omega) _).alloc (by rw [World.size_alloc, World.size_alloc]; omega) _
  rw [World.size_alloc] at bf
  rw [World.size_alloc, World.size_alloc] at bn
  have bx5 := bx2.on hb5 bx2.lt
  have hB5 : Below x w _ := hB2.trans (hb5.mono (Nat.le_of_lt bx2.lt))
  have hxt : x < w2.heap.size := bx2.lt
  obtain ⟨tb, htb⟩ : ∃ tb, w2.heap.size = tb := ⟨_, rfl⟩
  obtain ⟨r1, hr1⟩ : ∃ r1, wrap64 (r + 1) = r1 := ⟨_, rfl⟩
  have hrr : (r1 == r) = false := by rw [← hr1]; exact next_ne r
  rw [htb, hr1] at bt bf bn bx5 hB5 ⊢
  rw [htb] at hxt
  generalize ((w2.alloc (.cells #[.int .i64 r, .int .i64 1, .int .i64 r1, .int .i64 2] 32)).alloc (.cells #[.int .i64 r] 3)).alloc (.cells #[.slice none 0 0, .slice (some ⟨tb, 0, none⟩) 2 2, .slice (some ⟨tb + 1, 0, none⟩) 1 1, .int .i64 0] 30) = w5 at bt bf bn bx5 hB5 ⊢
  have HD := Veil.mk (drop_two (tb + 1 + 1) tb x r r1 hrr _ _ _ w5 bn bt (bx5.at_ 0))
  have HX5 := Veil.mk (And.intro hB5 (And.intro bx5 (And.intro bf (And.intro bn.lt hxt))))
  clear hb5 bt bf bn bx5 hB5 bx2 hB2 HX2 htb hr1 hrr hxt
  go_upto_region 5 with (first | (go_at_call 20; ((with_reducible refine HD.out.mono ?_); rintro e9 w6 ⟨rfl, g6, cap6, ht6, bn6, hg6, hc6⟩)))
  obtain ⟨hB5, bx5, bf5, hnl, hxt⟩ := HX5.out
  have hne6 : ∀ k, k ≠ tb + 1 + 1 → ¬ (k = tb + 1 + 1) := fun k h => h
  have bf6 := bf5.touch ht6 (hne6 _ (by omega))
  have bx6 := bx5.touch ht6 (hne6 _ (by omega))
  have hB6 : Below x w w6 := hB5.trans (ht6.below (by have := bx5.lt; omega) (fun k hk => by omega))
  have hl6 : tb + 1 + 1 < w6.heap.size := bn6.lt
  have hgl6 : g6 < w6.heap.size := World.block_lt_of_cell? w6 _ hc6
  have HC := Veil.mk (clear_one (tb + 1 + 1) (tb + 1) r _ _ _ w6 bn6 (bf6.at_ 0))
  have HX6 := Veil.mk (And.intro hB6 (And.intro bx6 (And.intro hc6 (And.intro (show tb + 1 + 1 < g6 by omega) (And.intro hgl6 (And.intro hxt (show g6 < w6.heap.size from hgl6)))))))
  clear bf6 bx6 hB6 hl6 hgl6 hB5 bx5 bf5 hnl HX5 HD ht6 bn6 hg6 hc6 hxt hne6
  go_upto_region 6 with (first | (go_at_call 22; ((with_reducible refine HC.out.mono ?_); rintro e9 w7 ⟨rfl, g7, cap7, ht7, bn7, hg7, hc7⟩)))
  obtain ⟨hB6, bx6, hc6, hng6, hgl6, hxt, -⟩ := HX6.out
  have bx7 := bx6.touch ht7 (show ¬ (x = tb + 1 + 1) by omega)
  have hB7 : Below x w w7 := hB6.trans (ht7.below (by have := bx6.lt; omega) (fun k hk => by omega))
  have hc67 : w7.cell? ⟨g6, 1, none⟩ = some (.int .i64 2) := by
    rw [ht7.cell (p := ⟨g6, 1, none⟩) hgl6 (show ¬ (g6 = tb + 1 + 1) by omega)]
    exact hc6
  have HG : Veil (Calls Try.prog 24 #[.pointer (some ⟨tb + 1 + 1, 0, none⟩)] w7 fun e w' => e = .returned (.tuple #[]) ∧ Touch (fun k => k = tb + 1 + 1) w7 w' ∧ Box w' (tb + 1 + 1) 30 #[.slice none 0 0, .slice (some ⟨g6, 0, none⟩) 1 cap6, .slice (some ⟨g7, 0, none⟩) 1 cap7, .int .i64 1]) := ⟨(gone_any (tb + 1 + 1) _ _ _ 0 (by omega) w7 bn7).mono fun e w' h => ⟨h.1, by rw [h.2]; exact Touch.put (S := fun k => k = tb + 1 + 1) rfl _ _, by rw [h.2]; exact bn7.put 3 _⟩⟩
  have HX7 := Veil.mk (And.intro hB7 (And.intro bx7 (And.intro hc67 (And.intro bn7 (And.intro hc7 (And.intro hng6 (And.intro (show tb + 1 + 1 < g7 by omega) hxt)))))))
  clear hB6 bx6 hc6 hng6 hgl6 hxt bx7 hB7 hc67 HX6 HC ht7 bn7 hg7 hc7
  go_upto_region 7 with (first | (go_at_call 24; ((with_reducible refine HG.out.mono ?_); rintro e9 w8 ⟨rfl, tp, bn8⟩)))
  obtain ⟨hB7, bx7, hc67, bn7, hc7, hng6, hng7, hxt⟩ := HX7.out
  have bx8 := bx7.touch tp (show ¬ (x = tb + 1 + 1) by omega)
  have hB8 : Below x w w8 := hB7.trans (tp.below (by have := bx7.lt; omega) (fun k hk => by omega))
  have k6 : w8.cell? ⟨g6, 1, none⟩ = some (.int .i64 2) := by
    rw [tp.cell (p := ⟨g6, 1, none⟩) (World.block_lt_of_cell? w7 _ hc67) (show ¬ (g6 = tb + 1 + 1) by omega)]
    exact hc67
  have k7 : w8.cell? ⟨g7, 0, none⟩ = some (.int .i64 0) := by
    rw [tp.cell (p := ⟨g7, 0, none⟩) (World.block_lt_of_cell? w7 _ hc7) (show ¬ (g7 = tb + 1 + 1) by omega)]
    exact hc7
  have n1 : w8.cell? ⟨tb + 1 + 1, 1, none⟩ = some (.slice (some ⟨g6, 0, none⟩) 1 cap6) := bn8.at_ 1
  have n2 : w8.cell? ⟨tb + 1 + 1, 2, none⟩ = some (.slice (some ⟨g7, 0, none⟩) 1 cap7) := bn8.at_ 2
  have n3 : w8.cell? ⟨tb + 1 + 1, 3, none⟩ = some (.int .i64 1) := bn8.at_ 3
  have HX8 := Veil.mk (And.intro hB8 bx8)
  clear hB7 bx7 hc67 bn7 hc7 hng6 hng7 hxt tp bn8 bx8 hB8 HX7 HG
  go_upto_region 9 with (fail)
  clear k6 k7 n1 n2 n3
  obtain ⟨hB8, bx8⟩ := HX8.out
  have cx8 : w8.cell? ⟨x, 0, none⟩ = some (.int .i64 r) := bx8.at_ 0
  have bx9 := bx8.more (.cells #[.int .i64 r] 3)
  have cx9 : (w8.alloc (.cells #[.int .i64 r] 3)).cell? ⟨x, 0, none⟩ = some (.int .i64 r) := bx9.at_ 0
  have hB9 : Below x w (w8.alloc (.cells #[.int .i64 r] 3)) := hB8.alloc (Nat.le_of_lt bx8.lt) _
  have HPU : Veil (∀ v w, Calls Try.prog 11 #[.pointer none, v] w fun e w' => e = .returned (.tuple #[]) ∧ w' = w) := ⟨push_none⟩
  have HPO : Veil (∀ r w, Calls Try.prog 18 #[.pointer none, .int .i64 r] w fun e w' => e = .returned (.tuple #[]) ∧ w' = w) := ⟨pop_none⟩
  have HX9 := Veil.mk (And.intro hB9 bx9)
  clear bx8 hB8 HX8 bx9 hB9
  go_upto_region 12 with (first | (go_at_call 11; ((with_reducible refine (HPU.out _ _).mono ?_); rintro e9 w9 ⟨rfl, h9⟩; subst w9)) | (go_at_call 18; ((with_reducible refine (HPO.out _ _).mono ?_); rintro e9 w9 ⟨rfl, h9⟩; subst w9)))
  obtain ⟨hB9, bx9⟩ := HX9.out
  clear HX9 cx8 cx9 HPU HPO
  generalize w8.alloc (.cells #[.int .i64 r] 3) = w9 at hB9 bx9 ⊢
  have bx10 := bx9.more (.cells #[.slice none 0 0, .slice none 0 0, .slice none 0 0, .int .i64 0] 30)
  have cx10 : (w9.alloc (.cells #[.slice none 0 0, .slice none 0 0, .slice none 0 0, .int .i64 0] 30)).cell? ⟨x, 0, none⟩ = some (.int .i64 r) := bx10.at_ 0
  have HB10 : Veil (Below x w (w9.alloc (.cells #[.slice none 0 0, .slice none 0 0, .slice none 0 0, .int .i64 0] 30)) ∧ x < (w9.alloc (.cells #[.slice none 0 0, .slice none 0 0, .slice none 0 0, .int .i64 0] 30)).heap.size) := ⟨hB9.alloc (Nat.le_of_lt bx9.lt) _, bx10.lt⟩
  have HMN : Veil (∀ v w, Calls Try.prog 10 #[.pointer none, v] w fun e w' => e = .returned (.int .i64 0) ∧ w' = w) := ⟨make_none⟩
  have HGE : Veil (∀ r w, Calls Try.prog 17 #[.pointer none, .int .i64 r] w fun e w' => e = .returned .nilIface ∧ w' = w) := ⟨get_none⟩
  have HCN : Veil (∀ w, Calls Try.prog 13 #[.pointer none] w fun e w' => e = .returned (.int .i64 0) ∧ w' = w) := ⟨count_none⟩
  have HDE : Veil (∀ w, Calls Try.prog 19 #[.pointer none] w fun e w' => e = .returned (.int .i64 0) ∧ w' = w) := ⟨depth_none⟩
  have HCO : Veil (∀ v w, Calls Try.prog 12 #[.pointer none, v] w fun e w' => e = .returned (.slice none 0 0) ∧ w' = w) := ⟨collect_none⟩
  have HNE : Veil (Calls Try.prog 9 #[] (w9.alloc (.cells #[.slice none 0 0, .slice none 0 0, .slice none 0 0, .int .i64 0] 30)) fun e w' => ∃ A, e = .returned (.pointer (some ⟨A, 0, none⟩)) ∧ Below x w w' ∧ Calls Try.prog 10 #[.pointer (some ⟨A, 0, none⟩), .nilIface] w' fun e w9 => e = .returned (.int .i64 0) ∧ w9 = w') := ⟨(new_any _).mono fun e w' h => ⟨_, h.1, HB10.out.1.trans (h.2.1.mono (Nat.le_of_lt HB10.out.2)), make_nil _ _ _ _ _ _ _ h.2.2.2⟩⟩
  have qn : ∀ w : World, (binOp .eql 51 .nilIface .nilIface).run Try.prog w = .ok (.bool true) w := fun _ => rfl
  clear hB9 bx9 bx10
  go_wp2_with (first | (go_at_call 10; ((with_reducible refine (HMN.out _ _).mono ?_); rintro e9 w11 ⟨rfl, h9⟩; subst w11)) | (go_at_call 17; ((with_reducible refine (HGE.out _ _).mono ?_); rintro e9 w11 ⟨rfl, h9⟩; subst w11)) | (go_at_call 13; ((with_reducible refine (HCN.out _).mono ?_); rintro e9 w11 ⟨rfl, h9⟩; subst w11)) | (go_at_call 19; ((with_reducible refine (HDE.out _).mono ?_); rintro e9 w11 ⟨rfl, h9⟩; subst w11)) | (go_at_call 12; ((with_reducible refine (HCO.out _ _).mono ?_); rintro e9 w11 ⟨rfl, h9⟩; subst w11)) | (go_at_call 9; ((with_reducible refine HNE.out.mono ?_); rintro e9 w12 ⟨A, rfl, hb12, hm12⟩)) | (go_at_call 10; ((with_reducible refine hm12.mono ?_); rintro e9 w13 ⟨rfl, h9⟩; subst w13)))
  go_ret
  exact ⟨rfl, by rw [hx0]; exact hb12⟩
end Go.Proofs.Ytkkbfadfgdjkdaa
