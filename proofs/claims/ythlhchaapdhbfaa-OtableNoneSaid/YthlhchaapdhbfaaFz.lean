/- OtableNone: the law's walk. -/
import Derived.Test.YthlhchaapdhbfaaFv
import Derived.Test.YthlhchaapdhbfaaFx
import Derived.Deep.DeepCutAuto
namespace Go.Proofs.Ythlhchaapdhbfaa
open Go.RowKit

set_option maxHeartbeats 4000000 in
set_option maxRecDepth 100000 in
theorem none_any (kd nn : Int) (a : Option Addr) (len cap : Nat) (l : List Nat) (hlt : ∀ u ∈ l, u < 65536) (w : World) (h : W.Nums .u16 w a len l) :
    Calls Try.prog 11 #[seedV kd nn a len cap] w fun e w' => e = .returned (.bool true) ∧ Below w.heap.size w w' := by
  obtain ⟨W, hW⟩ : ∃ W, W = w.alloc (.cells #[.int .i64 kd, .int .i64 nn, .slice a len cap] 77) := ⟨_, rfl⟩
  have hS : Box W w.heap.size 77 #[.int .i64 kd, .int .i64 nn, .slice a len cap] := by rw [hW]; exact Box.new w _ _
  have hBW : Below w.heap.size w W := by rw [hW]; exact (Below.refl _ _).alloc (Nat.le_refl _) _
  have HF := Veil.mk fit_any
  have HW := Veil.mk hW
  obtain ⟨g, hg⟩ : ∃ g, w.heap.size = g := ⟨_, rfl⟩
  have HG := Veil.mk hg
  have HBW := Veil.mk hBW
  have HNM := Veil.mk (h.on hBW)
  rw [hg] at hS
  clear hW h hBW hg
  by_cases hlen : len ≤ 100
  · have HV : Veil (∀ w', Below W.heap.size W w' → Calls Try.prog 44 #[seedV kd nn a len cap] w' (SeedPost w')) := ⟨fun w' hb => seed_val kd nn a len cap l hlen hlt w' (HNM.out.on hb)⟩
    have hl0 : ¬ (100 : Int) < (len : Int) := by omega
    clear HNM hlt
    go_enter Try.func11, Try.ntmps11
    go_upto_region 1 with (fail)
    rw [← HW.out, HG.out]
    clear HW
    go_upto_region 3 with (first | (go_at_call 32; ((with_reducible refine (HF.out _).mono ?_); rintro e w1 ⟨rfl, hb1⟩)))
    have c0 : w1.cell? ⟨g, 0, none⟩ = some (.int .i64 kd) := (hS.on hb1 hS.lt).at_ 0
    have c1 : w1.cell? ⟨g, 1, none⟩ = some (.int .i64 nn) := (hS.on hb1 hS.lt).at_ 1
    have c2 : w1.cell? ⟨g, 2, none⟩ = some (.slice a len cap) := (hS.on hb1 hS.lt).at_ 2
    go_upto_region 7 with (fail)
    have hbD : Below W.heap.size W w1.drew := hb1.drew
    have y0 : ∀ w', Below W.heap.size W w' → w'.cell? ⟨g, 0, none⟩ = some (.int .i64 kd) := fun w' hb => (hS.on hb hS.lt).at_ 0
    have y1 : ∀ w', Below W.heap.size W w' → w'.cell? ⟨g, 1, none⟩ = some (.int .i64 nn) := fun w' hb => (hS.on hb hS.lt).at_ 1
    have y2 : ∀ w', Below W.heap.size W w' → w'.cell? ⟨g, 2, none⟩ = some (.slice a len cap) := fun w' hb => (hS.on hb hS.lt).at_ 2
    have Y0 := Veil.mk y0
    have Y1 := Veil.mk y1
    have Y2 := Veil.mk y2
    clear y0 y1 y2 hS
    go_cut [27] (fun s27 wx => Below W.heap.size W wx)
    case first =>
      go_region_held3 (fun w' => w'.cell? ⟨g, 0, none⟩ = some (.int .i64 kd) ∧ w'.cell? ⟨g, 1, none⟩ = some (.int .i64 nn) ∧ w'.cell? ⟨g, 2, none⟩ = some (.slice a len cap)) (go_keep) (first | (go_at_call 44; ((with_reducible refine (HV.out _ hbD).mono ?_); rintro e w2 ⟨k, n, s, hv, rfl, hb2⟩; replace hbD := blw2 hbD hb2; clear hb2; have x0 := Y0.out _ hbD; have x1 := Y1.out _ hbD; have x2 := Y2.out _ hbD)) | (go_at_call 39; ((with_reducible refine (put_nil (_, _, _) (_, _, _) _ _).mono ?_); rintro e w2 ⟨rfl, hb2⟩; replace hbD := blw2 hbD hb2; clear hb2; have x0 := Y0.out _ hbD; have x1 := Y1.out _ hbD; have x2 := Y2.out _ hbD)))
      all_goals
        go_wp2
        go_meet
        exact hbD
    case rest =>
    clear hbD
    have hbD : Below W.heap.size W wc := hcut
    clear hcut
    have x0 := Y0.out _ hbD
    have x1 := Y1.out _ hbD
    have x2 := Y2.out _ hbD
    go_upto_region 9 with (first | (go_at_call 45; ((with_reducible refine (clear_nil _).mono ?_); rintro e w3 ⟨rfl, rfl⟩)))
    go_upto_region 10 with (first | (go_at_call 44; ((with_reducible refine (HV.out _ hbD).mono ?_); rintro e w2 ⟨k, n, s, hv, rfl, hb2⟩; replace hbD := blw2 hbD hb2; clear hb2 hv)) | (go_at_call 46; ((with_reducible refine (get_nil (_, _, _) _).mono ?_); rintro e w4 ⟨rfl, hb2⟩; replace hbD := blw2 hbD hb2; clear hb2)))
    replace hbD := hbD.trans (((Below.refl _ _).alloc (Nat.le_refl _) (.cells #[.int .i64 0, .int .i64 0, .string ⟨#[]⟩] 82)).mono hbD.size)
    generalize w4.alloc _ = A at hbD ⊢
    go_upto_region 11 with (first | (go_at_call 42; ((with_reducible refine (next_nil _).mono ?_); rintro e w5 ⟨rfl, hb2⟩; replace hbD := blw2 hbD hb2; clear hb2)))
    replace hbD := hbD.trans ((two_below w5 (#[.int .i64 0, .int .i64 0, .string ⟨#[]⟩]) (#[.int .i64 0, .int .i64 0, .string ⟨#[]⟩])).mono hbD.size)
    generalize (w5.alloc _).alloc _ = A2 at hbD ⊢
    go_upto_region 12 with (first | (go_at_call 38; ((with_reducible refine (cursor_nil _).mono ?_); rintro e w6 ⟨rfl, rfl⟩)) | (go_at_call 42; ((with_reducible refine (next_nil _).mono ?_); rintro e w7 ⟨rfl, hb2⟩; replace hbD := blw2 hbD hb2; clear hb2)))
    replace hbD := hbD.trans ((two_below w7 (#[.int .i64 0, .int .i64 0, .string ⟨#[]⟩]) (#[.int .i64 0, .int .i64 0, .string ⟨#[]⟩])).mono hbD.size)
    generalize (w7.alloc _).alloc _ = A3 at hbD ⊢
    clear x0 x1 x2
    have x0 := Y0.out _ hbD
    have x1 := Y1.out _ hbD
    have x2 := Y2.out _ hbD
    go_wp2_with (first | (go_at_call 47; ((with_reducible refine (close_nil _).mono ?_); rintro e w8 ⟨rfl, rfl⟩)) | (go_at_call 44; ((with_reducible refine (HV.out _ hbD).mono ?_); rintro e w2 ⟨k, n, s, hv, rfl, hb2⟩; replace hbD := blw2 hbD hb2; clear hb2 hv)) | (go_at_call 40; ((with_reducible refine (del_nil (_, _, _) _).mono ?_); rintro e w9 ⟨rfl, hb2⟩; replace hbD := blw2 hbD hb2; clear hb2)) | (go_at_call 41; ((with_reducible refine (len_nil _).mono ?_); rintro e w8 ⟨rfl, rfl⟩)) | (go_at_call 37; ((with_reducible refine (sto_nil _).mono ?_); rintro e w8 ⟨rfl, rfl⟩)) | (go_at_call 43; ((with_reducible refine (open_nil _).mono ?_); rintro e w8 ⟨rfl, rfl⟩)))
    go_ret
    exact ⟨rfl, HBW.out.trans (hbD.mono HBW.out.size)⟩
  · have hl0 : (100 : Int) < (len : Int) := by omega
    clear HNM hlt hlen
    go_enter Try.func11, Try.ntmps11
    go_upto_region 1 with (fail)
    rw [← HW.out, HG.out]
    clear HW
    go_upto_region 3 with (first | (go_at_call 32; ((with_reducible refine (HF.out _).mono ?_); rintro e w1 ⟨rfl, hb1⟩)))
    have c2 : w1.cell? ⟨g, 2, none⟩ = some (.slice a len cap) := (hS.on hb1 hS.lt).at_ 2
    go_wp2
    go_ret
    exact ⟨rfl, HBW.out.trans (hb1.mono HBW.out.size)⟩
end Go.Proofs.Ythlhchaapdhbfaa
