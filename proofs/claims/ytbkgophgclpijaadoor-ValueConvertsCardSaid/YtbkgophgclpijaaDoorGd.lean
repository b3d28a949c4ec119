/- Property keys; ValueConverts: the walk. -/
import Derived.Test.YtbkgophgclpijaaDoorGc
import Derived.Test.YtbkgophgclpijaaDoorIc
import Derived.Test.YtbkgophgclpijaaDoorWf
import Derived.Deep.DeepCutAuto
import Derived.BigQuiet
import Derived.Deep.QuietTactic
namespace Go.Proofs.YtbkgophgclpijaaDoor
open Go Go.RowKit

def propT (x : Vt) : Vt × Int := if x.1 = 8 then (x, 0) else if (textT x).2 = 0 then ((7, 0, (textT x).1), 0) else ((0, 0, W.e0), (textT x).2)

set_option maxRecDepth 100000 in
set_option maxHeartbeats 2000000 in
theorem property_any (x : Vt) (hx : WV x.1 x.2.1 x.2.2) (w : World) (hT : M.Tb w) : Calls Tryd.prog 25 #[valV x] w fun e w' => e = .returned (.tuple #[valV (propT x).1, .int .i64 (propT x).2]) ∧ Below w.heap.size w w' := by
  have tx := Veil.mk (fun wx => text_any x hx wx)
  have HT := Veil.mk hT
  clear hT hx
  by_cases h8 : x.1 = 8
  · have e : propT x = (x, 0) := if_pos h8
    rw [e]
    clear e tx
    obtain ⟨k, n, s⟩ := x
    simp only at h8
    subst h8
    go_enter Tryd.func25, Tryd.ntmps25
    go_wp2
    refine bodyPost_ret (v := .tuple #[W.V 8 n s, .int .i64 0]) (by simp [results, Tryd.results25, go_sem]) rfl ⟨rfl, ?_⟩
    repeat (first | (with_reducible exact Below.refl _ _) | (refine Below.setCell ?_ (by simp; done) _) | (refine Below.alloc ?_ (by first | (exact Nat.le_refl _) | (simp; done) | (simp; omega)) _))
  · have h8b : (x.1 == 8) = false := by simpa using h8
    have e : propT x = if (textT x).2 = 0 then ((7, 0, (textT x).1), 0) else ((0, 0, W.e0), (textT x).2) := if_neg h8
    rw [e]
    obtain ⟨t, ht⟩ : ∃ t, t = textT x := ⟨_, rfl⟩
    rw [← ht] at tx ⊢
    clear e ht h8
    obtain ⟨ts, tn⟩ := t
    obtain ⟨k, n, s⟩ := x
    simp only at h8b tx ⊢
    have BX : Veil (Box ((w.alloc (.cells #[.int .i64 k, .int .i64 n, .string s] 27)).alloc (.cells zc 27)) (w.heap.size + 1) 27 zc) := ⟨by have := Box.new (w.alloc (.cells #[.int .i64 k, .int .i64 n, .string s] 27)) 27 zc; simpa using this⟩
    by_cases h0 : tn = 0
    · subst h0
      rw [if_pos rfl]
      go_enter Tryd.func25, Tryd.ntmps25
      go_wp2_with (first | (go_at_call 23; ((with_reducible refine (tx.out _ (HT.out.on (by repeat (first | (with_reducible assumption) | (with_reducible exact Below.refl _ _) | (with_reducible refine M.blw_alloc _ ?_) | (with_reducible refine M.blw_call ?_ (by assumption)))))).mono ?_); rintro e w2 ⟨rfl, hb2⟩; have r2 := BX.out.on hb2 (by simp); have c0 : w2.cell? ⟨w.heap.size + 1, 0, none⟩ = some (.int .i64 0) := r2.at_ 0; have c1 : w2.cell? ⟨w.heap.size + 1, 1, none⟩ = some (.int .i64 0) := r2.at_ 1; have c2 : w2.cell? ⟨w.heap.size + 1, 2, none⟩ = some (.string ⟨#[]⟩) := r2.at_ 2; have f0 := r2.free 0; have f1 := r2.free 1; have f2 := r2.free 2)))
      refine bodyPost_ret (v := .tuple #[W.V 7 0 ts, .int .i64 0]) (by simp [results, Tryd.results25, go_sem, c0, c1, c2]) rfl ⟨rfl, ?_⟩
      exact ((((((Below.refl w.heap.size w).alloc (Nat.le_refl _) _).alloc (by simp) _).trans (hb2.mono (by simp; omega))).setCell (p := ⟨w.heap.size + 1, 0, none⟩) (by simp) _).setCell (p := ⟨w.heap.size + 1, 1, none⟩) (by simp) _).setCell (p := ⟨w.heap.size + 1, 2, none⟩) (by simp) _
    · have h0b : (tn == 0) = false := by simpa using h0
      have h0c : (tn != 0) = true := by simpa using h0
      rw [if_neg h0]
      clear h0
      go_enter Tryd.func25, Tryd.ntmps25
      go_wp2_with (first | (go_at_call 23; ((with_reducible refine (tx.out _ (HT.out.on (by repeat (first | (with_reducible assumption) | (with_reducible exact Below.refl _ _) | (with_reducible refine M.blw_alloc _ ?_) | (with_reducible refine M.blw_call ?_ (by assumption)))))).mono ?_); rintro e w2 ⟨rfl, hb2⟩; have r2 := BX.out.on hb2 (by simp); have c0 : w2.cell? ⟨w.heap.size + 1, 0, none⟩ = some (.int .i64 0) := r2.at_ 0; have c1 : w2.cell? ⟨w.heap.size + 1, 1, none⟩ = some (.int .i64 0) := r2.at_ 1; have c2 : w2.cell? ⟨w.heap.size + 1, 2, none⟩ = some (.string ⟨#[]⟩) := r2.at_ 2; have f0 := r2.free 0; have f1 := r2.free 1; have f2 := r2.free 2)))
      refine bodyPost_ret (v := .tuple #[W.V 0 0 W.e0, .int .i64 tn]) (by simp [results, Tryd.results25, go_sem, c0, c1, c2]) rfl ⟨rfl, ?_⟩
      exact ((((((Below.refl w.heap.size w).alloc (Nat.le_refl _) _).alloc (by simp) _).trans (hb2.mono (by simp; omega))).setCell (p := ⟨w.heap.size + 1, 0, none⟩) (by simp) _).setCell (p := ⟨w.heap.size + 1, 1, none⟩) (by simp) _).setCell (p := ⟨w.heap.size + 1, 2, none⟩) (by simp) _
end Go.Proofs.YtbkgophgclpijaaDoor
