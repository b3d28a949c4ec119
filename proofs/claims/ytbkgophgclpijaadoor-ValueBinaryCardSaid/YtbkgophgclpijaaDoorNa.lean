/- ValueBinary: the contracts that both sides share. -/
import Derived.Test.YtbkgophgclpijaaDoorHb
import Derived.Test.YtbkgophgclpijaaDoorMp
import Derived.Test.YtbkgophgclpijaaDoorHc
import Derived.Test.YtbkgophgclpijaaDoorEf
import Derived.Test.YtbkgophgclpijaaDoorEb
import Derived.Deep.AppendLies
import Derived.Deep.RegionLaw
import Derived.Deep.QuietTactic
import Derived.BigQuiet
import Derived.Test.YtbkgophgclpijaaDoorIb
import Derived.Deep.RegionHeld3
import Derived.Deep.DeepCutAuto
namespace Go.Proofs.YtbkgophgclpijaaDoor
open Go.RowKit

inductive NumOp | add | sub | mul | div | rem
def numR (o : NumOp) (k1 n1 k2 n2 : Int) : Int × Int × Bool := match o with
  | .add => M.addR k1 n1 k2 n2
  | .sub => M.subR k1 n1 k2 n2
  | .mul => M.mulR k1 n1 k2 n2
  | .div => M.divR k1 n1 k2 n2
  | .rem => ((M.remR k1 n1 k2 n2).1, (M.remR k1 n1 k2 n2).2, true)
/-- Reckoning, with its status; 'none': an operator that isn't there. -/
def reckT (o : Option NumOp) (k1 n1 k2 n2 : Int) : Vt × Int := match o with
  | some o => if (numR o k1 n1 k2 n2).2.2 = true then (((numR o k1 n1 k2 n2).1, (numR o k1 n1 k2 n2).2.1, W.e0), 0) else ((0, 0, W.e0), 2)
  | none => ((0, 0, W.e0), 2)
def calcN (o : Option NumOp) (x y : Vt) : Vt × Int := if (numberT x).2 = 0 then (if (numberT y).2 = 0 then reckT o (numberT x).1.1 (numberT x).1.2.1 (numberT y).1.1 (numberT y).1.2.1 else ((0, 0, W.e0), (numberT y).2)) else ((0, 0, W.e0), (numberT x).2)
theorem isOrder_add (w : World) : Calls Tryd.prog 36 #[.string ⟨#[43]⟩] w fun e w' => e = .returned (.bool false) ∧ w = w' := by
  go_enter Tryd.func36, Tryd.ntmps36
  go_wp2
  go_ret
  exact ⟨rfl, rfl⟩
set_option maxRecDepth 100000 in
theorem arith_add (k1 n1 k2 n2 : Int) (h1 : M.Num k1 n1) (h2 : M.Num k2 n2) (w : World) : Calls Tryd.prog 61 #[.string ⟨#[43]⟩, W.V k1 n1 W.e0, W.V k2 n2 W.e0] w fun e w' =>
    e = .returned (.tuple #[W.V (numR .add k1 n1 k2 n2).1 (numR .add k1 n1 k2 n2).2.1 W.e0, .bool (numR .add k1 n1 k2 n2).2.2]) ∧ Below w.heap.size w w' := by
  have A := M.add_any k1 n1 k2 n2 h1 h2
  have b3 := tri_r w (k1, n1, W.e0) (k2, n2, W.e0)
  unfold tri two at b3
  simp only at b3
  have B3 := Veil.mk b3
  have hT : Veil (Below w.heap.size w (tri w (k1, n1, W.e0) (k2, n2, W.e0))) := ⟨tri_below w _ _⟩
  unfold tri two at hT
  simp only at hT
  clear b3 h1 h2
  obtain ⟨r, hr⟩ : ∃ r, r = numR .add k1 n1 k2 n2 := ⟨_, rfl⟩
  have A2 := Veil.mk A
  clear A
  have A3 : Veil (∀ wx, Calls Tryd.prog 77 #[W.V k1 n1 W.e0, W.V k2 n2 W.e0] wx fun e w' => e = .returned (.tuple #[W.V (numR .add k1 n1 k2 n2).1 (numR .add k1 n1 k2 n2).2.1 W.e0, .bool (numR .add k1 n1 k2 n2).2.2]) ∧ Below wx.heap.size wx w') := ⟨A2.out⟩
  skip
  rw [← hr] at A3 ⊢
  clear hr A2
  obtain ⟨rk, rn, ro⟩ := r
  simp only at A3 ⊢
  go_enter Tryd.func61, Tryd.ntmps61
  go_wp2_with (first | (go_at_call 77; ((with_reducible refine (A3.out _).mono ?_); rintro e w3 ⟨rfl, hb3⟩; have z3 := B3.out.on hb3 (by simp); have z0 : w3.cell? ⟨w.heap.size + 1 + 1, 0, none⟩ = some (.int .i64 0) := z3.at_ 0; have z1 : w3.cell? ⟨w.heap.size + 1 + 1, 1, none⟩ = some (.int .i64 0) := z3.at_ 1; have z2 : w3.cell? ⟨w.heap.size + 1 + 1, 2, none⟩ = some (.string ⟨#[]⟩) := z3.at_ 2; have f0 := z3.free 0; have f1 := z3.free 1; have f2 := z3.free 2)))
  refine bodyPost_ret (v := .tuple #[W.V rk rn W.e0, .bool ro]) (by simp [results, Tryd.results61, go_sem, z0, z1, z2]) rfl ⟨rfl, ?_⟩
  exact (((hT.out.trans (hb3.mono hT.out.size)).setCell (p := ⟨w.heap.size + 1 + 1, 0, none⟩) (by show w.heap.size ≤ w.heap.size + 1 + 1; omega) _).setCell (p := ⟨w.heap.size + 1 + 1, 1, none⟩) (by show w.heap.size ≤ w.heap.size + 1 + 1; omega) _).setCell (p := ⟨w.heap.size + 1 + 1, 2, none⟩) (by show w.heap.size ≤ w.heap.size + 1 + 1; omega) _
theorem isOrder_sub (w : World) : Calls Tryd.prog 36 #[.string ⟨#[45]⟩] w fun e w' => e = .returned (.bool false) ∧ w = w' := by
  go_enter Tryd.func36, Tryd.ntmps36
  go_wp2
  go_ret
  exact ⟨rfl, rfl⟩
set_option maxRecDepth 100000 in
theorem arith_sub (k1 n1 k2 n2 : Int) (h1 : M.Num k1 n1) (h2 : M.Num k2 n2) (w : World) : Calls Tryd.prog 61 #[.string ⟨#[45]⟩, W.V k1 n1 W.e0, W.V k2 n2 W.e0] w fun e w' =>
    e = .returned (.tuple #[W.V (numR .sub k1 n1 k2 n2).1 (numR .sub k1 n1 k2 n2).2.1 W.e0, .bool (numR .sub k1 n1 k2 n2).2.2]) ∧ Below w.heap.size w w' := by
  have A := M.sub_any k1 n1 k2 n2 h1 h2
  have b3 := tri_r w (k1, n1, W.e0) (k2, n2, W.e0)
  unfold tri two at b3
  simp only at b3
  have B3 := Veil.mk b3
  have hT : Veil (Below w.heap.size w (tri w (k1, n1, W.e0) (k2, n2, W.e0))) := ⟨tri_below w _ _⟩
  unfold tri two at hT
  simp only at hT
  clear b3 h1 h2
  obtain ⟨r, hr⟩ : ∃ r, r = numR .sub k1 n1 k2 n2 := ⟨_, rfl⟩
  have A2 := Veil.mk A
  clear A
  have A3 : Veil (∀ wx, Calls Tryd.prog 78 #[W.V k1 n1 W.e0, W.V k2 n2 W.e0] wx fun e w' => e = .returned (.tuple #[W.V (numR .sub k1 n1 k2 n2).1 (numR .sub k1 n1 k2 n2).2.1 W.e0, .bool (numR .sub k1 n1 k2 n2).2.2]) ∧ Below wx.heap.size wx w') := ⟨A2.out⟩
  skip
  rw [← hr] at A3 ⊢
  clear hr A2
  obtain ⟨rk, rn, ro⟩ := r
  simp only at A3 ⊢
  go_enter Tryd.func61, Tryd.ntmps61
  go_wp2_with (first | (go_at_call 78; ((with_reducible refine (A3.out _).mono ?_); rintro e w3 ⟨rfl, hb3⟩; have z3 := B3.out.on hb3 (by simp); have z0 : w3.cell? ⟨w.heap.size + 1 + 1, 0, none⟩ = some (.int .i64 0) := z3.at_ 0; have z1 : w3.cell? ⟨w.heap.size + 1 + 1, 1, none⟩ = some (.int .i64 0) := z3.at_ 1; have z2 : w3.cell? ⟨w.heap.size + 1 + 1, 2, none⟩ = some (.string ⟨#[]⟩) := z3.at_ 2; have f0 := z3.free 0; have f1 := z3.free 1; have f2 := z3.free 2)))
  refine bodyPost_ret (v := .tuple #[W.V rk rn W.e0, .bool ro]) (by simp [results, Tryd.results61, go_sem, z0, z1, z2]) rfl ⟨rfl, ?_⟩
  exact (((hT.out.trans (hb3.mono hT.out.size)).setCell (p := ⟨w.heap.size + 1 + 1, 0, none⟩) (by show w.heap.size ≤ w.heap.size + 1 + 1; omega) _).setCell (p := ⟨w.heap.size + 1 + 1, 1, none⟩) (by show w.heap.size ≤ w.heap.size + 1 + 1; omega) _).setCell (p := ⟨w.heap.size + 1 + 1, 2, none⟩) (by show w.heap.size ≤ w.heap.size + 1 + 1; omega) _
theorem isOrder_mul (w : World) : Calls Tryd.prog 36 #[.string ⟨#[42]⟩] w fun e w' => e = .returned (.bool false) ∧ w = w' := by
  go_enter Tryd.func36, Tryd.ntmps36
  go_wp2
  go_ret
  exact ⟨rfl, rfl⟩
set_option maxRecDepth 100000 in
theorem arith_mul (k1 n1 k2 n2 : Int) (h1 : M.Num k1 n1) (h2 : M.Num k2 n2) (w : World) : Calls Tryd.prog 61 #[.string ⟨#[42]⟩, W.V k1 n1 W.e0, W.V k2 n2 W.e0] w fun e w' =>
    e = .returned (.tuple #[W.V (numR .mul k1 n1 k2 n2).1 (numR .mul k1 n1 k2 n2).2.1 W.e0, .bool (numR .mul k1 n1 k2 n2).2.2]) ∧ Below w.heap.size w w' := by
  have A := M.mul_any k1 n1 k2 n2 h1 h2
  have b3 := tri_r w (k1, n1, W.e0) (k2, n2, W.e0)
  unfold tri two at b3
  simp only at b3
  have B3 := Veil.mk b3
  have hT : Veil (Below w.heap.size w (tri w (k1, n1, W.e0) (k2, n2, W.e0))) := ⟨tri_below w _ _⟩
  unfold tri two at hT
  simp only at hT
  clear b3 h1 h2
  obtain ⟨r, hr⟩ : ∃ r, r = numR .mul k1 n1 k2 n2 := ⟨_, rfl⟩
  have A2 := Veil.mk A
  clear A
  have A3 : Veil (∀ wx, Calls Tryd.prog 79 #[W.V k1 n1 W.e0, W.V k2 n2 W.e0] wx fun e w' => e = .returned (.tuple #[W.V (numR .mul k1 n1 k2 n2).1 (numR .mul k1 n1 k2 n2).2.1 W.e0, .bool (numR .mul k1 n1 k2 n2).2.2]) ∧ Below wx.heap.size wx w') := ⟨A2.out⟩
  skip
  rw [← hr] at A3 ⊢
  clear hr A2
  obtain ⟨rk, rn, ro⟩ := r
  simp only at A3 ⊢
  go_enter Tryd.func61, Tryd.ntmps61
  go_wp2_with (first | (go_at_call 79; ((with_reducible refine (A3.out _).mono ?_); rintro e w3 ⟨rfl, hb3⟩; have z3 := B3.out.on hb3 (by simp); have z0 : w3.cell? ⟨w.heap.size + 1 + 1, 0, none⟩ = some (.int .i64 0) := z3.at_ 0; have z1 : w3.cell? ⟨w.heap.size + 1 + 1, 1, none⟩ = some (.int .i64 0) := z3.at_ 1; have z2 : w3.cell? ⟨w.heap.size + 1 + 1, 2, none⟩ = some (.string ⟨#[]⟩) := z3.at_ 2; have f0 := z3.free 0; have f1 := z3.free 1; have f2 := z3.free 2)))
  refine bodyPost_ret (v := .tuple #[W.V rk rn W.e0, .bool ro]) (by simp [results, Tryd.results61, go_sem, z0, z1, z2]) rfl ⟨rfl, ?_⟩
  exact (((hT.out.trans (hb3.mono hT.out.size)).setCell (p := ⟨w.heap.size + 1 + 1, 0, none⟩) (by show w.heap.size ≤ w.heap.size + 1 + 1; omega) _).setCell (p := ⟨w.heap.size + 1 + 1, 1, none⟩) (by show w.heap.size ≤ w.heap.size + 1 + 1; omega) _).setCell (p := ⟨w.heap.size + 1 + 1, 2, none⟩) (by show w.heap.size ≤ w.heap.size + 1 + 1; omega) _
theorem isOrder_div (w : World) : Calls Tryd.prog 36 #[.string ⟨#[47]⟩] w fun e w' => e = .returned (.bool false) ∧ w = w' := by
  go_enter Tryd.func36, Tryd.ntmps36
  go_wp2
  go_ret
  exact ⟨rfl, rfl⟩
set_option maxRecDepth 100000 in
theorem arith_div (k1 n1 k2 n2 : Int) (h1 : M.Num k1 n1) (h2 : M.Num k2 n2) (w : World) : Calls Tryd.prog 61 #[.string ⟨#[47]⟩, W.V k1 n1 W.e0, W.V k2 n2 W.e0] w fun e w' =>
    e = .returned (.tuple #[W.V (numR .div k1 n1 k2 n2).1 (numR .div k1 n1 k2 n2).2.1 W.e0, .bool (numR .div k1 n1 k2 n2).2.2]) ∧ Below w.heap.size w w' := by
  have A := M.div_any k1 n1 k2 n2 h1 h2
  have b3 := tri_r w (k1, n1, W.e0) (k2, n2, W.e0)
  unfold tri two at b3
  simp only at b3
  have B3 := Veil.mk b3
  have hT : Veil (Below w.heap.size w (tri w (k1, n1, W.e0) (k2, n2, W.e0))) := ⟨tri_below w _ _⟩
  unfold tri two at hT
  simp only at hT
  clear b3 h1 h2
  obtain ⟨r, hr⟩ : ∃ r, r = numR .div k1 n1 k2 n2 := ⟨_, rfl⟩
  have A2 := Veil.mk A
  clear A
  have A3 : Veil (∀ wx, Calls Tryd.prog 80 #[W.V k1 n1 W.e0, W.V k2 n2 W.e0] wx fun e w' => e = .returned (.tuple #[W.V (numR .div k1 n1 k2 n2).1 (numR .div k1 n1 k2 n2).2.1 W.e0, .bool (numR .div k1 n1 k2 n2).2.2]) ∧ Below wx.heap.size wx w') := ⟨A2.out⟩
  skip
  rw [← hr] at A3 ⊢
  clear hr A2
  obtain ⟨rk, rn, ro⟩ := r
  simp only at A3 ⊢
  go_enter Tryd.func61, Tryd.ntmps61
  go_wp2_with (first | (go_at_call 80; ((with_reducible refine (A3.out _).mono ?_); rintro e w3 ⟨rfl, hb3⟩; have z3 := B3.out.on hb3 (by simp); have z0 : w3.cell? ⟨w.heap.size + 1 + 1, 0, none⟩ = some (.int .i64 0) := z3.at_ 0; have z1 : w3.cell? ⟨w.heap.size + 1 + 1, 1, none⟩ = some (.int .i64 0) := z3.at_ 1; have z2 : w3.cell? ⟨w.heap.size + 1 + 1, 2, none⟩ = some (.string ⟨#[]⟩) := z3.at_ 2; have f0 := z3.free 0; have f1 := z3.free 1; have f2 := z3.free 2)))
  refine bodyPost_ret (v := .tuple #[W.V rk rn W.e0, .bool ro]) (by simp [results, Tryd.results61, go_sem, z0, z1, z2]) rfl ⟨rfl, ?_⟩
  exact (((hT.out.trans (hb3.mono hT.out.size)).setCell (p := ⟨w.heap.size + 1 + 1, 0, none⟩) (by show w.heap.size ≤ w.heap.size + 1 + 1; omega) _).setCell (p := ⟨w.heap.size + 1 + 1, 1, none⟩) (by show w.heap.size ≤ w.heap.size + 1 + 1; omega) _).setCell (p := ⟨w.heap.size + 1 + 1, 2, none⟩) (by show w.heap.size ≤ w.heap.size + 1 + 1; omega) _
theorem isOrder_rem (w : World) : Calls Tryd.prog 36 #[.string ⟨#[37]⟩] w fun e w' => e = .returned (.bool false) ∧ w = w' := by
  go_enter Tryd.func36, Tryd.ntmps36
  go_wp2
  go_ret
  exact ⟨rfl, rfl⟩
set_option maxRecDepth 100000 in
theorem arith_rem (k1 n1 k2 n2 : Int) (h1 : M.Num k1 n1) (h2 : M.Num k2 n2) (w : World) : Calls Tryd.prog 61 #[.string ⟨#[37]⟩, W.V k1 n1 W.e0, W.V k2 n2 W.e0] w fun e w' =>
    e = .returned (.tuple #[W.V (numR .rem k1 n1 k2 n2).1 (numR .rem k1 n1 k2 n2).2.1 W.e0, .bool (numR .rem k1 n1 k2 n2).2.2]) ∧ Below w.heap.size w w' := by
  have A := M.rem_any k1 n1 k2 n2 h1 h2
  have b3 := tri_r w (k1, n1, W.e0) (k2, n2, W.e0)
  unfold tri two at b3
  simp only at b3
  have B3 := Veil.mk b3
  have hT : Veil (Below w.heap.size w (tri w (k1, n1, W.e0) (k2, n2, W.e0))) := ⟨tri_below w _ _⟩
  unfold tri two at hT
  simp only at hT
  clear b3 h1 h2
  obtain ⟨r, hr⟩ : ∃ r, r = M.remR k1 n1 k2 n2 := ⟨_, rfl⟩
  have A2 := Veil.mk A
  clear A
  show Calls _ _ _ _ fun e w' => e = .returned (.tuple #[W.V (M.remR k1 n1 k2 n2).1 (M.remR k1 n1 k2 n2).2 W.e0, .bool true]) ∧ Below w.heap.size w w'
  have A3 : Veil (∀ wx, Calls Tryd.prog 81 #[W.V k1 n1 W.e0, W.V k2 n2 W.e0] wx fun e w' => e = .returned (W.V (M.remR k1 n1 k2 n2).1 (M.remR k1 n1 k2 n2).2 W.e0) ∧ Below wx.heap.size wx w') := ⟨A2.out⟩
  rw [← hr] at A3 ⊢
  clear hr A2
  obtain ⟨rk, rn⟩ := r
  simp only at A3 ⊢
  go_enter Tryd.func61, Tryd.ntmps61
  go_wp2_with (first | (go_at_call 81; ((with_reducible refine (A3.out _).mono ?_); rintro e w3 ⟨rfl, hb3⟩; have z3 := B3.out.on hb3 (by simp); have z0 : w3.cell? ⟨w.heap.size + 1 + 1, 0, none⟩ = some (.int .i64 0) := z3.at_ 0; have z1 : w3.cell? ⟨w.heap.size + 1 + 1, 1, none⟩ = some (.int .i64 0) := z3.at_ 1; have z2 : w3.cell? ⟨w.heap.size + 1 + 1, 2, none⟩ = some (.string ⟨#[]⟩) := z3.at_ 2; have f0 := z3.free 0; have f1 := z3.free 1; have f2 := z3.free 2)))
  refine bodyPost_ret (v := .tuple #[W.V rk rn W.e0, .bool true]) (by simp [results, Tryd.results61, go_sem, z0, z1, z2]) rfl ⟨rfl, ?_⟩
  exact (((hT.out.trans (hb3.mono hT.out.size)).setCell (p := ⟨w.heap.size + 1 + 1, 0, none⟩) (by show w.heap.size ≤ w.heap.size + 1 + 1; omega) _).setCell (p := ⟨w.heap.size + 1 + 1, 1, none⟩) (by show w.heap.size ≤ w.heap.size + 1 + 1; omega) _).setCell (p := ⟨w.heap.size + 1 + 1, 2, none⟩) (by show w.heap.size ≤ w.heap.size + 1 + 1; omega) _
theorem isOrder_q (w : World) : Calls Tryd.prog 36 #[.string ⟨#[63]⟩] w fun e w' => e = .returned (.bool false) ∧ w = w' := by
  go_enter Tryd.func36, Tryd.ntmps36
  go_wp2
  go_ret
  exact ⟨rfl, rfl⟩
theorem arith_q (k1 n1 k2 n2 : Int) (w : World) : Calls Tryd.prog 61 #[.string ⟨#[63]⟩, W.V k1 n1 W.e0, W.V k2 n2 W.e0] w fun e w' =>
    e = .returned (.tuple #[W.V 0 0 W.e0, .bool false]) ∧ Below w.heap.size w w' := by
  go_enter Tryd.func61, Tryd.ntmps61
  go_wp2
  refine bodyPost_ret (v := .tuple #[W.V 0 0 W.e0, .bool false]) (by simp [results, Tryd.results61, go_sem]) rfl ⟨rfl, ?_⟩
  exact M.blw_alloc _ (M.blw_alloc _ (M.blw_alloc _ (Below.refl _ _)))
/-- What the arithmetic of an operator says, as a value and whether it is there. -/
def arR (o : Option NumOp) (k1 n1 k2 n2 : Int) : Int × Int × Bool := match o with
  | some o => numR o k1 n1 k2 n2
  | none => (0, 0, false)
def opN : Option NumOp → ByteArray
  | some .add => ⟨#[43]⟩
  | some .sub => ⟨#[45]⟩
  | some .mul => ⟨#[42]⟩
  | some .div => ⟨#[47]⟩
  | some .rem => ⟨#[37]⟩
  | none => ⟨#[63]⟩
theorem isOrderN_any (o : Option NumOp) (w : World) : Calls Tryd.prog 36 #[.string (opN o)] w fun e w' => e = .returned (.bool false) ∧ w = w' := by
  rcases o with _ | o
  · exact isOrder_q w
  cases o
  · exact isOrder_add w
  · exact isOrder_sub w
  · exact isOrder_mul w
  · exact isOrder_div w
  · exact isOrder_rem w
theorem arith_any (o : Option NumOp) (k1 n1 k2 n2 : Int) (h1 : M.Num k1 n1) (h2 : M.Num k2 n2) (w : World) : Calls Tryd.prog 61 #[.string (opN o), W.V k1 n1 W.e0, W.V k2 n2 W.e0] w fun e w' =>
    e = .returned (.tuple #[W.V (arR o k1 n1 k2 n2).1 (arR o k1 n1 k2 n2).2.1 W.e0, .bool (arR o k1 n1 k2 n2).2.2]) ∧ Below w.heap.size w w' := by
  rcases o with _ | o
  · exact arith_q k1 n1 k2 n2 w
  cases o
  · exact arith_add k1 n1 k2 n2 h1 h2 w
  · exact arith_sub k1 n1 k2 n2 h1 h2 w
  · exact arith_mul k1 n1 k2 n2 h1 h2 w
  · exact arith_div k1 n1 k2 n2 h1 h2 w
  · exact arith_rem k1 n1 k2 n2 h1 h2 w
theorem reck_ar (o : Option NumOp) (k1 n1 k2 n2 : Int) : reckT o k1 n1 k2 n2 = if (arR o k1 n1 k2 n2).2.2 = true then (((arR o k1 n1 k2 n2).1, (arR o k1 n1 k2 n2).2.1, W.e0), 0) else ((0, 0, W.e0), 2) := by
  rcases o with _ | o <;> rfl
end Go.Proofs.YtbkgophgclpijaaDoor
namespace Go.Proofs.YtbkgophgclpijaaDoor
open Go.RowKit

set_option maxRecDepth 100000 in
set_option maxHeartbeats 4000000 in
theorem calcN_any (o : Option NumOp) (x y : Vt) (hx : WV x.1 x.2.1 x.2.2) (hy : WV y.1 y.2.1 y.2.2) (w : World) :
    Calls Tryd.prog 39 #[.string (opN o), valV x, valV y] w fun e w' => e = .returned (.tuple #[valV (calcN o x y).1, .int .i64 (calcN o x y).2]) ∧ Below w.heap.size w w' := by
  have N1 := Veil.mk (number_any x hx)
  have N2 := Veil.mk (number_any y hy)
  have M1 := Veil.mk (number_num hx)
  have M2 := Veil.mk (number_num hy)
  obtain ⟨W0, hW⟩ : ∃ v, v = tri w x y := ⟨_, rfl⟩
  have hB : Below w.heap.size w W0 := hW ▸ tri_below w x y
  have b1 := tri_x w x y
  have b2' := tri_y w x y
  have b3 := tri_r w x y
  rw [← hW] at b1 b2' b3
  have hw0 := hW.symm
  unfold tri two at hw0
  clear hW
  obtain ⟨s, hs⟩ : ∃ s, s = opN o := ⟨_, rfl⟩
  have OR : Veil (∀ wx, Calls Tryd.prog 36 #[.string s] wx fun e w' => e = .returned (.bool false) ∧ wx = w') := ⟨fun wx => hs ▸ isOrderN_any o wx⟩
  have CC : Veil (∀ k1 n1 k2 n2, M.Num k1 n1 → M.Num k2 n2 → ∀ wx, Calls Tryd.prog 61 #[.string s, W.V k1 n1 W.e0, W.V k2 n2 W.e0] wx fun e w' => e = .returned (.tuple #[W.V (arR o k1 n1 k2 n2).1 (arR o k1 n1 k2 n2).2.1 W.e0, .bool (arR o k1 n1 k2 n2).2.2]) ∧ Below wx.heap.size wx w') := ⟨fun k1 n1 k2 n2 h1 h2 wx => hs ▸ arith_any o k1 n1 k2 n2 h1 h2 wx⟩
  rw [← hs]
  unfold calcN
  clear hs hx hy
  obtain ⟨nx, hnx⟩ : ∃ p, p = numberT x := ⟨_, rfl⟩
  obtain ⟨ny, hny⟩ : ∃ p, p = numberT y := ⟨_, rfl⟩
  rw [← hnx] at N1 M1 ⊢
  rw [← hny] at N2 M2 ⊢
  clear hnx hny
  obtain ⟨⟨nk, nn, ns⟩, st⟩ := nx
  obtain ⟨⟨mk, mn, ms⟩, tt⟩ := ny
  obtain ⟨xk, xn, xs⟩ := x
  obtain ⟨yk, yn, ys⟩ := y
  simp only at N1 N2 M1 M2 b1 b2' b3 hw0 ⊢
  have HW := Lib.hid hw0
  clear hw0
  have p0 : W0.cell? ⟨w.heap.size, 0, none⟩ = some (.int .i64 xk) := b1.at_ 0
  have p1 : W0.cell? ⟨w.heap.size, 1, none⟩ = some (.int .i64 xn) := b1.at_ 1
  have p2 : W0.cell? ⟨w.heap.size, 2, none⟩ = some (.string xs) := b1.at_ 2
  have B2 := Veil.mk b2'
  have B3 := Veil.mk b3
  clear b1 b2' b3
  by_cases h0 : st = 0
  case neg =>
    have h0b : (st != 0) = true := by simpa using h0
    have h0c : (st == 0) = false := by simpa using h0
    rw [if_neg h0]
    clear h0 M1 M2 N2 CC OR
    go_enter Tryd.func39, Tryd.ntmps39
    go_upto_region 1 with (fail)
    rw [HW.out]
    go_cut [8, 9] (fun sa sb wx => ∃ g : Nat, sa = .pointer (some ⟨g, 0, none⟩) ∧ sb = .int .i64 st ∧ Box wx g 27 #[.int .i64 nk, .int .i64 nn, .string ns] ∧ Below W0.heap.size W0 wx)
    case first =>
      go_wp2_with (first | (go_at_call 21; ((with_reducible refine (N1.out _).mono ?_); rintro e w2 ⟨rfl, hb2⟩)))
      go_meet
      exact ⟨w2.heap.size, rfl, rfl, Box.new _ _ _, hb2.alloc hb2.size _⟩
    case rest =>
    obtain ⟨g8, rfl, rfl, bq8, hb8⟩ := hcut
    obtain ⟨w3, hw8⟩ : ∃ v, v = wc := ⟨_, rfl⟩
    rw [← hw8] at hb8 bq8 ⊢
    clear hw8
    replace B2 := Veil.mk (B2.out.on hb8 B2.out.lt)
    replace B3 := Veil.mk (B3.out.on hb8 B3.out.lt)
    have HB8 := Veil.mk (hB.trans (hb8.mono hB.size))
    have Q8 := Veil.mk bq8
    clear bq8 hb8
    have z0 : w3.cell? ⟨w.heap.size + 1 + 1, 0, none⟩ = some (.int .i64 0) := B3.out.at_ 0
    have z1 : w3.cell? ⟨w.heap.size + 1 + 1, 1, none⟩ = some (.int .i64 0) := B3.out.at_ 1
    have z2 : w3.cell? ⟨w.heap.size + 1 + 1, 2, none⟩ = some (.string ⟨#[]⟩) := B3.out.at_ 2
    have f0 := B3.out.free 0
    have f1 := B3.out.free 1
    have f2 := B3.out.free 2
    go_wp2
    refine bodyPost_ret (v := .tuple #[W.V 0 0 W.e0, .int .i64 st]) (by simp [results, Tryd.results39, go_sem, z0, z1, z2]) rfl ⟨rfl, ?_⟩
    exact ((HB8.out.setCell (p := ⟨w.heap.size + 1 + 1, 0, none⟩) (by show w.heap.size ≤ w.heap.size + 1 + 1; omega) _).setCell (p := ⟨w.heap.size + 1 + 1, 1, none⟩) (by show w.heap.size ≤ w.heap.size + 1 + 1; omega) _).setCell (p := ⟨w.heap.size + 1 + 1, 2, none⟩) (by show w.heap.size ≤ w.heap.size + 1 + 1; omega) _
  subst h0
  rw [if_pos rfl]
  obtain ⟨hn1, rfl⟩ := M1.out rfl
  clear M1
  by_cases h1 : tt = 0
  case neg =>
    have h1b : (tt != 0) = true := by simpa using h1
    have h1c : (tt == 0) = false := by simpa using h1
    rw [if_neg h1]
    clear h1 M2 CC OR
    go_enter Tryd.func39, Tryd.ntmps39
    go_upto_region 1 with (fail)
    rw [HW.out]
    go_cut [8, 9] (fun sa sb wx => ∃ g : Nat, sa = .pointer (some ⟨g, 0, none⟩) ∧ sb = .int .i64 0 ∧ Box wx g 27 #[.int .i64 nk, .int .i64 nn, .string W.e0] ∧ Below W0.heap.size W0 wx)
    case first =>
      go_wp2_with (first | (go_at_call 21; ((with_reducible refine (N1.out _).mono ?_); rintro e w2 ⟨rfl, hb2⟩)))
      go_meet
      exact ⟨w2.heap.size, rfl, rfl, Box.new _ _ _, hb2.alloc hb2.size _⟩
    case rest =>
    obtain ⟨g8, rfl, rfl, bq8, hb8⟩ := hcut
    obtain ⟨w3, hw8⟩ : ∃ v, v = wc := ⟨_, rfl⟩
    rw [← hw8] at hb8 bq8 ⊢
    clear hw8
    replace B2 := Veil.mk (B2.out.on hb8 B2.out.lt)
    replace B3 := Veil.mk (B3.out.on hb8 B3.out.lt)
    have HB8 := Veil.mk (hB.trans (hb8.mono hB.size))
    have Q8 := Veil.mk bq8
    clear bq8 hb8
    have q0 : w3.cell? ⟨w.heap.size + 1, 0, none⟩ = some (.int .i64 yk) := B2.out.at_ 0
    have q1 : w3.cell? ⟨w.heap.size + 1, 1, none⟩ = some (.int .i64 yn) := B2.out.at_ 1
    have q2 : w3.cell? ⟨w.heap.size + 1, 2, none⟩ = some (.string ys) := B2.out.at_ 2
    go_upto_region 4 with (fail)
    go_cut [10, 9] (fun sa sb wx => ∃ g : Nat, sa = .pointer (some ⟨g, 0, none⟩) ∧ sb = .int .i64 tt ∧ Box wx g 27 #[.int .i64 mk, .int .i64 mn, .string ms] ∧ Below w3.heap.size w3 wx)
    case first =>
      go_wp2_with (first | (go_at_call 21; ((with_reducible refine (N2.out _).mono ?_); rintro e w2 ⟨rfl, hb2⟩)))
      go_meet
      exact ⟨w2.heap.size, rfl, rfl, Box.new _ _ _, hb2.alloc hb2.size _⟩
    case rest =>
    obtain ⟨g10, rfl, rfl, bq10, hb10⟩ := hcut
    obtain ⟨w4, hw10⟩ : ∃ v, v = wc := ⟨_, rfl⟩
    rw [← hw10] at hb10 bq10 ⊢
    clear hw10
    replace B3 := Veil.mk (B3.out.on hb10 B3.out.lt)
    have HB10 := Veil.mk (HB8.out.trans (hb10.mono HB8.out.size))
    have Q10 := Veil.mk bq10
    clear bq10 hb10
    have z0 : w4.cell? ⟨w.heap.size + 1 + 1, 0, none⟩ = some (.int .i64 0) := B3.out.at_ 0
    have z1 : w4.cell? ⟨w.heap.size + 1 + 1, 1, none⟩ = some (.int .i64 0) := B3.out.at_ 1
    have z2 : w4.cell? ⟨w.heap.size + 1 + 1, 2, none⟩ = some (.string ⟨#[]⟩) := B3.out.at_ 2
    have f0 := B3.out.free 0
    have f1 := B3.out.free 1
    have f2 := B3.out.free 2
    clear q0 q1 q2
    go_wp2
    refine bodyPost_ret (v := .tuple #[W.V 0 0 W.e0, .int .i64 tt]) (by simp [results, Tryd.results39, go_sem, z0, z1, z2]) rfl ⟨rfl, ?_⟩
    exact ((HB10.out.setCell (p := ⟨w.heap.size + 1 + 1, 0, none⟩) (by show w.heap.size ≤ w.heap.size + 1 + 1; omega) _).setCell (p := ⟨w.heap.size + 1 + 1, 1, none⟩) (by show w.heap.size ≤ w.heap.size + 1 + 1; omega) _).setCell (p := ⟨w.heap.size + 1 + 1, 2, none⟩) (by show w.heap.size ≤ w.heap.size + 1 + 1; omega) _
  subst h1
  rw [if_pos rfl]
  obtain ⟨hn2, rfl⟩ := M2.out rfl
  clear M2
  have C1 := Veil.mk (CC.out nk nn mk mn hn1 hn2)
  have HE : Hid (reckT o nk nn mk mn = if (arR o nk nn mk mn).2.2 = true then (((arR o nk nn mk mn).1, (arR o nk nn mk mn).2.1, W.e0), 0) else ((0, 0, W.e0), 2)) := reck_ar o nk nn mk mn
  obtain ⟨r, hr⟩ : ∃ r, r = arR o nk nn mk mn := ⟨_, rfl⟩
  obtain ⟨q, hq⟩ : ∃ q, q = reckT o nk nn mk mn := ⟨_, rfl⟩
  rw [← hr] at C1 HE
  rw [← hq] at HE ⊢
  clear hr hq CC hn1 hn2
  obtain ⟨rk, rn, ro⟩ := r
  obtain ⟨⟨qk, qn, qs⟩, qt⟩ := q
  simp only at C1 HE ⊢
  cases ro
  · obtain ⟨⟨rfl, rfl, rfl⟩, rfl⟩ : (qk = 0 ∧ qn = 0 ∧ qs = W.e0) ∧ qt = 2 := by
      have h := HE.out
      rw [if_neg (by decide)] at h
      simp only [Prod.mk.injEq] at h
      exact h
    clear HE
    go_enter Tryd.func39, Tryd.ntmps39
    go_upto_region 1 with (fail)
    rw [HW.out]
    go_cut [8, 9] (fun sa sb wx => ∃ g : Nat, sa = .pointer (some ⟨g, 0, none⟩) ∧ sb = .int .i64 0 ∧ Box wx g 27 #[.int .i64 nk, .int .i64 nn, .string W.e0] ∧ Below W0.heap.size W0 wx)
    case first =>
      go_wp2_with (first | (go_at_call 21; ((with_reducible refine (N1.out _).mono ?_); rintro e w2 ⟨rfl, hb2⟩)))
      go_meet
      exact ⟨w2.heap.size, rfl, rfl, Box.new _ _ _, hb2.alloc hb2.size _⟩
    case rest =>
    obtain ⟨g8, rfl, rfl, bq8, hb8⟩ := hcut
    obtain ⟨w3, hw8⟩ : ∃ v, v = wc := ⟨_, rfl⟩
    rw [← hw8] at hb8 bq8 ⊢
    clear hw8
    replace B2 := Veil.mk (B2.out.on hb8 B2.out.lt)
    replace B3 := Veil.mk (B3.out.on hb8 B3.out.lt)
    have HB8 := Veil.mk (hB.trans (hb8.mono hB.size))
    have Q8 := Veil.mk bq8
    clear bq8 hb8
    have q0 : w3.cell? ⟨w.heap.size + 1, 0, none⟩ = some (.int .i64 yk) := B2.out.at_ 0
    have q1 : w3.cell? ⟨w.heap.size + 1, 1, none⟩ = some (.int .i64 yn) := B2.out.at_ 1
    have q2 : w3.cell? ⟨w.heap.size + 1, 2, none⟩ = some (.string ys) := B2.out.at_ 2
    go_upto_region 4 with (fail)
    go_cut [10, 9] (fun sa sb wx => ∃ g : Nat, sa = .pointer (some ⟨g, 0, none⟩) ∧ sb = .int .i64 0 ∧ Box wx g 27 #[.int .i64 mk, .int .i64 mn, .string W.e0] ∧ Below w3.heap.size w3 wx)
    case first =>
      go_wp2_with (first | (go_at_call 21; ((with_reducible refine (N2.out _).mono ?_); rintro e w2 ⟨rfl, hb2⟩)))
      go_meet
      exact ⟨w2.heap.size, rfl, rfl, Box.new _ _ _, hb2.alloc hb2.size _⟩
    case rest =>
    obtain ⟨g10, rfl, rfl, bq10, hb10⟩ := hcut
    obtain ⟨w4, hw10⟩ : ∃ v, v = wc := ⟨_, rfl⟩
    rw [← hw10] at hb10 bq10 ⊢
    clear hw10
    replace B3 := Veil.mk (B3.out.on hb10 B3.out.lt)
    replace Q8 := Veil.mk (Q8.out.on hb10 Q8.out.lt)
    have HB10 := Veil.mk (HB8.out.trans (hb10.mono HB8.out.size))
    have Q10 := Veil.mk bq10
    clear bq10 hb10
    clear q0 q1 q2 p0 p1 p2
    have p0 : w4.cell? ⟨g8, 0, none⟩ = some (.int .i64 nk) := Q8.out.at_ 0
    have p1 : w4.cell? ⟨g8, 1, none⟩ = some (.int .i64 nn) := Q8.out.at_ 1
    have p2 : w4.cell? ⟨g8, 2, none⟩ = some (.string W.e0) := Q8.out.at_ 2
    have q0 : w4.cell? ⟨g10, 0, none⟩ = some (.int .i64 mk) := Q10.out.at_ 0
    have q1 : w4.cell? ⟨g10, 1, none⟩ = some (.int .i64 mn) := Q10.out.at_ 1
    have q2 : w4.cell? ⟨g10, 2, none⟩ = some (.string W.e0) := Q10.out.at_ 2
    go_wp2_with (first | (go_at_call 36; ((with_reducible refine (OR.out _).mono ?_); rintro e w' ⟨rfl, rfl⟩)) | (go_at_call 61; ((with_reducible refine (C1.out _).mono ?_); rintro e w5 ⟨rfl, hb5⟩; have z3 := B3.out.on hb5 B3.out.lt; have z0 : w5.cell? ⟨w.heap.size + 1 + 1, 0, none⟩ = some (.int .i64 0) := z3.at_ 0; have z1 : w5.cell? ⟨w.heap.size + 1 + 1, 1, none⟩ = some (.int .i64 0) := z3.at_ 1; have z2 : w5.cell? ⟨w.heap.size + 1 + 1, 2, none⟩ = some (.string ⟨#[]⟩) := z3.at_ 2; have f0 := z3.free 0; have f1 := z3.free 1; have f2 := z3.free 2; have hlt := z3.lt; have hm := Nat.ne_of_lt hlt; have hn := Ne.symm hm)))
    have zf : Box ((((w5.setCell ⟨w.heap.size + 1 + 1, 0, none⟩ (.int .i64 0)).setCell ⟨w.heap.size + 1 + 1, 1, none⟩ (.int .i64 0)).setCell ⟨w.heap.size + 1 + 1, 2, none⟩ (.string ⟨#[]⟩)).alloc (.cells #[.int .i64 rk, .int .i64 rn, .string W.e0] 27)) (w.heap.size + 1 + 1) 27 #[.int .i64 0, .int .i64 0, .string ⟨#[]⟩] := (((z3.put 0 _).put 1 _).put 2 _).more _
    have y0 : ((((w5.setCell ⟨w.heap.size + 1 + 1, 0, none⟩ (.int .i64 0)).setCell ⟨w.heap.size + 1 + 1, 1, none⟩ (.int .i64 0)).setCell ⟨w.heap.size + 1 + 1, 2, none⟩ (.string ⟨#[]⟩)).alloc (.cells #[.int .i64 rk, .int .i64 rn, .string W.e0] 27)).cell? ⟨w.heap.size + 1 + 1, 0, none⟩ = some (.int .i64 0) := zf.at_ 0
    have y1 : ((((w5.setCell ⟨w.heap.size + 1 + 1, 0, none⟩ (.int .i64 0)).setCell ⟨w.heap.size + 1 + 1, 1, none⟩ (.int .i64 0)).setCell ⟨w.heap.size + 1 + 1, 2, none⟩ (.string ⟨#[]⟩)).alloc (.cells #[.int .i64 rk, .int .i64 rn, .string W.e0] 27)).cell? ⟨w.heap.size + 1 + 1, 1, none⟩ = some (.int .i64 0) := zf.at_ 1
    have y2 : ((((w5.setCell ⟨w.heap.size + 1 + 1, 0, none⟩ (.int .i64 0)).setCell ⟨w.heap.size + 1 + 1, 1, none⟩ (.int .i64 0)).setCell ⟨w.heap.size + 1 + 1, 2, none⟩ (.string ⟨#[]⟩)).alloc (.cells #[.int .i64 rk, .int .i64 rn, .string W.e0] 27)).cell? ⟨w.heap.size + 1 + 1, 2, none⟩ = some (.string ⟨#[]⟩) := zf.at_ 2
    refine bodyPost_ret (v := .tuple #[W.V 0 0 W.e0, .int .i64 2]) (by simp [results, Tryd.results39, go_sem, y0, y1, y2]) rfl ⟨rfl, ?_⟩
    have HBF := HB10.out.trans (hb5.mono HB10.out.size)
    exact M.blw_alloc _ (((HBF.setCell (p := ⟨w.heap.size + 1 + 1, 0, none⟩) (by show w.heap.size ≤ w.heap.size + 1 + 1; omega) _).setCell (p := ⟨w.heap.size + 1 + 1, 1, none⟩) (by show w.heap.size ≤ w.heap.size + 1 + 1; omega) _).setCell (p := ⟨w.heap.size + 1 + 1, 2, none⟩) (by show w.heap.size ≤ w.heap.size + 1 + 1; omega) _)
  · obtain ⟨⟨rfl, rfl, rfl⟩, rfl⟩ : (qk = rk ∧ qn = rn ∧ qs = W.e0) ∧ qt = 0 := by
      have h := HE.out
      rw [if_pos rfl] at h
      simp only [Prod.mk.injEq] at h
      exact h
    clear HE
    go_enter Tryd.func39, Tryd.ntmps39
    go_upto_region 1 with (fail)
    rw [HW.out]
    go_cut [8, 9] (fun sa sb wx => ∃ g : Nat, sa = .pointer (some ⟨g, 0, none⟩) ∧ sb = .int .i64 0 ∧ Box wx g 27 #[.int .i64 nk, .int .i64 nn, .string W.e0] ∧ Below W0.heap.size W0 wx)
    case first =>
      go_wp2_with (first | (go_at_call 21; ((with_reducible refine (N1.out _).mono ?_); rintro e w2 ⟨rfl, hb2⟩)))
      go_meet
      exact ⟨w2.heap.size, rfl, rfl, Box.new _ _ _, hb2.alloc hb2.size _⟩
    case rest =>
    obtain ⟨g8, rfl, rfl, bq8, hb8⟩ := hcut
    obtain ⟨w3, hw8⟩ : ∃ v, v = wc := ⟨_, rfl⟩
    rw [← hw8] at hb8 bq8 ⊢
    clear hw8
    replace B2 := Veil.mk (B2.out.on hb8 B2.out.lt)
    replace B3 := Veil.mk (B3.out.on hb8 B3.out.lt)
    have HB8 := Veil.mk (hB.trans (hb8.mono hB.size))
    have Q8 := Veil.mk bq8
    clear bq8 hb8
    have q0 : w3.cell? ⟨w.heap.size + 1, 0, none⟩ = some (.int .i64 yk) := B2.out.at_ 0
    have q1 : w3.cell? ⟨w.heap.size + 1, 1, none⟩ = some (.int .i64 yn) := B2.out.at_ 1
    have q2 : w3.cell? ⟨w.heap.size + 1, 2, none⟩ = some (.string ys) := B2.out.at_ 2
    go_upto_region 4 with (fail)
    go_cut [10, 9] (fun sa sb wx => ∃ g : Nat, sa = .pointer (some ⟨g, 0, none⟩) ∧ sb = .int .i64 0 ∧ Box wx g 27 #[.int .i64 mk, .int .i64 mn, .string W.e0] ∧ Below w3.heap.size w3 wx)
    case first =>
      go_wp2_with (first | (go_at_call 21; ((with_reducible refine (N2.out _).mono ?_); rintro e w2 ⟨rfl, hb2⟩)))
      go_meet
      exact ⟨w2.heap.size, rfl, rfl, Box.new _ _ _, hb2.alloc hb2.size _⟩
    case rest =>
    obtain ⟨g10, rfl, rfl, bq10, hb10⟩ := hcut
    obtain ⟨w4, hw10⟩ : ∃ v, v = wc := ⟨_, rfl⟩
    rw [← hw10] at hb10 bq10 ⊢
    clear hw10
    replace B3 := Veil.mk (B3.out.on hb10 B3.out.lt)
    replace Q8 := Veil.mk (Q8.out.on hb10 Q8.out.lt)
    have HB10 := Veil.mk (HB8.out.trans (hb10.mono HB8.out.size))
    have Q10 := Veil.mk bq10
    clear bq10 hb10
    clear q0 q1 q2 p0 p1 p2
    have p0 : w4.cell? ⟨g8, 0, none⟩ = some (.int .i64 nk) := Q8.out.at_ 0
    have p1 : w4.cell? ⟨g8, 1, none⟩ = some (.int .i64 nn) := Q8.out.at_ 1
    have p2 : w4.cell? ⟨g8, 2, none⟩ = some (.string W.e0) := Q8.out.at_ 2
    have q0 : w4.cell? ⟨g10, 0, none⟩ = some (.int .i64 mk) := Q10.out.at_ 0
    have q1 : w4.cell? ⟨g10, 1, none⟩ = some (.int .i64 mn) := Q10.out.at_ 1
    have q2 : w4.cell? ⟨g10, 2, none⟩ = some (.string W.e0) := Q10.out.at_ 2
    go_wp2_with (first | (go_at_call 36; ((with_reducible refine (OR.out _).mono ?_); rintro e w' ⟨rfl, rfl⟩)) | (go_at_call 61; ((with_reducible refine (C1.out _).mono ?_); rintro e w5 ⟨rfl, hb5⟩; have z3 := B3.out.on hb5 B3.out.lt; have z0 : w5.cell? ⟨w.heap.size + 1 + 1, 0, none⟩ = some (.int .i64 0) := z3.at_ 0; have z1 : w5.cell? ⟨w.heap.size + 1 + 1, 1, none⟩ = some (.int .i64 0) := z3.at_ 1; have z2 : w5.cell? ⟨w.heap.size + 1 + 1, 2, none⟩ = some (.string ⟨#[]⟩) := z3.at_ 2; have f0 := z3.free 0; have f1 := z3.free 1; have f2 := z3.free 2; have hlt := z3.lt; have hm := Nat.ne_of_lt hlt; have hn := Ne.symm hm)))
    have zf : Box ((((w5.setCell ⟨w.heap.size + 1 + 1, 0, none⟩ (.int .i64 qk)).setCell ⟨w.heap.size + 1 + 1, 1, none⟩ (.int .i64 qn)).setCell ⟨w.heap.size + 1 + 1, 2, none⟩ (.string W.e0)).alloc (.cells #[.int .i64 qk, .int .i64 qn, .string W.e0] 27)) (w.heap.size + 1 + 1) 27 #[.int .i64 qk, .int .i64 qn, .string W.e0] := (((z3.put 0 _).put 1 _).put 2 _).more _
    have y0 : ((((w5.setCell ⟨w.heap.size + 1 + 1, 0, none⟩ (.int .i64 qk)).setCell ⟨w.heap.size + 1 + 1, 1, none⟩ (.int .i64 qn)).setCell ⟨w.heap.size + 1 + 1, 2, none⟩ (.string W.e0)).alloc (.cells #[.int .i64 qk, .int .i64 qn, .string W.e0] 27)).cell? ⟨w.heap.size + 1 + 1, 0, none⟩ = some (.int .i64 qk) := zf.at_ 0
    have y1 : ((((w5.setCell ⟨w.heap.size + 1 + 1, 0, none⟩ (.int .i64 qk)).setCell ⟨w.heap.size + 1 + 1, 1, none⟩ (.int .i64 qn)).setCell ⟨w.heap.size + 1 + 1, 2, none⟩ (.string W.e0)).alloc (.cells #[.int .i64 qk, .int .i64 qn, .string W.e0] 27)).cell? ⟨w.heap.size + 1 + 1, 1, none⟩ = some (.int .i64 qn) := zf.at_ 1
    have y2 : ((((w5.setCell ⟨w.heap.size + 1 + 1, 0, none⟩ (.int .i64 qk)).setCell ⟨w.heap.size + 1 + 1, 1, none⟩ (.int .i64 qn)).setCell ⟨w.heap.size + 1 + 1, 2, none⟩ (.string W.e0)).alloc (.cells #[.int .i64 qk, .int .i64 qn, .string W.e0] 27)).cell? ⟨w.heap.size + 1 + 1, 2, none⟩ = some (.string W.e0) := zf.at_ 2
    refine bodyPost_ret (v := .tuple #[W.V qk qn W.e0, .int .i64 0]) (by simp [results, Tryd.results39, go_sem, y0, y1, y2]) rfl ⟨rfl, ?_⟩
    have HBF := HB10.out.trans (hb5.mono HB10.out.size)
    exact M.blw_alloc _ (((HBF.setCell (p := ⟨w.heap.size + 1 + 1, 0, none⟩) (by show w.heap.size ≤ w.heap.size + 1 + 1; omega) _).setCell (p := ⟨w.heap.size + 1 + 1, 1, none⟩) (by show w.heap.size ≤ w.heap.size + 1 + 1; omega) _).setCell (p := ⟨w.heap.size + 1 + 1, 2, none⟩) (by show w.heap.size ≤ w.heap.size + 1 + 1; omega) _)
end Go.Proofs.YtbkgophgclpijaaDoor
namespace Go.Proofs.YtbkgophgclpijaaDoor
open Go.RowKit

set_option maxRecDepth 100000 in
set_option maxHeartbeats 4000000 in
theorem binaryN_add (x y : Vt) (hx : WV x.1 x.2.1 x.2.2) (hy : WV y.1 y.2.1 y.2.2) (h : ¬ (x.1 = 7 ∨ y.1 = 7)) (w : World) :
    Calls Tryd.prog 12 #[.string ⟨#[43]⟩, valV x, valV y] w fun e w' => e = .returned (.tuple #[valV (calcN (some .add) x y).1, .int .i64 (calcN (some .add) x y).2]) ∧ Below w.heap.size w w' := by
  have J : Veil (∀ wx, Calls Tryd.prog 39 #[.string ⟨#[43]⟩, valV x, valV y] wx fun e w' => e = .returned (.tuple #[valV (calcN (some .add) x y).1, .int .i64 (calcN (some .add) x y).2]) ∧ Below wx.heap.size wx w') := ⟨calcN_any (some .add) x y hx hy⟩
  obtain ⟨W0, hW⟩ : ∃ v, v = tri w x y := ⟨_, rfl⟩
  have hB : Below w.heap.size w W0 := hW ▸ tri_below w x y
  have b1 := tri_x w x y
  have b2' := tri_y w x y
  have b3 := tri_r w x y
  rw [← hW] at b1 b2' b3
  have hw0 := hW.symm
  unfold tri two at hw0
  clear hW
  obtain ⟨r, hr⟩ : ∃ r, r = calcN (some .add) x y := ⟨_, rfl⟩
  rw [← hr] at J ⊢
  clear hr hx hy
  obtain ⟨⟨rk, rn, rs⟩, rt⟩ := r
  obtain ⟨xk, xn, xs⟩ := x
  obtain ⟨yk, yn, ys⟩ := y
  simp only at h J b1 b2' b3 hw0 ⊢
  have HW := Lib.hid hw0
  clear hw0
  have p0 : W0.cell? ⟨w.heap.size, 0, none⟩ = some (.int .i64 xk) := b1.at_ 0
  have p1 : W0.cell? ⟨w.heap.size, 1, none⟩ = some (.int .i64 xn) := b1.at_ 1
  have p2 : W0.cell? ⟨w.heap.size, 2, none⟩ = some (.string xs) := b1.at_ 2
  have q0 : W0.cell? ⟨w.heap.size + 1, 0, none⟩ = some (.int .i64 yk) := b2'.at_ 0
  have q1 : W0.cell? ⟨w.heap.size + 1, 1, none⟩ = some (.int .i64 yn) := b2'.at_ 1
  have q2 : W0.cell? ⟨w.heap.size + 1, 2, none⟩ = some (.string ys) := b2'.at_ 2
  have B3 := Veil.mk b3
  clear b1 b2' b3
  · have h1 : (xk == 7) = false := by
      have : ¬ xk = 7 := fun e => h (.inl e)
      simpa using this
    have h2 : (yk == 7) = false := by
      have : ¬ yk = 7 := fun e => h (.inr e)
      simpa using this
    clear h
    go_enter Tryd.func12, Tryd.ntmps12
    go_upto_region 1 with (fail)
    rw [HW.out]
    go_wp2_with (first | (go_at_call 36; ((with_reducible refine (isOrder_add _).mono ?_); rintro e w' ⟨rfl, rfl⟩)) | (go_at_call 39; ((with_reducible refine (J.out _).mono ?_); rintro e w3 ⟨rfl, hb3⟩; have z3 := B3.out.on hb3 B3.out.lt; have z0 : w3.cell? ⟨w.heap.size + 1 + 1, 0, none⟩ = some (.int .i64 0) := z3.at_ 0; have z1 : w3.cell? ⟨w.heap.size + 1 + 1, 1, none⟩ = some (.int .i64 0) := z3.at_ 1; have z2 : w3.cell? ⟨w.heap.size + 1 + 1, 2, none⟩ = some (.string ⟨#[]⟩) := z3.at_ 2; have f0 := z3.free 0; have f1 := z3.free 1; have f2 := z3.free 2)))
    refine bodyPost_ret (v := .tuple #[W.V rk rn rs, .int .i64 rt]) (by simp [results, Tryd.results12, go_sem, z0, z1, z2]) rfl ⟨rfl, ?_⟩
    exact (((hB.trans (hb3.mono hB.size)).setCell (p := ⟨w.heap.size + 1 + 1, 0, none⟩) (by show w.heap.size ≤ w.heap.size + 1 + 1; omega) _).setCell (p := ⟨w.heap.size + 1 + 1, 1, none⟩) (by show w.heap.size ≤ w.heap.size + 1 + 1; omega) _).setCell (p := ⟨w.heap.size + 1 + 1, 2, none⟩) (by show w.heap.size ≤ w.heap.size + 1 + 1; omega) _
set_option maxRecDepth 100000 in
set_option maxHeartbeats 4000000 in
theorem binaryN_sub (x y : Vt) (hx : WV x.1 x.2.1 x.2.2) (hy : WV y.1 y.2.1 y.2.2) (w : World) :
    Calls Tryd.prog 12 #[.string ⟨#[45]⟩, valV x, valV y] w fun e w' => e = .returned (.tuple #[valV (calcN (some .sub) x y).1, .int .i64 (calcN (some .sub) x y).2]) ∧ Below w.heap.size w w' := by
  have J : Veil (∀ wx, Calls Tryd.prog 39 #[.string ⟨#[45]⟩, valV x, valV y] wx fun e w' => e = .returned (.tuple #[valV (calcN (some .sub) x y).1, .int .i64 (calcN (some .sub) x y).2]) ∧ Below wx.heap.size wx w') := ⟨calcN_any (some .sub) x y hx hy⟩
  obtain ⟨W0, hW⟩ : ∃ v, v = tri w x y := ⟨_, rfl⟩
  have hB : Below w.heap.size w W0 := hW ▸ tri_below w x y
  have b1 := tri_x w x y
  have b2' := tri_y w x y
  have b3 := tri_r w x y
  rw [← hW] at b1 b2' b3
  have hw0 := hW.symm
  unfold tri two at hw0
  clear hW
  obtain ⟨r, hr⟩ : ∃ r, r = calcN (some .sub) x y := ⟨_, rfl⟩
  rw [← hr] at J ⊢
  clear hr hx hy
  obtain ⟨⟨rk, rn, rs⟩, rt⟩ := r
  obtain ⟨xk, xn, xs⟩ := x
  obtain ⟨yk, yn, ys⟩ := y
  simp only at J b1 b2' b3 hw0 ⊢
  have HW := Lib.hid hw0
  clear hw0
  have p0 : W0.cell? ⟨w.heap.size, 0, none⟩ = some (.int .i64 xk) := b1.at_ 0
  have p1 : W0.cell? ⟨w.heap.size, 1, none⟩ = some (.int .i64 xn) := b1.at_ 1
  have p2 : W0.cell? ⟨w.heap.size, 2, none⟩ = some (.string xs) := b1.at_ 2
  have q0 : W0.cell? ⟨w.heap.size + 1, 0, none⟩ = some (.int .i64 yk) := b2'.at_ 0
  have q1 : W0.cell? ⟨w.heap.size + 1, 1, none⟩ = some (.int .i64 yn) := b2'.at_ 1
  have q2 : W0.cell? ⟨w.heap.size + 1, 2, none⟩ = some (.string ys) := b2'.at_ 2
  have B3 := Veil.mk b3
  clear b1 b2' b3
  by_cases h1 : xk = 7
  case neg =>
    have h1b : (xk == 7) = false := by simpa using h1
    clear h1
    go_enter Tryd.func12, Tryd.ntmps12
    go_upto_region 1 with (fail)
    rw [HW.out]
    go_wp2_with (first | (go_at_call 36; ((with_reducible refine (isOrder_sub _).mono ?_); rintro e w' ⟨rfl, rfl⟩)) | (go_at_call 39; ((with_reducible refine (J.out _).mono ?_); rintro e w3 ⟨rfl, hb3⟩; have z3 := B3.out.on hb3 B3.out.lt; have z0 : w3.cell? ⟨w.heap.size + 1 + 1, 0, none⟩ = some (.int .i64 0) := z3.at_ 0; have z1 : w3.cell? ⟨w.heap.size + 1 + 1, 1, none⟩ = some (.int .i64 0) := z3.at_ 1; have z2 : w3.cell? ⟨w.heap.size + 1 + 1, 2, none⟩ = some (.string ⟨#[]⟩) := z3.at_ 2; have f0 := z3.free 0; have f1 := z3.free 1; have f2 := z3.free 2)))
    refine bodyPost_ret (v := .tuple #[W.V rk rn rs, .int .i64 rt]) (by simp [results, Tryd.results12, go_sem, z0, z1, z2]) rfl ⟨rfl, ?_⟩
    exact (((hB.trans (hb3.mono hB.size)).setCell (p := ⟨w.heap.size + 1 + 1, 0, none⟩) (by show w.heap.size ≤ w.heap.size + 1 + 1; omega) _).setCell (p := ⟨w.heap.size + 1 + 1, 1, none⟩) (by show w.heap.size ≤ w.heap.size + 1 + 1; omega) _).setCell (p := ⟨w.heap.size + 1 + 1, 2, none⟩) (by show w.heap.size ≤ w.heap.size + 1 + 1; omega) _
  subst h1
  by_cases h2 : yk = 7
  case neg =>
    have h2b : (yk == 7) = false := by simpa using h2
    clear h2
    go_enter Tryd.func12, Tryd.ntmps12
    go_upto_region 1 with (fail)
    rw [HW.out]
    go_wp2_with (first | (go_at_call 36; ((with_reducible refine (isOrder_sub _).mono ?_); rintro e w' ⟨rfl, rfl⟩)) | (go_at_call 39; ((with_reducible refine (J.out _).mono ?_); rintro e w3 ⟨rfl, hb3⟩; have z3 := B3.out.on hb3 B3.out.lt; have z0 : w3.cell? ⟨w.heap.size + 1 + 1, 0, none⟩ = some (.int .i64 0) := z3.at_ 0; have z1 : w3.cell? ⟨w.heap.size + 1 + 1, 1, none⟩ = some (.int .i64 0) := z3.at_ 1; have z2 : w3.cell? ⟨w.heap.size + 1 + 1, 2, none⟩ = some (.string ⟨#[]⟩) := z3.at_ 2; have f0 := z3.free 0; have f1 := z3.free 1; have f2 := z3.free 2)))
    refine bodyPost_ret (v := .tuple #[W.V rk rn rs, .int .i64 rt]) (by simp [results, Tryd.results12, go_sem, z0, z1, z2]) rfl ⟨rfl, ?_⟩
    exact (((hB.trans (hb3.mono hB.size)).setCell (p := ⟨w.heap.size + 1 + 1, 0, none⟩) (by show w.heap.size ≤ w.heap.size + 1 + 1; omega) _).setCell (p := ⟨w.heap.size + 1 + 1, 1, none⟩) (by show w.heap.size ≤ w.heap.size + 1 + 1; omega) _).setCell (p := ⟨w.heap.size + 1 + 1, 2, none⟩) (by show w.heap.size ≤ w.heap.size + 1 + 1; omega) _
  subst h2
  · go_enter Tryd.func12, Tryd.ntmps12
    go_upto_region 1 with (fail)
    rw [HW.out]
    go_wp2_with (first | (go_at_call 36; ((with_reducible refine (isOrder_sub _).mono ?_); rintro e w' ⟨rfl, rfl⟩)) | (go_at_call 39; ((with_reducible refine (J.out _).mono ?_); rintro e w3 ⟨rfl, hb3⟩; have z3 := B3.out.on hb3 B3.out.lt; have z0 : w3.cell? ⟨w.heap.size + 1 + 1, 0, none⟩ = some (.int .i64 0) := z3.at_ 0; have z1 : w3.cell? ⟨w.heap.size + 1 + 1, 1, none⟩ = some (.int .i64 0) := z3.at_ 1; have z2 : w3.cell? ⟨w.heap.size + 1 + 1, 2, none⟩ = some (.string ⟨#[]⟩) := z3.at_ 2; have f0 := z3.free 0; have f1 := z3.free 1; have f2 := z3.free 2)))
    refine bodyPost_ret (v := .tuple #[W.V rk rn rs, .int .i64 rt]) (by simp [results, Tryd.results12, go_sem, z0, z1, z2]) rfl ⟨rfl, ?_⟩
    exact (((hB.trans (hb3.mono hB.size)).setCell (p := ⟨w.heap.size + 1 + 1, 0, none⟩) (by show w.heap.size ≤ w.heap.size + 1 + 1; omega) _).setCell (p := ⟨w.heap.size + 1 + 1, 1, none⟩) (by show w.heap.size ≤ w.heap.size + 1 + 1; omega) _).setCell (p := ⟨w.heap.size + 1 + 1, 2, none⟩) (by show w.heap.size ≤ w.heap.size + 1 + 1; omega) _
set_option maxRecDepth 100000 in
set_option maxHeartbeats 4000000 in
theorem binaryN_mul (x y : Vt) (hx : WV x.1 x.2.1 x.2.2) (hy : WV y.1 y.2.1 y.2.2) (w : World) :
    Calls Tryd.prog 12 #[.string ⟨#[42]⟩, valV x, valV y] w fun e w' => e = .returned (.tuple #[valV (calcN (some .mul) x y).1, .int .i64 (calcN (some .mul) x y).2]) ∧ Below w.heap.size w w' := by
  have J : Veil (∀ wx, Calls Tryd.prog 39 #[.string ⟨#[42]⟩, valV x, valV y] wx fun e w' => e = .returned (.tuple #[valV (calcN (some .mul) x y).1, .int .i64 (calcN (some .mul) x y).2]) ∧ Below wx.heap.size wx w') := ⟨calcN_any (some .mul) x y hx hy⟩
  obtain ⟨W0, hW⟩ : ∃ v, v = tri w x y := ⟨_, rfl⟩
  have hB : Below w.heap.size w W0 := hW ▸ tri_below w x y
  have b1 := tri_x w x y
  have b2' := tri_y w x y
  have b3 := tri_r w x y
  rw [← hW] at b1 b2' b3
  have hw0 := hW.symm
  unfold tri two at hw0
  clear hW
  obtain ⟨r, hr⟩ : ∃ r, r = calcN (some .mul) x y := ⟨_, rfl⟩
  rw [← hr] at J ⊢
  clear hr hx hy
  obtain ⟨⟨rk, rn, rs⟩, rt⟩ := r
  obtain ⟨xk, xn, xs⟩ := x
  obtain ⟨yk, yn, ys⟩ := y
  simp only at J b1 b2' b3 hw0 ⊢
  have HW := Lib.hid hw0
  clear hw0
  have p0 : W0.cell? ⟨w.heap.size, 0, none⟩ = some (.int .i64 xk) := b1.at_ 0
  have p1 : W0.cell? ⟨w.heap.size, 1, none⟩ = some (.int .i64 xn) := b1.at_ 1
  have p2 : W0.cell? ⟨w.heap.size, 2, none⟩ = some (.string xs) := b1.at_ 2
  have q0 : W0.cell? ⟨w.heap.size + 1, 0, none⟩ = some (.int .i64 yk) := b2'.at_ 0
  have q1 : W0.cell? ⟨w.heap.size + 1, 1, none⟩ = some (.int .i64 yn) := b2'.at_ 1
  have q2 : W0.cell? ⟨w.heap.size + 1, 2, none⟩ = some (.string ys) := b2'.at_ 2
  have B3 := Veil.mk b3
  clear b1 b2' b3
  by_cases h1 : xk = 7
  case neg =>
    have h1b : (xk == 7) = false := by simpa using h1
    clear h1
    go_enter Tryd.func12, Tryd.ntmps12
    go_upto_region 1 with (fail)
    rw [HW.out]
    go_wp2_with (first | (go_at_call 36; ((with_reducible refine (isOrder_mul _).mono ?_); rintro e w' ⟨rfl, rfl⟩)) | (go_at_call 39; ((with_reducible refine (J.out _).mono ?_); rintro e w3 ⟨rfl, hb3⟩; have z3 := B3.out.on hb3 B3.out.lt; have z0 : w3.cell? ⟨w.heap.size + 1 + 1, 0, none⟩ = some (.int .i64 0) := z3.at_ 0; have z1 : w3.cell? ⟨w.heap.size + 1 + 1, 1, none⟩ = some (.int .i64 0) := z3.at_ 1; have z2 : w3.cell? ⟨w.heap.size + 1 + 1, 2, none⟩ = some (.string ⟨#[]⟩) := z3.at_ 2; have f0 := z3.free 0; have f1 := z3.free 1; have f2 := z3.free 2)))
    refine bodyPost_ret (v := .tuple #[W.V rk rn rs, .int .i64 rt]) (by simp [results, Tryd.results12, go_sem, z0, z1, z2]) rfl ⟨rfl, ?_⟩
    exact (((hB.trans (hb3.mono hB.size)).setCell (p := ⟨w.heap.size + 1 + 1, 0, none⟩) (by show w.heap.size ≤ w.heap.size + 1 + 1; omega) _).setCell (p := ⟨w.heap.size + 1 + 1, 1, none⟩) (by show w.heap.size ≤ w.heap.size + 1 + 1; omega) _).setCell (p := ⟨w.heap.size + 1 + 1, 2, none⟩) (by show w.heap.size ≤ w.heap.size + 1 + 1; omega) _
  subst h1
  by_cases h2 : yk = 7
  case neg =>
    have h2b : (yk == 7) = false := by simpa using h2
    clear h2
    go_enter Tryd.func12, Tryd.ntmps12
    go_upto_region 1 with (fail)
    rw [HW.out]
    go_wp2_with (first | (go_at_call 36; ((with_reducible refine (isOrder_mul _).mono ?_); rintro e w' ⟨rfl, rfl⟩)) | (go_at_call 39; ((with_reducible refine (J.out _).mono ?_); rintro e w3 ⟨rfl, hb3⟩; have z3 := B3.out.on hb3 B3.out.lt; have z0 : w3.cell? ⟨w.heap.size + 1 + 1, 0, none⟩ = some (.int .i64 0) := z3.at_ 0; have z1 : w3.cell? ⟨w.heap.size + 1 + 1, 1, none⟩ = some (.int .i64 0) := z3.at_ 1; have z2 : w3.cell? ⟨w.heap.size + 1 + 1, 2, none⟩ = some (.string ⟨#[]⟩) := z3.at_ 2; have f0 := z3.free 0; have f1 := z3.free 1; have f2 := z3.free 2)))
    refine bodyPost_ret (v := .tuple #[W.V rk rn rs, .int .i64 rt]) (by simp [results, Tryd.results12, go_sem, z0, z1, z2]) rfl ⟨rfl, ?_⟩
    exact (((hB.trans (hb3.mono hB.size)).setCell (p := ⟨w.heap.size + 1 + 1, 0, none⟩) (by show w.heap.size ≤ w.heap.size + 1 + 1; omega) _).setCell (p := ⟨w.heap.size + 1 + 1, 1, none⟩) (by show w.heap.size ≤ w.heap.size + 1 + 1; omega) _).setCell (p := ⟨w.heap.size + 1 + 1, 2, none⟩) (by show w.heap.size ≤ w.heap.size + 1 + 1; omega) _
  subst h2
  · go_enter Tryd.func12, Tryd.ntmps12
    go_upto_region 1 with (fail)
    rw [HW.out]
    go_wp2_with (first | (go_at_call 36; ((with_reducible refine (isOrder_mul _).mono ?_); rintro e w' ⟨rfl, rfl⟩)) | (go_at_call 39; ((with_reducible refine (J.out _).mono ?_); rintro e w3 ⟨rfl, hb3⟩; have z3 := B3.out.on hb3 B3.out.lt; have z0 : w3.cell? ⟨w.heap.size + 1 + 1, 0, none⟩ = some (.int .i64 0) := z3.at_ 0; have z1 : w3.cell? ⟨w.heap.size + 1 + 1, 1, none⟩ = some (.int .i64 0) := z3.at_ 1; have z2 : w3.cell? ⟨w.heap.size + 1 + 1, 2, none⟩ = some (.string ⟨#[]⟩) := z3.at_ 2; have f0 := z3.free 0; have f1 := z3.free 1; have f2 := z3.free 2)))
    refine bodyPost_ret (v := .tuple #[W.V rk rn rs, .int .i64 rt]) (by simp [results, Tryd.results12, go_sem, z0, z1, z2]) rfl ⟨rfl, ?_⟩
    exact (((hB.trans (hb3.mono hB.size)).setCell (p := ⟨w.heap.size + 1 + 1, 0, none⟩) (by show w.heap.size ≤ w.heap.size + 1 + 1; omega) _).setCell (p := ⟨w.heap.size + 1 + 1, 1, none⟩) (by show w.heap.size ≤ w.heap.size + 1 + 1; omega) _).setCell (p := ⟨w.heap.size + 1 + 1, 2, none⟩) (by show w.heap.size ≤ w.heap.size + 1 + 1; omega) _
set_option maxRecDepth 100000 in
set_option maxHeartbeats 4000000 in
theorem binaryN_div (x y : Vt) (hx : WV x.1 x.2.1 x.2.2) (hy : WV y.1 y.2.1 y.2.2) (w : World) :
    Calls Tryd.prog 12 #[.string ⟨#[47]⟩, valV x, valV y] w fun e w' => e = .returned (.tuple #[valV (calcN (some .div) x y).1, .int .i64 (calcN (some .div) x y).2]) ∧ Below w.heap.size w w' := by
  have J : Veil (∀ wx, Calls Tryd.prog 39 #[.string ⟨#[47]⟩, valV x, valV y] wx fun e w' => e = .returned (.tuple #[valV (calcN (some .div) x y).1, .int .i64 (calcN (some .div) x y).2]) ∧ Below wx.heap.size wx w') := ⟨calcN_any (some .div) x y hx hy⟩
  obtain ⟨W0, hW⟩ : ∃ v, v = tri w x y := ⟨_, rfl⟩
  have hB : Below w.heap.size w W0 := hW ▸ tri_below w x y
  have b1 := tri_x w x y
  have b2' := tri_y w x y
  have b3 := tri_r w x y
  rw [← hW] at b1 b2' b3
  have hw0 := hW.symm
  unfold tri two at hw0
  clear hW
  obtain ⟨r, hr⟩ : ∃ r, r = calcN (some .div) x y := ⟨_, rfl⟩
  rw [← hr] at J ⊢
  clear hr hx hy
  obtain ⟨⟨rk, rn, rs⟩, rt⟩ := r
  obtain ⟨xk, xn, xs⟩ := x
  obtain ⟨yk, yn, ys⟩ := y
  simp only at J b1 b2' b3 hw0 ⊢
  have HW := Lib.hid hw0
  clear hw0
  have p0 : W0.cell? ⟨w.heap.size, 0, none⟩ = some (.int .i64 xk) := b1.at_ 0
  have p1 : W0.cell? ⟨w.heap.size, 1, none⟩ = some (.int .i64 xn) := b1.at_ 1
  have p2 : W0.cell? ⟨w.heap.size, 2, none⟩ = some (.string xs) := b1.at_ 2
  have q0 : W0.cell? ⟨w.heap.size + 1, 0, none⟩ = some (.int .i64 yk) := b2'.at_ 0
  have q1 : W0.cell? ⟨w.heap.size + 1, 1, none⟩ = some (.int .i64 yn) := b2'.at_ 1
  have q2 : W0.cell? ⟨w.heap.size + 1, 2, none⟩ = some (.string ys) := b2'.at_ 2
  have B3 := Veil.mk b3
  clear b1 b2' b3
  by_cases h1 : xk = 7
  case neg =>
    have h1b : (xk == 7) = false := by simpa using h1
    clear h1
    go_enter Tryd.func12, Tryd.ntmps12
    go_upto_region 1 with (fail)
    rw [HW.out]
    go_wp2_with (first | (go_at_call 36; ((with_reducible refine (isOrder_div _).mono ?_); rintro e w' ⟨rfl, rfl⟩)) | (go_at_call 39; ((with_reducible refine (J.out _).mono ?_); rintro e w3 ⟨rfl, hb3⟩; have z3 := B3.out.on hb3 B3.out.lt; have z0 : w3.cell? ⟨w.heap.size + 1 + 1, 0, none⟩ = some (.int .i64 0) := z3.at_ 0; have z1 : w3.cell? ⟨w.heap.size + 1 + 1, 1, none⟩ = some (.int .i64 0) := z3.at_ 1; have z2 : w3.cell? ⟨w.heap.size + 1 + 1, 2, none⟩ = some (.string ⟨#[]⟩) := z3.at_ 2; have f0 := z3.free 0; have f1 := z3.free 1; have f2 := z3.free 2)))
    refine bodyPost_ret (v := .tuple #[W.V rk rn rs, .int .i64 rt]) (by simp [results, Tryd.results12, go_sem, z0, z1, z2]) rfl ⟨rfl, ?_⟩
    exact (((hB.trans (hb3.mono hB.size)).setCell (p := ⟨w.heap.size + 1 + 1, 0, none⟩) (by show w.heap.size ≤ w.heap.size + 1 + 1; omega) _).setCell (p := ⟨w.heap.size + 1 + 1, 1, none⟩) (by show w.heap.size ≤ w.heap.size + 1 + 1; omega) _).setCell (p := ⟨w.heap.size + 1 + 1, 2, none⟩) (by show w.heap.size ≤ w.heap.size + 1 + 1; omega) _
  subst h1
  by_cases h2 : yk = 7
  case neg =>
    have h2b : (yk == 7) = false := by simpa using h2
    clear h2
    go_enter Tryd.func12, Tryd.ntmps12
    go_upto_region 1 with (fail)
    rw [HW.out]
    go_wp2_with (first | (go_at_call 36; ((with_reducible refine (isOrder_div _).mono ?_); rintro e w' ⟨rfl, rfl⟩)) | (go_at_call 39; ((with_reducible refine (J.out _).mono ?_); rintro e w3 ⟨rfl, hb3⟩; have z3 := B3.out.on hb3 B3.out.lt; have z0 : w3.cell? ⟨w.heap.size + 1 + 1, 0, none⟩ = some (.int .i64 0) := z3.at_ 0; have z1 : w3.cell? ⟨w.heap.size + 1 + 1, 1, none⟩ = some (.int .i64 0) := z3.at_ 1; have z2 : w3.cell? ⟨w.heap.size + 1 + 1, 2, none⟩ = some (.string ⟨#[]⟩) := z3.at_ 2; have f0 := z3.free 0; have f1 := z3.free 1; have f2 := z3.free 2)))
    refine bodyPost_ret (v := .tuple #[W.V rk rn rs, .int .i64 rt]) (by simp [results, Tryd.results12, go_sem, z0, z1, z2]) rfl ⟨rfl, ?_⟩
    exact (((hB.trans (hb3.mono hB.size)).setCell (p := ⟨w.heap.size + 1 + 1, 0, none⟩) (by show w.heap.size ≤ w.heap.size + 1 + 1; omega) _).setCell (p := ⟨w.heap.size + 1 + 1, 1, none⟩) (by show w.heap.size ≤ w.heap.size + 1 + 1; omega) _).setCell (p := ⟨w.heap.size + 1 + 1, 2, none⟩) (by show w.heap.size ≤ w.heap.size + 1 + 1; omega) _
  subst h2
  · go_enter Tryd.func12, Tryd.ntmps12
    go_upto_region 1 with (fail)
    rw [HW.out]
    go_wp2_with (first | (go_at_call 36; ((with_reducible refine (isOrder_div _).mono ?_); rintro e w' ⟨rfl, rfl⟩)) | (go_at_call 39; ((with_reducible refine (J.out _).mono ?_); rintro e w3 ⟨rfl, hb3⟩; have z3 := B3.out.on hb3 B3.out.lt; have z0 : w3.cell? ⟨w.heap.size + 1 + 1, 0, none⟩ = some (.int .i64 0) := z3.at_ 0; have z1 : w3.cell? ⟨w.heap.size + 1 + 1, 1, none⟩ = some (.int .i64 0) := z3.at_ 1; have z2 : w3.cell? ⟨w.heap.size + 1 + 1, 2, none⟩ = some (.string ⟨#[]⟩) := z3.at_ 2; have f0 := z3.free 0; have f1 := z3.free 1; have f2 := z3.free 2)))
    refine bodyPost_ret (v := .tuple #[W.V rk rn rs, .int .i64 rt]) (by simp [results, Tryd.results12, go_sem, z0, z1, z2]) rfl ⟨rfl, ?_⟩
    exact (((hB.trans (hb3.mono hB.size)).setCell (p := ⟨w.heap.size + 1 + 1, 0, none⟩) (by show w.heap.size ≤ w.heap.size + 1 + 1; omega) _).setCell (p := ⟨w.heap.size + 1 + 1, 1, none⟩) (by show w.heap.size ≤ w.heap.size + 1 + 1; omega) _).setCell (p := ⟨w.heap.size + 1 + 1, 2, none⟩) (by show w.heap.size ≤ w.heap.size + 1 + 1; omega) _
set_option maxRecDepth 100000 in
set_option maxHeartbeats 4000000 in
theorem binaryN_rem (x y : Vt) (hx : WV x.1 x.2.1 x.2.2) (hy : WV y.1 y.2.1 y.2.2) (w : World) :
    Calls Tryd.prog 12 #[.string ⟨#[37]⟩, valV x, valV y] w fun e w' => e = .returned (.tuple #[valV (calcN (some .rem) x y).1, .int .i64 (calcN (some .rem) x y).2]) ∧ Below w.heap.size w w' := by
  have J : Veil (∀ wx, Calls Tryd.prog 39 #[.string ⟨#[37]⟩, valV x, valV y] wx fun e w' => e = .returned (.tuple #[valV (calcN (some .rem) x y).1, .int .i64 (calcN (some .rem) x y).2]) ∧ Below wx.heap.size wx w') := ⟨calcN_any (some .rem) x y hx hy⟩
  obtain ⟨W0, hW⟩ : ∃ v, v = tri w x y := ⟨_, rfl⟩
  have hB : Below w.heap.size w W0 := hW ▸ tri_below w x y
  have b1 := tri_x w x y
  have b2' := tri_y w x y
  have b3 := tri_r w x y
  rw [← hW] at b1 b2' b3
  have hw0 := hW.symm
  unfold tri two at hw0
  clear hW
  obtain ⟨r, hr⟩ : ∃ r, r = calcN (some .rem) x y := ⟨_, rfl⟩
  rw [← hr] at J ⊢
  clear hr hx hy
  obtain ⟨⟨rk, rn, rs⟩, rt⟩ := r
  obtain ⟨xk, xn, xs⟩ := x
  obtain ⟨yk, yn, ys⟩ := y
  simp only at J b1 b2' b3 hw0 ⊢
  have HW := Lib.hid hw0
  clear hw0
  have p0 : W0.cell? ⟨w.heap.size, 0, none⟩ = some (.int .i64 xk) := b1.at_ 0
  have p1 : W0.cell? ⟨w.heap.size, 1, none⟩ = some (.int .i64 xn) := b1.at_ 1
  have p2 : W0.cell? ⟨w.heap.size, 2, none⟩ = some (.string xs) := b1.at_ 2
  have q0 : W0.cell? ⟨w.heap.size + 1, 0, none⟩ = some (.int .i64 yk) := b2'.at_ 0
  have q1 : W0.cell? ⟨w.heap.size + 1, 1, none⟩ = some (.int .i64 yn) := b2'.at_ 1
  have q2 : W0.cell? ⟨w.heap.size + 1, 2, none⟩ = some (.string ys) := b2'.at_ 2
  have B3 := Veil.mk b3
  clear b1 b2' b3
  by_cases h1 : xk = 7
  case neg =>
    have h1b : (xk == 7) = false := by simpa using h1
    clear h1
    go_enter Tryd.func12, Tryd.ntmps12
    go_upto_region 1 with (fail)
    rw [HW.out]
    go_wp2_with (first | (go_at_call 36; ((with_reducible refine (isOrder_rem _).mono ?_); rintro e w' ⟨rfl, rfl⟩)) | (go_at_call 39; ((with_reducible refine (J.out _).mono ?_); rintro e w3 ⟨rfl, hb3⟩; have z3 := B3.out.on hb3 B3.out.lt; have z0 : w3.cell? ⟨w.heap.size + 1 + 1, 0, none⟩ = some (.int .i64 0) := z3.at_ 0; have z1 : w3.cell? ⟨w.heap.size + 1 + 1, 1, none⟩ = some (.int .i64 0) := z3.at_ 1; have z2 : w3.cell? ⟨w.heap.size + 1 + 1, 2, none⟩ = some (.string ⟨#[]⟩) := z3.at_ 2; have f0 := z3.free 0; have f1 := z3.free 1; have f2 := z3.free 2)))
    refine bodyPost_ret (v := .tuple #[W.V rk rn rs, .int .i64 rt]) (by simp [results, Tryd.results12, go_sem, z0, z1, z2]) rfl ⟨rfl, ?_⟩
    exact (((hB.trans (hb3.mono hB.size)).setCell (p := ⟨w.heap.size + 1 + 1, 0, none⟩) (by show w.heap.size ≤ w.heap.size + 1 + 1; omega) _).setCell (p := ⟨w.heap.size + 1 + 1, 1, none⟩) (by show w.heap.size ≤ w.heap.size + 1 + 1; omega) _).setCell (p := ⟨w.heap.size + 1 + 1, 2, none⟩) (by show w.heap.size ≤ w.heap.size + 1 + 1; omega) _
  subst h1
  by_cases h2 : yk = 7
  case neg =>
    have h2b : (yk == 7) = false := by simpa using h2
    clear h2
    go_enter Tryd.func12, Tryd.ntmps12
    go_upto_region 1 with (fail)
    rw [HW.out]
    go_wp2_with (first | (go_at_call 36; ((with_reducible refine (isOrder_rem _).mono ?_); rintro e w' ⟨rfl, rfl⟩)) | (go_at_call 39; ((with_reducible refine (J.out _).mono ?_); rintro e w3 ⟨rfl, hb3⟩; have z3 := B3.out.on hb3 B3.out.lt; have z0 : w3.cell? ⟨w.heap.size + 1 + 1, 0, none⟩ = some (.int .i64 0) := z3.at_ 0; have z1 : w3.cell? ⟨w.heap.size + 1 + 1, 1, none⟩ = some (.int .i64 0) := z3.at_ 1; have z2 : w3.cell? ⟨w.heap.size + 1 + 1, 2, none⟩ = some (.string ⟨#[]⟩) := z3.at_ 2; have f0 := z3.free 0; have f1 := z3.free 1; have f2 := z3.free 2)))
    refine bodyPost_ret (v := .tuple #[W.V rk rn rs, .int .i64 rt]) (by simp [results, Tryd.results12, go_sem, z0, z1, z2]) rfl ⟨rfl, ?_⟩
    exact (((hB.trans (hb3.mono hB.size)).setCell (p := ⟨w.heap.size + 1 + 1, 0, none⟩) (by show w.heap.size ≤ w.heap.size + 1 + 1; omega) _).setCell (p := ⟨w.heap.size + 1 + 1, 1, none⟩) (by show w.heap.size ≤ w.heap.size + 1 + 1; omega) _).setCell (p := ⟨w.heap.size + 1 + 1, 2, none⟩) (by show w.heap.size ≤ w.heap.size + 1 + 1; omega) _
  subst h2
  · go_enter Tryd.func12, Tryd.ntmps12
    go_upto_region 1 with (fail)
    rw [HW.out]
    go_wp2_with (first | (go_at_call 36; ((with_reducible refine (isOrder_rem _).mono ?_); rintro e w' ⟨rfl, rfl⟩)) | (go_at_call 39; ((with_reducible refine (J.out _).mono ?_); rintro e w3 ⟨rfl, hb3⟩; have z3 := B3.out.on hb3 B3.out.lt; have z0 : w3.cell? ⟨w.heap.size + 1 + 1, 0, none⟩ = some (.int .i64 0) := z3.at_ 0; have z1 : w3.cell? ⟨w.heap.size + 1 + 1, 1, none⟩ = some (.int .i64 0) := z3.at_ 1; have z2 : w3.cell? ⟨w.heap.size + 1 + 1, 2, none⟩ = some (.string ⟨#[]⟩) := z3.at_ 2; have f0 := z3.free 0; have f1 := z3.free 1; have f2 := z3.free 2)))
    refine bodyPost_ret (v := .tuple #[W.V rk rn rs, .int .i64 rt]) (by simp [results, Tryd.results12, go_sem, z0, z1, z2]) rfl ⟨rfl, ?_⟩
    exact (((hB.trans (hb3.mono hB.size)).setCell (p := ⟨w.heap.size + 1 + 1, 0, none⟩) (by show w.heap.size ≤ w.heap.size + 1 + 1; omega) _).setCell (p := ⟨w.heap.size + 1 + 1, 1, none⟩) (by show w.heap.size ≤ w.heap.size + 1 + 1; omega) _).setCell (p := ⟨w.heap.size + 1 + 1, 2, none⟩) (by show w.heap.size ≤ w.heap.size + 1 + 1; omega) _
set_option maxRecDepth 100000 in
set_option maxHeartbeats 4000000 in
theorem binaryN_q (x y : Vt) (hx : WV x.1 x.2.1 x.2.2) (hy : WV y.1 y.2.1 y.2.2) (w : World) :
    Calls Tryd.prog 12 #[.string ⟨#[63]⟩, valV x, valV y] w fun e w' => e = .returned (.tuple #[valV (calcN (none) x y).1, .int .i64 (calcN (none) x y).2]) ∧ Below w.heap.size w w' := by
  have J : Veil (∀ wx, Calls Tryd.prog 39 #[.string ⟨#[63]⟩, valV x, valV y] wx fun e w' => e = .returned (.tuple #[valV (calcN (none) x y).1, .int .i64 (calcN (none) x y).2]) ∧ Below wx.heap.size wx w') := ⟨calcN_any (none) x y hx hy⟩
  obtain ⟨W0, hW⟩ : ∃ v, v = tri w x y := ⟨_, rfl⟩
  have hB : Below w.heap.size w W0 := hW ▸ tri_below w x y
  have b1 := tri_x w x y
  have b2' := tri_y w x y
  have b3 := tri_r w x y
  rw [← hW] at b1 b2' b3
  have hw0 := hW.symm
  unfold tri two at hw0
  clear hW
  obtain ⟨r, hr⟩ : ∃ r, r = calcN (none) x y := ⟨_, rfl⟩
  rw [← hr] at J ⊢
  clear hr hx hy
  obtain ⟨⟨rk, rn, rs⟩, rt⟩ := r
  obtain ⟨xk, xn, xs⟩ := x
  obtain ⟨yk, yn, ys⟩ := y
  simp only at J b1 b2' b3 hw0 ⊢
  have HW := Lib.hid hw0
  clear hw0
  have p0 : W0.cell? ⟨w.heap.size, 0, none⟩ = some (.int .i64 xk) := b1.at_ 0
  have p1 : W0.cell? ⟨w.heap.size, 1, none⟩ = some (.int .i64 xn) := b1.at_ 1
  have p2 : W0.cell? ⟨w.heap.size, 2, none⟩ = some (.string xs) := b1.at_ 2
  have q0 : W0.cell? ⟨w.heap.size + 1, 0, none⟩ = some (.int .i64 yk) := b2'.at_ 0
  have q1 : W0.cell? ⟨w.heap.size + 1, 1, none⟩ = some (.int .i64 yn) := b2'.at_ 1
  have q2 : W0.cell? ⟨w.heap.size + 1, 2, none⟩ = some (.string ys) := b2'.at_ 2
  have B3 := Veil.mk b3
  clear b1 b2' b3
  by_cases h1 : xk = 7
  case neg =>
    have h1b : (xk == 7) = false := by simpa using h1
    clear h1
    go_enter Tryd.func12, Tryd.ntmps12
    go_upto_region 1 with (fail)
    rw [HW.out]
    go_wp2_with (first | (go_at_call 36; ((with_reducible refine (isOrder_q _).mono ?_); rintro e w' ⟨rfl, rfl⟩)) | (go_at_call 39; ((with_reducible refine (J.out _).mono ?_); rintro e w3 ⟨rfl, hb3⟩; have z3 := B3.out.on hb3 B3.out.lt; have z0 : w3.cell? ⟨w.heap.size + 1 + 1, 0, none⟩ = some (.int .i64 0) := z3.at_ 0; have z1 : w3.cell? ⟨w.heap.size + 1 + 1, 1, none⟩ = some (.int .i64 0) := z3.at_ 1; have z2 : w3.cell? ⟨w.heap.size + 1 + 1, 2, none⟩ = some (.string ⟨#[]⟩) := z3.at_ 2; have f0 := z3.free 0; have f1 := z3.free 1; have f2 := z3.free 2)))
    refine bodyPost_ret (v := .tuple #[W.V rk rn rs, .int .i64 rt]) (by simp [results, Tryd.results12, go_sem, z0, z1, z2]) rfl ⟨rfl, ?_⟩
    exact (((hB.trans (hb3.mono hB.size)).setCell (p := ⟨w.heap.size + 1 + 1, 0, none⟩) (by show w.heap.size ≤ w.heap.size + 1 + 1; omega) _).setCell (p := ⟨w.heap.size + 1 + 1, 1, none⟩) (by show w.heap.size ≤ w.heap.size + 1 + 1; omega) _).setCell (p := ⟨w.heap.size + 1 + 1, 2, none⟩) (by show w.heap.size ≤ w.heap.size + 1 + 1; omega) _
  subst h1
  by_cases h2 : yk = 7
  case neg =>
    have h2b : (yk == 7) = false := by simpa using h2
    clear h2
    go_enter Tryd.func12, Tryd.ntmps12
    go_upto_region 1 with (fail)
    rw [HW.out]
    go_wp2_with (first | (go_at_call 36; ((with_reducible refine (isOrder_q _).mono ?_); rintro e w' ⟨rfl, rfl⟩)) | (go_at_call 39; ((with_reducible refine (J.out _).mono ?_); rintro e w3 ⟨rfl, hb3⟩; have z3 := B3.out.on hb3 B3.out.lt; have z0 : w3.cell? ⟨w.heap.size + 1 + 1, 0, none⟩ = some (.int .i64 0) := z3.at_ 0; have z1 : w3.cell? ⟨w.heap.size + 1 + 1, 1, none⟩ = some (.int .i64 0) := z3.at_ 1; have z2 : w3.cell? ⟨w.heap.size + 1 + 1, 2, none⟩ = some (.string ⟨#[]⟩) := z3.at_ 2; have f0 := z3.free 0; have f1 := z3.free 1; have f2 := z3.free 2)))
    refine bodyPost_ret (v := .tuple #[W.V rk rn rs, .int .i64 rt]) (by simp [results, Tryd.results12, go_sem, z0, z1, z2]) rfl ⟨rfl, ?_⟩
    exact (((hB.trans (hb3.mono hB.size)).setCell (p := ⟨w.heap.size + 1 + 1, 0, none⟩) (by show w.heap.size ≤ w.heap.size + 1 + 1; omega) _).setCell (p := ⟨w.heap.size + 1 + 1, 1, none⟩) (by show w.heap.size ≤ w.heap.size + 1 + 1; omega) _).setCell (p := ⟨w.heap.size + 1 + 1, 2, none⟩) (by show w.heap.size ≤ w.heap.size + 1 + 1; omega) _
  subst h2
  · go_enter Tryd.func12, Tryd.ntmps12
    go_upto_region 1 with (fail)
    rw [HW.out]
    go_wp2_with (first | (go_at_call 36; ((with_reducible refine (isOrder_q _).mono ?_); rintro e w' ⟨rfl, rfl⟩)) | (go_at_call 39; ((with_reducible refine (J.out _).mono ?_); rintro e w3 ⟨rfl, hb3⟩; have z3 := B3.out.on hb3 B3.out.lt; have z0 : w3.cell? ⟨w.heap.size + 1 + 1, 0, none⟩ = some (.int .i64 0) := z3.at_ 0; have z1 : w3.cell? ⟨w.heap.size + 1 + 1, 1, none⟩ = some (.int .i64 0) := z3.at_ 1; have z2 : w3.cell? ⟨w.heap.size + 1 + 1, 2, none⟩ = some (.string ⟨#[]⟩) := z3.at_ 2; have f0 := z3.free 0; have f1 := z3.free 1; have f2 := z3.free 2)))
    refine bodyPost_ret (v := .tuple #[W.V rk rn rs, .int .i64 rt]) (by simp [results, Tryd.results12, go_sem, z0, z1, z2]) rfl ⟨rfl, ?_⟩
    exact (((hB.trans (hb3.mono hB.size)).setCell (p := ⟨w.heap.size + 1 + 1, 0, none⟩) (by show w.heap.size ≤ w.heap.size + 1 + 1; omega) _).setCell (p := ⟨w.heap.size + 1 + 1, 1, none⟩) (by show w.heap.size ≤ w.heap.size + 1 + 1; omega) _).setCell (p := ⟨w.heap.size + 1 + 1, 2, none⟩) (by show w.heap.size ≤ w.heap.size + 1 + 1; omega) _
set_option maxRecDepth 100000 in
set_option maxHeartbeats 4000000 in
theorem binary_eq (x y : Vt) (hx : WV x.1 x.2.1 x.2.2) (hy : WV y.1 y.2.1 y.2.2) (w : World) :
    Calls Tryd.prog 12 #[.string ⟨#[61, 61, 61]⟩, valV x, valV y] w fun e w' => e = .returned (.tuple #[valV (b2 (strictT x y)), .int .i64 0]) ∧ Below w.heap.size w w' := by
  have J := Veil.mk (strict_any x y hx hy)
  obtain ⟨W0, hW⟩ : ∃ v, v = tri w x y := ⟨_, rfl⟩
  have hB : Below w.heap.size w W0 := hW ▸ tri_below w x y
  have b1 := tri_x w x y
  have b2' := tri_y w x y
  have b3 := tri_r w x y
  rw [← hW] at b1 b2' b3
  have hw0 := hW.symm
  unfold tri two at hw0
  clear hW
  obtain ⟨r, hr⟩ : ∃ r, r = strictT x y := ⟨_, rfl⟩
  rw [← hr] at J ⊢
  clear hr hx hy
  obtain ⟨xk, xn, xs⟩ := x
  obtain ⟨yk, yn, ys⟩ := y
  simp only at J b1 b2' b3 hw0 ⊢
  have HW := Lib.hid hw0
  clear hw0
  have p0 : W0.cell? ⟨w.heap.size, 0, none⟩ = some (.int .i64 xk) := b1.at_ 0
  have p1 : W0.cell? ⟨w.heap.size, 1, none⟩ = some (.int .i64 xn) := b1.at_ 1
  have p2 : W0.cell? ⟨w.heap.size, 2, none⟩ = some (.string xs) := b1.at_ 2
  have q0 : W0.cell? ⟨w.heap.size + 1, 0, none⟩ = some (.int .i64 yk) := b2'.at_ 0
  have q1 : W0.cell? ⟨w.heap.size + 1, 1, none⟩ = some (.int .i64 yn) := b2'.at_ 1
  have q2 : W0.cell? ⟨w.heap.size + 1, 2, none⟩ = some (.string ys) := b2'.at_ 2
  have B3 := Veil.mk b3
  clear b1 b2' b3
  have tx : (xk == 7) = true ∨ (xk == 7) = false := by cases (xk == 7) <;> simp
  have ty : (yk == 7) = true ∨ (yk == 7) = false := by cases (yk == 7) <;> simp
  have T1 := Veil.mk (truthT_any r)
  have T2 := Veil.mk (truthT_any (!r))
  rcases tx with tx | tx <;> rcases ty with ty | ty
  all_goals
    go_enter Tryd.func12, Tryd.ntmps12
    go_upto_region 1 with (fail)
    rw [HW.out]
    go_wp2_with (first | (go_at_call 15; ((with_reducible refine (J.out _).mono ?_); rintro e w3 ⟨rfl, hb3⟩)) | (go_at_call 34; ((with_reducible refine (T1.out _).mono ?_); rintro e w4 ⟨rfl, hb4⟩; have hb34 := hb3.trans (hb4.mono hb3.size); have z3 := B3.out.on hb34 B3.out.lt; have z0 : w4.cell? ⟨w.heap.size + 1 + 1, 0, none⟩ = some (.int .i64 0) := z3.at_ 0; have z1 : w4.cell? ⟨w.heap.size + 1 + 1, 1, none⟩ = some (.int .i64 0) := z3.at_ 1; have z2 : w4.cell? ⟨w.heap.size + 1 + 1, 2, none⟩ = some (.string ⟨#[]⟩) := z3.at_ 2; have f0 := z3.free 0; have f1 := z3.free 1; have f2 := z3.free 2)))
    refine bodyPost_ret (v := .tuple #[W.V (b2 r).1 (b2 r).2.1 (b2 r).2.2, .int .i64 0]) (by simp [results, Tryd.results12, go_sem, z0, z1, z2]) rfl ⟨rfl, ?_⟩
    exact (((hB.trans (hb34.mono hB.size)).setCell (p := ⟨w.heap.size + 1 + 1, 0, none⟩) (by show w.heap.size ≤ w.heap.size + 1 + 1; omega) _).setCell (p := ⟨w.heap.size + 1 + 1, 1, none⟩) (by show w.heap.size ≤ w.heap.size + 1 + 1; omega) _).setCell (p := ⟨w.heap.size + 1 + 1, 2, none⟩) (by show w.heap.size ≤ w.heap.size + 1 + 1; omega) _
set_option maxRecDepth 100000 in
set_option maxHeartbeats 4000000 in
theorem binary_ne (x y : Vt) (hx : WV x.1 x.2.1 x.2.2) (hy : WV y.1 y.2.1 y.2.2) (w : World) :
    Calls Tryd.prog 12 #[.string ⟨#[33, 61, 61]⟩, valV x, valV y] w fun e w' => e = .returned (.tuple #[valV (b2 (!strictT x y)), .int .i64 0]) ∧ Below w.heap.size w w' := by
  have J := Veil.mk (strict_any x y hx hy)
  obtain ⟨W0, hW⟩ : ∃ v, v = tri w x y := ⟨_, rfl⟩
  have hB : Below w.heap.size w W0 := hW ▸ tri_below w x y
  have b1 := tri_x w x y
  have b2' := tri_y w x y
  have b3 := tri_r w x y
  rw [← hW] at b1 b2' b3
  have hw0 := hW.symm
  unfold tri two at hw0
  clear hW
  obtain ⟨r, hr⟩ : ∃ r, r = strictT x y := ⟨_, rfl⟩
  rw [← hr] at J ⊢
  clear hr hx hy
  obtain ⟨xk, xn, xs⟩ := x
  obtain ⟨yk, yn, ys⟩ := y
  simp only at J b1 b2' b3 hw0 ⊢
  have HW := Lib.hid hw0
  clear hw0
  have p0 : W0.cell? ⟨w.heap.size, 0, none⟩ = some (.int .i64 xk) := b1.at_ 0
  have p1 : W0.cell? ⟨w.heap.size, 1, none⟩ = some (.int .i64 xn) := b1.at_ 1
  have p2 : W0.cell? ⟨w.heap.size, 2, none⟩ = some (.string xs) := b1.at_ 2
  have q0 : W0.cell? ⟨w.heap.size + 1, 0, none⟩ = some (.int .i64 yk) := b2'.at_ 0
  have q1 : W0.cell? ⟨w.heap.size + 1, 1, none⟩ = some (.int .i64 yn) := b2'.at_ 1
  have q2 : W0.cell? ⟨w.heap.size + 1, 2, none⟩ = some (.string ys) := b2'.at_ 2
  have B3 := Veil.mk b3
  clear b1 b2' b3
  have tx : (xk == 7) = true ∨ (xk == 7) = false := by cases (xk == 7) <;> simp
  have ty : (yk == 7) = true ∨ (yk == 7) = false := by cases (yk == 7) <;> simp
  have T1 := Veil.mk (truthT_any r)
  have T2 := Veil.mk (truthT_any (!r))
  rcases tx with tx | tx <;> rcases ty with ty | ty
  all_goals
    go_enter Tryd.func12, Tryd.ntmps12
    go_upto_region 1 with (fail)
    rw [HW.out]
    go_wp2_with (first | (go_at_call 15; ((with_reducible refine (J.out _).mono ?_); rintro e w3 ⟨rfl, hb3⟩)) | (go_at_call 34; ((with_reducible refine (T2.out _).mono ?_); rintro e w4 ⟨rfl, hb4⟩; have hb34 := hb3.trans (hb4.mono hb3.size); have z3 := B3.out.on hb34 B3.out.lt; have z0 : w4.cell? ⟨w.heap.size + 1 + 1, 0, none⟩ = some (.int .i64 0) := z3.at_ 0; have z1 : w4.cell? ⟨w.heap.size + 1 + 1, 1, none⟩ = some (.int .i64 0) := z3.at_ 1; have z2 : w4.cell? ⟨w.heap.size + 1 + 1, 2, none⟩ = some (.string ⟨#[]⟩) := z3.at_ 2; have f0 := z3.free 0; have f1 := z3.free 1; have f2 := z3.free 2)))
    refine bodyPost_ret (v := .tuple #[W.V (b2 (!r)).1 (b2 (!r)).2.1 (b2 (!r)).2.2, .int .i64 0]) (by simp [results, Tryd.results12, go_sem, z0, z1, z2]) rfl ⟨rfl, ?_⟩
    exact (((hB.trans (hb34.mono hB.size)).setCell (p := ⟨w.heap.size + 1 + 1, 0, none⟩) (by show w.heap.size ≤ w.heap.size + 1 + 1; omega) _).setCell (p := ⟨w.heap.size + 1 + 1, 1, none⟩) (by show w.heap.size ≤ w.heap.size + 1 + 1; omega) _).setCell (p := ⟨w.heap.size + 1 + 1, 2, none⟩) (by show w.heap.size ≤ w.heap.size + 1 + 1; omega) _
end Go.Proofs.YtbkgophgclpijaaDoor
namespace Go.Proofs.YtbkgophgclpijaaDoor.M
open Go.RowKit


theorem num_int3 (n : Int) (h1 : -9007199254740991 ≤ n) (h2 : n ≤ 9007199254740991) : Num 3 n := .inr (.inr (.inr (.inr ⟨rfl, h1, h2⟩)))
/-- What an operator answers for x and for the opposite of x (of y). -/
def Opp (r s : Int × Int × Bool) : Prop := (∃ pk pn, Num pk pn ∧ r = (pk, pn, true) ∧ s = (negK pk pn, negN pk pn, true)) ∨ (r = (0, 0, false) ∧ s = (0, 0, false))
theorem opp_nan : Opp (4, 0, true) (4, 0, true) := .inl ⟨4, 0, .inl ⟨rfl, rfl⟩, rfl, rfl⟩
theorem opp_inf (m : Bool) : Opp (5, (if m then -1 else 1), true) (5, (if !m then -1 else 1), true) := by
  cases m
  · exact .inl ⟨5, 1, .inr (.inl ⟨rfl, rfl⟩), rfl, rfl⟩
  · exact .inl ⟨5, -1, .inr (.inr (.inl ⟨rfl, rfl⟩)), rfl, rfl⟩
theorem opp_zero (m : Bool) : Opp ((if m then 6 else 3), 0, true) ((if !m then 6 else 3), 0, true) := by
  cases m
  · exact .inl ⟨3, 0, num_int3 0 (by omega) (by omega), rfl, rfl⟩
  · exact .inl ⟨6, 0, .inr (.inr (.inr (.inl ⟨rfl, rfl⟩))), rfl, rfl⟩
theorem opp_int (n : Int) (h0 : n ≠ 0) (h1 : -9007199254740991 ≤ n) (h2 : n ≤ 9007199254740991) : Opp (3, n, true) (3, -n, true) :=
  .inl ⟨3, n, num_int3 n h1 h2, rfl, by simp [negK, negN, h0]⟩
theorem opp_none : Opp (0, 0, false) (0, 0, false) := .inr ⟨rfl, rfl⟩

theorem zer_neg (k n : Int) (h : Num k n) : zerB (negK k n) (negN k n) = zerB k n := by
  rcases h with ⟨rfl, rfl⟩ | ⟨rfl, rfl⟩ | ⟨rfl, rfl⟩ | ⟨rfl, rfl⟩ | ⟨rfl, h1, h2⟩
  · rfl
  · rfl
  · rfl
  · rfl
  · by_cases h0 : n = 0
    · subst h0; rfl
    · have e1 : (-n == 0) = false := by simp; omega
      have e2 : (n == 0) = false := by simpa using h0
      simp [zerB, negK, negN, h0, e1, e2]
theorem mul_sign {k1 n1 k2 n2 : Int} (h1 : Num k1 n1) (h2 : Num k2 n2) : Opp (mulR k1 n1 k2 n2) (mulR (negK k1 n1) (negN k1 n1) k2 n2) := by
  unfold mulR
  simp only [four_neg, five_neg, zer_neg k1 n1 h1]
  split
  · exact opp_nan
  · rename_i hN
    have h14 : k1 ≠ 4 := fun h => hN (.inl h)
    have h24 : k2 ≠ 4 := fun h => hN (.inr (.inl h))
    have e : (negB (negK k1 n1) (negN k1 n1) != negB k2 n2) = !(negB k1 n1 != negB k2 n2) := by
      rw [negb_neg k1 n1 h1 h14]; cases negB k1 n1 <;> cases negB k2 n2 <;> rfl
    rw [e]
    split
    · exact opp_inf _
    · rename_i hI
      have h15 : k1 ≠ 5 := fun h => hI (.inl h)
      have h25 : k2 ≠ 5 := fun h => hI (.inr h)
      split
      · exact opp_zero _
      · rename_i hZ
        have z1 : zerB k1 n1 = false := by cases h : zerB k1 n1 <;> simp_all
        have z2 : zerB k2 n2 = false := by cases h : zerB k2 n2 <;> simp_all
        obtain ⟨rfl, x0, x1, x2⟩ := num_int k1 n1 h1 h14 h15 z1
        obtain ⟨rfl, y0, y1, y2⟩ := num_int k2 n2 h2 h24 h25 z2
        have en : negN 3 n1 = -n1 := by simp [negN]
        rw [en, mg_neg]
        split
        · rename_i hc
          have hb := prod_bound n1 n2 y0 hc
          have e2 : -n1 * n2 = -(n1 * n2) := Int.neg_mul n1 n2
          rw [e2]
          exact opp_int _ (Int.mul_ne_zero x0 y0) hb.1 hb.2
        · exact opp_none
theorem div_sign {k1 n1 k2 n2 : Int} (h1 : Num k1 n1) (h2 : Num k2 n2) : Opp (divR k1 n1 k2 n2) (divR k1 n1 (negK k2 n2) (negN k2 n2)) := by
  unfold divR
  simp only [four_neg, five_neg, zer_neg k2 n2 h2]
  split
  · exact opp_nan
  · rename_i hN
    have h14 : k1 ≠ 4 := fun h => hN (.inl h)
    have h24 : k2 ≠ 4 := fun h => hN (.inr (.inl h))
    have e : (negB k1 n1 != negB (negK k2 n2) (negN k2 n2)) = !(negB k1 n1 != negB k2 n2) := by
      rw [negb_neg k2 n2 h2 h24]; cases negB k1 n1 <;> cases negB k2 n2 <;> rfl
    rw [e]
    split
    · exact opp_inf _
    · rename_i hI
      split
      · exact opp_zero _
      · rename_i hZ
        have h15 : k1 ≠ 5 := fun h => hI (.inl h)
        have h25 : k2 ≠ 5 := fun h => hZ (.inl h)
        have z1 : zerB k1 n1 = false := by cases h : zerB k1 n1 <;> simp_all
        have z2 : zerB k2 n2 = false := by cases h : zerB k2 n2 <;> simp_all
        obtain ⟨rfl, x0, x1, x2⟩ := num_int k1 n1 h1 h14 h15 z1
        obtain ⟨rfl, y0, y1, y2⟩ := num_int k2 n2 h2 h24 h25 z2
        have en : negN 3 n2 = -n2 := by simp [negN]
        rw [en, Int.tmod_neg, Int.tdiv_neg]
        split
        · rename_i hc
          have hb := tdiv_bound n1 n2 x1 x2
          refine opp_int _ (fun h0 => x0 ?_) hb.1 hb.2
          have := Int.tmod_add_mul_tdiv n1 n2
          rw [hc, h0] at this
          simpa using this.symm
        · exact opp_none

/-- An operator's answer: a number, or nothing. -/
def Good (r : Int × Int × Bool) : Prop := (∃ k n, Num k n ∧ r = (k, n, true)) ∨ r = (0, 0, false)
theorem Good.of_opp {r s : Int × Int × Bool} (h : Opp r s) : Good r := by
  rcases h with ⟨k, n, hn, hr, _⟩ | ⟨hr, _⟩
  · exact .inl ⟨k, n, hn, hr⟩
  · exact .inr hr
theorem good_add {k1 n1 k2 n2 : Int} (h1 : Num k1 n1) (h2 : Num k2 n2) : Good (addR k1 n1 k2 n2) := by
  unfold addR
  repeat' split
  · exact .inl ⟨4, 0, .inl ⟨rfl, rfl⟩, rfl⟩
  · exact .inl ⟨k1, n1, h1, rfl⟩
  · exact .inl ⟨k2, n2, h2, rfl⟩
  · rename_i h
    exact .inl ⟨3, n1 + n2, num_int3 _ h.1 h.2, rfl⟩
  · exact .inr rfl
theorem num_rem {k1 n1 k2 n2 : Int} (h1 : Num k1 n1) : Num (remR k1 n1 k2 n2).1 (remR k1 n1 k2 n2).2 := by
  unfold remR
  split
  · exact .inl ⟨rfl, rfl⟩
  · rename_i hN
    split
    · exact h1
    · rename_i hM
      have h14 : k1 ≠ 4 := fun h => hN (.inl h)
      have h24 : k2 ≠ 4 := fun h => hN (.inr (.inl h))
      have h15 : k1 ≠ 5 := fun h => hN (.inr (.inr (.inl h)))
      have h25 : k2 ≠ 5 := fun h => hM (.inl h)
      have z1 : zerB k1 n1 = false := by cases h : zerB k1 n1 <;> simp_all
      obtain ⟨rfl, x0, x1, x2⟩ := num_int k1 n1 h1 h14 h15 z1
      split
      · cases negB 3 n1
        · exact num_int3 0 (by omega) (by omega)
        · exact .inr (.inr (.inr (.inl ⟨rfl, rfl⟩)))
      · have e3 : (n1.tmod n2).natAbs = n1.natAbs % n2.natAbs := Int.natAbs_tmod n1 n2
        have e4 := Nat.mod_le n1.natAbs n2.natAbs
        exact num_int3 _ (by omega) (by omega)
theorem good_parts {r : Int × Int × Bool} (h : Good r) : ∃ k n o, r = (k, n, o) ∧ (o = false → k = 0 ∧ n = 0) ∧ (o = true → Num k n) := by
  rcases h with ⟨k, n, hn, rfl⟩ | rfl
  · exact ⟨k, n, true, rfl, fun h => Bool.noConfusion h, fun _ => hn⟩
  · exact ⟨0, 0, false, rfl, fun _ => ⟨rfl, rfl⟩, fun h => Bool.noConfusion h⟩

end Go.Proofs.YtbkgophgclpijaaDoor.M
namespace Go.Proofs.YtbkgophgclpijaaDoor.W
open Go.RowKit

def units : List UInt8 → List Nat
  | a :: b :: r => (a.toNat * 256 + b.toNat) :: units r
  | _ => []
theorem units_length : ∀ l : List UInt8, (units l).length = l.length / 2
  | [] => by simp [units]
  | [_] => by simp [units]
  | _ :: _ :: r => by simp [units, units_length r]; omega
theorem units_at : ∀ (l : List UInt8) (i : Nat) (h : 2 * i + 1 < l.length), (units l)[i]? = some (l[2 * i].toNat * 256 + l[2 * i + 1].toNat)
  | [], i, h => absurd h (by simp)
  | [_], i, h => absurd h (by simp)
  | a :: b :: r, 0, h => by simp [units]
  | a :: b :: r, i + 1, h => by
    have := units_at r i (by simp at h; omega)
    simp only [units, List.getElem?_cons_succ, this]
    rfl
theorem units_lt : ∀ (l : List UInt8) (u : Nat), u ∈ units l → u < 65536
  | [], u, h => by simp [units] at h
  | [_], u, h => by simp [units] at h
  | a :: b :: r, u, h => by
    simp only [units, List.mem_cons] at h
    rcases h with rfl | h
    · have := a.toNat_lt; have := b.toNat_lt; omega
    · exact units_lt r u h
/-- The units of a string. -/
def unitsS (s : ByteArray) : List Nat := units s.data.toList
theorem unitsS_length (s : ByteArray) : (unitsS s).length = s.size / 2 := by unfold unitsS; rw [units_length]; rfl
theorem unitsS_at (s : ByteArray) (i : Nat) (h : 2 * i + 1 < s.size) : (unitsS s)[i]? = some (s[2 * i].toNat * 256 + s[2 * i + 1].toNat) := by
  unfold unitsS; rw [units_at _ _ (by simpa using h)]; rfl
theorem units_flat : ∀ (l : List Nat), (∀ u ∈ l, u < 65536) → units (l.flatMap u2) = l
  | [], _ => rfl
  | c :: r, h => by
    have hc : c < 65536 := h c (List.mem_cons_self ..)
    have := units_flat r (fun u hu => h u (List.mem_cons_of_mem _ hu))
    rw [List.flatMap_cons]
    show units (UInt8.ofNat (c / 256) :: UInt8.ofNat c :: r.flatMap u2) = _
    simp only [units, this]
    congr 1
    simp; omega
theorem wrap_unit (x y : Nat) (hx : x < 256) (hy : y < 256) : IntKind.i64.wrap (IntKind.i64.wrap (IntKind.i64.wrap (x : Int) * 256) + IntKind.i64.wrap (y : Int)) = ((x * 256 + y : Nat) : Int) := by
  have e1 : IntKind.i64.wrap (x : Int) = x := by rw [IntKind.wrap_i64]; omega
  have e2 : IntKind.i64.wrap (y : Int) = y := by rw [IntKind.wrap_i64]; omega
  have e3 : IntKind.i64.wrap ((x : Int) * 256) = (x : Int) * 256 := by rw [IntKind.wrap_i64]; omega
  rw [e1, e2, e3, IntKind.wrap_i64]; omega

set_option maxRecDepth 1000000 in
set_option maxHeartbeats 2000000 in
theorem list_any (s : ByteArray) (hs : s.size ≤ 1000000) (w : World) :
    Calls Tryd.prog 42 #[.string s] w fun e w' => ∃ v, e = .returned v ∧ w'.ownsRow w.heap.size 3 1 v (unitsS s).length (numC (unitsS s)) ∧ Below w.heap.size w w' := by
  obtain ⟨i0, hi, hz0, hz1, hz2⟩ := info_parts Tryd.info3
  have HL := Veil.mk (unitsS_length s)
  go_enter Tryd.func42, Tryd.ntmps42
  go_wp2
  go_loopw [3, 4] (fun v i wr => ∃ k j : Nat, k ≤ s.size / 2 ∧ j = 2 * k ∧ i = .int .i64 (j : Int) ∧ wr.ownsRow w.heap.size 3 1 v k (numC ((unitsS s).take k)) ∧ Below w.heap.size w wr) (fun _ i _ => s.size + 2 - (intOf i).toNat)
  case atStart => exact ⟨0, 0, by omega, rfl, rfl, World.ownsRow_nil _ _ _ _, Below.refl _ _⟩
  case round =>
    obtain ⟨k, j, hk, hjk, rfl, hown, hbw⟩ := hrel
    by_cases hp : k < s.size / 2
    · have hj1 : j + 1 < s.size := by omega
      have hj0 : j < s.size := by omega
      have hU := unitsS_at s k (by omega)
      have htk : (unitsS s).take (k + 1) = (unitsS s).take k ++ [s[j].toNat * 256 + s[j + 1].toNat] := by
        rw [List.take_add_one, hU]; simp only [hjk]; rfl
      have hx : s[j].toNat < 256 := s[j].toNat_lt
      have hy : s[j + 1].toNat < 256 := s[j + 1].toNat_lt
      have HTK := Veil.mk htk
      have HJK := Veil.mk hjk
      have q1 : (0 : Int) ≤ (j : Int) := by omega
      have q2 : (j : Int) < (s.size : Int) := by omega
      have q3 : (0 : Int) ≤ (j : Int) + 1 := by omega
      have q4 : (j : Int) + 1 < (s.size : Int) := by omega
      have q5 : IntKind.i64.wrap ((j : Int) + 1) = (j : Int) + 1 := by rw [IntKind.wrap_i64]; omega
      have q6 : ((j : Int) + 1).toNat = j + 1 := by omega
      have hw := hbw.size
      clear htk hU hjk
      go_wp2
      go_region_law (refine step_append_lies _ rfl (.tmp 12) (.tmp 24) 43 rfl w.heap.size 3 i0 (.int .i64 0) 1 8 Tryd.underlying43 hi hz0 hz1 hz2 rfl (by decide) u3 k (numC ((unitsS s).take k)) (by simp [Act.eval]) (by first | exact (own_drew hown).alloc _ | exact own_drew (hown.alloc _)) ⟨wr.heap.size, 0, none⟩ 1 1 [_] (by simp [Act.eval]) rfl (by first | exact cells_new _ _ _ | exact cells_drew (cells_new _ _ _)) (fun x hx => by simp at hx; rcases hx with rfl; rfl) (by decide) (by unfold maxLen; omega) (by omega) (by simp; omega) _ rfl ?_; intro g cap' w3 hown' hgrow3 hblk hg3)
      all_goals
        have hown3 := hown'
        rw [wrap_unit _ _ hx hy] at hown3
        have hown4 : w3.ownsRow w.heap.size 3 1 (Value.slice (some { block := g, off := 0 }) (k + 1) cap') (k + 1) (numC ((unitsS s).take (k + 1))) := by rw [HTK.out, numC_append]; exact hown3
        have hbw3 : Below w.heap.size w w3 := Below.grown (by first | exact hbw.alloc hw _ | exact Below.drew (hbw.alloc hw _)) hgrow3 (by simp; omega) (fun j hj => (hown.lt _ hj).1)
        have q7 : IntKind.i64.wrap ((j : Int) + 2) = (j : Int) + 2 := by rw [IntKind.wrap_i64]; omega
        clear hown' hown3 hgrow3 hblk
        go_wp2
        go_roundw
        case rel => exact ⟨k + 1, j + 2, by omega, by have := HJK.out; omega, by go_num, hown4, hbw3⟩
        case measure => simp [intOf]; omega
    · have hkl : k = (unitsS s).length := by have := HL.out; omega
      have htk : (unitsS s).take k = unitsS s := List.take_of_length_le (by omega)
      have q1 : (0 : Int) ≤ (j : Int) := by omega
      have q5 : IntKind.i64.wrap ((j : Int) + 1) = (j : Int) + 1 := by rw [IntKind.wrap_i64]; omega
      have q4 : ¬ ((j : Int) + 1 < (s.size : Int)) := by omega
      rw [htk, hkl] at hown
      clear hkl htk hjk
      go_wp2
      go_ret
      exact ⟨_, rfl, hown, hbw⟩
/-- -1, 0, 1 over numbers. -/
def cmpU : List Nat → List Nat → Int
  | [], [] => 0
  | [], _ :: _ => -1
  | _ :: _, [] => 1
  | x :: r, y :: t => if x < y then -1 else if y < x then 1 else cmpU r t
theorem drop_cons {l : List Nat} {k : Nat} (h : k < l.length) : l.drop k = l[k]?.getD 0 :: l.drop (k + 1) := by
  rw [List.drop_eq_getElem_cons h, List.getElem?_eq_getElem h]; rfl
theorem cmp_step {l m : List Nat} {k : Nat} (h1 : k < l.length) (h2 : k < m.length) : cmpU (l.drop k) (m.drop k) = if l[k]?.getD 0 < m[k]?.getD 0 then -1 else if m[k]?.getD 0 < l[k]?.getD 0 then 1 else cmpU (l.drop (k + 1)) (m.drop (k + 1)) := by
  rw [drop_cons h1, drop_cons h2]; rfl
theorem cmp_end {l m : List Nat} {k : Nat} (h1 : k ≤ l.length) (h2 : k ≤ m.length) (h : k = l.length ∨ k = m.length) : cmpU (l.drop k) (m.drop k) = if l.length < m.length then -1 else if m.length < l.length then 1 else 0 := by
  by_cases hl : k < l.length
  · have hm : k = m.length := by omega
    rw [drop_cons hl, List.drop_eq_nil_of_le (by omega : m.length ≤ k), if_neg (by omega), if_pos (by omega)]; rfl
  · by_cases hm : k < m.length
    · rw [drop_cons hm, List.drop_eq_nil_of_le (by omega : l.length ≤ k), if_pos (by omega)]; rfl
    · rw [List.drop_eq_nil_of_le (by omega : m.length ≤ k), List.drop_eq_nil_of_le (by omega : l.length ≤ k), if_neg (by omega), if_neg (by omega)]; rfl

set_option maxRecDepth 1000000 in
set_option maxHeartbeats 2000000 in
theorem refCompare_any (a b : Option Addr) (n m ca cb : Nat) (l r : List Nat) (hn : n ≤ 1000000) (hm : m ≤ 1000000) (hl : ∀ u ∈ l, u < 65536) (hr : ∀ u ∈ r, u < 65536) (w : World) (h1 : Nums .i64 w a n l) (h2 : Nums .i64 w b m r) :
    Calls Tryd.prog 41 #[.slice a n ca, .slice b m cb] w fun e w' => e = .returned (.int .i64 (cmpU l r)) ∧ Below w.heap.size w w' := by
  have H1 := Veil.mk h1
  have H2 := Veil.mk h2
  have HL := Veil.mk hl
  have HR := Veil.mk hr
  clear h1 h2 hl hr
  go_enter Tryd.func41, Tryd.ntmps41
  go_wp2
  go_loopw [5] (fun i wr => ∃ k : Nat, k ≤ n ∧ k ≤ m ∧ i = .int .i64 (k : Int) ∧ Veil (cmpU (l.drop k) (r.drop k) = cmpU l r) ∧ Below w.heap.size w wr) (fun i _ => n - (intOf i).toNat)
  case atStart => exact ⟨0, by omega, by omega, rfl, ⟨by simp⟩, Below.refl _ _⟩
  case round =>
    obtain ⟨k, hk, hkm, rfl, hcmp, hbw⟩ := hrel
    by_cases hp : k < n
    · have p1 : (k : Int) < (n : Int) := by omega
      have p0 : (0 : Int) ≤ (k : Int) := by omega
      by_cases hq : k < m
      · have p2 : (k : Int) < (m : Int) := by omega
        obtain ⟨b1, o1, rfl, hbl1, hc1⟩ := H1.out.2 (by omega)
        obtain ⟨b2, o2, rfl, hbl2, hc2⟩ := H2.out.2 (by omega)
        have hl1 := H1.out.1
        have hl2 := H2.out.1
        have c1 : wr.cell? ⟨b1, o1 + k, none⟩ = some (.int .i64 ((l[k]?.getD 0 : Nat) : Int)) := by rw [hbw.cell (p := ⟨b1, o1 + k, none⟩) hbl1]; exact hc1 k hp
        have c2 : wr.cell? ⟨b2, o2 + k, none⟩ = some (.int .i64 ((r[k]?.getD 0 : Nat) : Int)) := by rw [hbw.cell (p := ⟨b2, o2 + k, none⟩) hbl2]; exact hc2 k hq
        have hst := cmp_step (l := l) (m := r) (k := k) (by omega) (by omega)
        rw [hcmp.out] at hst
        have HST := Veil.mk hst
        obtain ⟨x, hx⟩ : ∃ x, x = l[k]?.getD 0 := ⟨_, rfl⟩
        obtain ⟨y, hy⟩ : ∃ y, y = r[k]?.getD 0 := ⟨_, rfl⟩
        rw [← hx] at c1 HST
        rw [← hy] at c2 HST
        clear hst hx hy hc1 hc2 hcmp
        by_cases hxy : x < y
        · have r1 : (x : Int) < (y : Int) := by omega
          have HE : Veil (cmpU l r = -1) := ⟨by rw [HST.out, if_pos hxy]⟩
          clear HST
          go_wp2
          go_quiet (fail)
          go_wp2
          go_ret
          exact ⟨ret_int HE.out.symm, below_drewN hbw _⟩
        · have r1 : ¬ (x : Int) < (y : Int) := by omega
          by_cases hyx : y < x
          · have r2 : (y : Int) < (x : Int) := by omega
            have HE : Veil (cmpU l r = 1) := ⟨by rw [HST.out, if_neg hxy, if_pos hyx]⟩
            clear HST
            go_wp2
            go_quiet (fail)
            go_wp2
            go_quiet (fail)
            go_wp2
            go_ret
            exact ⟨ret_int HE.out.symm, below_drewN (below_drewN hbw _) _⟩
          · have r2 : ¬ (y : Int) < (x : Int) := by omega
            have HE : Veil (cmpU (l.drop (k + 1)) (r.drop (k + 1)) = cmpU l r) := ⟨by rw [HST.out, if_neg hxy, if_neg hyx]⟩
            clear HST
            go_wp2
            go_quiet (fail)
            go_wp2
            go_quiet (fail)
            go_wp2
            go_roundw
            case rel => exact ⟨k + 1, by omega, by omega, by go_num, HE, below_drewN hbw _⟩
            case measure => simp [intOf]; omega
      · have p2 : ¬ (k : Int) < (m : Int) := by omega
        have hl1 := H1.out.1
        have hl2 := H2.out.1
        have hst := cmp_end (l := l) (m := r) (k := k) (by omega) (by omega) (by omega)
        rw [hcmp.out, if_neg (by omega), if_pos (by omega)] at hst
        have HE := Veil.mk hst
        have s1 : ¬ (n : Int) < (m : Int) := by omega
        have s2 : (m : Int) < (n : Int) := by omega
        clear hst hcmp hl1 hl2
        go_wp2
        go_ret
        exact ⟨ret_int HE.out.symm, hbw⟩
    · have p1 : ¬ (k : Int) < (n : Int) := by omega
      have hl1 := H1.out.1
      have hl2 := H2.out.1
      have hst := cmp_end (l := l) (m := r) (k := k) (by omega) (by omega) (by omega)
      rw [hcmp.out] at hst
      by_cases ht : n < m
      · rw [if_pos (by omega)] at hst
        have HE := Veil.mk hst
        have s1 : (n : Int) < (m : Int) := by omega
        clear hst hcmp hl1 hl2
        go_wp2
        go_ret
        exact ⟨ret_int HE.out.symm, hbw⟩
      · rw [if_neg (by omega), if_neg (by omega)] at hst
        have HE := Veil.mk hst
        have s1 : ¬ (n : Int) < (m : Int) := by omega
        have s2 : ¬ (m : Int) < (n : Int) := by omega
        clear hst hcmp hl1 hl2
        go_wp2
        go_ret
        exact ⟨ret_int HE.out.symm, hbw⟩
theorem cmp_byte (x y : Nat) (hx : x < 65536) (hy : y < 65536) (r t : List UInt8) :
    Lib.compareBytes (u2 x ++ r) (u2 y ++ t) = if x < y then -1 else if y < x then 1 else Lib.compareBytes r t := by
  have hx1 : (UInt8.ofNat (x / 256)).toNat = x / 256 := by simp; omega
  have hy1 : (UInt8.ofNat (y / 256)).toNat = y / 256 := by simp; omega
  have hx2 : (UInt8.ofNat x).toNat = x % 256 := by simp
  have hy2 : (UInt8.ofNat y).toNat = y % 256 := by simp
  show Lib.compareBytes (UInt8.ofNat (x / 256) :: UInt8.ofNat x :: r) (UInt8.ofNat (y / 256) :: UInt8.ofNat y :: t) = _
  rw [Lib.compareBytes, Lib.compareBytes]
  simp only [UInt8.lt_iff_toNat_lt, hx1, hy1, hx2, hy2]
  by_cases h1 : x / 256 < y / 256
  · rw [if_pos h1, if_pos (by omega)]
  · rw [if_neg h1]
    by_cases h2 : y / 256 < x / 256
    · rw [if_pos h2, if_neg (by omega), if_pos (by omega)]
    · rw [if_neg h2]
      by_cases h3 : x % 256 < y % 256
      · rw [if_pos h3, if_pos (by omega)]
      · rw [if_neg h3]
        by_cases h4 : y % 256 < x % 256
        · rw [if_pos h4, if_neg (by omega), if_pos (by omega)]
        · rw [if_neg h4, if_neg (by omega), if_neg (by omega)]
theorem cmp_flat : ∀ (l r : List Nat), (∀ u ∈ l, u < 65536) → (∀ u ∈ r, u < 65536) → Lib.compareBytes (l.flatMap u2) (r.flatMap u2) = cmpU l r
  | [], [], _, _ => by simp [Lib.compareBytes, cmpU]
  | [], y :: t, _, _ => by simp [Lib.compareBytes, cmpU, u2]
  | x :: r, [], _, _ => by simp [Lib.compareBytes, cmpU, u2]
  | x :: r, y :: t, h1, h2 => by
    rw [List.flatMap_cons, List.flatMap_cons, cmp_byte x y (h1 x (List.mem_cons_self ..)) (h2 y (List.mem_cons_self ..)), cmp_flat r t (fun u hu => h1 u (List.mem_cons_of_mem _ hu)) (fun u hu => h2 u (List.mem_cons_of_mem _ hu))]
    rfl
end Go.Proofs.YtbkgophgclpijaaDoor.W
namespace Go.Proofs.YtbkgophgclpijaaDoor.Q
open Go Go.RowKit

/-- A box made in the region: empty until its store. -/
def PBox (T : TypeId) (z c : Array Value) (W1 w : World) (v : Value) (st : Bool) : Prop := ∃ g, v = .pointer (some ⟨g, 0, none⟩) ∧ W1.heap.size ≤ g ∧ (st = false → Box w g T z) ∧ (st = true → Box w g T c)
section
variable {T : TypeId} {z c cA cB : Array Value} {W1 w w' : World} {sA sB vA vB : Value} {b0 b1 b2 b3 b4 b5 b6 b7 : Bool} {u0 u1 u2 u3 u4 u5 v : Value} {st : Bool}
theorem PBox.on (h : PBox T z c W1 w v st) (hb : Below w.heap.size w w') : PBox T z c W1 w' v st := by
  obtain ⟨g, h1, h2, h3, h4⟩ := h
  exact ⟨g, h1, h2, fun e => (h3 e).on hb (h3 e).lt, fun e => (h4 e).on hb (h4 e).lt⟩
theorem PBox.lt (h : PBox T z c W1 w v st) : ∃ g, v = .pointer (some ⟨g, 0, none⟩) ∧ g < w.heap.size := by
  obtain ⟨g, h1, h2, h3, h4⟩ := h
  cases st with
  | false => exact ⟨g, h1, (h3 rfl).lt⟩
  | true => exact ⟨g, h1, (h4 rfl).lt⟩
theorem PBox.elsewhere {g : Nat} (h : PBox T z c W1 w v st) (hne : (.pointer (some ⟨g, 0, none⟩) : Value) ≠ v) (i : Nat) (x : Value) : PBox T z c W1 (w.setCell ⟨g, i, none⟩ x) v st := by
  obtain ⟨g2, p1, p2, p3, p4⟩ := h
  have hn : g ≠ g2 := fun e => hne (by rw [p1, e])
  exact ⟨g2, p1, p2, fun e => (p3 e).elsewhere hn _ _, fun e => (p4 e).elsewhere hn _ _⟩
/-- In whatever order: b0 to b7 tell which operations are done. -/
def PairI (T : TypeId) (z cA cB : Array Value) (W1 : World) (sA sB vA vB : Value) (b0 b1 b2 b3 b4 b5 b6 b7 : Bool) (u0 u1 u2 u3 u4 u5 : Value) (w : World) : Prop :=
  Below W1.heap.size W1 w ∧ (b0 = true → u0 = sA) ∧ (b2 = true → u2 = sB) ∧ (b1 = true → u1 = vA) ∧ (b3 = true → u3 = vB) ∧
  (b4 = true → PBox T z cA W1 w u4 b6) ∧ (b5 = true → PBox T z cB W1 w u5 b7) ∧ (b4 = true → b5 = true → u4 ≠ u5) ∧ (b6 = true → b1 = true ∧ b4 = true) ∧ (b7 = true → b3 = true ∧ b5 = true)
theorem PairI.start (u0 u1 u2 u3 u4 u5 : Value) : PairI T z cA cB W1 sA sB vA vB false false false false false false false false u0 u1 u2 u3 u4 u5 W1.drew :=
  ⟨(Below.refl _ _).drew, nofun, nofun, nofun, nofun, nofun, nofun, nofun, nofun, nofun⟩
theorem PairI.call1 (h : PairI T z cA cB W1 sA sB vA vB b0 false b2 b3 b4 b5 b6 b7 u0 u1 u2 u3 u4 u5 w) (hb : Below w.heap.size w w') :
    PairI T z cA cB W1 sA sB vA vB b0 true b2 b3 b4 b5 b6 b7 u0 vA u2 u3 u4 u5 w' := by
  obtain ⟨h1, h2, h3, h4, h5, h6, h7, h8, h9, h10⟩ := h
  exact ⟨h1.trans (hb.mono h1.size), h2, h3, fun _ => rfl, h5, fun e => (h6 e).on hb, fun e => (h7 e).on hb, h8, fun e => absurd (h9 e).1 (by simp), h10⟩
theorem PairI.call3 (h : PairI T z cA cB W1 sA sB vA vB b0 b1 b2 false b4 b5 b6 b7 u0 u1 u2 u3 u4 u5 w) (hb : Below w.heap.size w w') :
    PairI T z cA cB W1 sA sB vA vB b0 b1 b2 true b4 b5 b6 b7 u0 u1 u2 vB u4 u5 w' := by
  obtain ⟨h1, h2, h3, h4, h5, h6, h7, h8, h9, h10⟩ := h
  exact ⟨h1.trans (hb.mono h1.size), h2, h3, h4, fun _ => rfl, fun e => (h6 e).on hb, fun e => (h7 e).on hb, h8, h9, fun e => absurd (h10 e).1 (by simp)⟩
theorem ptr_ne {g g2 : Nat} (h : g ≠ g2) : (.pointer (some ⟨g, 0, none⟩) : Value) ≠ .pointer (some ⟨g2, 0, none⟩) := by
  intro e2
  injection e2 with e2
  injection e2 with e2
  injection e2 with e2
  exact h e2
theorem PairI.alloc4 (h : PairI T z cA cB W1 sA sB vA vB b0 b1 b2 b3 false b5 b6 b7 u0 u1 u2 u3 u4 u5 w) :
    PairI T z cA cB W1 sA sB vA vB b0 b1 b2 b3 true b5 b6 b7 u0 u1 u2 u3 (.pointer (some ⟨w.heap.size, 0, none⟩)) u5 (w.alloc (.cells z T)) := by
  obtain ⟨h1, h2, h3, h4, h5, h6, h7, h8, h9, h10⟩ := h
  have e6 : b6 = false := by cases b6 with | false => rfl | true => exact absurd (h9 rfl).2 (by simp)
  subst e6
  have hb : Below w.heap.size w (w.alloc (.cells z T)) := (Below.refl _ _).alloc (Nat.le_refl _) _
  refine ⟨h1.trans (hb.mono h1.size), h2, h3, h4, h5, fun _ => ⟨w.heap.size, rfl, h1.size, fun _ => Box.new _ _ _, nofun⟩, fun e => (h7 e).on hb, fun _ e => ?_, nofun, h10⟩
  obtain ⟨g, p1, p2⟩ := (h7 e).lt
  rw [p1]
  exact ptr_ne (by omega)
theorem PairI.alloc5 (h : PairI T z cA cB W1 sA sB vA vB b0 b1 b2 b3 b4 false b6 b7 u0 u1 u2 u3 u4 u5 w) :
    PairI T z cA cB W1 sA sB vA vB b0 b1 b2 b3 b4 true b6 b7 u0 u1 u2 u3 u4 (.pointer (some ⟨w.heap.size, 0, none⟩)) (w.alloc (.cells z T)) := by
  obtain ⟨h1, h2, h3, h4, h5, h6, h7, h8, h9, h10⟩ := h
  have e7 : b7 = false := by cases b7 with | false => rfl | true => exact absurd (h10 rfl).2 (by simp)
  subst e7
  have hb : Below w.heap.size w (w.alloc (.cells z T)) := (Below.refl _ _).alloc (Nat.le_refl _) _
  refine ⟨h1.trans (hb.mono h1.size), h2, h3, h4, h5, fun e => (h6 e).on hb, fun _ => ⟨w.heap.size, rfl, h1.size, fun _ => Box.new _ _ _, nofun⟩, fun e _ => ?_, h9, nofun⟩
  obtain ⟨g, p1, p2⟩ := (h6 e).lt
  rw [p1]
  exact ptr_ne (by omega)
abbrev store3 (w : World) (g : Nat) (c0 c1 c2 : Value) : World := ((w.setCell ⟨g, 0, none⟩ c0).setCell ⟨g, 1, none⟩ c1).setCell ⟨g, 2, none⟩ c2
theorem Box.store3 {g : Nat} {z0 z1 z2 c0 c1 c2 : Value} (h : Box w g T #[z0, z1, z2]) : Box (store3 w g c0 c1 c2) g T #[c0, c1, c2] :=
  ((h.put 0 _).put 1 _).put 2 _
theorem PairI.at4 {z0 z1 z2 c0 c1 c2 : Value} (h : PairI T #[z0, z1, z2] #[c0, c1, c2] cB W1 sA sB vA vB b0 true b2 b3 true b5 false b7 u0 u1 u2 u3 u4 u5 w) : ∃ g, u4 = .pointer (some ⟨g, 0, none⟩) ∧ u1 = vA ∧ Box w g T #[z0, z1, z2] ∧
    PairI T #[z0, z1, z2] #[c0, c1, c2] cB W1 sA sB vA vB b0 true b2 b3 true b5 true b7 u0 u1 u2 u3 u4 u5 (store3 w g c0 c1 c2) := by
  obtain ⟨h1, h2, h3, h4, h5, h6, h7, h8, h9, h10⟩ := h
  obtain ⟨g, p1, p2, p3, p4⟩ := h6 rfl
  refine ⟨g, p1, h4 rfl, p3 rfl, ?_, h2, h3, h4, h5, fun _ => ⟨g, p1, p2, nofun, fun _ => Box.store3 (p3 rfl)⟩, fun e => ?_, h8, fun _ => ⟨rfl, rfl⟩, h10⟩
  · exact ((h1.setCell (p := ⟨g, 0, none⟩) p2 _).setCell (p := ⟨g, 1, none⟩) p2 _).setCell (p := ⟨g, 2, none⟩) p2 _
  · have hne := h8 rfl e
    rw [p1] at hne
    exact (((h7 e).elsewhere hne _ _).elsewhere hne _ _).elsewhere hne _ _
theorem PairI.at5 {z0 z1 z2 c0 c1 c2 : Value} (h : PairI T #[z0, z1, z2] cA #[c0, c1, c2] W1 sA sB vA vB b0 b1 b2 true b4 true b6 false u0 u1 u2 u3 u4 u5 w) : ∃ g, u5 = .pointer (some ⟨g, 0, none⟩) ∧ u3 = vB ∧ Box w g T #[z0, z1, z2] ∧
    PairI T #[z0, z1, z2] cA #[c0, c1, c2] W1 sA sB vA vB b0 b1 b2 true b4 true b6 true u0 u1 u2 u3 u4 u5 (store3 w g c0 c1 c2) := by
  obtain ⟨h1, h2, h3, h4, h5, h6, h7, h8, h9, h10⟩ := h
  obtain ⟨g, p1, p2, p3, p4⟩ := h7 rfl
  refine ⟨g, p1, h5 rfl, p3 rfl, ?_, h2, h3, h4, h5, fun e => ?_, fun _ => ⟨g, p1, p2, nofun, fun _ => Box.store3 (p3 rfl)⟩, h8, h9, fun _ => ⟨rfl, rfl⟩⟩
  · exact ((h1.setCell (p := ⟨g, 0, none⟩) p2 _).setCell (p := ⟨g, 1, none⟩) p2 _).setCell (p := ⟨g, 2, none⟩) p2 _
  · have hne : u5 ≠ u4 := fun e2 => h8 e rfl e2.symm
    rw [p1] at hne
    exact (((h6 e).elsewhere hne _ _).elsewhere hne _ _).elsewhere hne _ _
theorem PairI.fin (h : PairI T z cA cB W1 sA sB vA vB true true true true true true true true u0 u1 u2 u3 u4 u5 w) : ∃ g1 g2 : Nat, u4 = .pointer (some ⟨g1, 0, none⟩) ∧ u5 = .pointer (some ⟨g2, 0, none⟩) ∧ g1 ≠ g2 ∧ u0 = sA ∧ u1 = vA ∧ u2 = sB ∧ u3 = vB ∧
    Box w g1 T cA ∧ Box w g2 T cB ∧ Below W1.heap.size W1 w ∧ W1.heap.size ≤ g1 ∧ W1.heap.size ≤ g2 := by
  obtain ⟨h1, h2, h3, h4, h5, h6, h7, h8, h9, h10⟩ := h
  obtain ⟨g, p1, p2, p3, p4⟩ := h6 rfl
  obtain ⟨g', p1', p2', p3', p4'⟩ := h7 rfl
  exact ⟨g, g', p1, p1', fun e => h8 rfl rfl (by rw [p1, p1', e]), h2 rfl, h4 rfl, h3 rfl, h5 rfl, p4 rfl, p4' rfl, h1, p2, p2'⟩
end
abbrev PW (T : TypeId) (z cA cB : Array Value) (W1 : World) (sA sB vA vB : Value) (b : Array Bool) (u0 u1 u2 u3 u4 u5 : Value) (w : World) : Prop :=
  PairI T z cA cB W1 sA sB vA vB (b.getD 0 false) (b.getD 1 false) (b.getD 2 false) (b.getD 3 false) (b.getD 4 false) (b.getD 5 false) (b.getD 6 false) (b.getD 7 false) u0 u1 u2 u3 u4 u5 w
def PInv (T : TypeId) (z cA cB : Array Value) (W1 : World) (sA sB vA vB : Value) (a0 : Act) (s0 s1 s2 s3 s4 s5 : Nat) (b : Array Bool) (a : Act) (w : World) : Prop :=
  ∃ u0 u1 u2 u3 u4 u5, a = put6 a0 s0 s1 s2 s3 s4 s5 u0 u1 u2 u3 u4 u5 ∧ PW T z cA cB W1 sA sB vA vB b u0 u1 u2 u3 u4 u5 w
section
variable {T : TypeId} {z c cA cB : Array Value} {W1 w w' : World} {sA sB vA vB : Value} {u0 u1 u2 u3 u4 u5 : Value} {b : Array Bool} {a a0 : Act} {s0 s1 s2 s3 s4 s5 : Nat}
theorem PInv.mk (h : PW T z cA cB W1 sA sB vA vB b u0 u1 u2 u3 u4 u5 w) (he : a = put6 a0 s0 s1 s2 s3 s4 s5 u0 u1 u2 u3 u4 u5) : PInv T z cA cB W1 sA sB vA vB a0 s0 s1 s2 s3 s4 s5 b a w :=
  ⟨u0, u1, u2, u3, u4, u5, he, h⟩
theorem PW.load0 (h : PW T z cA cB W1 sA sB vA vB b u0 u1 u2 u3 u4 u5 w) (hb : b.size = 8) : PW T z cA cB W1 sA sB vA vB (b.setIfInBounds 0 true) sA u1 u2 u3 u4 u5 w := by
  unfold PW
  rw [set_same (by omega), set_other (by decide), set_other (by decide), set_other (by decide), set_other (by decide), set_other (by decide), set_other (by decide), set_other (by decide)]
  exact ⟨h.1, fun _ => rfl, h.2.2⟩
theorem PW.load2 (h : PW T z cA cB W1 sA sB vA vB b u0 u1 u2 u3 u4 u5 w) (hb : b.size = 8) : PW T z cA cB W1 sA sB vA vB (b.setIfInBounds 2 true) u0 u1 sB u3 u4 u5 w := by
  unfold PW
  rw [set_same (by omega), set_other (by decide), set_other (by decide), set_other (by decide), set_other (by decide), set_other (by decide), set_other (by decide), set_other (by decide)]
  exact ⟨h.1, h.2.1, fun _ => rfl, h.2.2.2⟩
theorem PW.call1 (h : PW T z cA cB W1 sA sB vA vB b u0 u1 u2 u3 u4 u5 w) (hb : b.size = 8) (hf : b.getD 1 false = false) (hw : Below w.heap.size w w') : PW T z cA cB W1 sA sB vA vB (b.setIfInBounds 1 true) u0 vA u2 u3 u4 u5 w' := by
  unfold PW
  rw [set_same (by omega), set_other (by decide), set_other (by decide), set_other (by decide), set_other (by decide), set_other (by decide), set_other (by decide), set_other (by decide)]
  unfold PW at h
  rw [hf] at h
  exact PairI.call1 h hw
theorem PW.call3 (h : PW T z cA cB W1 sA sB vA vB b u0 u1 u2 u3 u4 u5 w) (hb : b.size = 8) (hf : b.getD 3 false = false) (hw : Below w.heap.size w w') : PW T z cA cB W1 sA sB vA vB (b.setIfInBounds 3 true) u0 u1 u2 vB u4 u5 w' := by
  unfold PW
  rw [set_same (by omega), set_other (by decide), set_other (by decide), set_other (by decide), set_other (by decide), set_other (by decide), set_other (by decide), set_other (by decide)]
  unfold PW at h
  rw [hf] at h
  exact PairI.call3 h hw
theorem PW.alloc4 (h : PW T z cA cB W1 sA sB vA vB b u0 u1 u2 u3 u4 u5 w) (hb : b.size = 8) (hf : b.getD 4 false = false) :
    PW T z cA cB W1 sA sB vA vB (b.setIfInBounds 4 true) u0 u1 u2 u3 (.pointer (some ⟨w.heap.size, 0, none⟩)) u5 (w.alloc (.cells z T)) := by
  unfold PW
  rw [set_same (by omega), set_other (by decide), set_other (by decide), set_other (by decide), set_other (by decide), set_other (by decide), set_other (by decide), set_other (by decide)]
  unfold PW at h
  rw [hf] at h
  exact PairI.alloc4 h
theorem PW.alloc5 (h : PW T z cA cB W1 sA sB vA vB b u0 u1 u2 u3 u4 u5 w) (hb : b.size = 8) (hf : b.getD 5 false = false) :
    PW T z cA cB W1 sA sB vA vB (b.setIfInBounds 5 true) u0 u1 u2 u3 u4 (.pointer (some ⟨w.heap.size, 0, none⟩)) (w.alloc (.cells z T)) := by
  unfold PW
  rw [set_same (by omega), set_other (by decide), set_other (by decide), set_other (by decide), set_other (by decide), set_other (by decide), set_other (by decide), set_other (by decide)]
  unfold PW at h
  rw [hf] at h
  exact PairI.alloc5 h
theorem PW.at4 {z0 z1 z2 c0 c1 c2 : Value} (h : PW T #[z0, z1, z2] #[c0, c1, c2] cB W1 sA sB vA vB b u0 u1 u2 u3 u4 u5 w) (hb : b.size = 8) (hf : b.getD 6 false = false) (h1 : b.getD 1 false = true) (h4 : b.getD 4 false = true) :
    ∃ g, u4 = .pointer (some ⟨g, 0, none⟩) ∧ u1 = vA ∧ Box w g T #[z0, z1, z2] ∧ PW T #[z0, z1, z2] #[c0, c1, c2] cB W1 sA sB vA vB (b.setIfInBounds 6 true) u0 u1 u2 u3 u4 u5 (store3 w g c0 c1 c2) := by
  unfold PW at h
  rw [hf, h1, h4] at h
  obtain ⟨g, e1, e2, e4, e5⟩ := PairI.at4 h
  refine ⟨g, e1, e2, e4, ?_⟩
  unfold PW
  rw [set_same (by omega), set_other (by decide), set_other (by decide), set_other (by decide), set_other (by decide), set_other (by decide), set_other (by decide), set_other (by decide), h1, h4]
  exact e5
theorem PW.at5 {z0 z1 z2 c0 c1 c2 : Value} (h : PW T #[z0, z1, z2] cA #[c0, c1, c2] W1 sA sB vA vB b u0 u1 u2 u3 u4 u5 w) (hb : b.size = 8) (hf : b.getD 7 false = false) (h3 : b.getD 3 false = true) (h5 : b.getD 5 false = true) :
    ∃ g, u5 = .pointer (some ⟨g, 0, none⟩) ∧ u3 = vB ∧ Box w g T #[z0, z1, z2] ∧ PW T #[z0, z1, z2] cA #[c0, c1, c2] W1 sA sB vA vB (b.setIfInBounds 7 true) u0 u1 u2 u3 u4 u5 (store3 w g c0 c1 c2) := by
  unfold PW at h
  rw [hf, h3, h5] at h
  obtain ⟨g, e1, e2, e4, e5⟩ := PairI.at5 h
  refine ⟨g, e1, e2, e4, ?_⟩
  unfold PW
  rw [set_same (by omega), set_other (by decide), set_other (by decide), set_other (by decide), set_other (by decide), set_other (by decide), set_other (by decide), set_other (by decide), h3, h5]
  exact e5
end
theorem wp_region_pair {P : Program} {Q : Exit → Act → World → Prop} {id : Nat} {a : Act} {w : World} {l : List Oper} (T : TypeId) (z cA cB : Array Value) (sA sB vA vB : Value) (s0 s1 s2 s3 s4 s5 : Nat) (hm : P.follows .mixedOrders = true) (hl : l.length = 8)
    (hu : ∃ u0 u1 u2 u3 u4 u5, a = put6 a s0 s1 s2 s3 s4 s5 u0 u1 u2 u3 u4 u5) (hs : Steps P .any l.toArray Q (PInv T z cA cB w sA sB vA vB a s0 s1 s2 s3 s4 s5) 0 l) (hfull : endsFull .any l.toArray = true)
    (hend : ∀ (g1 g2 : Nat) (w' : World), g1 ≠ g2 → Box w' g1 T cA → Box w' g2 T cB → Below w.heap.size w w' → w.heap.size ≤ g1 → w.heap.size ≤ g2 →
      Q .normal (put6 a s0 s1 s2 s3 s4 s5 sA vA sB vB (.pointer (some ⟨g1, 0, none⟩)) (.pointer (some ⟨g2, 0, none⟩))) w') : (Code.region id l.toArray true).wp P Q a w := by
  refine wp_region_inv hm (PInv T z cA cB w sA sB vA vB a s0 s1 s2 s3 s4 s5) ?_ hs ?_
  · obtain ⟨u0, u1, u2, u3, u4, u5, hu⟩ := hu
    refine ⟨_, _, _, _, _, _, hu, ?_⟩
    rw [hl]
    exact PairI.start _ _ _ _ _ _
  · rintro b a' w' hb hr ⟨u0, u1, u2, u3, u4, u5, rfl, hI⟩
    have hf : ∀ i, i < 8 → b.getD i false = true := fun i hi => full_of_end hfull (by simpa using hb) hr i (by simp; omega)
    unfold PW at hI
    rw [hf 0 (by omega), hf 1 (by omega), hf 2 (by omega), hf 3 (by omega), hf 4 (by omega), hf 5 (by omega), hf 6 (by omega), hf 7 (by omega)] at hI
    obtain ⟨g1, g2, rfl, rfl, hne, rfl, rfl, rfl, rfl, b1, b2, hB, k1, k2⟩ := hI.fin
    exact hend g1 g2 w' hne b1 b2 hB k1 k2
end Go.Proofs.YtbkgophgclpijaaDoor.Q
namespace Go.Proofs.YtbkgophgclpijaaDoor
open Go.RowKit

theorem bdrN {w : World} {g : Nat} {t : TypeId} {cs : Array Value} (h : Box w g t cs) : Box w.drew g t cs := h
theorem zbN {w : World} {g : Nat} (h : Box w g 73 #[.int .u8 0, .bool false, .int .i64 0]) : w.cell? ⟨g, 0, none⟩ = some (.int .u8 0) ∧ w.cell? ⟨g, 1, none⟩ = some (.bool false) ∧ w.cell? ⟨g, 2, none⟩ = some (.int .i64 0) ∧ w.frozen? ⟨g, 0, none⟩ = false ∧ w.frozen? ⟨g, 1, none⟩ = false ∧ w.frozen? ⟨g, 2, none⟩ = false :=
  ⟨h.at_ 0, h.at_ 1, h.at_ 2, h.free 0, h.free 1, h.free 2⟩
theorem rtruth_any (b : Bool) (w : World) : Calls Tryd.prog 40 #[.bool b] w fun e w' => e = .returned (valV (b2 b)) ∧ Below w.heap.size w w' := by
  cases b
  · go_enter Tryd.func40, Tryd.ntmps40
    go_wp2
    refine bodyPost_ret (v := W.V 2 0 W.e0) (by simp [results, Tryd.results40, go_sem]) rfl ⟨rfl, ?_⟩
    repeat (first | (with_reducible exact Below.refl _ _) | (with_reducible refine M.blw_alloc _ ?_))
  · go_enter Tryd.func40, Tryd.ntmps40
    go_wp2
    refine bodyPost_ret (v := W.V 2 1 W.e0) (by simp [results, Tryd.results40, go_sem]) rfl ⟨rfl, ?_⟩
    repeat (first | (with_reducible exact Below.refl _ _) | (with_reducible refine M.blw_alloc _ ?_))
theorem good_ar (o : NumOp) {k1 n1 k2 n2 : Int} (h1 : M.Num k1 n1) (h2 : M.Num k2 n2) : (numR o k1 n1 k2 n2).2.2 = true → M.Num (numR o k1 n1 k2 n2).1 (numR o k1 n1 k2 n2).2.1 := by
  have good : ∀ {r : Int × Int × Bool}, M.Good r → r.2.2 = true → M.Num r.1 r.2.1 := by
    intro r h e
    rcases h with ⟨k, n, hn, rfl⟩ | rfl
    · exact hn
    · exact Bool.noConfusion e
  cases o
  · exact good (M.good_add h1 h2)
  · exact good (M.good_add h1 (M.num_neg _ _ h2))
  · exact good (M.Good.of_opp (M.mul_sign h1 h2))
  · exact good (M.Good.of_opp (M.div_sign h1 h2))
  · exact fun _ => M.num_rem h1
/-- Two numbers of the reference and a result in their boxes. -/
abbrev triN (w : World) (k1 : Int) (m1 : Bool) (s1 : Int) (k2 : Int) (m2 : Bool) (s2 : Int) : World :=
  ((w.alloc (.cells #[.int .u8 k1, .bool m1, .int .i64 s1] 73)).alloc (.cells #[.int .u8 k2, .bool m2, .int .i64 s2] 73)).alloc (.cells #[.int .i64 0, .int .i64 0, .string ⟨#[]⟩] 27)
section
variable (w : World) (k1 : Int) (m1 : Bool) (s1 : Int) (k2 : Int) (m2 : Bool) (s2 : Int)
theorem triN_x : Box (triN w k1 m1 s1 k2 m2 s2) w.heap.size 73 #[.int .u8 k1, .bool m1, .int .i64 s1] := ((Box.new _ _ _).more _).more _
theorem triN_y : Box (triN w k1 m1 s1 k2 m2 s2) (w.heap.size + 1) 73 #[.int .u8 k2, .bool m2, .int .i64 s2] := by
  have := (Box.new (w.alloc (.cells #[.int .u8 k1, .bool m1, .int .i64 s1] 73)) 73 #[.int .u8 k2, .bool m2, .int .i64 s2]).more (.cells #[.int .i64 0, .int .i64 0, .string ⟨#[]⟩] 27)
  simpa using this
theorem triN_r : Box (triN w k1 m1 s1 k2 m2 s2) (w.heap.size + 1 + 1) 27 #[.int .i64 0, .int .i64 0, .string ⟨#[]⟩] := by
  have := Box.new ((w.alloc (.cells #[.int .u8 k1, .bool m1, .int .i64 s1] 73)).alloc (.cells #[.int .u8 k2, .bool m2, .int .i64 s2] 73)) 27 #[.int .i64 0, .int .i64 0, .string ⟨#[]⟩]
  simpa using this
theorem triN_below : Below w.heap.size w (triN w k1 m1 s1 k2 m2 s2) := M.blw_alloc _ (M.blw_alloc _ (M.blw_alloc _ (Below.refl _ _)))
end

set_option maxRecDepth 100000 in
set_option maxHeartbeats 2000000 in
theorem reck_rem (a1 : Int) (m1 : Bool) (s1 : Int) (a2 : Int) (m2 : Bool) (s2 : Int) (ra : Int) (rm : Bool) (rs : Int) (k n : Int) (w : World)
    (HR : Veil (∀ wx, Calls Tryd.prog 62 #[M.nv a1 m1 s1, M.nv a2 m2 s2] wx fun e w' => e = .returned (M.nv ra rm rs) ∧ Below wx.heap.size wx w'))
    (HV : Veil (∀ wx, Calls Tryd.prog 63 #[M.nv ra rm rs] wx fun e w' => e = .returned (W.V k n W.e0) ∧ Below wx.heap.size wx w')) :
    Calls Tryd.prog 44 #[.string ⟨#[37]⟩, M.nv a1 m1 s1, M.nv a2 m2 s2] w fun e w' => e = .returned (.tuple #[W.V k n W.e0, .int .i64 0]) ∧ Below w.heap.size w w' := by
  obtain ⟨W0, hW⟩ : ∃ v, v = triN w a1 m1 s1 a2 m2 s2 := ⟨_, rfl⟩
  have hB : Below w.heap.size w W0 := hW ▸ triN_below w a1 m1 s1 a2 m2 s2
  have b1 := triN_x w a1 m1 s1 a2 m2 s2
  have b2' := triN_y w a1 m1 s1 a2 m2 s2
  have b3 := triN_r w a1 m1 s1 a2 m2 s2
  rw [← hW] at b1 b2' b3
  have hw0 := hW.symm
  unfold triN at hw0
  have HW := Lib.hid hw0
  clear hW hw0

  have p0 : W0.cell? ⟨w.heap.size, 0, none⟩ = some (.int .u8 a1) := b1.at_ 0
  have p1 : W0.cell? ⟨w.heap.size, 1, none⟩ = some (.bool m1) := b1.at_ 1
  have p2 : W0.cell? ⟨w.heap.size, 2, none⟩ = some (.int .i64 s1) := b1.at_ 2
  have q0 : W0.cell? ⟨w.heap.size + 1, 0, none⟩ = some (.int .u8 a2) := b2'.at_ 0
  have q1 : W0.cell? ⟨w.heap.size + 1, 1, none⟩ = some (.bool m2) := b2'.at_ 1
  have q2 : W0.cell? ⟨w.heap.size + 1, 2, none⟩ = some (.int .i64 s2) := b2'.at_ 2
  have B3 := Veil.mk b3
  clear b1 b2' b3
  · go_enter Tryd.func44, Tryd.ntmps44
    go_upto_region 1 with (fail)
    rw [HW.out]
    go_wp2_with (first | (go_at_call 62; ((with_reducible refine (HR.out _).mono ?_); rintro e w3 ⟨rfl, hb3⟩)) | (go_at_call 63; ((with_reducible refine (HV.out _).mono ?_); rintro e w4 ⟨rfl, hb4⟩; have hb34 := hb3.trans (hb4.mono hb3.size); have z3 := B3.out.on hb34 B3.out.lt; have z0 : w4.cell? ⟨w.heap.size + 1 + 1, 0, none⟩ = some (.int .i64 0) := z3.at_ 0; have z1 : w4.cell? ⟨w.heap.size + 1 + 1, 1, none⟩ = some (.int .i64 0) := z3.at_ 1; have z2 : w4.cell? ⟨w.heap.size + 1 + 1, 2, none⟩ = some (.string ⟨#[]⟩) := z3.at_ 2; have f0 := z3.free 0; have f1 := z3.free 1; have f2 := z3.free 2)))
    refine bodyPost_ret (v := .tuple #[W.V k n W.e0, .int .i64 0]) (by simp [results, Tryd.results44, go_sem, z0, z1, z2]) rfl ⟨rfl, ?_⟩
    exact (((hB.trans (hb34.mono hB.size)).setCell (p := ⟨w.heap.size + 1 + 1, 0, none⟩) (by show w.heap.size ≤ w.heap.size + 1 + 1; omega) _).setCell (p := ⟨w.heap.size + 1 + 1, 1, none⟩) (by show w.heap.size ≤ w.heap.size + 1 + 1; omega) _).setCell (p := ⟨w.heap.size + 1 + 1, 2, none⟩) (by show w.heap.size ≤ w.heap.size + 1 + 1; omega) _

set_option maxRecDepth 100000 in
set_option maxHeartbeats 2000000 in
theorem reck_q (a1 : Int) (m1 : Bool) (s1 : Int) (a2 : Int) (m2 : Bool) (s2 : Int) (w : World) :
    Calls Tryd.prog 44 #[.string ⟨#[63]⟩, M.nv a1 m1 s1, M.nv a2 m2 s2] w fun e w' => e = .returned (.tuple #[W.V 0 0 W.e0, .int .i64 2]) ∧ Below w.heap.size w w' := by
  go_enter Tryd.func44, Tryd.ntmps44
  go_wp2
  refine bodyPost_ret (v := .tuple #[W.V 0 0 W.e0, .int .i64 2]) (by simp [results, Tryd.results44, go_sem]) rfl ⟨rfl, ?_⟩
  exact M.blw_alloc _ (M.blw_alloc _ (M.blw_alloc _ (Below.refl _ _)))

set_option maxRecDepth 100000 in
set_option maxHeartbeats 4000000 in
theorem reck_add (a1 : Int) (m1 : Bool) (s1 : Int) (a2 : Int) (m2 : Bool) (s2 : Int) (ra : Int) (rm : Bool) (rs : Int) (ro : Bool) (k n : Int) (w : World)
    (HR : Veil (∀ wx, Calls Tryd.prog 64 #[.int .u8 43, M.nv a1 m1 s1, M.nv a2 m2 s2] wx fun e w' => e = .returned (.tuple #[M.nv ra rm rs, .bool ro]) ∧ Below wx.heap.size wx w'))
    (HV : Veil (ro = true → ∀ wx, Calls Tryd.prog 63 #[M.nv ra rm rs] wx fun e w' => e = .returned (W.V k n W.e0) ∧ Below wx.heap.size wx w')) :
    Calls Tryd.prog 44 #[.string ⟨#[43]⟩, M.nv a1 m1 s1, M.nv a2 m2 s2] w fun e w' => e = .returned (if ro = true then .tuple #[W.V k n W.e0, .int .i64 0] else .tuple #[W.V 0 0 W.e0, .int .i64 2]) ∧ Below w.heap.size w w' := by
  obtain ⟨W0, hW⟩ : ∃ v, v = triN w a1 m1 s1 a2 m2 s2 := ⟨_, rfl⟩
  have hB : Below w.heap.size w W0 := hW ▸ triN_below w a1 m1 s1 a2 m2 s2
  have b1 := triN_x w a1 m1 s1 a2 m2 s2
  have b2' := triN_y w a1 m1 s1 a2 m2 s2
  have b3 := triN_r w a1 m1 s1 a2 m2 s2
  rw [← hW] at b1 b2' b3
  have hw0 := hW.symm
  unfold triN at hw0
  have HW := Lib.hid hw0
  clear hW hw0

  have p0 : W0.cell? ⟨w.heap.size, 0, none⟩ = some (.int .u8 a1) := b1.at_ 0
  have p1 : W0.cell? ⟨w.heap.size, 1, none⟩ = some (.bool m1) := b1.at_ 1
  have p2 : W0.cell? ⟨w.heap.size, 2, none⟩ = some (.int .i64 s1) := b1.at_ 2
  have q0 : W0.cell? ⟨w.heap.size + 1, 0, none⟩ = some (.int .u8 a2) := b2'.at_ 0
  have q1 : W0.cell? ⟨w.heap.size + 1, 1, none⟩ = some (.bool m2) := b2'.at_ 1
  have q2 : W0.cell? ⟨w.heap.size + 1, 2, none⟩ = some (.int .i64 s2) := b2'.at_ 2
  have B3 := Veil.mk b3
  have HS := Veil.mk (And.intro b1 b2')
  clear b1 b2' b3
  replace HR : Veil (∀ wx, Calls Tryd.prog 64 #[.int .u8 ((((⟨#[43]⟩ : ByteArray)[0]'(by decide)).toNat : Nat) : Int), M.nv a1 m1 s1, M.nv a2 m2 s2] wx fun e w' => e = .returned (.tuple #[M.nv ra rm rs, .bool ro]) ∧ Below wx.heap.size wx w') := ⟨HR.out⟩
  cases ro
  · rw [if_neg (by decide)]
    clear HV
    go_enter Tryd.func44, Tryd.ntmps44
    go_upto_region 1 with (fail)
    rw [HW.out]
    go_upto_region 5 with (fail)
    go_cut [8, 9] (fun sa sb wx => ∃ g : Nat, sa = .pointer (some ⟨g, 0, none⟩) ∧ sb = .bool false ∧ Box wx g 73 #[.int .u8 ra, .bool rm, .int .i64 rs] ∧ Below W0.heap.size W0 wx)
    case first =>
      go_region_held3 (fun w' => w'.cell? ⟨w.heap.size, 0, none⟩ = some (.int .u8 a1) ∧ w'.cell? ⟨w.heap.size, 1, none⟩ = some (.bool m1) ∧ w'.cell? ⟨w.heap.size, 2, none⟩ = some (.int .i64 s1) ∧ w'.cell? ⟨w.heap.size + 1, 0, none⟩ = some (.int .u8 a2) ∧ w'.cell? ⟨w.heap.size + 1, 1, none⟩ = some (.bool m2) ∧ w'.cell? ⟨w.heap.size + 1, 2, none⟩ = some (.int .i64 s2)) (first | (refine (fun (hq : Below W0.heap.size W0 _) => (⟨(HS.out.1.on hq HS.out.1.lt).at_ 0, (HS.out.1.on hq HS.out.1.lt).at_ 1, (HS.out.1.on hq HS.out.1.lt).at_ 2, (HS.out.2.on hq HS.out.2.lt).at_ 0, (HS.out.2.on hq HS.out.2.lt).at_ 1, (HS.out.2.on hq HS.out.2.lt).at_ 2⟩ : _ ∧ _ ∧ _ ∧ _ ∧ _ ∧ _)) ?_; repeat (first | (with_reducible exact Below.refl _ _) | (with_reducible refine Below.drew ?_) | (with_reducible refine M.blw_alloc _ ?_) | (with_reducible refine M.blw_call ?_ hb2) | (refine Below.setCell ?_ (by first | (simp; done) | (have := hb2.size; simp at this ⊢; omega)) _)))) (first | (go_at_call 64; ((with_reducible refine (HR.out _).mono ?_); rintro e w2 ⟨rfl, hb2⟩; (try ((first | have yb := (Box.new _ 73 #[.int .u8 0, .bool false, .int .i64 0]).on hb2 (by simp) | have yb := (bdrN (Box.new _ 73 #[.int .u8 0, .bool false, .int .i64 0])).on hb2 (by simp)); (try simp at yb); obtain ⟨v0, v1, v2, v3, v4, v5⟩ := zbN yb; have vl := yb.lt; have vm := Nat.ne_of_lt vl; have vn := Ne.symm vm; have YB := Veil.mk yb; clear yb)))))
      all_goals
        go_wp2_with fail
        go_meet
        first
          | exact ⟨W0.heap.size, rfl, rfl, ((YB.out.put 0 _).put 1 _).put 2 _, by repeat (first | (with_reducible exact Below.refl _ _) | (with_reducible refine Below.drew ?_) | (with_reducible refine M.blw_alloc _ ?_) | (with_reducible refine M.blw_call ?_ hb2) | (refine Below.setCell ?_ (by first | (simp; done) | (have := hb2.size; simp at this ⊢; omega)) _))⟩
          | exact ⟨w2.heap.size, rfl, rfl, Box.new _ _ _, by repeat (first | (with_reducible exact Below.refl _ _) | (with_reducible refine Below.drew ?_) | (with_reducible refine M.blw_alloc _ ?_) | (with_reducible refine M.blw_call ?_ hb2) | (refine Below.setCell ?_ (by first | (simp; done) | (have := hb2.size; simp at this ⊢; omega)) _))⟩
    case rest =>
    obtain ⟨g8, rfl, rfl, bq, hb⟩ := hcut
    obtain ⟨w5, hw⟩ : ∃ v, v = wc := ⟨_, rfl⟩
    rw [← hw] at bq hb ⊢
    clear hw
    replace B3 := Veil.mk (B3.out.on hb B3.out.lt)
    have HB5 := Veil.mk (hB.trans (hb.mono hB.size))
    clear bq hb HS HR p0 p1 p2 q0 q1 q2
    have z0 : w5.cell? ⟨w.heap.size + 1 + 1, 0, none⟩ = some (.int .i64 0) := B3.out.at_ 0
    have z1 : w5.cell? ⟨w.heap.size + 1 + 1, 1, none⟩ = some (.int .i64 0) := B3.out.at_ 1
    have z2 : w5.cell? ⟨w.heap.size + 1 + 1, 2, none⟩ = some (.string ⟨#[]⟩) := B3.out.at_ 2
    have f0 := B3.out.free 0
    have f1 := B3.out.free 1
    have f2 := B3.out.free 2
    go_wp2
    refine bodyPost_ret (v := .tuple #[W.V 0 0 W.e0, .int .i64 2]) (by simp [results, Tryd.results44, go_sem, z0, z1, z2]) rfl ⟨rfl, ?_⟩
    exact (((HB5.out).setCell (p := ⟨w.heap.size + 1 + 1, 0, none⟩) (by show w.heap.size ≤ w.heap.size + 1 + 1; omega) _).setCell (p := ⟨w.heap.size + 1 + 1, 1, none⟩) (by show w.heap.size ≤ w.heap.size + 1 + 1; omega) _).setCell (p := ⟨w.heap.size + 1 + 1, 2, none⟩) (by show w.heap.size ≤ w.heap.size + 1 + 1; omega) _
  · rw [if_pos rfl]
    replace HV := Veil.mk (HV.out rfl)
    go_enter Tryd.func44, Tryd.ntmps44
    go_upto_region 1 with (fail)
    rw [HW.out]
    go_upto_region 5 with (fail)
    go_cut [8, 9] (fun sa sb wx => ∃ g : Nat, sa = .pointer (some ⟨g, 0, none⟩) ∧ sb = .bool true ∧ Box wx g 73 #[.int .u8 ra, .bool rm, .int .i64 rs] ∧ Below W0.heap.size W0 wx)
    case first =>
      go_region_held3 (fun w' => w'.cell? ⟨w.heap.size, 0, none⟩ = some (.int .u8 a1) ∧ w'.cell? ⟨w.heap.size, 1, none⟩ = some (.bool m1) ∧ w'.cell? ⟨w.heap.size, 2, none⟩ = some (.int .i64 s1) ∧ w'.cell? ⟨w.heap.size + 1, 0, none⟩ = some (.int .u8 a2) ∧ w'.cell? ⟨w.heap.size + 1, 1, none⟩ = some (.bool m2) ∧ w'.cell? ⟨w.heap.size + 1, 2, none⟩ = some (.int .i64 s2)) (first | (refine (fun (hq : Below W0.heap.size W0 _) => (⟨(HS.out.1.on hq HS.out.1.lt).at_ 0, (HS.out.1.on hq HS.out.1.lt).at_ 1, (HS.out.1.on hq HS.out.1.lt).at_ 2, (HS.out.2.on hq HS.out.2.lt).at_ 0, (HS.out.2.on hq HS.out.2.lt).at_ 1, (HS.out.2.on hq HS.out.2.lt).at_ 2⟩ : _ ∧ _ ∧ _ ∧ _ ∧ _ ∧ _)) ?_; repeat (first | (with_reducible exact Below.refl _ _) | (with_reducible refine Below.drew ?_) | (with_reducible refine M.blw_alloc _ ?_) | (with_reducible refine M.blw_call ?_ hb2) | (refine Below.setCell ?_ (by first | (simp; done) | (have := hb2.size; simp at this ⊢; omega)) _)))) (first | (go_at_call 64; ((with_reducible refine (HR.out _).mono ?_); rintro e w2 ⟨rfl, hb2⟩; (try ((first | have yb := (Box.new _ 73 #[.int .u8 0, .bool false, .int .i64 0]).on hb2 (by simp) | have yb := (bdrN (Box.new _ 73 #[.int .u8 0, .bool false, .int .i64 0])).on hb2 (by simp)); (try simp at yb); obtain ⟨v0, v1, v2, v3, v4, v5⟩ := zbN yb; have vl := yb.lt; have vm := Nat.ne_of_lt vl; have vn := Ne.symm vm; have YB := Veil.mk yb; clear yb)))))
      all_goals
        go_wp2_with fail
        go_meet
        first
          | exact ⟨W0.heap.size, rfl, rfl, ((YB.out.put 0 _).put 1 _).put 2 _, by repeat (first | (with_reducible exact Below.refl _ _) | (with_reducible refine Below.drew ?_) | (with_reducible refine M.blw_alloc _ ?_) | (with_reducible refine M.blw_call ?_ hb2) | (refine Below.setCell ?_ (by first | (simp; done) | (have := hb2.size; simp at this ⊢; omega)) _))⟩
          | exact ⟨w2.heap.size, rfl, rfl, Box.new _ _ _, by repeat (first | (with_reducible exact Below.refl _ _) | (with_reducible refine Below.drew ?_) | (with_reducible refine M.blw_alloc _ ?_) | (with_reducible refine M.blw_call ?_ hb2) | (refine Below.setCell ?_ (by first | (simp; done) | (have := hb2.size; simp at this ⊢; omega)) _))⟩
    case rest =>
    obtain ⟨g8, rfl, rfl, bq, hb⟩ := hcut
    obtain ⟨w5, hw⟩ : ∃ v, v = wc := ⟨_, rfl⟩
    rw [← hw] at bq hb ⊢
    clear hw
    replace B3 := Veil.mk (B3.out.on hb B3.out.lt)
    have HB5 := Veil.mk (hB.trans (hb.mono hB.size))
    have r0 : w5.cell? ⟨g8, 0, none⟩ = some (.int .u8 ra) := bq.at_ 0
    have r1 : w5.cell? ⟨g8, 1, none⟩ = some (.bool rm) := bq.at_ 1
    have r2 : w5.cell? ⟨g8, 2, none⟩ = some (.int .i64 rs) := bq.at_ 2
    clear bq hb HS HR p0 p1 p2 q0 q1 q2
    go_wp2_with (first | (go_at_call 63; ((with_reducible refine (HV.out _).mono ?_); rintro e w3 ⟨rfl, hb3⟩; have z3 := B3.out.on hb3 B3.out.lt; have z0 : w3.cell? ⟨w.heap.size + 1 + 1, 0, none⟩ = some (.int .i64 0) := z3.at_ 0; have z1 : w3.cell? ⟨w.heap.size + 1 + 1, 1, none⟩ = some (.int .i64 0) := z3.at_ 1; have z2 : w3.cell? ⟨w.heap.size + 1 + 1, 2, none⟩ = some (.string ⟨#[]⟩) := z3.at_ 2; have f0 := z3.free 0; have f1 := z3.free 1; have f2 := z3.free 2)))
    refine bodyPost_ret (v := .tuple #[W.V k n W.e0, .int .i64 0]) (by simp [results, Tryd.results44, go_sem, z0, z1, z2]) rfl ⟨rfl, ?_⟩
    exact (((HB5.out.trans (hb3.mono HB5.out.size)).setCell (p := ⟨w.heap.size + 1 + 1, 0, none⟩) (by show w.heap.size ≤ w.heap.size + 1 + 1; omega) _).setCell (p := ⟨w.heap.size + 1 + 1, 1, none⟩) (by show w.heap.size ≤ w.heap.size + 1 + 1; omega) _).setCell (p := ⟨w.heap.size + 1 + 1, 2, none⟩) (by show w.heap.size ≤ w.heap.size + 1 + 1; omega) _

set_option maxRecDepth 100000 in
set_option maxHeartbeats 4000000 in
theorem reck_sub (a1 : Int) (m1 : Bool) (s1 : Int) (a2 : Int) (m2 : Bool) (s2 : Int) (ra : Int) (rm : Bool) (rs : Int) (ro : Bool) (k n : Int) (w : World)
    (HR : Veil (∀ wx, Calls Tryd.prog 64 #[.int .u8 45, M.nv a1 m1 s1, M.nv a2 m2 s2] wx fun e w' => e = .returned (.tuple #[M.nv ra rm rs, .bool ro]) ∧ Below wx.heap.size wx w'))
    (HV : Veil (ro = true → ∀ wx, Calls Tryd.prog 63 #[M.nv ra rm rs] wx fun e w' => e = .returned (W.V k n W.e0) ∧ Below wx.heap.size wx w')) :
    Calls Tryd.prog 44 #[.string ⟨#[45]⟩, M.nv a1 m1 s1, M.nv a2 m2 s2] w fun e w' => e = .returned (if ro = true then .tuple #[W.V k n W.e0, .int .i64 0] else .tuple #[W.V 0 0 W.e0, .int .i64 2]) ∧ Below w.heap.size w w' := by
  obtain ⟨W0, hW⟩ : ∃ v, v = triN w a1 m1 s1 a2 m2 s2 := ⟨_, rfl⟩
  have hB : Below w.heap.size w W0 := hW ▸ triN_below w a1 m1 s1 a2 m2 s2
  have b1 := triN_x w a1 m1 s1 a2 m2 s2
  have b2' := triN_y w a1 m1 s1 a2 m2 s2
  have b3 := triN_r w a1 m1 s1 a2 m2 s2
  rw [← hW] at b1 b2' b3
  have hw0 := hW.symm
  unfold triN at hw0
  have HW := Lib.hid hw0
  clear hW hw0

  have p0 : W0.cell? ⟨w.heap.size, 0, none⟩ = some (.int .u8 a1) := b1.at_ 0
  have p1 : W0.cell? ⟨w.heap.size, 1, none⟩ = some (.bool m1) := b1.at_ 1
  have p2 : W0.cell? ⟨w.heap.size, 2, none⟩ = some (.int .i64 s1) := b1.at_ 2
  have q0 : W0.cell? ⟨w.heap.size + 1, 0, none⟩ = some (.int .u8 a2) := b2'.at_ 0
  have q1 : W0.cell? ⟨w.heap.size + 1, 1, none⟩ = some (.bool m2) := b2'.at_ 1
  have q2 : W0.cell? ⟨w.heap.size + 1, 2, none⟩ = some (.int .i64 s2) := b2'.at_ 2
  have B3 := Veil.mk b3
  have HS := Veil.mk (And.intro b1 b2')
  clear b1 b2' b3
  replace HR : Veil (∀ wx, Calls Tryd.prog 64 #[.int .u8 ((((⟨#[45]⟩ : ByteArray)[0]'(by decide)).toNat : Nat) : Int), M.nv a1 m1 s1, M.nv a2 m2 s2] wx fun e w' => e = .returned (.tuple #[M.nv ra rm rs, .bool ro]) ∧ Below wx.heap.size wx w') := ⟨HR.out⟩
  cases ro
  · rw [if_neg (by decide)]
    clear HV
    go_enter Tryd.func44, Tryd.ntmps44
    go_upto_region 1 with (fail)
    rw [HW.out]
    go_upto_region 5 with (fail)
    go_cut [8, 9] (fun sa sb wx => ∃ g : Nat, sa = .pointer (some ⟨g, 0, none⟩) ∧ sb = .bool false ∧ Box wx g 73 #[.int .u8 ra, .bool rm, .int .i64 rs] ∧ Below W0.heap.size W0 wx)
    case first =>
      go_region_held3 (fun w' => w'.cell? ⟨w.heap.size, 0, none⟩ = some (.int .u8 a1) ∧ w'.cell? ⟨w.heap.size, 1, none⟩ = some (.bool m1) ∧ w'.cell? ⟨w.heap.size, 2, none⟩ = some (.int .i64 s1) ∧ w'.cell? ⟨w.heap.size + 1, 0, none⟩ = some (.int .u8 a2) ∧ w'.cell? ⟨w.heap.size + 1, 1, none⟩ = some (.bool m2) ∧ w'.cell? ⟨w.heap.size + 1, 2, none⟩ = some (.int .i64 s2)) (first | (refine (fun (hq : Below W0.heap.size W0 _) => (⟨(HS.out.1.on hq HS.out.1.lt).at_ 0, (HS.out.1.on hq HS.out.1.lt).at_ 1, (HS.out.1.on hq HS.out.1.lt).at_ 2, (HS.out.2.on hq HS.out.2.lt).at_ 0, (HS.out.2.on hq HS.out.2.lt).at_ 1, (HS.out.2.on hq HS.out.2.lt).at_ 2⟩ : _ ∧ _ ∧ _ ∧ _ ∧ _ ∧ _)) ?_; repeat (first | (with_reducible exact Below.refl _ _) | (with_reducible refine Below.drew ?_) | (with_reducible refine M.blw_alloc _ ?_) | (with_reducible refine M.blw_call ?_ hb2) | (refine Below.setCell ?_ (by first | (simp; done) | (have := hb2.size; simp at this ⊢; omega)) _)))) (first | (go_at_call 64; ((with_reducible refine (HR.out _).mono ?_); rintro e w2 ⟨rfl, hb2⟩; (try ((first | have yb := (Box.new _ 73 #[.int .u8 0, .bool false, .int .i64 0]).on hb2 (by simp) | have yb := (bdrN (Box.new _ 73 #[.int .u8 0, .bool false, .int .i64 0])).on hb2 (by simp)); (try simp at yb); obtain ⟨v0, v1, v2, v3, v4, v5⟩ := zbN yb; have vl := yb.lt; have vm := Nat.ne_of_lt vl; have vn := Ne.symm vm; have YB := Veil.mk yb; clear yb)))))
      all_goals
        go_wp2_with fail
        go_meet
        first
          | exact ⟨W0.heap.size, rfl, rfl, ((YB.out.put 0 _).put 1 _).put 2 _, by repeat (first | (with_reducible exact Below.refl _ _) | (with_reducible refine Below.drew ?_) | (with_reducible refine M.blw_alloc _ ?_) | (with_reducible refine M.blw_call ?_ hb2) | (refine Below.setCell ?_ (by first | (simp; done) | (have := hb2.size; simp at this ⊢; omega)) _))⟩
          | exact ⟨w2.heap.size, rfl, rfl, Box.new _ _ _, by repeat (first | (with_reducible exact Below.refl _ _) | (with_reducible refine Below.drew ?_) | (with_reducible refine M.blw_alloc _ ?_) | (with_reducible refine M.blw_call ?_ hb2) | (refine Below.setCell ?_ (by first | (simp; done) | (have := hb2.size; simp at this ⊢; omega)) _))⟩
    case rest =>
    obtain ⟨g8, rfl, rfl, bq, hb⟩ := hcut
    obtain ⟨w5, hw⟩ : ∃ v, v = wc := ⟨_, rfl⟩
    rw [← hw] at bq hb ⊢
    clear hw
    replace B3 := Veil.mk (B3.out.on hb B3.out.lt)
    have HB5 := Veil.mk (hB.trans (hb.mono hB.size))
    clear bq hb HS HR p0 p1 p2 q0 q1 q2
    have z0 : w5.cell? ⟨w.heap.size + 1 + 1, 0, none⟩ = some (.int .i64 0) := B3.out.at_ 0
    have z1 : w5.cell? ⟨w.heap.size + 1 + 1, 1, none⟩ = some (.int .i64 0) := B3.out.at_ 1
    have z2 : w5.cell? ⟨w.heap.size + 1 + 1, 2, none⟩ = some (.string ⟨#[]⟩) := B3.out.at_ 2
    have f0 := B3.out.free 0
    have f1 := B3.out.free 1
    have f2 := B3.out.free 2
    go_wp2
    refine bodyPost_ret (v := .tuple #[W.V 0 0 W.e0, .int .i64 2]) (by simp [results, Tryd.results44, go_sem, z0, z1, z2]) rfl ⟨rfl, ?_⟩
    exact (((HB5.out).setCell (p := ⟨w.heap.size + 1 + 1, 0, none⟩) (by show w.heap.size ≤ w.heap.size + 1 + 1; omega) _).setCell (p := ⟨w.heap.size + 1 + 1, 1, none⟩) (by show w.heap.size ≤ w.heap.size + 1 + 1; omega) _).setCell (p := ⟨w.heap.size + 1 + 1, 2, none⟩) (by show w.heap.size ≤ w.heap.size + 1 + 1; omega) _
  · rw [if_pos rfl]
    replace HV := Veil.mk (HV.out rfl)
    go_enter Tryd.func44, Tryd.ntmps44
    go_upto_region 1 with (fail)
    rw [HW.out]
    go_upto_region 5 with (fail)
    go_cut [8, 9] (fun sa sb wx => ∃ g : Nat, sa = .pointer (some ⟨g, 0, none⟩) ∧ sb = .bool true ∧ Box wx g 73 #[.int .u8 ra, .bool rm, .int .i64 rs] ∧ Below W0.heap.size W0 wx)
    case first =>
      go_region_held3 (fun w' => w'.cell? ⟨w.heap.size, 0, none⟩ = some (.int .u8 a1) ∧ w'.cell? ⟨w.heap.size, 1, none⟩ = some (.bool m1) ∧ w'.cell? ⟨w.heap.size, 2, none⟩ = some (.int .i64 s1) ∧ w'.cell? ⟨w.heap.size + 1, 0, none⟩ = some (.int .u8 a2) ∧ w'.cell? ⟨w.heap.size + 1, 1, none⟩ = some (.bool m2) ∧ w'.cell? ⟨w.heap.size + 1, 2, none⟩ = some (.int .i64 s2)) (first | (refine (fun (hq : Below W0.heap.size W0 _) => (⟨(HS.out.1.on hq HS.out.1.lt).at_ 0, (HS.out.1.on hq HS.out.1.lt).at_ 1, (HS.out.1.on hq HS.out.1.lt).at_ 2, (HS.out.2.on hq HS.out.2.lt).at_ 0, (HS.out.2.on hq HS.out.2.lt).at_ 1, (HS.out.2.on hq HS.out.2.lt).at_ 2⟩ : _ ∧ _ ∧ _ ∧ _ ∧ _ ∧ _)) ?_; repeat (first | (with_reducible exact Below.refl _ _) | (with_reducible refine Below.drew ?_) | (with_reducible refine M.blw_alloc _ ?_) | (with_reducible refine M.blw_call ?_ hb2) | (refine Below.setCell ?_ (by first | (simp; done) | (have := hb2.size; simp at this ⊢; omega)) _)))) (first | (go_at_call 64; ((with_reducible refine (HR.out _).mono ?_); rintro e w2 ⟨rfl, hb2⟩; (try ((first | have yb := (Box.new _ 73 #[.int .u8 0, .bool false, .int .i64 0]).on hb2 (by simp) | have yb := (bdrN (Box.new _ 73 #[.int .u8 0, .bool false, .int .i64 0])).on hb2 (by simp)); (try simp at yb); obtain ⟨v0, v1, v2, v3, v4, v5⟩ := zbN yb; have vl := yb.lt; have vm := Nat.ne_of_lt vl; have vn := Ne.symm vm; have YB := Veil.mk yb; clear yb)))))
      all_goals
        go_wp2_with fail
        go_meet
        first
          | exact ⟨W0.heap.size, rfl, rfl, ((YB.out.put 0 _).put 1 _).put 2 _, by repeat (first | (with_reducible exact Below.refl _ _) | (with_reducible refine Below.drew ?_) | (with_reducible refine M.blw_alloc _ ?_) | (with_reducible refine M.blw_call ?_ hb2) | (refine Below.setCell ?_ (by first | (simp; done) | (have := hb2.size; simp at this ⊢; omega)) _))⟩
          | exact ⟨w2.heap.size, rfl, rfl, Box.new _ _ _, by repeat (first | (with_reducible exact Below.refl _ _) | (with_reducible refine Below.drew ?_) | (with_reducible refine M.blw_alloc _ ?_) | (with_reducible refine M.blw_call ?_ hb2) | (refine Below.setCell ?_ (by first | (simp; done) | (have := hb2.size; simp at this ⊢; omega)) _))⟩
    case rest =>
    obtain ⟨g8, rfl, rfl, bq, hb⟩ := hcut
    obtain ⟨w5, hw⟩ : ∃ v, v = wc := ⟨_, rfl⟩
    rw [← hw] at bq hb ⊢
    clear hw
    replace B3 := Veil.mk (B3.out.on hb B3.out.lt)
    have HB5 := Veil.mk (hB.trans (hb.mono hB.size))
    have r0 : w5.cell? ⟨g8, 0, none⟩ = some (.int .u8 ra) := bq.at_ 0
    have r1 : w5.cell? ⟨g8, 1, none⟩ = some (.bool rm) := bq.at_ 1
    have r2 : w5.cell? ⟨g8, 2, none⟩ = some (.int .i64 rs) := bq.at_ 2
    clear bq hb HS HR p0 p1 p2 q0 q1 q2
    go_wp2_with (first | (go_at_call 63; ((with_reducible refine (HV.out _).mono ?_); rintro e w3 ⟨rfl, hb3⟩; have z3 := B3.out.on hb3 B3.out.lt; have z0 : w3.cell? ⟨w.heap.size + 1 + 1, 0, none⟩ = some (.int .i64 0) := z3.at_ 0; have z1 : w3.cell? ⟨w.heap.size + 1 + 1, 1, none⟩ = some (.int .i64 0) := z3.at_ 1; have z2 : w3.cell? ⟨w.heap.size + 1 + 1, 2, none⟩ = some (.string ⟨#[]⟩) := z3.at_ 2; have f0 := z3.free 0; have f1 := z3.free 1; have f2 := z3.free 2)))
    refine bodyPost_ret (v := .tuple #[W.V k n W.e0, .int .i64 0]) (by simp [results, Tryd.results44, go_sem, z0, z1, z2]) rfl ⟨rfl, ?_⟩
    exact (((HB5.out.trans (hb3.mono HB5.out.size)).setCell (p := ⟨w.heap.size + 1 + 1, 0, none⟩) (by show w.heap.size ≤ w.heap.size + 1 + 1; omega) _).setCell (p := ⟨w.heap.size + 1 + 1, 1, none⟩) (by show w.heap.size ≤ w.heap.size + 1 + 1; omega) _).setCell (p := ⟨w.heap.size + 1 + 1, 2, none⟩) (by show w.heap.size ≤ w.heap.size + 1 + 1; omega) _

set_option maxRecDepth 100000 in
set_option maxHeartbeats 4000000 in
theorem reck_mul (a1 : Int) (m1 : Bool) (s1 : Int) (a2 : Int) (m2 : Bool) (s2 : Int) (ra : Int) (rm : Bool) (rs : Int) (ro : Bool) (k n : Int) (w : World)
    (HR : Veil (∀ wx, Calls Tryd.prog 64 #[.int .u8 42, M.nv a1 m1 s1, M.nv a2 m2 s2] wx fun e w' => e = .returned (.tuple #[M.nv ra rm rs, .bool ro]) ∧ Below wx.heap.size wx w'))
    (HV : Veil (ro = true → ∀ wx, Calls Tryd.prog 63 #[M.nv ra rm rs] wx fun e w' => e = .returned (W.V k n W.e0) ∧ Below wx.heap.size wx w')) :
    Calls Tryd.prog 44 #[.string ⟨#[42]⟩, M.nv a1 m1 s1, M.nv a2 m2 s2] w fun e w' => e = .returned (if ro = true then .tuple #[W.V k n W.e0, .int .i64 0] else .tuple #[W.V 0 0 W.e0, .int .i64 2]) ∧ Below w.heap.size w w' := by
  obtain ⟨W0, hW⟩ : ∃ v, v = triN w a1 m1 s1 a2 m2 s2 := ⟨_, rfl⟩
  have hB : Below w.heap.size w W0 := hW ▸ triN_below w a1 m1 s1 a2 m2 s2
  have b1 := triN_x w a1 m1 s1 a2 m2 s2
  have b2' := triN_y w a1 m1 s1 a2 m2 s2
  have b3 := triN_r w a1 m1 s1 a2 m2 s2
  rw [← hW] at b1 b2' b3
  have hw0 := hW.symm
  unfold triN at hw0
  have HW := Lib.hid hw0
  clear hW hw0

  have p0 : W0.cell? ⟨w.heap.size, 0, none⟩ = some (.int .u8 a1) := b1.at_ 0
  have p1 : W0.cell? ⟨w.heap.size, 1, none⟩ = some (.bool m1) := b1.at_ 1
  have p2 : W0.cell? ⟨w.heap.size, 2, none⟩ = some (.int .i64 s1) := b1.at_ 2
  have q0 : W0.cell? ⟨w.heap.size + 1, 0, none⟩ = some (.int .u8 a2) := b2'.at_ 0
  have q1 : W0.cell? ⟨w.heap.size + 1, 1, none⟩ = some (.bool m2) := b2'.at_ 1
  have q2 : W0.cell? ⟨w.heap.size + 1, 2, none⟩ = some (.int .i64 s2) := b2'.at_ 2
  have B3 := Veil.mk b3
  have HS := Veil.mk (And.intro b1 b2')
  clear b1 b2' b3
  replace HR : Veil (∀ wx, Calls Tryd.prog 64 #[.int .u8 ((((⟨#[42]⟩ : ByteArray)[0]'(by decide)).toNat : Nat) : Int), M.nv a1 m1 s1, M.nv a2 m2 s2] wx fun e w' => e = .returned (.tuple #[M.nv ra rm rs, .bool ro]) ∧ Below wx.heap.size wx w') := ⟨HR.out⟩
  cases ro
  · rw [if_neg (by decide)]
    clear HV
    go_enter Tryd.func44, Tryd.ntmps44
    go_upto_region 1 with (fail)
    rw [HW.out]
    go_upto_region 5 with (fail)
    go_cut [8, 9] (fun sa sb wx => ∃ g : Nat, sa = .pointer (some ⟨g, 0, none⟩) ∧ sb = .bool false ∧ Box wx g 73 #[.int .u8 ra, .bool rm, .int .i64 rs] ∧ Below W0.heap.size W0 wx)
    case first =>
      go_region_held3 (fun w' => w'.cell? ⟨w.heap.size, 0, none⟩ = some (.int .u8 a1) ∧ w'.cell? ⟨w.heap.size, 1, none⟩ = some (.bool m1) ∧ w'.cell? ⟨w.heap.size, 2, none⟩ = some (.int .i64 s1) ∧ w'.cell? ⟨w.heap.size + 1, 0, none⟩ = some (.int .u8 a2) ∧ w'.cell? ⟨w.heap.size + 1, 1, none⟩ = some (.bool m2) ∧ w'.cell? ⟨w.heap.size + 1, 2, none⟩ = some (.int .i64 s2)) (first | (refine (fun (hq : Below W0.heap.size W0 _) => (⟨(HS.out.1.on hq HS.out.1.lt).at_ 0, (HS.out.1.on hq HS.out.1.lt).at_ 1, (HS.out.1.on hq HS.out.1.lt).at_ 2, (HS.out.2.on hq HS.out.2.lt).at_ 0, (HS.out.2.on hq HS.out.2.lt).at_ 1, (HS.out.2.on hq HS.out.2.lt).at_ 2⟩ : _ ∧ _ ∧ _ ∧ _ ∧ _ ∧ _)) ?_; repeat (first | (with_reducible exact Below.refl _ _) | (with_reducible refine Below.drew ?_) | (with_reducible refine M.blw_alloc _ ?_) | (with_reducible refine M.blw_call ?_ hb2) | (refine Below.setCell ?_ (by first | (simp; done) | (have := hb2.size; simp at this ⊢; omega)) _)))) (first | (go_at_call 64; ((with_reducible refine (HR.out _).mono ?_); rintro e w2 ⟨rfl, hb2⟩; (try ((first | have yb := (Box.new _ 73 #[.int .u8 0, .bool false, .int .i64 0]).on hb2 (by simp) | have yb := (bdrN (Box.new _ 73 #[.int .u8 0, .bool false, .int .i64 0])).on hb2 (by simp)); (try simp at yb); obtain ⟨v0, v1, v2, v3, v4, v5⟩ := zbN yb; have vl := yb.lt; have vm := Nat.ne_of_lt vl; have vn := Ne.symm vm; have YB := Veil.mk yb; clear yb)))))
      all_goals
        go_wp2_with fail
        go_meet
        first
          | exact ⟨W0.heap.size, rfl, rfl, ((YB.out.put 0 _).put 1 _).put 2 _, by repeat (first | (with_reducible exact Below.refl _ _) | (with_reducible refine Below.drew ?_) | (with_reducible refine M.blw_alloc _ ?_) | (with_reducible refine M.blw_call ?_ hb2) | (refine Below.setCell ?_ (by first | (simp; done) | (have := hb2.size; simp at this ⊢; omega)) _))⟩
          | exact ⟨w2.heap.size, rfl, rfl, Box.new _ _ _, by repeat (first | (with_reducible exact Below.refl _ _) | (with_reducible refine Below.drew ?_) | (with_reducible refine M.blw_alloc _ ?_) | (with_reducible refine M.blw_call ?_ hb2) | (refine Below.setCell ?_ (by first | (simp; done) | (have := hb2.size; simp at this ⊢; omega)) _))⟩
    case rest =>
    obtain ⟨g8, rfl, rfl, bq, hb⟩ := hcut
    obtain ⟨w5, hw⟩ : ∃ v, v = wc := ⟨_, rfl⟩
    rw [← hw] at bq hb ⊢
    clear hw
    replace B3 := Veil.mk (B3.out.on hb B3.out.lt)
    have HB5 := Veil.mk (hB.trans (hb.mono hB.size))
    clear bq hb HS HR p0 p1 p2 q0 q1 q2
    have z0 : w5.cell? ⟨w.heap.size + 1 + 1, 0, none⟩ = some (.int .i64 0) := B3.out.at_ 0
    have z1 : w5.cell? ⟨w.heap.size + 1 + 1, 1, none⟩ = some (.int .i64 0) := B3.out.at_ 1
    have z2 : w5.cell? ⟨w.heap.size + 1 + 1, 2, none⟩ = some (.string ⟨#[]⟩) := B3.out.at_ 2
    have f0 := B3.out.free 0
    have f1 := B3.out.free 1
    have f2 := B3.out.free 2
    go_wp2
    refine bodyPost_ret (v := .tuple #[W.V 0 0 W.e0, .int .i64 2]) (by simp [results, Tryd.results44, go_sem, z0, z1, z2]) rfl ⟨rfl, ?_⟩
    exact (((HB5.out).setCell (p := ⟨w.heap.size + 1 + 1, 0, none⟩) (by show w.heap.size ≤ w.heap.size + 1 + 1; omega) _).setCell (p := ⟨w.heap.size + 1 + 1, 1, none⟩) (by show w.heap.size ≤ w.heap.size + 1 + 1; omega) _).setCell (p := ⟨w.heap.size + 1 + 1, 2, none⟩) (by show w.heap.size ≤ w.heap.size + 1 + 1; omega) _
  · rw [if_pos rfl]
    replace HV := Veil.mk (HV.out rfl)
    go_enter Tryd.func44, Tryd.ntmps44
    go_upto_region 1 with (fail)
    rw [HW.out]
    go_upto_region 5 with (fail)
    go_cut [8, 9] (fun sa sb wx => ∃ g : Nat, sa = .pointer (some ⟨g, 0, none⟩) ∧ sb = .bool true ∧ Box wx g 73 #[.int .u8 ra, .bool rm, .int .i64 rs] ∧ Below W0.heap.size W0 wx)
    case first =>
      go_region_held3 (fun w' => w'.cell? ⟨w.heap.size, 0, none⟩ = some (.int .u8 a1) ∧ w'.cell? ⟨w.heap.size, 1, none⟩ = some (.bool m1) ∧ w'.cell? ⟨w.heap.size, 2, none⟩ = some (.int .i64 s1) ∧ w'.cell? ⟨w.heap.size + 1, 0, none⟩ = some (.int .u8 a2) ∧ w'.cell? ⟨w.heap.size + 1, 1, none⟩ = some (.bool m2) ∧ w'.cell? ⟨w.heap.size + 1, 2, none⟩ = some (.int .i64 s2)) (first | (refine (fun (hq : Below W0.heap.size W0 _) => (⟨(HS.out.1.on hq HS.out.1.lt).at_ 0, (HS.out.1.on hq HS.out.1.lt).at_ 1, (HS.out.1.on hq HS.out.1.lt).at_ 2, (HS.out.2.on hq HS.out.2.lt).at_ 0, (HS.out.2.on hq HS.out.2.lt).at_ 1, (HS.out.2.on hq HS.out.2.lt).at_ 2⟩ : _ ∧ _ ∧ _ ∧ _ ∧ _ ∧ _)) ?_; repeat (first | (with_reducible exact Below.refl _ _) | (with_reducible refine Below.drew ?_) | (with_reducible refine M.blw_alloc _ ?_) | (with_reducible refine M.blw_call ?_ hb2) | (refine Below.setCell ?_ (by first | (simp; done) | (have := hb2.size; simp at this ⊢; omega)) _)))) (first | (go_at_call 64; ((with_reducible refine (HR.out _).mono ?_); rintro e w2 ⟨rfl, hb2⟩; (try ((first | have yb := (Box.new _ 73 #[.int .u8 0, .bool false, .int .i64 0]).on hb2 (by simp) | have yb := (bdrN (Box.new _ 73 #[.int .u8 0, .bool false, .int .i64 0])).on hb2 (by simp)); (try simp at yb); obtain ⟨v0, v1, v2, v3, v4, v5⟩ := zbN yb; have vl := yb.lt; have vm := Nat.ne_of_lt vl; have vn := Ne.symm vm; have YB := Veil.mk yb; clear yb)))))
      all_goals
        go_wp2_with fail
        go_meet
        first
          | exact ⟨W0.heap.size, rfl, rfl, ((YB.out.put 0 _).put 1 _).put 2 _, by repeat (first | (with_reducible exact Below.refl _ _) | (with_reducible refine Below.drew ?_) | (with_reducible refine M.blw_alloc _ ?_) | (with_reducible refine M.blw_call ?_ hb2) | (refine Below.setCell ?_ (by first | (simp; done) | (have := hb2.size; simp at this ⊢; omega)) _))⟩
          | exact ⟨w2.heap.size, rfl, rfl, Box.new _ _ _, by repeat (first | (with_reducible exact Below.refl _ _) | (with_reducible refine Below.drew ?_) | (with_reducible refine M.blw_alloc _ ?_) | (with_reducible refine M.blw_call ?_ hb2) | (refine Below.setCell ?_ (by first | (simp; done) | (have := hb2.size; simp at this ⊢; omega)) _))⟩
    case rest =>
    obtain ⟨g8, rfl, rfl, bq, hb⟩ := hcut
    obtain ⟨w5, hw⟩ : ∃ v, v = wc := ⟨_, rfl⟩
    rw [← hw] at bq hb ⊢
    clear hw
    replace B3 := Veil.mk (B3.out.on hb B3.out.lt)
    have HB5 := Veil.mk (hB.trans (hb.mono hB.size))
    have r0 : w5.cell? ⟨g8, 0, none⟩ = some (.int .u8 ra) := bq.at_ 0
    have r1 : w5.cell? ⟨g8, 1, none⟩ = some (.bool rm) := bq.at_ 1
    have r2 : w5.cell? ⟨g8, 2, none⟩ = some (.int .i64 rs) := bq.at_ 2
    clear bq hb HS HR p0 p1 p2 q0 q1 q2
    go_wp2_with (first | (go_at_call 63; ((with_reducible refine (HV.out _).mono ?_); rintro e w3 ⟨rfl, hb3⟩; have z3 := B3.out.on hb3 B3.out.lt; have z0 : w3.cell? ⟨w.heap.size + 1 + 1, 0, none⟩ = some (.int .i64 0) := z3.at_ 0; have z1 : w3.cell? ⟨w.heap.size + 1 + 1, 1, none⟩ = some (.int .i64 0) := z3.at_ 1; have z2 : w3.cell? ⟨w.heap.size + 1 + 1, 2, none⟩ = some (.string ⟨#[]⟩) := z3.at_ 2; have f0 := z3.free 0; have f1 := z3.free 1; have f2 := z3.free 2)))
    refine bodyPost_ret (v := .tuple #[W.V k n W.e0, .int .i64 0]) (by simp [results, Tryd.results44, go_sem, z0, z1, z2]) rfl ⟨rfl, ?_⟩
    exact (((HB5.out.trans (hb3.mono HB5.out.size)).setCell (p := ⟨w.heap.size + 1 + 1, 0, none⟩) (by show w.heap.size ≤ w.heap.size + 1 + 1; omega) _).setCell (p := ⟨w.heap.size + 1 + 1, 1, none⟩) (by show w.heap.size ≤ w.heap.size + 1 + 1; omega) _).setCell (p := ⟨w.heap.size + 1 + 1, 2, none⟩) (by show w.heap.size ≤ w.heap.size + 1 + 1; omega) _

set_option maxRecDepth 100000 in
set_option maxHeartbeats 4000000 in
theorem reck_div (a1 : Int) (m1 : Bool) (s1 : Int) (a2 : Int) (m2 : Bool) (s2 : Int) (ra : Int) (rm : Bool) (rs : Int) (ro : Bool) (k n : Int) (w : World)
    (HR : Veil (∀ wx, Calls Tryd.prog 64 #[.int .u8 47, M.nv a1 m1 s1, M.nv a2 m2 s2] wx fun e w' => e = .returned (.tuple #[M.nv ra rm rs, .bool ro]) ∧ Below wx.heap.size wx w'))
    (HV : Veil (ro = true → ∀ wx, Calls Tryd.prog 63 #[M.nv ra rm rs] wx fun e w' => e = .returned (W.V k n W.e0) ∧ Below wx.heap.size wx w')) :
    Calls Tryd.prog 44 #[.string ⟨#[47]⟩, M.nv a1 m1 s1, M.nv a2 m2 s2] w fun e w' => e = .returned (if ro = true then .tuple #[W.V k n W.e0, .int .i64 0] else .tuple #[W.V 0 0 W.e0, .int .i64 2]) ∧ Below w.heap.size w w' := by
  obtain ⟨W0, hW⟩ : ∃ v, v = triN w a1 m1 s1 a2 m2 s2 := ⟨_, rfl⟩
  have hB : Below w.heap.size w W0 := hW ▸ triN_below w a1 m1 s1 a2 m2 s2
  have b1 := triN_x w a1 m1 s1 a2 m2 s2
  have b2' := triN_y w a1 m1 s1 a2 m2 s2
  have b3 := triN_r w a1 m1 s1 a2 m2 s2
  rw [← hW] at b1 b2' b3
  have hw0 := hW.symm
  unfold triN at hw0
  have HW := Lib.hid hw0
  clear hW hw0

  have p0 : W0.cell? ⟨w.heap.size, 0, none⟩ = some (.int .u8 a1) := b1.at_ 0
  have p1 : W0.cell? ⟨w.heap.size, 1, none⟩ = some (.bool m1) := b1.at_ 1
  have p2 : W0.cell? ⟨w.heap.size, 2, none⟩ = some (.int .i64 s1) := b1.at_ 2
  have q0 : W0.cell? ⟨w.heap.size + 1, 0, none⟩ = some (.int .u8 a2) := b2'.at_ 0
  have q1 : W0.cell? ⟨w.heap.size + 1, 1, none⟩ = some (.bool m2) := b2'.at_ 1
  have q2 : W0.cell? ⟨w.heap.size + 1, 2, none⟩ = some (.int .i64 s2) := b2'.at_ 2
  have B3 := Veil.mk b3
  have HS := Veil.mk (And.intro b1 b2')
  clear b1 b2' b3
  replace HR : Veil (∀ wx, Calls Tryd.prog 64 #[.int .u8 ((((⟨#[47]⟩ : ByteArray)[0]'(by decide)).toNat : Nat) : Int), M.nv a1 m1 s1, M.nv a2 m2 s2] wx fun e w' => e = .returned (.tuple #[M.nv ra rm rs, .bool ro]) ∧ Below wx.heap.size wx w') := ⟨HR.out⟩
  cases ro
  · rw [if_neg (by decide)]
    clear HV
    go_enter Tryd.func44, Tryd.ntmps44
    go_upto_region 1 with (fail)
    rw [HW.out]
    go_upto_region 5 with (fail)
    go_cut [8, 9] (fun sa sb wx => ∃ g : Nat, sa = .pointer (some ⟨g, 0, none⟩) ∧ sb = .bool false ∧ Box wx g 73 #[.int .u8 ra, .bool rm, .int .i64 rs] ∧ Below W0.heap.size W0 wx)
    case first =>
      go_region_held3 (fun w' => w'.cell? ⟨w.heap.size, 0, none⟩ = some (.int .u8 a1) ∧ w'.cell? ⟨w.heap.size, 1, none⟩ = some (.bool m1) ∧ w'.cell? ⟨w.heap.size, 2, none⟩ = some (.int .i64 s1) ∧ w'.cell? ⟨w.heap.size + 1, 0, none⟩ = some (.int .u8 a2) ∧ w'.cell? ⟨w.heap.size + 1, 1, none⟩ = some (.bool m2) ∧ w'.cell? ⟨w.heap.size + 1, 2, none⟩ = some (.int .i64 s2)) (first | (refine (fun (hq : Below W0.heap.size W0 _) => (⟨(HS.out.1.on hq HS.out.1.lt).at_ 0, (HS.out.1.on hq HS.out.1.lt).at_ 1, (HS.out.1.on hq HS.out.1.lt).at_ 2, (HS.out.2.on hq HS.out.2.lt).at_ 0, (HS.out.2.on hq HS.out.2.lt).at_ 1, (HS.out.2.on hq HS.out.2.lt).at_ 2⟩ : _ ∧ _ ∧ _ ∧ _ ∧ _ ∧ _)) ?_; repeat (first | (with_reducible exact Below.refl _ _) | (with_reducible refine Below.drew ?_) | (with_reducible refine M.blw_alloc _ ?_) | (with_reducible refine M.blw_call ?_ hb2) | (refine Below.setCell ?_ (by first | (simp; done) | (have := hb2.size; simp at this ⊢; omega)) _)))) (first | (go_at_call 64; ((with_reducible refine (HR.out _).mono ?_); rintro e w2 ⟨rfl, hb2⟩; (try ((first | have yb := (Box.new _ 73 #[.int .u8 0, .bool false, .int .i64 0]).on hb2 (by simp) | have yb := (bdrN (Box.new _ 73 #[.int .u8 0, .bool false, .int .i64 0])).on hb2 (by simp)); (try simp at yb); obtain ⟨v0, v1, v2, v3, v4, v5⟩ := zbN yb; have vl := yb.lt; have vm := Nat.ne_of_lt vl; have vn := Ne.symm vm; have YB := Veil.mk yb; clear yb)))))
      all_goals
        go_wp2_with fail
        go_meet
        first
          | exact ⟨W0.heap.size, rfl, rfl, ((YB.out.put 0 _).put 1 _).put 2 _, by repeat (first | (with_reducible exact Below.refl _ _) | (with_reducible refine Below.drew ?_) | (with_reducible refine M.blw_alloc _ ?_) | (with_reducible refine M.blw_call ?_ hb2) | (refine Below.setCell ?_ (by first | (simp; done) | (have := hb2.size; simp at this ⊢; omega)) _))⟩
          | exact ⟨w2.heap.size, rfl, rfl, Box.new _ _ _, by repeat (first | (with_reducible exact Below.refl _ _) | (with_reducible refine Below.drew ?_) | (with_reducible refine M.blw_alloc _ ?_) | (with_reducible refine M.blw_call ?_ hb2) | (refine Below.setCell ?_ (by first | (simp; done) | (have := hb2.size; simp at this ⊢; omega)) _))⟩
    case rest =>
    obtain ⟨g8, rfl, rfl, bq, hb⟩ := hcut
    obtain ⟨w5, hw⟩ : ∃ v, v = wc := ⟨_, rfl⟩
    rw [← hw] at bq hb ⊢
    clear hw
    replace B3 := Veil.mk (B3.out.on hb B3.out.lt)
    have HB5 := Veil.mk (hB.trans (hb.mono hB.size))
    clear bq hb HS HR p0 p1 p2 q0 q1 q2
    have z0 : w5.cell? ⟨w.heap.size + 1 + 1, 0, none⟩ = some (.int .i64 0) := B3.out.at_ 0
    have z1 : w5.cell? ⟨w.heap.size + 1 + 1, 1, none⟩ = some (.int .i64 0) := B3.out.at_ 1
    have z2 : w5.cell? ⟨w.heap.size + 1 + 1, 2, none⟩ = some (.string ⟨#[]⟩) := B3.out.at_ 2
    have f0 := B3.out.free 0
    have f1 := B3.out.free 1
    have f2 := B3.out.free 2
    go_wp2
    refine bodyPost_ret (v := .tuple #[W.V 0 0 W.e0, .int .i64 2]) (by simp [results, Tryd.results44, go_sem, z0, z1, z2]) rfl ⟨rfl, ?_⟩
    exact (((HB5.out).setCell (p := ⟨w.heap.size + 1 + 1, 0, none⟩) (by show w.heap.size ≤ w.heap.size + 1 + 1; omega) _).setCell (p := ⟨w.heap.size + 1 + 1, 1, none⟩) (by show w.heap.size ≤ w.heap.size + 1 + 1; omega) _).setCell (p := ⟨w.heap.size + 1 + 1, 2, none⟩) (by show w.heap.size ≤ w.heap.size + 1 + 1; omega) _
  · rw [if_pos rfl]
    replace HV := Veil.mk (HV.out rfl)
    go_enter Tryd.func44, Tryd.ntmps44
    go_upto_region 1 with (fail)
    rw [HW.out]
    go_upto_region 5 with (fail)
    go_cut [8, 9] (fun sa sb wx => ∃ g : Nat, sa = .pointer (some ⟨g, 0, none⟩) ∧ sb = .bool true ∧ Box wx g 73 #[.int .u8 ra, .bool rm, .int .i64 rs] ∧ Below W0.heap.size W0 wx)
    case first =>
      go_region_held3 (fun w' => w'.cell? ⟨w.heap.size, 0, none⟩ = some (.int .u8 a1) ∧ w'.cell? ⟨w.heap.size, 1, none⟩ = some (.bool m1) ∧ w'.cell? ⟨w.heap.size, 2, none⟩ = some (.int .i64 s1) ∧ w'.cell? ⟨w.heap.size + 1, 0, none⟩ = some (.int .u8 a2) ∧ w'.cell? ⟨w.heap.size + 1, 1, none⟩ = some (.bool m2) ∧ w'.cell? ⟨w.heap.size + 1, 2, none⟩ = some (.int .i64 s2)) (first | (refine (fun (hq : Below W0.heap.size W0 _) => (⟨(HS.out.1.on hq HS.out.1.lt).at_ 0, (HS.out.1.on hq HS.out.1.lt).at_ 1, (HS.out.1.on hq HS.out.1.lt).at_ 2, (HS.out.2.on hq HS.out.2.lt).at_ 0, (HS.out.2.on hq HS.out.2.lt).at_ 1, (HS.out.2.on hq HS.out.2.lt).at_ 2⟩ : _ ∧ _ ∧ _ ∧ _ ∧ _ ∧ _)) ?_; repeat (first | (with_reducible exact Below.refl _ _) | (with_reducible refine Below.drew ?_) | (with_reducible refine M.blw_alloc _ ?_) | (with_reducible refine M.blw_call ?_ hb2) | (refine Below.setCell ?_ (by first | (simp; done) | (have := hb2.size; simp at this ⊢; omega)) _)))) (first | (go_at_call 64; ((with_reducible refine (HR.out _).mono ?_); rintro e w2 ⟨rfl, hb2⟩; (try ((first | have yb := (Box.new _ 73 #[.int .u8 0, .bool false, .int .i64 0]).on hb2 (by simp) | have yb := (bdrN (Box.new _ 73 #[.int .u8 0, .bool false, .int .i64 0])).on hb2 (by simp)); (try simp at yb); obtain ⟨v0, v1, v2, v3, v4, v5⟩ := zbN yb; have vl := yb.lt; have vm := Nat.ne_of_lt vl; have vn := Ne.symm vm; have YB := Veil.mk yb; clear yb)))))
      all_goals
        go_wp2_with fail
        go_meet
        first
          | exact ⟨W0.heap.size, rfl, rfl, ((YB.out.put 0 _).put 1 _).put 2 _, by repeat (first | (with_reducible exact Below.refl _ _) | (with_reducible refine Below.drew ?_) | (with_reducible refine M.blw_alloc _ ?_) | (with_reducible refine M.blw_call ?_ hb2) | (refine Below.setCell ?_ (by first | (simp; done) | (have := hb2.size; simp at this ⊢; omega)) _))⟩
          | exact ⟨w2.heap.size, rfl, rfl, Box.new _ _ _, by repeat (first | (with_reducible exact Below.refl _ _) | (with_reducible refine Below.drew ?_) | (with_reducible refine M.blw_alloc _ ?_) | (with_reducible refine M.blw_call ?_ hb2) | (refine Below.setCell ?_ (by first | (simp; done) | (have := hb2.size; simp at this ⊢; omega)) _))⟩
    case rest =>
    obtain ⟨g8, rfl, rfl, bq, hb⟩ := hcut
    obtain ⟨w5, hw⟩ : ∃ v, v = wc := ⟨_, rfl⟩
    rw [← hw] at bq hb ⊢
    clear hw
    replace B3 := Veil.mk (B3.out.on hb B3.out.lt)
    have HB5 := Veil.mk (hB.trans (hb.mono hB.size))
    have r0 : w5.cell? ⟨g8, 0, none⟩ = some (.int .u8 ra) := bq.at_ 0
    have r1 : w5.cell? ⟨g8, 1, none⟩ = some (.bool rm) := bq.at_ 1
    have r2 : w5.cell? ⟨g8, 2, none⟩ = some (.int .i64 rs) := bq.at_ 2
    clear bq hb HS HR p0 p1 p2 q0 q1 q2
    go_wp2_with (first | (go_at_call 63; ((with_reducible refine (HV.out _).mono ?_); rintro e w3 ⟨rfl, hb3⟩; have z3 := B3.out.on hb3 B3.out.lt; have z0 : w3.cell? ⟨w.heap.size + 1 + 1, 0, none⟩ = some (.int .i64 0) := z3.at_ 0; have z1 : w3.cell? ⟨w.heap.size + 1 + 1, 1, none⟩ = some (.int .i64 0) := z3.at_ 1; have z2 : w3.cell? ⟨w.heap.size + 1 + 1, 2, none⟩ = some (.string ⟨#[]⟩) := z3.at_ 2; have f0 := z3.free 0; have f1 := z3.free 1; have f2 := z3.free 2)))
    refine bodyPost_ret (v := .tuple #[W.V k n W.e0, .int .i64 0]) (by simp [results, Tryd.results44, go_sem, z0, z1, z2]) rfl ⟨rfl, ?_⟩
    exact (((HB5.out.trans (hb3.mono HB5.out.size)).setCell (p := ⟨w.heap.size + 1 + 1, 0, none⟩) (by show w.heap.size ≤ w.heap.size + 1 + 1; omega) _).setCell (p := ⟨w.heap.size + 1 + 1, 1, none⟩) (by show w.heap.size ≤ w.heap.size + 1 + 1; omega) _).setCell (p := ⟨w.heap.size + 1 + 1, 2, none⟩) (by show w.heap.size ≤ w.heap.size + 1 + 1; omega) _

theorem reckon_any (o : Option NumOp) (k1 n1 k2 n2 : Int) (h1 : M.Num k1 n1) (h2 : M.Num k2 n2) (w : World) :
    Calls Tryd.prog 44 #[.string (opN o), M.nvN k1 n1, M.nvN k2 n2] w fun e w' => e = .returned (.tuple #[valV (reckT o k1 n1 k2 n2).1, .int .i64 (reckT o k1 n1 k2 n2).2]) ∧ Below w.heap.size w w' := by
  rcases o with _ | o
  · exact reck_q _ _ _ _ _ _ w
  have step : ∀ (o : NumOp) (c : Int) (_ : M.AnsD c (M.nvN k1 n1) (M.nvN k2 n2) (numR o k1 n1 k2 n2))
      (_ : ∀ ra rm rs ro k n, Veil (∀ wx, Calls Tryd.prog 64 #[.int .u8 c, M.nvN k1 n1, M.nvN k2 n2] wx fun e w' => e = .returned (.tuple #[M.nv ra rm rs, .bool ro]) ∧ Below wx.heap.size wx w') →
        Veil (ro = true → ∀ wx, Calls Tryd.prog 63 #[M.nv ra rm rs] wx fun e w' => e = .returned (W.V k n W.e0) ∧ Below wx.heap.size wx w') →
        Calls Tryd.prog 44 #[.string (opN (some o)), M.nvN k1 n1, M.nvN k2 n2] w fun e w' => e = .returned (if ro = true then .tuple #[W.V k n W.e0, .int .i64 0] else .tuple #[W.V 0 0 W.e0, .int .i64 2]) ∧ Below w.heap.size w w'),
      Calls Tryd.prog 44 #[.string (opN (some o)), M.nvN k1 n1, M.nvN k2 n2] w fun e w' => e = .returned (.tuple #[valV (reckT (some o) k1 n1 k2 n2).1, .int .i64 (reckT (some o) k1 n1 k2 n2).2]) ∧ Below w.heap.size w w' := by
    intro o c ha hf
    have hg := good_ar o h1 h2
    rcases ha with ⟨e1, ha⟩ | ⟨e1, k, m, s, ha⟩
    · have e2 : reckT (some o) k1 n1 k2 n2 = (((numR o k1 n1 k2 n2).1, (numR o k1 n1 k2 n2).2.1, W.e0), 0) := if_pos e1
      rw [e2]
      exact (hf _ _ _ true (numR o k1 n1 k2 n2).1 (numR o k1 n1 k2 n2).2.1 ⟨ha⟩ ⟨fun _ => M.val_any (hg e1)⟩).mono fun _ _ h => ⟨h.1.trans (by rw [if_pos rfl]), h.2⟩
    · have e2 : reckT (some o) k1 n1 k2 n2 = ((0, 0, W.e0), 2) := if_neg (by rw [e1]; decide)
      rw [e2]
      exact (hf _ _ _ false 0 0 ⟨ha⟩ ⟨nofun⟩).mono fun _ _ h => ⟨h.1.trans (by rw [if_neg (by decide)]), h.2⟩
  cases o
  · exact step .add 43 (M.do_add_num h1 h2) (fun ra rm rs ro k n HR HV => reck_add _ _ _ _ _ _ ra rm rs ro k n w HR HV)
  · exact step .sub 45 (M.do_sub_num h1 h2) (fun ra rm rs ro k n HR HV => reck_sub _ _ _ _ _ _ ra rm rs ro k n w HR HV)
  · exact step .mul 42 (M.do_mul_num h1 h2) (fun ra rm rs ro k n HR HV => reck_mul _ _ _ _ _ _ ra rm rs ro k n w HR HV)
  · exact step .div 47 (M.do_div_num h1 h2) (fun ra rm rs ro k n HR HV => reck_div _ _ _ _ _ _ ra rm rs ro k n w HR HV)
  · have e2 : reckT (some .rem) k1 n1 k2 n2 = (((M.remR k1 n1 k2 n2).1, (M.remR k1 n1 k2 n2).2, W.e0), 0) := (show reckT (some .rem) k1 n1 k2 n2 = if (numR .rem k1 n1 k2 n2).2.2 = true then (((numR .rem k1 n1 k2 n2).1, (numR .rem k1 n1 k2 n2).2.1, W.e0), 0) else ((0, 0, W.e0), 2) from rfl).trans (if_pos rfl)
    rw [e2]
    exact reck_rem _ _ _ _ _ _ _ _ _ (M.remR k1 n1 k2 n2).1 (M.remR k1 n1 k2 n2).2 w ⟨fun wx => M.rrem_any h1 h2 wx⟩ ⟨fun wx => M.val_any (M.num_rem h1) wx⟩
end Go.Proofs.YtbkgophgclpijaaDoor
