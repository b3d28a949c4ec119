/- Right over a function's code: it accepts what ends with a Return and tells only what is there, its inner functions likewise. -/
import Derived.Test.YtbkgophgclpijaaDoorRa
import Derived.LoopTactic
import Derived.Outline
namespace Go.Proofs.YtbkgophgclpijaaDoor
open Go.RowKit

/-- A slice of instructions reads as a list of triples. -/
def Ins3 (w : World) (a : Option Addr) (n : Nat) (l : List (Int × Int × Int)) : Prop :=
  l.length = n ∧ (0 < n → ∃ b o, a = some ⟨b, o, none⟩ ∧ b < w.heap.size ∧ ∀ i x, l[i]? = some x → w.cell? ⟨b, o + i * 3, none⟩ = some (.int .i64 x.1) ∧ w.cell? ⟨b, o + i * 3 + 1, none⟩ = some (.int .i64 x.2.1) ∧ w.cell? ⟨b, o + i * 3 + 2, none⟩ = some (.int .i64 x.2.2))
theorem Ins3.on {w w' : World} {a : Option Addr} {n : Nat} {l : List (Int × Int × Int)} (h : Ins3 w a n l) (hb : Below w.heap.size w w') : Ins3 w' a n l :=
  ⟨h.1, fun h0 => by
    obtain ⟨b, o, e, hlt, hc⟩ := h.2 h0
    refine ⟨b, o, e, Nat.lt_of_lt_of_le hlt hb.size, fun i x hx => ?_⟩
    obtain ⟨h1, h2, h3⟩ := hc i x hx
    exact ⟨(hb.cell (p := (⟨b, _, none⟩ : Addr)) hlt).trans h1, (hb.cell (p := (⟨b, _, none⟩ : Addr)) hlt).trans h2, (hb.cell (p := (⟨b, _, none⟩ : Addr)) hlt).trans h3⟩⟩
/-- Inner functions: pointers, of each of which it is known what Right answers. -/
def Subs (w : World) (a : Option Addr) (k : Nat) (r : List Bool) : Prop :=
  r.length = k ∧ (0 < k → ∃ b o, a = some ⟨b, o, none⟩ ∧ b < w.heap.size ∧ ∀ i x, r[i]? = some x → ∃ p, w.cell? ⟨b, o + i, none⟩ = some (.pointer p) ∧
    ∀ w', Below w.heap.size w w' → Calls Tryd.prog 33 #[.pointer p] w' fun e w'' => e = .returned (.bool x) ∧ Below w'.heap.size w' w'')
theorem Subs.on {w w' : World} {a : Option Addr} {k : Nat} {r : List Bool} (h : Subs w a k r) (hb : Below w.heap.size w w') : Subs w' a k r :=
  ⟨h.1, fun h0 => by
    obtain ⟨b, o, e, hlt, hc⟩ := h.2 h0
    refine ⟨b, o, e, Nat.lt_of_lt_of_le hlt hb.size, fun i x hx => ?_⟩
    obtain ⟨p, h1, h2⟩ := hc i x hx
    exact ⟨p, (hb.cell (p := (⟨b, _, none⟩ : Addr)) hlt).trans h1, fun w2 h3 => h2 w2 (hb.trans (h3.mono hb.size))⟩⟩

/-- A fact that the walk leaves alone. -/
structure Veil (p : Prop) : Prop where
  out : p
def lastOp (l : List (Int × Int × Int)) : Int := (l[l.length - 1]?.getD (0, 0, 0)).1
def rightL (n c k : Nat) (l : List (Int × Int × Int)) : Bool := l.all fun x => rightI n c k x.1 x.2.1 x.2.2
def rightF (l : List (Int × Int × Int)) (c k : Nat) : Bool := decide (0 < l.length) && decide (lastOp l = 61) && rightL l.length c k l

set_option maxRecDepth 100000 in
set_option maxHeartbeats 2000000 in
theorem right_f (b : Nat) (l : List (Int × Int × Int)) (n c k : Nat) (r : List Bool) (ai ac af : Option Addr) (ci cc cf : Nat) (hn : n ≤ 1000) (hk1 : k ≤ 1000) (w : World) (hI : w.cell? ⟨b, 8, none⟩ = some (.slice ai n ci)) (hC : w.cell? ⟨b, 9, none⟩ = some (.slice ac c cc)) (hF : w.cell? ⟨b, 10, none⟩ = some (.slice af k cf))
    (hL : Ins3 w ai n l) (hS : Subs w af k r) :
    Calls Tryd.prog 33 #[.pointer (some ⟨b, 0, none⟩)] w fun e w' => e = .returned (.bool (rightF l c k && r.all id)) ∧ Below w.heap.size w w' := by
  have hb : b < w.heap.size := World.block_lt_of_cell? _ _ hI
  have hln := hL.1
  rcases Nat.eq_zero_or_pos n with h0 | h0
  · have HE : Hid ((rightF l c k && r.all id) = false) := by show _ = _; unfold rightF; simp [hln, h0]
    have t1 : ((n : Int) == 0) = true := by simp [h0]
    clear hL hS h0 hln
    go_enter Tryd.func33, Tryd.ntmps33
    go_wp2
    go_quiet (fail)
    go_wp2
    go_ret
    exact ⟨by rw [HE.out]; rfl, below_drewN (Below.refl _ _) _⟩
  have t1 : ((n : Int) == 0) = false := by rw [Bool.eq_false_iff]; simp; omega
  obtain ⟨bi, oi, rfl, hbi, hcell⟩ := hL.2 h0
  have hlast : l[n - 1]? = some (l[n - 1]?.getD (0, 0, 0)) := by
    have : n - 1 < l.length := by omega
    simp [List.getElem?_eq_getElem this]
  obtain ⟨hc1, -, -⟩ := hcell _ _ hlast
  have hop : lastOp l = (l[n - 1]?.getD (0, 0, 0)).1 := by unfold lastOp; rw [hln]
  rw [← hop] at hc1
  have hi1 : (0 : Int) ≤ (n : Int) - 1 := by omega
  have hi2 : (n : Int) - 1 < (n : Int) := by omega
  have hi3 : ((n : Int) - 1).toNat = n - 1 := by omega
  have hw1 : IntKind.i64.wrap ((n : Int) - 1) = (n : Int) - 1 := by rw [IntKind.wrap_i64]; omega
  clear hop hlast
  by_cases hop : lastOp l = 61
  case neg =>
    have HE : Hid ((rightF l c k && r.all id) = false) := by show _ = _; unfold rightF; simp [hop]
    have t2 : (lastOp l != 61) = true := by simpa using hop
    clear hcell hS hL hop hln
    go_enter Tryd.func33, Tryd.ntmps33
    go_wp2
    go_quiet (fail)
    go_wp2
    go_ret
    exact ⟨by rw [HE.out]; rfl, below_drewN (Below.refl _ _) _⟩
  have t2 : (lastOp l != 61) = false := by simp [hop]
  have HX : Hid (rightF l c k = rightL n c k l) := by show _ = _; unfold rightF; simp [hop, hln, h0]
  have HLN := Lib.hid hln
  have HC := Lib.hid hcell
  have HS := Lib.hid hS
  clear hcell hS hL hop hln
  go_enter Tryd.func33, Tryd.ntmps33
  go_wp2
  go_quiet (fail)
  obtain ⟨w1, hw1⟩ : ∃ w1, w1 = w.drewN nq := ⟨_, rfl⟩
  have hB : Below w.heap.size w w1 := hw1 ▸ below_drewN (Below.refl _ _) nq
  have hz : w1.heap.size = w.heap.size := by rw [hw1]; rfl
  rw [← hw1]
  have hI0 := Lib.hid hI
  have hC0 := Lib.hid hC
  have hF0 := Lib.hid hF
  replace hI : w1.cell? ⟨b, 8, none⟩ = some (.slice (some ⟨bi, oi, none⟩) n ci) := hw1 ▸ hI
  replace hC : w1.cell? ⟨b, 9, none⟩ = some (.slice ac c cc) := hw1 ▸ hC
  replace hF : w1.cell? ⟨b, 10, none⟩ = some (.slice af k cf) := hw1 ▸ hF
  have HZ := Lib.hid hz
  clear hz hw1 t1 t2 hc1 hi1 hi2 hi3
  go_wp2
  go_loopw [38] (fun v wr => ∃ j : Nat, j ≤ n ∧ v = .int .i64 (j : Int) ∧ Veil (∀ i x, i < j → l[i]? = some x → rightI n c k x.1 x.2.1 x.2.2 = true) ∧ Below w.heap.size w wr) (fun v _ => n - (intOf v).toNat)
  case atStart => exact ⟨0, by omega, rfl, ⟨fun i x hi => by omega⟩, hB⟩
  case round =>
    obtain ⟨j, hj, rfl, hall, hbw⟩ := hrel
    have hI3 := cell_later hbw hI0.out (Nat.le_refl _)
    have hC3 := cell_later hbw hC0.out (Nat.le_refl _)
    have hF3 := cell_later hbw hF0.out (Nat.le_refl _)
    have hws := hbw.size
    by_cases hp : j < n
    · have hlx : l[j]? = some (l[j]?.getD (0, 0, 0)) := by
        have : j < l.length := by have := HLN.out; omega
        simp [List.getElem?_eq_getElem this]
      obtain ⟨⟨op, x, y⟩, hx⟩ : ∃ q, l[j]? = some q := ⟨_, hlx⟩
      obtain ⟨d0, d1, d2⟩ := HC.out _ _ hx
      have e0 := cell_later hbw d0 (Nat.le_refl _)
      have e1 := cell_later hbw d1 (Nat.le_refl _)
      have e2 := cell_later hbw d2 (Nat.le_refl _)
      simp only at e0 e1 e2
      have hj0 : (0 : Int) ≤ (j : Int) := by omega
      have hj1 : (j : Int) < (n : Int) := by omega
      have hBx : Below wr.heap.size wr (wr.alloc (.cells #[.int .i64 op, .int .i64 x, .int .i64 y] 61)) := (Below.refl _ _).alloc (Nat.le_refl _) _
      have hr := right_any b op x y n c k (some ⟨bi, oi, none⟩) ac af ci cc cf (wr.alloc (.cells #[.int .i64 op, .int .i64 x, .int .i64 y] 61)) (cell_later hBx hI3 (Nat.le_refl _)) (cell_later hBx hC3 (Nat.le_refl _)) (cell_later hBx hF3 (Nat.le_refl _))
      cases hv : rightI n c k op x y
      · rw [hv] at hr
        have HE : Hid ((rightF l c k && r.all id) = false) := by
          show _ = _; rw [HX.out]
          have : rightL n c k l = false := by
            unfold rightL
            rw [Bool.eq_false_iff]; intro hh
            have := List.all_eq_true.1 hh (op, x, y) (List.mem_of_getElem? hx)
            simp [hv] at this
          simp [this]
        have HV := Lib.hid hv
        clear hv hlx hx d0 d1 d2 hp
        go_wp2_with (first | (go_at_call 57; ((with_reducible refine hr.mono ?_); rintro e w2 ⟨rfl, hb2⟩)))
        go_ret
        exact ⟨by rw [HE.out]; rfl, hbw.trans ((hBx.trans (hb2.mono hBx.size)).mono hws)⟩
      · rw [hv] at hr
        have hall2 : Veil (∀ i x, i < j + 1 → l[i]? = some x → rightI n c k x.1 x.2.1 x.2.2 = true) := ⟨fun i q hi hq => by
          rcases Nat.lt_or_ge i j with h | h
          · exact hall.out i q h hq
          · obtain rfl : i = j := by omega
            rw [hx] at hq; cases hq; exact hv⟩
        have HV := Lib.hid hv
        clear hv hlx hx d0 d1 d2 hp
        go_wp2_with (first | (go_at_call 57; ((with_reducible refine hr.mono ?_); rintro e w2 ⟨rfl, hb2⟩)))
        go_roundw
        case rel => exact ⟨j + 1, by omega, by go_num, hall2, hbw.trans ((hBx.trans (hb2.mono hBx.size)).mono hws)⟩
        case measure => simp [intOf]; omega
    · have hjn : j = n := by omega
      have HRL : Hid (rightL n c k l = true) := by
        show _ = _
        unfold rightL
        rw [List.all_eq_true]
        intro q hq
        obtain ⟨i, hi, he⟩ := List.mem_iff_getElem.1 hq
        exact hall.out i q (by have := HLN.out; omega) (by rw [List.getElem?_eq_getElem hi, he])
      have hp1 : ¬ (j : Int) < (n : Int) := by omega
      clear hjn hp
      go_wp2
      go_loopw [52] (fun v ws => ∃ i : Nat, i ≤ k ∧ v = .int .i64 (i : Int) ∧ Veil (∀ j x, j < i → r[j]? = some x → x = true) ∧ Below w.heap.size w ws) (fun v _ => k - (intOf v).toNat)
      case atStart => exact ⟨0, by omega, rfl, ⟨fun i x hi => by omega⟩, hbw⟩
      case round =>
        obtain ⟨i, hi, rfl, hall2, hbs⟩ := hrel
        have hF4 := cell_later hbs hF0.out (Nat.le_refl _)
        have hwt := hbs.size
        by_cases hq : i < k
        · obtain ⟨bf, of, rfl, hbf, hsub⟩ := HS.out.2 (by omega)
          obtain ⟨x, hx⟩ : ∃ q, r[i]? = some q := by
            have : i < r.length := by have := HS.out.1; omega
            exact ⟨_, List.getElem?_eq_getElem this⟩
          obtain ⟨p, d0, hcall⟩ := hsub _ _ hx
          have e0 := cell_later hbs d0 (Nat.le_refl _)
          have hi0 : (0 : Int) ≤ (i : Int) := by omega
          have hi1 : (i : Int) < (k : Int) := by omega
          have hr := hcall _ hbs
          cases x
          · have HE : Hid ((rightF l c k && r.all id) = false) := by
              show _ = _
              have : r.all id = false := by
                rw [Bool.eq_false_iff]; intro hh
                have := List.all_eq_true.1 hh false (List.mem_of_getElem? hx)
                simp at this
              simp [this]
            clear hx d0 hsub hcall hq
            go_wp2_with (first | (go_at_call 33; ((with_reducible refine hr.mono ?_); rintro e w2 ⟨rfl, hb2⟩)))
            go_ret
            exact ⟨by rw [HE.out]; rfl, hbs.trans (hb2.mono hwt)⟩
          · have hall3 : Veil (∀ j x, j < i + 1 → r[j]? = some x → x = true) := ⟨fun m q hm hqq => by
              rcases Nat.lt_or_ge m i with h | h
              · exact hall2.out m q h hqq
              · obtain rfl : m = i := by omega
                rw [hx] at hqq; cases hqq; rfl⟩
            clear hx d0 hsub hcall hq
            go_wp2_with (first | (go_at_call 33; ((with_reducible refine hr.mono ?_); rintro e w2 ⟨rfl, hb2⟩)))
            go_roundw
            case rel => exact ⟨i + 1, by omega, by go_num, hall3, hbs.trans (hb2.mono hwt)⟩
            case measure => simp [intOf]; omega
        · have HE : Hid ((rightF l c k && r.all id) = true) := by
            show _ = _
            rw [HX.out, HRL.out]
            simp only [Bool.true_and]
            rw [List.all_eq_true]
            intro q hq
            obtain ⟨j, hj, he⟩ := List.mem_iff_getElem.1 hq
            have := hall2.out j q (by have := HS.out.1; omega) (by rw [List.getElem?_eq_getElem hj, he])
            simpa using this
          have hq1 : ¬ (i : Int) < (k : Int) := by omega
          clear hq
          go_wp2
          go_ret
          exact ⟨by rw [HE.out]; rfl, hbs⟩
end Go.Proofs.YtbkgophgclpijaaDoor
