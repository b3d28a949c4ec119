/- CodeRight: the law's switch, over a frame written out. -/
import Derived.Test.YtbkgophgclpijaaDoorRc
namespace Go.Proofs.YtbkgophgclpijaaDoor
open Go.RowKit

/-- What the law's switch asks of an instruction. -/
def swI (n c k : Nat) (op a b : Int) : Bool :=
  if op = 36 ∨ op = 37 ∨ op = 38 ∨ op = 39 ∨ op = 40 ∨ op = 41 ∨ op = 63 ∨ op = 64 ∨ op = 74 then tgt n a
  else if op = 68 then tgt n a && tgt n b
  else if op = 1 ∨ op = 14 ∨ op = 15 ∨ op = 19 ∨ op = 21 ∨ op = 23 ∨ op = 25 ∨ op = 88 then idxIn c a
  else if op = 50 then idxIn k a
  else true
/-- A block of a function's code, by its number. -/
def blockOf (m : Nat) : Code → Option Code
  | .block i c => if i = m then some (.block i c) else blockOf m c
  | .seq a b => (blockOf m a).orElse fun _ => blockOf m b
  | .cond _ a b => (blockOf m a).orElse fun _ => blockOf m b
  | .loop c => blockOf m c
  | .scope c => blockOf m c
  | _ => none
noncomputable def swBlock : Code := ((Tryd.f9.body.bind (blockOf 4)).getD .skip)

set_option maxRecDepth 1000000 in
set_option maxHeartbeats 4000000 in
theorem sw_ok (z0 z3 z4 z5 z6 z7 z10 z13 z14 z15 z16 z17 z18 z19 z20 z21 z22 z23 z24 z25 z26 z27 z28 z29 z30 z31 z32 z33 z34 z35 z36 z37 z38 z39 z40 z41 z42 z43 z44 z45 z46 z47 z48 z49 z50 z51 z52 z53 z54 z55 z56 z57 z58 z59 z60 z61 z62 z63 z64 z65 z66 z67 z68 z69 z70 z71 z72 z73 z74 z75 z76 z77 z78 z79 z80 z81 z82 z83 z85 z86 z87 z88 z89 z90 z91 z92 z93 z94 z95 z96 z97 z98 z99 z100 z101 z102 z103 z104 z105 z106 z107 z108 z109 z110 z111 z112 z113 z114 z115 z116 z117 z118 z119 z120 z121 z122 z123 z124 z125 z126 z127 z128 z129 z130 z131 z132 z133 z134 z135 z136 z137 z138 z139 z140 z141 z142 z143 z144 z145 z146 z147 z148 z149 z150 z151 z152 z153 z154 z155 z156 z157 z158 z159 z160 z161 z162 z163 z164 z165 z166 z167 z168 z169 z170 z171 z172 : Value) (n c k : Nat) (op p q : Int) (bw bin : Bool) (BX : Nat) (w : World) (c0 : w.cell? ⟨BX, 0, none⟩ = some (.int .i64 op)) (c1 : w.cell? ⟨BX, 1, none⟩ = some (.int .i64 p)) (c2 : w.cell? ⟨BX, 2, none⟩ = some (.int .i64 q)) (hbin : Hid (bin = tgt n p))
    (K' : Act → World → Prop) (Q' : Exit → Act → World → Prop) (hK : ∀ (u85 u86 u87 u88 u89 u90 u91 u92 u93 u94 u95 u96 u97 u98 u99 u100 u101 u102 u103 u104 u105 u106 u107 u108 u109 u110 u111 u112 u113 u114 u115 u116 u117 u118 u119 u120 u121 u122 u123 u124 u125 u126 u127 u128 u129 u130 u131 u132 u133 u134 u135 u136 u137 u138 u139 u140 u141 u142 u143 u144 u145 u146 u147 u148 u149 u150 u151 u152 u153 u154 u155 u156 u157 u158 u159 u160 u161 : Value), K' ⟨#[z0, .int .i64 (c : Int), .int .i64 (k : Int), z3, z4, z5, z6, z7, .int .i64 (n : Int), .bool (bw && swI n c k op p q), z10, .pointer (some ⟨BX, 0, none⟩), .bool bin, z13, z14, z15, z16, z17, z18, z19, z20, z21, z22, z23, z24, z25, z26, z27, z28, z29, z30, z31, z32, z33, z34, z35, z36, z37, z38, z39, z40, z41, z42, z43, z44, z45, z46, z47, z48, z49, z50, z51, z52, z53, z54, z55, z56, z57, z58, z59, z60, z61, z62, z63, z64, z65, z66, z67, z68, z69, z70, z71, z72, z73, z74, z75, z76, z77, z78, z79, z80, z81, z82, z83, .int .i64 op, u85, u86, u87, u88, u89, u90, u91, u92, u93, u94, u95, u96, u97, u98, u99, u100, u101, u102, u103, u104, u105, u106, u107, u108, u109, u110, u111, u112, u113, u114, u115, u116, u117, u118, u119, u120, u121, u122, u123, u124, u125, u126, u127, u128, u129, u130, u131, u132, u133, u134, u135, u136, u137, u138, u139, u140, u141, u142, u143, u144, u145, u146, u147, u148, u149, u150, u151, u152, u153, u154, u155, u156, u157, u158, u159, u160, u161, z162, z163, z164, z165, z166, z167, z168, z169, z170, z171, z172], []⟩ w) :
    Code.wp Tryd.prog swBlock (Exit.then K' Q') ⟨#[z0, .int .i64 (c : Int), .int .i64 (k : Int), z3, z4, z5, z6, z7, .int .i64 (n : Int), .bool bw, z10, .pointer (some ⟨BX, 0, none⟩), .bool bin, z13, z14, z15, z16, z17, z18, z19, z20, z21, z22, z23, z24, z25, z26, z27, z28, z29, z30, z31, z32, z33, z34, z35, z36, z37, z38, z39, z40, z41, z42, z43, z44, z45, z46, z47, z48, z49, z50, z51, z52, z53, z54, z55, z56, z57, z58, z59, z60, z61, z62, z63, z64, z65, z66, z67, z68, z69, z70, z71, z72, z73, z74, z75, z76, z77, z78, z79, z80, z81, z82, z83, .int .i64 op, z85, z86, z87, z88, z89, z90, z91, z92, z93, z94, z95, z96, z97, z98, z99, z100, z101, z102, z103, z104, z105, z106, z107, z108, z109, z110, z111, z112, z113, z114, z115, z116, z117, z118, z119, z120, z121, z122, z123, z124, z125, z126, z127, z128, z129, z130, z131, z132, z133, z134, z135, z136, z137, z138, z139, z140, z141, z142, z143, z144, z145, z146, z147, z148, z149, z150, z151, z152, z153, z154, z155, z156, z157, z158, z159, z160, z161, z162, z163, z164, z165, z166, z167, z168, z169, z170, z171, z172], []⟩ w := by
  by_cases g1 : op = 36 ∨ op = 37 ∨ op = 38 ∨ op = 39 ∨ op = 40 ∨ op = 41 ∨ op = 63 ∨ op = 64 ∨ op = 74
  · have HE : Hid (swI n c k op p q = bin) := by show _ = _; rw [hbin.out]; unfold swI; rw [if_pos g1]
    cases bw
    · have hb : (false && swI n c k op p q) = false := rfl
      rw [hb] at hK
      rcases g1 with rfl | rfl | rfl | rfl | rfl | rfl | rfl | rfl | rfl
      all_goals as_aux_lemma =>
        conv => arg 2; whnf
        go_wp2
        exact hK ..
    · have hb : Hid ((true && swI n c k op p q) = bin) := by show _ = _; rw [HE.out]; rfl
      rw [hb.out] at hK
      rcases g1 with rfl | rfl | rfl | rfl | rfl | rfl | rfl | rfl | rfl
      all_goals
        cases bin
        all_goals as_aux_lemma =>
          conv => arg 2; whnf
          go_wp2
          exact hK ..
  by_cases g2 : op = 68
  · subst g2
    have HE : Hid (swI n c k 68 p q = (bin && tgt n q)) := by show _ = _; rw [hbin.out]; unfold swI; rw [if_neg g1, if_pos rfl]
    rw [HE.out] at hK
    have hq : (-1 ≤ q ∧ q < (n : Int)) ∨ (-1 ≤ q ∧ ¬ q < (n : Int)) ∨ ¬ -1 ≤ q := by omega
    clear g1
    cases bw
    · rw [Bool.false_and] at hK
      as_aux_lemma =>
        conv => arg 2; whnf
        go_wp2
        exact hK ..
    rw [Bool.true_and] at hK
    cases bin
    · rw [Bool.false_and] at hK
      as_aux_lemma =>
        conv => arg 2; whnf
        go_wp2
        exact hK ..
    rw [Bool.true_and] at hK
    rcases hq with ⟨x1, x2⟩ | ⟨x1, x2⟩ | x1
    case' inr.inr => have x2 : decide (-1 ≤ q) = false := by simpa using x1
    all_goals as_aux_lemma =>
      simp only [tgt, x1, x2, decide_true, decide_false, Bool.and_true, Bool.and_false, Bool.false_and] at hK
      conv => arg 2; whnf
      go_wp2
      exact hK ..
  by_cases g3 : op = 1 ∨ op = 14 ∨ op = 15 ∨ op = 19 ∨ op = 21 ∨ op = 23 ∨ op = 25 ∨ op = 88
  · have HE : Hid (swI n c k op p q = idxIn c p) := by show _ = _; unfold swI; rw [if_neg g1, if_neg g2, if_pos g3]
    rw [HE.out] at hK
    clear g1 g2
    cases bw
    · rw [Bool.false_and] at hK
      rcases g3 with rfl | rfl | rfl | rfl | rfl | rfl | rfl | rfl
      all_goals as_aux_lemma =>
        conv => arg 2; whnf
        go_wp2
        exact hK ..
    rw [Bool.true_and] at hK
    have hq : (0 ≤ p ∧ p < (c : Int)) ∨ (0 ≤ p ∧ ¬ p < (c : Int)) ∨ ¬ 0 ≤ p := by omega
    rcases hq with ⟨x1, x2⟩ | ⟨x1, x2⟩ | x1
    case' inr.inr => have x2 : decide (0 ≤ p) = false := by simpa using x1
    all_goals
      simp only [idxIn, x1, x2, decide_true, decide_false, Bool.and_true, Bool.and_false, Bool.false_and] at hK
      rcases g3 with rfl | rfl | rfl | rfl | rfl | rfl | rfl | rfl
      all_goals as_aux_lemma =>
        conv => arg 2; whnf
        go_wp2
        exact hK ..
  by_cases g4 : op = 50
  · subst g4
    have HE : Hid (swI n c k 50 p q = idxIn k p) := by show _ = _; unfold swI; rw [if_neg g1, if_neg g2, if_neg g3, if_pos rfl]
    rw [HE.out] at hK
    clear g1 g2 g3
    cases bw
    · rw [Bool.false_and] at hK
      as_aux_lemma =>
        conv => arg 2; whnf
        go_wp2
        exact hK ..
    rw [Bool.true_and] at hK
    have hq : (0 ≤ p ∧ p < (k : Int)) ∨ (0 ≤ p ∧ ¬ p < (k : Int)) ∨ ¬ 0 ≤ p := by omega
    rcases hq with ⟨x1, x2⟩ | ⟨x1, x2⟩ | x1
    case' inr.inr => have x2 : decide (0 ≤ p) = false := by simpa using x1
    all_goals
      simp only [idxIn, x1, x2, decide_true, decide_false, Bool.and_true, Bool.and_false, Bool.false_and] at hK
      as_aux_lemma =>
        conv => arg 2; whnf
        go_wp2
        exact hK ..
  have HE : Hid (swI n c k op p q = true) := by show _ = _; unfold swI; rw [if_neg g1, if_neg g2, if_neg g3, if_neg g4]
  rw [HE.out, Bool.and_true] at hK
  simp only [not_or] at g1 g3
  obtain ⟨a1, a2, a3, a4, a5, a6, a7, a8, a9⟩ := g1
  obtain ⟨b1, b2, b3, b4, b5, b6, b7, b8⟩ := g3
  as_aux_lemma =>
    conv => arg 2; whnf
    go_wp2
    exact hK ..
end Go.Proofs.YtbkgophgclpijaaDoor
