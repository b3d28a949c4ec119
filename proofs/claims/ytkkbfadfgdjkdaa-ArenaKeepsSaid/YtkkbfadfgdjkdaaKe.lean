/- ArenaKeeps: same answers true where both arenas were filled alike. -/
import Derived.Test.YtkkbfadfgdjkdaaKd
import Derived.Test.YtkkbfadfgdjkdaaEa
import Derived.ChangeKeysEq
namespace Go.Proofs.Ytkkbfadfgdjkdaa
open Go Go.RowKit

theorem arr_neq (a b : Int) (w : World) : (binOp .neq 32 (.agg #[.int .i64 a, .int .i64 b]) (.agg #[.int .i64 a, .int .i64 b])).run Try.prog w = .ok (.bool false) w := by
  obtain ⟨i0, hi, -, -, -⟩ := info_parts Try.infoI
  have h := run_equalIn_array (P := Try.prog) (w := w) 9999 (t := 32) (e := 3) (n := 2) (i := i0) #[.int .i64 a, .int .i64 b] #[.int .i64 a, .int .i64 b] Try.underlying32 hi
  have hc : Try.prog.cellsOf 3 = 1 := by kernel_rfl
  have hs : List.range 2 = [0, 1] := rfl
  have h0 : ∀ (d : Nat) (x : Int), (Op.equalIn (d + 1) 3 (.int .i64 x) (.int .i64 x)).run Try.prog w = .ok true w := fun d x => by simp [Op.equalIn, run_underlying Try.underlying3]
  have h1 : ∀ x : Int, (Op.equalIn 9999 3 (.int .i64 x) (.int .i64 x)).run Try.prog w = .ok true w := fun x => h0 9998 x
  have p0 : (part 3 #[.int .i64 a, .int .i64 b] 0).run Try.prog w = .ok (.int .i64 a) w := by kernel_rfl
  have p1 : (part 3 #[.int .i64 a, .int .i64 b] 1).run Try.prog w = .ok (.int .i64 b) w := by kernel_rfl
  have he : (Op.equal 32 (.agg #[.int .i64 a, .int .i64 b]) (.agg #[.int .i64 a, .int .i64 b])).run Try.prog w = .ok true w := by
    unfold Op.equal
    show (Op.equalIn (9999 + 1) _ _ _).run _ _ = _
    rw [h, hc, hs]
    simp [Op.eqItems, h1, p0, p1]
  simp [binOp, he]
theorem flat2_at : ∀ (l : List (Int × Int)) (i : Nat) (x : Int × Int), l[i]? = some x → (flat2 l)[i * 2]? = some (.int .i64 x.1) ∧ (flat2 l)[i * 2 + 1]? = some (.int .i64 x.2)
  | [], i, x, h => by simp at h
  | y :: l, 0, x, h => by
    have : y = x := by simpa using h
    subst this
    exact ⟨rfl, rfl⟩
  | y :: l, i + 1, x, h => by
    have h2 := flat2_at l i x (by simpa using h)
    have e : flat2 (y :: l) = .int .i64 y.1 :: .int .i64 y.2 :: flat2 l := rfl
    rw [e, show (i + 1) * 2 = i * 2 + 1 + 1 by omega]
    exact ⟨by simpa using h2.1, by simpa using h2.2⟩
set_option maxHeartbeats 4000000 in
set_option maxRecDepth 100000 in
theorem same_any (A bb mb : Nat) (ps : List PI) (cv fv rv Lv lv : Value) (hl : ps.length ≤ 200) (w : World) (h : KS A bb mb ps cv fv rv Lv lv w) :
    Calls Try.prog 35 #[.pointer (some ⟨bb, 0, none⟩)] w fun e w' => e = .returned (.bool true) ∧ Below w.heap.size w w' := by
  have HK : Veil (∀ wr, Below w.heap.size w wr → KS A bb mb ps cv fv rv Lv lv wr) := ⟨fun wr hb => h.on hb⟩
  have HGT : Veil (∀ wr, Below w.heap.size w wr → ∀ r : Int, Calls Try.prog 17 #[.pointer (some ⟨A, 0, none⟩), .int .i64 r] wr fun e w' => e = .returned (bodyV ((dN (ps.map PI.x) []).get r)) ∧ w' = wr) := ⟨fun wr hb r => get_any A A cv fv rv _ r wr (h.ar.on hb)⟩
  have HCT : Veil (∀ wr, Below w.heap.size w wr → Calls Try.prog 13 #[.pointer (some ⟨A, 0, none⟩)] wr fun e w' => e = .returned (.int .i64 (ps.length : Int)) ∧ w' = wr) := ⟨fun wr hb => by
    have := count_any A A cv fv rv _ wr (h.ar.on hb)
    rw [show (dN (ps.map PI.x) []).count = ps.length by show (ps.map PI.x).length = _; rw [List.length_map]] at this
    exact this⟩
  have HDT : Veil (∀ wr, Below w.heap.size w wr → Calls Try.prog 19 #[.pointer (some ⟨A, 0, none⟩)] wr fun e w' => e = .returned (.int .i64 0) ∧ w' = wr) := ⟨fun wr hb => depth_any A A cv fv rv _ wr (h.ar.on hb)⟩
  obtain ⟨N, al, cl, hLv, hN1, hLc⟩ : ∃ (N : Nat) (al : Option Addr) (cl : Nat), Lv = .slice al N cl ∧ (N = ps.length + 1 ∨ (N = 0 ∧ ps.length = 0)) ∧ ∀ k, 1 ≤ k → k < N → ∀ wr, Below w.heap.size w wr → ∃ g y, al = some ⟨g, 0, none⟩ ∧ wr.cell? ⟨g, k, none⟩ = some (.pointer (some ⟨y, 0, none⟩)) := by
    rcases h.rl with ⟨h1, h2⟩ | h1
    · refine ⟨0, none, 0, h2, .inr ⟨rfl, by simpa using congrArg List.length h1⟩, fun k _ hk => by omega⟩
    · obtain ⟨ao, cap, rfl, hcap, hg, -⟩ := slice_own h1
      rw [List.length_map] at h1 hg ⊢
      refine ⟨_, ao, cap, rfl, .inl rfl, fun k hk1 hk2 wr hb => ?_⟩
      obtain ⟨g, rfl⟩ := hg (by omega)
      obtain ⟨j, rfl⟩ : ∃ j, k = j + 1 := ⟨k - 1, by omega⟩
      obtain ⟨p, hp⟩ : ∃ p, ps[j]? = some p := ⟨_, List.getElem?_eq_getElem (by omega)⟩
      refine ⟨g, p.y, rfl, ?_⟩
      rw [(own_below h1 hb).cellAt (j + 1) (by omega), List.getElem?_cons_succ, List.getElem?_map, List.getElem?_map, hp]
      rfl
  subst hLv
  have hgx : ∀ k : Nat, 1 ≤ k → k ≤ ps.length → ∃ nb, (dN (ps.map PI.x) []).get ((k : Nat) : Int) = some nb := fun k h1 h2 => by
    have := (get_dN (nbs := ps.map PI.x) (rs := []) (x := (k : Int))).2 (by rw [List.length_map]; omega)
    exact Option.isSome_iff_exists.1 this
  have hg0 : (dN (ps.map PI.x) []).get 0 = none := by
    unfold AD.get
    rw [if_neg (by omega)]
  have hgN : (dN (ps.map PI.x) []).get (N : Int) = none := by
    unfold AD.get
    have hl : (dN (ps.map PI.x) []).cells.length = ps.length := by show ((ps.map PI.x).map some).length = _; rw [List.length_map, List.length_map]
    rw [if_neg (by rw [hl]; omega)]
  have HFC := Veil.mk (And.intro hgx (And.intro hg0 (And.intro hgN hLc)))
  clear h hgx hg0 hgN hLc
  have hN200 : (N : Int) ≤ 201 := by omega
  have hN0 : (0 : Int) ≤ (N : Int) := by omega
  go_enter Try.func35, Try.ntmps35
  go_upto_region 3 with (fail)
  go_loopw [3, 4] (fun nv rv wr => ∃ k : Nat, 1 ≤ k ∧ (k ≤ N ∨ k = 1) ∧ nv = .int .i64 ((k : Int) - 1) ∧ rv = .int .i64 (k : Int) ∧ Below w.heap.size w wr) (fun _ i _ => N - (intOf i).toNat)
  case atStart => exact ⟨1, Nat.le_refl _, .inr rfl, rfl, rfl, Below.refl _ _⟩
  case round =>
    obtain ⟨k, hk1, hkN, rfl, rfl, hb⟩ := hrel
    have hks := HK.out wr hb
    have c0 : wr.cell? ⟨bb, 1, none⟩ = some (.pointer (some ⟨mb, 0, none⟩)) := hks.bx.at_ 1
    have c1 : wr.cell? ⟨mb, 0, none⟩ = some (.slice al N cl) := hks.mx.at_ 0
    have c2 : wr.cell? ⟨bb, 0, none⟩ = some (.pointer (some ⟨A, 0, none⟩)) := hks.bx.at_ 0
    have hk0 : (0 : Int) ≤ (k : Int) := by omega
    have hkb : (k : Int) ≤ 1000 := by omega
    by_cases hlt : k < N
    · have hlt' : (k : Int) < (N : Int) := by omega
      obtain ⟨g, y, rfl, hc⟩ := HFC.out.2.2.2 k hk1 hlt wr hb
      obtain ⟨nb, hnb⟩ := HFC.out.1 k hk1 (by omega)
      have HG1 : Veil (∀ m, Calls Try.prog 17 #[.pointer (some ⟨A, 0, none⟩), .int .i64 (k : Int)] (wr.drewN m) fun e w' => e = .returned (nodeV nb) ∧ w' = wr.drewN m) := ⟨fun m => by
        have := HGT.out (wr.drewN m) (below_drewN hb m) (k : Int)
        rw [hnb] at this
        exact this⟩
      have hn1 : ∀ w : World, (binOp .neq 51 (nodeV nb) .nilIface).run Try.prog w = .ok (.bool true) w := fun _ => rfl
      have qk : (k : Int) - 1 + 1 = (k : Int) := by omega
      have HBB := Veil.mk hb
      clear hks hb hnb
      go_upto_region 7 with (fail)
      go_quiet (first | (go_at_call 17; refine Calls.quiet_of_same (HG1.out _)))
      go_wp2
      go_round
      case rel => exact ⟨k + 1, by omega, .inl (by omega), by simp, by go_num, below_drewN HBB.out _⟩
      case measure => simp [intOf]; omega
    · have hlt' : ¬ (k : Int) < (N : Int) := by omega
      have hkn : (k : Int) - 1 = (ps.length : Int) := by omega
      obtain ⟨ao, ca, hlv, -, hga, -⟩ := slice_own hks.ll
      have c3 : wr.cell? ⟨bb, 2, none⟩ = some (.slice ao ps.length ca) := by rw [hks.bx.at_ 2, hlv]; rfl
      have HBB := Veil.mk hb
      have HKN := Veil.mk hkn
      have hlv := Veil.mk hlv
      clear hks hb hkn
      go_upto_region 10 with (fail)
      rw [HKN.out]
      go_loopw [57] (fun iv wr => ∃ j : Nat, j ≤ ps.length ∧ iv = .int .i64 (j : Int) ∧ Below w.heap.size w wr) (fun i _ => ps.length - (intOf i).toNat)
      case atStart => exact ⟨0, Nat.zero_le _, rfl, HBB.out⟩
      case round =>
        obtain ⟨j, hj, rfl, hb⟩ := hrel
        have hj0 : (0 : Int) ≤ (j : Int) := by omega
        have hjb : (j : Int) ≤ 200 := by omega
        have hks := HK.out wr hb
        by_cases hjl : j < ps.length
        · have hjl' : (j : Int) < (ps.length : Int) := by omega
          obtain ⟨p, hp⟩ : ∃ p, ps[j]? = some p := ⟨_, List.getElem?_eq_getElem hjl⟩
          obtain ⟨gl, rfl⟩ := hga (by omega)
          have hll := hks.ll
          rw [hlv.out] at hll
          obtain ⟨f0, f1, f2⟩ := flat3_at ps j p hp
          have d0 : wr.cell? ⟨gl, j * 3, none⟩ = some (.int .i64 p.r) := by rw [hll.cellAt (j * 3) (by omega)]; exact f0
          have d1 : wr.cell? ⟨gl, j * 3 + 1, none⟩ = some (.pointer (some ⟨p.x, 0, none⟩)) := by rw [hll.cellAt (j * 3 + 1) (by omega)]; exact f1
          have d2 : wr.cell? ⟨gl, j * 3 + 2, none⟩ = some (.pointer (some ⟨p.y, 0, none⟩)) := by rw [hll.cellAt (j * 3 + 2) (by omega)]; exact f2
          have HP := Veil.mk (hks.fil p (List.mem_of_getElem? hp))
          obtain ⟨pr, px, py, hpr⟩ : ∃ (pr : Int) (px py : Nat), p.r = pr ∧ p.x = px ∧ p.y = py := ⟨_, _, _, rfl, rfl, rfl⟩
          obtain ⟨hp1, hp2, hp3⟩ := hpr
          rw [hp1] at d0
          rw [hp2] at d1 HP
          rw [hp3] at d2 HP
          have HBW := Veil.mk hb
          clear hks hll f0 f1 f2 hp hb hp1 hp2 hp3
          go_upto_region 12 with (fail)
          obtain ⟨q, hq⟩ : ∃ q, wr.heap.size = q := ⟨_, rfl⟩
          have bq := Box.new wr 73 #[.int .i64 pr, .pointer (some ⟨px, 0, none⟩), .pointer (some ⟨py, 0, none⟩)]
          have bb : Below wr.heap.size wr (wr.alloc (.cells #[.int .i64 pr, .pointer (some ⟨px, 0, none⟩), .pointer (some ⟨py, 0, none⟩)] 73)) := (Below.refl _ _).alloc (Nat.le_refl _) _
          obtain ⟨W2, hW2⟩ : ∃ W2, wr.alloc (.cells #[.int .i64 pr, .pointer (some ⟨px, 0, none⟩), .pointer (some ⟨py, 0, none⟩)] 73) = W2 := ⟨_, rfl⟩
          rw [hW2, hq]
          rw [hW2] at bq bb
          rw [hq] at bq
          have hb2 : Below w.heap.size w W2 := HBW.out.trans (bb.mono HBW.out.size)
          obtain ⟨-, -, hf, hl1, hl2, hl3, -⟩ := HP.out
          have hf2 := hf.on bb
          obtain ⟨a0, k0, e0, i0⟩ := ints_rowv hf2.r0
          obtain ⟨a3, k3, e3, i3⟩ := ints_rowv hf2.r3
          obtain ⟨a2, k2, e2, i2⟩ := ints_rowv hf2.r2
          obtain ⟨a5, k5, e5, i5⟩ := ints_rowv hf2.r5
          obtain ⟨a1, k1, e1, -, ha1, -⟩ := slice_own hf2.r1
          obtain ⟨a4, k4, e4, -, ha4, -⟩ := slice_own hf2.r4
          have bx := hf2.bx
          have by_ := hf2.by_
          have r1 := hf2.r1
          have r4 := hf2.r4
          rw [e0, e1, e2] at bx
          rw [e3, e4, e5] at by_
          rw [e1] at r1
          rw [e4] at r4
          have HN1 : Veil (∀ m, Calls Try.prog 14 #[.slice a0 p.L.length k0, .slice a3 p.L.length k3] (W2.drewN m) fun e w' => e = .returned (.bool true) ∧ ∃ m', w' = (W2.drewN m).drewN m') := ⟨fun m => nums_quiet a0 a3 p.L.length k0 k3 p.L (W2.drewN m) (i0.on (below_drewN (Below.refl _ _) m)) (i3.on (below_drewN (Below.refl _ _) m)) (by omega)⟩
          have HN2 : Veil (∀ m, Calls Try.prog 14 #[.slice a2 p.G.length k2, .slice a5 p.G.length k5] (W2.drewN m) fun e w' => e = .returned (.bool true) ∧ ∃ m', w' = (W2.drewN m).drewN m') := ⟨fun m => nums_quiet a2 a5 p.G.length k2 k5 p.G (W2.drewN m) (i2.on (below_drewN (Below.refl _ _) m)) (i5.on (below_drewN (Below.refl _ _) m)) (by omega)⟩
          have z1 : W2.cell? ⟨q, 1, none⟩ = some (.pointer (some ⟨px, 0, none⟩)) := bq.at_ 1
          have z2 : W2.cell? ⟨q, 2, none⟩ = some (.pointer (some ⟨py, 0, none⟩)) := bq.at_ 2
          have x0 : W2.cell? ⟨px, 0, none⟩ = some (.slice a0 p.L.length k0) := bx.at_ 0
          have x1 : W2.cell? ⟨px, 1, none⟩ = some (.slice a1 p.T.length k1) := bx.at_ 1
          have x2 : W2.cell? ⟨px, 2, none⟩ = some (.slice a2 p.G.length k2) := bx.at_ 2
          have x3 : W2.cell? ⟨px, 3, none⟩ = some (.int .i64 0) := bx.at_ 3
          have y0 : W2.cell? ⟨py, 0, none⟩ = some (.slice a3 p.L.length k3) := by_.at_ 0
          have y1 : W2.cell? ⟨py, 1, none⟩ = some (.slice a4 p.T.length k4) := by_.at_ 1
          have y2 : W2.cell? ⟨py, 2, none⟩ = some (.slice a5 p.G.length k5) := by_.at_ 2
          have y3 : W2.cell? ⟨py, 3, none⟩ = some (.int .i64 0) := by_.at_ 3
          have qT : ((p.T.length : Int) != (p.T.length : Int)) = false := by simp
          have HR := Veil.mk (And.intro hb2 (And.intro r1 r4))
          have hTl : (p.T.length : Int) ≤ 2000 := by omega
          obtain ⟨nL, hnL⟩ : ∃ nL, p.L.length = nL := ⟨_, rfl⟩
          obtain ⟨nT, hnT⟩ : ∃ nT, p.T.length = nT := ⟨_, rfl⟩
          obtain ⟨nG, hnG⟩ : ∃ nG, p.G.length = nG := ⟨_, rfl⟩
          rw [hnL] at x0 y0 HN1
          rw [hnT] at x1 y1 qT hTl ha1 ha4 HR
          rw [hnG] at x2 y2 HN2
          have HTN := Veil.mk hnT
          clear hnL hnG hnT hl1 hl2 hl3
          clear bq bb hq hW2 hf hf2 e0 e1 e2 e3 e4 e5 i0 i2 i3 i5 bx by_ r1 r4 hb2 d0 d1 d2 HP
          go_quiet (first | (go_at_call 14; (with_reducible refine Calls.quiet_of (HN1.out _))) | (go_at_call 14; (with_reducible refine Calls.quiet_of (HN2.out _))))
          go_upto_region 15 with (fail)
          go_loopw [121] (fun iv wq => ∃ i : Nat, i ≤ nT ∧ iv = .int .i64 (i : Int) ∧ ∃ m : Nat, wq = W2.drewN m) (fun i _ => nT - (intOf i).toNat)
          case atStart => exact ⟨0, Nat.zero_le _, rfl, _, rfl⟩
          case round =>
            obtain ⟨i, hi, rfl, m, rfl⟩ := hrel
            have hi0 : (0 : Int) ≤ (i : Int) := by omega
            have hib : (i : Int) ≤ 2000 := by omega
            by_cases hit : i < nT
            · have hit' : (i : Int) < (nT : Int) := by omega
              obtain ⟨g1, rfl⟩ := ha1 (by omega)
              obtain ⟨g4, rfl⟩ := ha4 (by omega)
              obtain ⟨hb2, r1, r4⟩ := HR.out
              obtain ⟨⟨t0, t1⟩, ht⟩ : ∃ t, p.T[i]? = some t := ⟨_, List.getElem?_eq_getElem (by rw [HTN.out]; exact hit)⟩
              obtain ⟨f0, f1⟩ := flat2_at p.T i _ ht
              have u0 : W2.cell? ⟨g1, i * 2, none⟩ = some (.int .i64 t0) := by rw [r1.cellAt (i * 2) (by omega)]; exact f0
              have u1 : W2.cell? ⟨g1, i * 2 + 1, none⟩ = some (.int .i64 t1) := by rw [r1.cellAt (i * 2 + 1) (by omega)]; exact f1
              have u2 : W2.cell? ⟨g4, i * 2, none⟩ = some (.int .i64 t0) := by rw [r4.cellAt (i * 2) (by omega)]; exact f0
              have u3 : W2.cell? ⟨g4, i * 2 + 1, none⟩ = some (.int .i64 t1) := by rw [r4.cellAt (i * 2 + 1) (by omega)]; exact f1
              have hne := arr_neq t0 t1
              clear hb2 r1 r4 f0 f1 ht
              go_upto_region 17 with (fail)
              go_quiet (fail)
              go_wp2
              go_round
              case rel => exact ⟨i + 1, by omega, by go_num, _, rfl⟩
              case measure => simp [intOf]; omega
            · obtain rfl : i = nT := by omega
              have hit' : ¬ (i : Int) < (i : Int) := by omega
              go_wp2
              go_round
              case rel => exact ⟨j + 1, by omega, by go_num, below_drewN HR.out.1 _⟩
              case measure => simp [intOf]; omega
        · obtain rfl : j = ps.length := by omega
          have hjl' : ¬ (ps.length : Int) < (ps.length : Int) := by omega
          have c0 : wr.cell? ⟨bb, 1, none⟩ = some (.pointer (some ⟨mb, 0, none⟩)) := hks.bx.at_ 1
          have c1 : wr.cell? ⟨mb, 0, none⟩ = some (.slice al N cl) := hks.mx.at_ 0
          have c2 : wr.cell? ⟨bb, 0, none⟩ = some (.pointer (some ⟨A, 0, none⟩)) := hks.bx.at_ 0
          have c4 : wr.cell? ⟨mb, 2, none⟩ = some (.slice none 0 0) := hks.mx.at_ 2
          have HG0 : Veil (∀ m, Calls Try.prog 17 #[.pointer (some ⟨A, 0, none⟩), .int .i64 0] (wr.drewN m) fun e w' => e = .returned .nilIface ∧ w' = wr.drewN m) := ⟨fun m => by
            have := HGT.out (wr.drewN m) (below_drewN hb m) 0
            rw [HFC.out.2.1] at this
            exact this⟩
          have HG9 : Veil (∀ m, Calls Try.prog 17 #[.pointer (some ⟨A, 0, none⟩), .int .i64 (N : Int)] (wr.drewN m) fun e w' => e = .returned .nilIface ∧ w' = wr.drewN m) := ⟨fun m => by
            have := HGT.out (wr.drewN m) (below_drewN hb m) (N : Int)
            rw [HFC.out.2.2.1] at this
            exact this⟩
          have HC9 := Veil.mk (fun m => HCT.out (wr.drewN m) (below_drewN hb m))
          have HD9 := Veil.mk (fun m => HDT.out (wr.drewN m) (below_drewN hb m))
          have HBW := Veil.mk hb
          clear hks hb
          go_upto_region 21 with (fail)
          go_quiet (first | (go_at_call 13; (with_reducible refine Calls.quiet_of_same (HC9.out _))) | (go_at_call 19; (with_reducible refine Calls.quiet_of_same (HD9.out _))) | (go_at_call 17; (with_reducible refine Calls.quiet_of_same (HG0.out _))) | (go_at_call 17; (with_reducible refine Calls.quiet_of_same (HG9.out _))))
          go_wp2
          go_ret
          exact ⟨rfl, below_drewN HBW.out _⟩
end Go.Proofs.Ytkkbfadfgdjkdaa
