/- ShowValues: a plan as it is handed in; the tables. -/
import Derived.Test.YtgdkjkfbknbgkaaGreatDoorKk
import Derived.Test.YtgdkjkfbknbgkaaGreatDoorQy
import Derived.PinnedBridge
import Derived.Stop.LaidErr
import Derived.ChangeSlices
import Derived.Deep.Slices
import Derived.Lib.LaidU8
import Derived.SevenTiedAt
import Derived.ChangeMaps5
namespace Go.Proofs.YtgdkjkfbknbgkaaGreatDoor
open Go.ChangeMaps Go.ChangeShapes Go.WideShapes Go.ChangeAt Go.WideMaps Go.WideElems Go.RowKit Go.Deep

theorem cellsI64 : Tryz.prog.cellsOf 3 = 1 := by kernel_rfl
theorem cellsSl : Tryz.prog.cellsOf 38 = 1 := by kernel_rfl
theorem cellsU16 : Tryz.prog.cellsOf 105 = 1 := by kernel_rfl
theorem cellsPt : Tryz.prog.cellsOf 82 = 3 := by kernel_rfl
theorem cellsPts : Tryz.prog.cellsOf 22 = 1 := by kernel_rfl
theorem cellsPl : Tryz.prog.cellsOf 24 = 1 := by kernel_rfl
theorem cellsI6 : Tryz.prog.cellsOf 2 = 1 := by kernel_rfl
theorem bytesU16 : Tryz.prog.bytesOf 105 = 2 := by kernel_rfl
section
variable {H : Type} {enc : TypeId × Value → H}
theorem weightsAll_in {P : Program} {e : TypeId} : ∀ {l : List (DataW H)} {d : DataW H}, d ∈ l → ∀ n ∈ d.weights P e, n ∈ DataW.weightsAll P e l
  | d0 :: l, d, hd, n, hn => by
    simp only [DataW.weightsAll, List.mem_append]
    rcases List.mem_cons.1 hd with rfl | h
    · exact Or.inl hn
    · exact Or.inr (weightsAll_in h n hn)
theorem weight_head {P : Program} {t e : TypeId} {elems spare : List (DataW H)} (hu : P.underlying t = some (.slice e)) : (elems.length + spare.length) * P.bytesOf e ∈ (DataW.slice elems spare).weights P t := by simp [DataW.weights, hu]
theorem weight_elem {P : Program} {t e : TypeId} {elems spare : List (DataW H)} {d : DataW H} (hu : P.underlying t = some (.slice e)) (hd : d ∈ elems) : ∀ n ∈ d.weights P e, n ∈ (DataW.slice elems spare).weights P t := fun n hn => by
  simp only [DataW.weights, hu, List.mem_cons, List.mem_append]
  exact .inr (.inl (weightsAll_in hd n hn))
theorem weight_field {P : Program} {t t2 : TypeId} {fs : Array Field} {parts : List (DataW H)} {d : DataW H} (hu : P.underlying t = some (.struct fs)) (j : Nat) (ht : (fs.toList.map (·.type))[j]? = some t2) (hd : parts[j]? = some d) : ∀ n ∈ d.weights P t2, n ∈ (DataW.agg parts).weights P t := fun n hn => by
  simp only [DataW.weights, hu]
  exact DataW.weights_mem_each ht hd n hn
set_option maxRecDepth 100000 in
theorem nums16_trod {WW : World} {v : Value} {fuel : Nat} {x : DataW H × List MemPlace} (hf : DataW.trod enc Tryz.prog WW 0 (fun _ => true) true fuel 38 [v] = some x) :
    ∃ (a : Option Addr) (n ca : Nat) (l : List Nat), v = .slice a n ca ∧ n ≤ ca ∧ (∀ u ∈ l, u < 65536) ∧ W.Nums .u16 WW a n l := by
  rcases open_ints Tryz.underlying38 Tryz.underlying105 cellsU16 hf with ⟨hcs, hx⟩ | ⟨a, len, cap, zs, hcs, _, hl, hm, hz, hx, hcell, hwz⟩
  · obtain rfl : v = .slice none 0 0 := by simpa using hcs
    exact ⟨none, 0, 0, [], rfl, Nat.le_refl _, fun u hu => by simp at hu, rfl, fun h0 => absurd h0 (by omega)⟩
  · obtain rfl : v = .slice (some a) len cap := by simpa using hcs
    simp only [if_true] at hz
    have hwf : ∀ n ∈ zs, 0 ≤ n ∧ n < 65536 := fun n hn => by
      have := hwz n hn
      have h12 : IntKind.u16.min ≤ n ∧ n ≤ IntKind.u16.max := by simpa [Lit.wf] using this
      obtain ⟨h1, h2⟩ := h12
      have e1 : IntKind.u16.min = 0 := by rfl
      have e2 : IntKind.u16.max = 65535 := by rfl
      rw [e1] at h1; rw [e2] at h2
      omega
    refine ⟨some a, len, cap, (zs.take len).map Int.toNat, rfl, hl, ?_, ?_, fun h0 => ?_⟩
    · intro u hu
      obtain ⟨z, hzm, rfl⟩ := List.mem_map.1 hu
      have := hwf z (List.mem_of_mem_take hzm)
      omega
    · rw [List.length_map, List.length_take]; omega
    · have h00 := hcell 0 (by omega)
      obtain ⟨b, off, spot⟩ := a
      have hspot : spot = none := by simpa [Addr.add] using World.cell?_spot h00
      subst hspot
      have hlt := World.block_lt_of_cell? WW _ h00
      refine ⟨b, off, rfl, by simpa [Addr.add] using hlt, fun i hi => ?_⟩
      have hci := hcell i (by omega)
      have hzi : zs.getD i 0 = (((((zs.take len).map Int.toNat)[i]?.getD 0 : Nat)) : Int) := by
        have hi2 : i < zs.length := by omega
        have := hwf (zs[i]) (List.getElem_mem hi2)
        rw [List.getElem?_map, List.getElem?_take, if_pos hi, List.getElem?_eq_getElem hi2]
        simp [List.getD, List.getElem?_eq_getElem hi2]
        omega
      rw [← hzi]
      have ea : (⟨b, off, none⟩ : Addr).add i = ⟨b, off + i, none⟩ := by
        unfold Addr.add; split <;> simp_all
      rw [ea] at hci
      exact hci
set_option maxRecDepth 100000 in
theorem len16 {W : World} {v : Value} {x : DataW H × List MemPlace} {fuel : Nat} (h : DataW.trod enc Tryz.prog W 0 (fun _ => true) true fuel 38 [v] = some x) (hw : ∀ n ∈ x.1.weights Tryz.prog 38, n ≤ reachBytes) (a : Option Addr) (len ca : Nat) (hv : v = .slice a len ca) : len ≤ 1000000000000000 := by
  rcases open_slice Tryz.underlying38 h with ⟨hcs, hx⟩ | ⟨a2, len2, cap2, m, k, D, Pl, hcs, _, hl, hm, hmm, hx, hcell⟩
  · have e : v = .slice none 0 0 := by simpa using hcs
    rw [hv] at e
    cases e
    exact Nat.zero_le _
  · have e : v = .slice (some a2) len2 cap2 := by simpa using hcs
    rw [hv] at e
    cases e
    simp only [if_true] at hmm
    rw [hx] at hw
    have hq := hw _ (weight_head Tryz.underlying38)
    rw [bytesU16] at hq
    simp only [List.length_map, List.length_range] at hq
    unfold reachBytes at hq
    omega
set_option maxHeartbeats 1000000 in
set_option maxRecDepth 100000 in
theorem parts_trod {W : World} {v : Value} {x : DataW H × List MemPlace} {fuel : Nat} (hf : DataW.trod enc Tryz.prog W 0 (fun _ => true) true fuel 22 [v] = some x) (hw : ∀ n ∈ x.1.weights Tryz.prog 22, n ≤ reachBytes) :
    ∃ (a : Option Addr) (n ca : Nat) (l : List PI), v = .slice a n ca ∧ PlA W W.heap.size a n l := by
  rcases open_slice Tryz.underlying22 hf with ⟨hcs, hx⟩ | ⟨a, len, cap, m, k, D, Pl, hcs, _, hl, hm, hmm, hx, hcell⟩
  · have e : v = .slice none 0 0 := by simpa using hcs
    exact ⟨none, 0, 0, [], e, rfl, fun h0 => absurd h0 (by omega), fun s hs => nomatch hs⟩
  · have e : v = .slice (some a) len cap := by simpa using hcs
    subst e
    simp only [if_true] at hmm
    rw [hx] at hw
    have each : ∀ i, i < len → ∃ s : PI, (W.cell? (a.add (i * 3)) = some (.int .i64 s.k) ∧ W.cell? (a.add (i * 3 + 1)) = some (.int .i64 s.n) ∧ W.cell? (a.add (i * 3 + 2)) = some s.s) ∧ ((∀ u ∈ s.l, u < 65536) ∧ s.l.length ≤ 1000000000000000 ∧ (-9223372036854775808 ≤ s.k ∧ s.k ≤ 9223372036854775807) ∧ (-9223372036854775808 ≤ s.n ∧ s.n ≤ 9223372036854775807) ∧ ∃ sa c, s.s = .slice sa s.l.length c ∧ (0 < s.l.length → ∃ b o, sa = some ⟨b, o, none⟩ ∧ b < W.heap.size ∧ ∀ i, i < s.l.length → W.cell? ⟨b, o + i, none⟩ = some (.int .u16 ((s.l[i]?.getD 0 : Nat) : Int)))) := by
      intro i hi
      obtain ⟨cs, hc, ht⟩ := hcell i (by omega)
      rw [cellsPt] at hc
      obtain ⟨_, hcl, hat⟩ := World.cells?_some hc
      obtain ⟨xs, k2, _, hDi, _, hxl, hg⟩ := DataW.trod_struct Tryz.underlying82 ht
      have hwi : ∀ n ∈ (D i).weights Tryz.prog 82, n ≤ reachBytes := fun n hn => hw n (weight_elem Tryz.underlying22 (List.mem_map.2 ⟨i, List.mem_range.2 hi, rfl⟩) n hn)
      injection hDi with hD1 hD2
      rw [hD1] at hwi
      match cs, hcl with
      | [c0, c1, c2], _ =>
        match xs, hxl with
        | [x0, x1, x2], _ =>
          have g0 : DataW.trod enc Tryz.prog W 0 (fun _ => true) true k2 3 (([c0, c1, c2].drop 0).take (Tryz.prog.cellsOf 3)) = some x0 := hg 0 _ rfl
          have g1 : DataW.trod enc Tryz.prog W 0 (fun _ => true) true k2 2 (([c0, c1, c2].drop 1).take (Tryz.prog.cellsOf 2)) = some x1 := hg 1 _ rfl
          have g2 : DataW.trod enc Tryz.prog W 0 (fun _ => true) true k2 38 (([c0, c1, c2].drop 2).take (Tryz.prog.cellsOf 38)) = some x2 := hg 2 _ rfl
          rw [cellsI64] at g0
          rw [cellsI6] at g1
          rw [cellsSl] at g2
          have h0 := hat 0 (by omega)
          have h1 := hat 1 (by omega)
          have h2 := hat 2 (by omega)
          rw [Go.Deep.add_add] at h0 h1 h2
          obtain ⟨n0, e0, -, w0⟩ := DataW.trod_int Tryz.underlying3 (by simpa using g0)
          obtain ⟨n1, e1, -, w1⟩ := DataW.trod_int Tryz.underlying2 (by simpa using g1)
          cases e0; cases e1
          have g2' : DataW.trod enc Tryz.prog W 0 (fun _ => true) true k2 38 [c2] = some x2 := by simpa using g2
          obtain ⟨sa, sn, sc, L, hs, -, hL, hN⟩ := nums16_trod g2'
          have hlen := len16 g2' (fun n hn => hwi n (weight_field Tryz.underlying82 2 rfl rfl n hn)) sa sn sc hs
          obtain ⟨hLn, hNc⟩ := hN
          subst hLn
          have e : IntKind.i64.min = -9223372036854775808 := by decide
          have q0 : IntKind.i64.min ≤ n0 ∧ n0 ≤ 9223372036854775807 := by simpa [Lit.wf] using w0
          have q1 : IntKind.i64.min ≤ n1 ∧ n1 ≤ 9223372036854775807 := by simpa [Lit.wf] using w1
          rw [e] at q0 q1
          exact ⟨⟨n0, n1, c2, L⟩, ⟨by simpa using h0, by simpa using h1, by simpa using h2⟩, hL, hlen, q0, q1, sa, sc, hs, hNc⟩
    obtain ⟨f, hf⟩ := Classical.axiomOfChoice (r := fun (i : {i // i < len}) (s : PI) => (W.cell? (a.add (i.1 * 3)) = some (.int .i64 s.k) ∧ W.cell? (a.add (i.1 * 3 + 1)) = some (.int .i64 s.n) ∧ W.cell? (a.add (i.1 * 3 + 2)) = some s.s) ∧ ((∀ u ∈ s.l, u < 65536) ∧ s.l.length ≤ 1000000000000000 ∧ (-9223372036854775808 ≤ s.k ∧ s.k ≤ 9223372036854775807) ∧ (-9223372036854775808 ≤ s.n ∧ s.n ≤ 9223372036854775807) ∧ ∃ sa c, s.s = .slice sa s.l.length c ∧ (0 < s.l.length → ∃ b o, sa = some ⟨b, o, none⟩ ∧ b < W.heap.size ∧ ∀ i, i < s.l.length → W.cell? ⟨b, o + i, none⟩ = some (.int .u16 ((s.l[i]?.getD 0 : Nat) : Int))))) (fun i => each i.1 i.2)
    obtain ⟨g, hg⟩ : ∃ g : Nat → PI, ∀ i (h : i < len), g i = f ⟨i, h⟩ := ⟨fun i => if h : i < len then f ⟨i, h⟩ else ⟨0, 0, undef, []⟩, fun i h => dif_pos h⟩
    refine ⟨some a, len, cap, (List.range len).map g, rfl, by simp, fun h0 => ?_, fun s hs => ?_⟩
    · have h00 := (hf ⟨0, h0⟩).1.1
      obtain ⟨b, off, spot⟩ := a
      have hspot : spot = none := by simpa [Addr.add] using World.cell?_spot h00
      subst hspot
      have hlt := World.block_lt_of_cell? W _ h00
      refine ⟨b, off, rfl, by simpa [Addr.add] using hlt, fun i s hi => ?_⟩
      have hil : i < len := by
        have := (List.getElem?_eq_some_iff.1 hi).1
        simpa using this
      rw [List.getElem?_map, List.getElem?_range hil] at hi
      injection hi with hi
      rw [hg i hil] at hi
      subst hi
      have ha : ∀ k, (⟨b, off, none⟩ : Addr).add k = ⟨b, off + k, none⟩ := fun k => by
        unfold Addr.add; split <;> simp_all
      have := (hf ⟨i, hil⟩).1
      rw [ha, ha, ha] at this
      exact this
    · obtain ⟨i, hi, rfl⟩ := List.mem_map.1 hs
      have hil := List.mem_range.1 hi
      rw [hg i hil]
      exact (hf ⟨i, hil⟩).2
set_option maxRecDepth 100000 in
theorem plan_open {W : World} {v : Value} {d : DataW H} {ps : List MemPlace} (hval : Value.okWide Tryz.prog W .any 0 24 v) (h : DataW.Trod enc Tryz.prog W 0 (fun _ => true) true 24 v d ps) (hw : ∀ n ∈ d.weights Tryz.prog 24, n ≤ reachBytes) :
    ∃ (a : Option Addr) (n ca : Nat) (l : List PI), v = .agg #[.slice a n ca] ∧ PlA W W.heap.size a n l := by
  simp only [Value.okWide, Tryz.underlying24] at hval
  obtain ⟨cs, rfl, hsz, -⟩ := hval
  have hsz : cs.size = 1 := hsz.trans cellsPl
  obtain ⟨c0, rfl⟩ : ∃ c0, cs = #[c0] := by
    match cs, hsz with
    | ⟨[c0]⟩, _ => exact ⟨c0, rfl⟩
  obtain ⟨fuel, hf⟩ := h
  obtain ⟨xs, k2, _, hDi, _, hxl, hg⟩ := DataW.trod_struct Tryz.underlying24 hf
  injection hDi with hD1 hD2
  rw [hD1] at hw
  match xs, hxl with
  | [x0], _ =>
    have g0 : DataW.trod enc Tryz.prog W 0 (fun _ => true) true k2 22 (((Value.agg #[c0]).cells.toList.drop 0).take (Tryz.prog.cellsOf 22)) = some x0 := hg 0 _ rfl
    rw [cellsPts] at g0
    have g0 : DataW.trod enc Tryz.prog W 0 (fun _ => true) true k2 22 [c0] = some x0 := by simpa [Value.cells] using g0
    obtain ⟨a, n, ca, l, rfl, hP⟩ := parts_trod g0 (fun n hn => hw n (weight_field Tryz.underlying24 0 rfl rfl n hn))
    exact ⟨a, n, ca, l, rfl, hP⟩
end
/-- The tables that the rows list, with what they hold. -/
abbrev tabs5 : List (String × DataW Unit) := [("math/bits.deBruijn32tab", Rows.laid_math_bits_deBruijn32tab), ("math/bits.deBruijn64tab", Rows.laid_math_bits_deBruijn64tab), ("internal/strconv.uint64pow10", Rows.laid_internal_strconv_uint64pow10), ("unicode/utf8.acceptRanges", Rows.laid_unicode_utf8_acceptRanges), ("unicode/utf8.first", Rows.laid_unicode_utf8_first)]
/-- The program's own start, with the pinned table in its block. -/
noncomputable def pinLaid (os : Os) : World :=
  { World.doorLaid Tryz.prog 4000 os with heap := (World.doorLaid Tryz.prog 4000 os).heap.modify 0 (fun o => match o with | .cells _ t f => .cells ((List.range 256).map fun c => Value.int .u8 (Lib.firstT c)).toArray t f | o => o) }
theorem door_met5 (os : Os) (args : Array Value) : laidMetH Tryz.prog tabs5 ((pinLaid os).forCall (fun _ _ => 0) ⟨#[], args, []⟩).memory :=
  laidMetH_of_parts3 (fuel := 8) (laidMet_of_run' 8 (by kernel_rfl) (by kernel_rfl)) (by kernel_rfl) (by kernel_rfl)
theorem pow_named : Tryz.prog.globalNamed "internal/strconv.uint64pow10" = some 2 := by kernel_rfl
theorem pow_type : (Tryz.prog.globals[2]?).map (·.type) = some 213 := by kernel_rfl
theorem pow_data : (Rows.laid_internal_strconv_uint64pow10 : DataW Unit) = Lib.tabData .u64 Lib.pow10Tab := by kernel_rfl
theorem pow_of {W : World} {r : List (String × DataW Unit)} (h3 : laidMet Tryz.prog (("internal/strconv.uint64pow10", Rows.laid_internal_strconv_uint64pow10) :: r) W) : M.Tb W := by
  rw [pow_data] at h3
  exact Lib.tabBelow_of_tabIs (Lib.tabIs_of_head pow_named pow_type Tryz.underlying213 Tryz.underlying202 (by kernel_rfl) (by kernel_rfl) h3)
theorem pow_of5 {W : World} (h : laidMetH Tryz.prog tabs5 W) : M.Tb W := by
  rw [MakeChecks.laidMetH_plain _ _ _ (by kernel_rfl)] at h
  exact pow_of (laidMet.tail (laidMet.tail h))
end Go.Proofs.YtgdkjkfbknbgkaaGreatDoor
