/- Package arena: sweep, bodies that are only followed: the walk. -/
import Derived.Test.YtbeapojjbgkalaaGreatDoorSi
namespace Go.Proofs.YtbeapojjbgkalaaGreatDoor
open Go Go.RowKit
attribute [local go_sem] Oper.semAt_some

def AD.swept (d : AD) (l : List Nat) : AD := { d.freed l.reverse with count := d.count - l.length }
def SwPost (B A : Nat) (cv fv rv : Value) (d : AD) (M : List Bool) (w : World) (e : Ending) (w' : World) : Prop :=
  ∃ frv fv', e = .returned frv ∧ w'.ownsRow w.heap.size 3 1 frv (frL d M d.cells.length).length (numsV (frL d M d.cells.length)) ∧ ArAt w' B A cv fv' rv (d.swept (frL d M d.cells.length)) ∧
    Touch (SwF A cv fv) w w' ∧ ∀ k, fv'.ownBlock = some k → fv.ownBlock = some k ∨ w.heap.size ≤ k
theorem func_resolve (f : FuncId) (cs : Array Value) {a : Act} {g : Operand} (hg : a.eval g = .func (.func f) #[] cs) (l : Nat) (W : World) : (resolve a.eval (rangeCall g l) 0).run Tryz.prog W = .ok { target := .fn (.func f) cs, args := #[.func (.yield l) #[] #[]] } W := by
  simp only [resolve, hg]
  simp [go_sem]
theorem back_invoke (bx l : Nat) (W : World) : (invoke (.fn (.func 114) #[.pointer (some ⟨bx, 0, none⟩)]) #[.func (.yield l) #[] #[]]).run Tryz.prog W = .ok (.enter 114 (#[] ++ #[.func (.yield l) #[] #[]] ++ #[.pointer (some ⟨bx, 0, none⟩)])) W := by kernel_rfl
def AxS (a : Act) (x : Nat × Nat) (a' : Act) (_ : World) : Prop := a' = { tmps := ((a.tmps.setIfInBounds 48 (.int .i64 (x.1 : Int))).setIfInBounds 49 (.int .i64 (x.2 : Int))).setIfInBounds 12 (.int .i64 (x.2 : Int)), defers := [] }
/-- Behind i cells. -/
structure Sw1 (A b2 : Nat) (d : AD) (M : List Bool) (w : World) (fr : Value) (k : Nat) (wr : World) : Prop where
  bel : Below w.heap.size w wr
  bx : Box wr b2 51 #[.pointer (some ⟨A, 0, none⟩)]
  fo : wr.ownsRow w.heap.size 3 1 fr (frL d M k).length (numsV (frL d M k))
set_option maxHeartbeats 8000000 in
set_option maxRecDepth 100000 in
theorem sweep_plain (B A N m : Nat) (cv fv rv mv tv : Value) (d : AD) (M : List Bool) (todo : List Nat) (hML : M.length = d.cells.length) (hL : d.cells.length < 1000000) (hfl : d.free.length < 1000000) (hpl : ∀ (k : Nat) (b : Bd), d.cells[k]? = some (some b) → PlB b) (w : World) (hNw : N ≤ w.heap.size) (hcnt : (frL d M d.cells.length).length ≤ d.count) (hcb : d.count < 10000000)
    (h : ArAt w B A cv fv rv d) (hN : ∀ j, AFoot A cv fv rv j → j < N) (hm : MkAt w N A m mv tv M todo) :
    Calls Tryz.prog 61 #[.pointer (some ⟨A, 0, none⟩), deadV m] w (SwPost B A cv fv rv d M w) := by
  obtain ⟨i0, hi, hz0, hz1, hz2⟩ := info_parts Tryz.infoI
  have HPL := Veil.mk hpl
  obtain ⟨ao, cap, hcv, -, -, -⟩ := slice_own h.co
  have HD : Veil (∀ wr, Below w.heap.size w wr → ∀ k : Int, Calls Tryz.prog 60 #[.pointer (some ⟨m, 0, none⟩), .int .i64 k] wr fun e w' => e = .returned (.bool (deadB d M k)) ∧ w' = wr) := ⟨fun wr hb k => dead_any B A N m cv fv rv mv tv d M todo hML k wr (h.on hb) (hm.on hb)⟩
  have HC : Veil (∀ wr, Below w.heap.size w wr → ∀ i, i < d.cells.length → ∃ g, ao = some ⟨g, 0, none⟩ ∧ wr.cell? ⟨g, i, none⟩ = some (bodyV (d.cells[i]?.getD none))) := ⟨fun wr hb i hi => by
    obtain ⟨g, cap', e, hc⟩ := cell_body (h.on hb) i hi
    rw [hcv] at e
    injection e with e1 e2 e3
    exact ⟨g, e1, hc⟩⟩
  obtain ⟨b2, hb2⟩ : ∃ b2, w.heap.size = b2 := ⟨_, rfl⟩
  obtain ⟨W1, hW1⟩ : ∃ W1, w.alloc (.cells #[.pointer (some ⟨A, 0, none⟩)] 51) = W1 := ⟨_, rfl⟩
  have hb1 : Below w.heap.size w W1 := by rw [← hW1]; exact (Below.refl _ _).alloc (Nat.le_refl _) _
  have bx1 : Box W1 b2 51 #[.pointer (some ⟨A, 0, none⟩)] := by rw [← hW1, ← hb2]; exact Box.new _ _ _
  have x0 : W1.cell? ⟨b2, 0, none⟩ = some (.pointer (some ⟨A, 0, none⟩)) := bx1.at_ 0
  have x1 : W1.cell? ⟨A, 0, none⟩ = some (.slice ao d.cells.length cap) := by rw [(h.on hb1).box.at_ 0, hcv]; rfl
  have HS1 := Veil.mk (show Sw1 A b2 d M w (.slice none 0 0) 0 W1 from ⟨hb1, bx1, ⟨rfl, .inl ⟨rfl, rfl⟩⟩⟩)
  have HW1 := Veil.mk (And.intro hW1 hb2)
  have HA := Veil.mk (And.intro h (And.intro hN (And.intro hNw hcnt)))
  clear h hN hm hW1 hb2 hb1 bx1 hML hNw hcv hcnt hpl
  refine (callsIn_wide (n := 6)).1 (callsIn_of_wp_marks Tryz.func61 rfl trivial (wpIn_wide.2 ?_) rfl)
  simp only [Tryz.ntmps61, List.size_toArray, List.length_cons, List.length_nil, Nat.reduceAdd, Nat.reduceSub, Array.replicate_succ, Array.replicate_zero, List.push_toArray, List.append_toArray, List.nil_append, List.cons_append]
  go_upto_region 1 with (fail)
  rw [HW1.out.1, HW1.out.2]
  go_upto_region 4 with (fail)
  go_loopw [5, 6, 20] (fun fr gv i wr => ∃ k : Nat, k ≤ d.cells.length ∧ i = .int .i64 (k : Int) ∧ gv = .slice none 0 0 ∧ Sw1 A b2 d M w fr k wr) (fun _ _ i _ => d.cells.length - (intOf i).toNat)
  case atStart => exact ⟨0, Nat.zero_le _, rfl, rfl, HS1.out⟩
  case round =>
    obtain ⟨k, hk, rfl, rfl, hS⟩ := hrel
    have hk0 : (0 : Int) ≤ (k : Int) := by omega
    by_cases hlt : k < d.cells.length
    · have hlt' : (k : Int) < (d.cells.length : Int) := by omega
      have hkb : (k : Int) < 1000000 := by omega
      obtain ⟨g, rfl, hc⟩ := HC.out wr hS.bel k hlt
      have HD1 := Veil.mk (HD.out wr hS.bel ((k : Int) + 1))
      cases hd : deadB d M ((k : Int) + 1) with
      | false =>
        rw [hd] at HD1
        have HR := Veil.mk (show Sw1 A b2 d M w _ (k + 1) wr from ⟨hS.bel, hS.bx, by rw [frL_no hd]; exact hS.fo⟩)
        obtain ⟨bb, hbb⟩ : ∃ bb, d.cells[k]?.getD none = bb := ⟨_, rfl⟩
        rw [hbb] at hc
        clear hS hd hbb HS1
        go_wp2_with (first | (go_at_call 60; ((with_reducible refine HD1.out.mono ?_); rintro e9 w9 ⟨rfl, h9⟩; subst w9)))
        go_round
        case rel => exact ⟨k + 1, by omega, by go_num, rfl, HR.out⟩
        case measure => simp [intOf]; omega
      | true =>
        obtain ⟨nb, hnb⟩ := dead_node hd
        rw [hd] at HD1
        rw [hnb] at hc
        replace hc : wr.cell? ⟨g, k, none⟩ = some (nodeV nb) := hc
        have hga := (HPL.out k nb hnb).noG
        have hf1 := hS.fo
        have hlf := frL_len d M k
        have hbw := hS.bel.size
        have HSB := Veil.mk (And.intro hS.bel hS.bx)
        have HY := Veil.mk (frL_yes hd)
        clear hS hd hnb HS1
        go_upto_region 8 with (first | (go_at_call 60; ((with_reducible refine HD1.out.mono ?_); rintro e9 w9 ⟨rfl, h9⟩; subst w9)) | (at_builtin; refine wpList_append_lies _ rfl _ _ 57 rfl w.heap.size 3 i0 (.int .i64 0) 1 8 Tryz.underlying57 hi hz0 hz1 hz2 rfl (by decide) _ _ _ rfl (hf1.alloc _) ⟨wr.heap.size, 0, none⟩ 1 1 [.int .i64 ((k : Int) + 1)] rfl rfl (news_at _ _ rfl _ _) (by simp [Value.oneCell']) (by decide) (by unfold maxLen; omega) (by omega) (by simp; omega) _ rfl ?_; intro g2 cap2 w3 hown2 hgrow2 hblk2 hg2; refine Hid.out ?_))
        have ht2 : Touch (fun j => u5.ownBlock = some j) wr w3 := (Touch.of_below ((Below.refl wr.heap.size wr).alloc (Nat.le_refl _) (.cells #[.int .i64 ((k : Int) + 1)] 3))).trans (Touch.of_grown hgrow2 (fun j hj => hj))
        have hbx3 := HSB.out.2.touch ht2 (fun e => (own_lab hf1 b2 e).ne HSB.out.2.lab (by decide) rfl)
        have hbel3 : Below w.heap.size w w3 := HSB.out.1.trans (ht2.below hbw (fun j hj => (own_lt hf1 j hj).1))
        have hf3 : w3.ownsRow w.heap.size 3 1 (.slice (some ⟨g2, 0, none⟩) ((frL d M k).length + 1) cap2) (frL d M (k + 1)).length (numsV (frL d M (k + 1))) := by
          have e : numsV (frL d M k ++ [k + 1]) = numsV (frL d M k) ++ [.int .i64 ((k : Int) + 1)] := List.map_append
          rw [HY.out, List.length_append, e]
          exact hown2
        have hbw3 := hbel3.size
        have HF3 := Veil.mk (And.intro hf3 (And.intro hbx3 hbel3))
        clear hf1 hown2 hgrow2 hblk2 ht2 hbx3 hbel3 hf3 HSB HD1 hc hbw
        have HR := Veil.mk (show Sw1 A b2 d M w (.slice (some ⟨g2, 0, none⟩) ((frL d M k).length + 1) cap2) (k + 1) w3 from ⟨HF3.out.2.2, HF3.out.2.1, HF3.out.1⟩)
        clear HF3
        refine Lib.hid ?_
        go_wp2
        go_round
        case rel => exact ⟨k + 1, by omega, by go_num, rfl, HR.out⟩
        case measure => simp [intOf]; omega
    · obtain rfl : k = d.cells.length := by omega
      have hlt' : ¬ (d.cells.length : Int) < (d.cells.length : Int) := by omega
      obtain ⟨fr, hfr⟩ : ∃ fr, frL d M d.cells.length = fr := ⟨_, rfl⟩
      obtain ⟨hSb, hSx, hSf⟩ := hS
      rw [hfr] at hSf
      obtain ⟨aof, cpf, rfl, -, hgf, -⟩ := slice_own hSf
      have hfl2 : fr.length ≤ d.cells.length := by rw [← hfr]; exact frL_len _ _ _
      have HFG := Veil.mk (And.intro hfr trivial)
      have HBK := Veil.mk (back_any aof fr.length cpf wr)
      have HSS := Veil.mk (And.intro hSb (And.intro hSx hSf))
      clear hSb hSx hSf hfr HS1 HC hgf
      go_upto_region 13 with (first | (go_at_call 91; ((with_reducible refine HBK.out.mono ?_); rintro e9 w9 ⟨rfl, h9⟩; subst w9)))
      obtain ⟨W0, hW0⟩ : ∃ W0, wr.alloc (.cells #[.slice aof fr.length cpf] 57) = W0 := ⟨_, rfl⟩
      rw [hW0]
      have hb0 : Below wr.heap.size wr W0 := by rw [← hW0]; exact (Below.refl _ _).alloc (Nat.le_refl _) _
      obtain ⟨bx, hbx⟩ : ∃ bx, wr.heap.size = bx := ⟨_, rfl⟩
      have hbq : Box W0 bx 57 #[.slice aof fr.length cpf] := by rw [← hW0, ← hbx]; exact Box.new _ _ _
      have hW0s : W0.heap.size = bx + 1 := by rw [← hW0, ← hbx]; simp
      obtain ⟨hSb, hSx, hSf⟩ := HSS.out
      obtain ⟨hA, hN, hNw, hcnt⟩ := HA.out
      have hSb0 : Below w.heap.size w W0 := hSb.trans (hb0.mono hSb.size)
      have hwbx : w.heap.size ≤ bx := by have := hSb.size; omega
      have HW0 : Veil (Below w.heap.size w W0 ∧ Box W0 b2 51 #[.pointer (some ⟨A, 0, none⟩)] ∧ W0.ownsRow w.heap.size 3 1 (.slice aof fr.length cpf) fr.length (numsV fr) ∧ True ∧ Box W0 bx 57 #[.slice aof fr.length cpf] ∧ ArAt W0 B A cv fv rv d ∧ ∀ k, (Value.slice aof fr.length cpf).ownBlock = some k → k < bx) := ⟨hSb0, hSx.below hb0, own_below hSf hb0, trivial, hbq, hA.on hSb0, fun k hk => by have := (own_lt hSf k hk).2; omega⟩
      rw [hbx]
      clear hW0 hb0 hbq hSb hSx hSf hSb0 hA hcnt hN HSS HBK hbx x0 x1
      refine wpIn_wide.1 (wpIn_rangeFunc_read (n := 6) (by omega) (gf := 114) (la := #[]) (lb := #[.pointer (some ⟨bx, 0, none⟩)]) (tgt := .fn (.func 114) #[.pointer (some ⟨bx, 0, none⟩)]) (dargs := fun l => #[.func (.yield l) #[] #[]]) (fun l W => func_resolve 114 #[.pointer (some ⟨bx, 0, none⟩)] rfl l W) (fun l W => back_invoke bx l W) (encs := fun x : Nat × Nat => #[.int .i64 (x.1 : Int), .int .i64 (x.2 : Int)]) (F := fun k => k = bx ∨ (Value.slice aof fr.length cpf).ownBlock = some k) (S := fun xs => xs = backK fr fr.length) (Sp := fun pre => pre <+: backK fr fr.length) ?hF ?hseq (fun _ => rfl)
        (SwI B A cv fv rv d W0) (fun _ _ _ => False) ?hI (fun _ _ _ _ h _ => h.elim) ⟨fv, Touch.refl _ _, by rw [List.map_nil, AD.freed_nil]; exact HW0.out.2.2.2.2.2.1, fun k hk => .inl hk⟩ AxS (fun _ _ _ _ h _ => h) ?assign ?body ?done (fun _ _ _ _ _ _ h _ => h.elim))
      case hF =>
        rintro k (hk | hk)
        · omega
        · have := HW0.out.2.2.2.2.2.2 k hk
          omega
      case hseq =>
        intro W hb
        exact back_stops 5 (by omega) bx w.heap.size _ fr (by omega) W (HW0.out.2.2.2.2.1.below hb) (own_below HW0.out.2.2.1 hb)
      case hI => exact fun s A' B' h ht => h.touchL ht
      case assign =>
        intro l pre x W K hI hK
        gi_wp2
        exact hK _ _ (Touch.refl _ _) hI rfl
      case body =>
        rintro l pre ⟨xi, x⟩ a' W ⟨fv', t1, ar, hf'⟩ rfl hsp
        simp only [List.setIfInBounds_toArray, List.set_cons_zero, List.set_cons_succ]
        obtain ⟨i, hic, hxi⟩ : ∃ i, i < d.cells.length ∧ x = i + 1 := by
          have h1 : (xi, x) ∈ backK fr fr.length := hsp.subset (by simp)
          have h2 : x ∈ (backK fr fr.length).map (·.2) := List.mem_map.2 ⟨_, h1, rfl⟩
          rw [back_vals, List.mem_reverse, ← HFG.out.1] at h2
          obtain ⟨i, h3, h4, -⟩ := frL_mem h2
          exact ⟨i, h3, h4⟩
        obtain ⟨z1, z2, z3, z4, z5, z6, z7⟩ := HW0.out
        have lA := z6.box.lab
        have lc := own_lab z6.co
        have lf := own_lab z6.fo
        have bxW : Box W b2 51 #[.pointer (some ⟨A, 0, none⟩)] := z2.touch t1 (fun e => by
          rcases e with e | e | e
          · exact z2.lab.ne lA (by decide) e
          · exact (lc b2 e).ne z2.lab (by decide) rfl
          · exact (lf b2 e).ne z2.lab (by decide) rfl)
        obtain ⟨vs, hvs⟩ : ∃ vs, pre.map (·.2) = vs := ⟨_, rfl⟩
        rw [hvs] at ar
        have hvl : vs.length ≤ 1000000 := by
          have h1 := hsp.length_le
          have h2 : (backK fr fr.length).length = fr.length := by
            have := congrArg List.length (back_vals fr)
            simpa using this
          rw [← hvs, List.length_map]
          rw [List.length_append, h2] at h1
          omega
        obtain ⟨ao3, cap3, hcv3, hcap3, hgc3, -⟩ := slice_own ar.co
        have hlen3 : (d.freed vs).cells.length = d.cells.length := clearC_len _ _
        obtain ⟨gc, rfl⟩ := hgc3 (by rw [hlen3]; omega)
        rw [hlen3] at hcv3
        subst hcv3
        obtain ⟨af, cf, hfv3, hcf, -, hcfm⟩ := slice_own ar.fo
        obtain ⟨FL, hFL⟩ : ∃ FL, d.free ++ vs = FL := ⟨_, rfl⟩
        have hfl3 : (d.freed vs).free = FL := hFL
        rw [hfl3] at hfv3 hcf
        subst hfv3
        have c0 : W.cell? ⟨b2, 0, none⟩ = some (.pointer (some ⟨A, 0, none⟩)) := bxW.at_ 0
        have c1 : W.cell? ⟨A, 0, none⟩ = some (.slice (some ⟨gc, 0, none⟩) d.cells.length cap3) := ar.box.at_ 0
        have arco := ar.co
        rw [hlen3] at arco
        have c2f : W.frozen? ⟨gc, i, none⟩ = false := own_free arco i
        have c2 : ∃ v, W.cell? ⟨gc, i, none⟩ = some v := by
          rw [arco.cellAt i (by omega)]
          exact ⟨_, List.getElem?_eq_getElem (by rw [List.length_map, hlen3]; exact hic)⟩
        obtain ⟨v2, c2⟩ := c2
        have q1 : (x : Int) - 1 = (i : Int) := by omega
        have HXI := Veil.mk hxi
        have q2 : (0 : Int) ≤ (i : Int) := by omega
        have q3 : (i : Int) < (d.cells.length : Int) := by omega
        have q4 : (i : Int) < 1000000 := by omega
        have q5 : IntKind.i64.wrap (i : Int) = (i : Int) := IntWalk.i64_in _ (by omega)
        have ar2 := ar.setB i none
        have t2 : Touch (fun k => k = gc) W (W.setCell ⟨gc, i, none⟩ .nilIface) := Touch.put (S := fun k => k = gc) rfl _ _
        replace ar2 : ArAt (W.setCell ⟨gc, i, none⟩ .nilIface) B A (.slice (some ⟨gc, 0, none⟩) d.cells.length cap3) (.slice af FL.length cf) rv ⟨(d.freed vs).cells.set i none, FL, d.count, d.roots⟩ := by rw [← hfl3]; rw [← hfl3] at ar2; exact ar2
        have bxW2 : Box (W.setCell ⟨gc, i, none⟩ .nilIface) b2 51 #[.pointer (some ⟨A, 0, none⟩)] := bxW.touch t2 (fun e => (own_lab arco gc rfl).ne bxW.lab (by decide) e.symm)
        have HB := Veil.mk (And.intro t1 (And.intro t2 (And.intro ar (And.intro hf' hvs))))
        have HAR2 := Veil.mk ar2
        have HFL := Veil.mk hFL
        have hfl4 : FL.length < 3000000 := by rw [← hFL, List.length_append]; omega
        have HBX2 := Veil.mk bxW2
        clear hxi hFL t1 t2 ar hf' hvs ar2 bxW bxW2 z1 z2 z3 z4 z5 z6 z7 lA lc lf hlen3 hfl3 hgc3 hsp hcap3 arco
        gi_wp2
        generalize W.setCell ⟨gc, i, none⟩ .nilIface = W2 at HB HAR2 HBX2 ⊢
        have HAR := HAR2
        have HBX := HBX2
        have hBW : B ≤ W2.heap.size := by have := HAR2.out.ha; have := HAR2.out.box.lt; omega
        clear c0 c1 c2f c2
        refine wpIn_region_chain (swK A af FL.length cf (x : Int)) (AppPh W2 B 3 1 FL.length (numsV FL) [.int .i64 (x : Int)] (.slice af FL.length cf) A 1 6 7 10) [some 57, some 58, some 59, some 60, some 61, some 62, some 63, some 64, some 65, some 66, none] (curV' _ [some 57, some 58, some 59, some 60, some 61, some 62, some 63, some 64, some 65, some 66, none]) (by kernel_rfl) (by kernel_rfl) rfl rfl (puts_cur _ _) (Below.refl _ _).drew ?_ (by kernel_rfl) ?_
        · refine Steps.cons rfl (fun bb aa w' hbs hb0 hbp hI K hK => ?_) ?_
          · obtain ⟨us, hus, ha, hI⟩ := hI
            obtain ⟨u0, u1, u2, u3, u4, u5, u6, u7, u8, u9, u10, rfl⟩ := len11 hus
            have h10 := hI.before 10 0 rfl (by kernel_rfl) hb0
            have hch := hI.ph.touch h10
            have c0 : w'.cell? ⟨b2, 0, none⟩ = some (.pointer (some ⟨A, 0, none⟩)) := (HBX.out.touch hch (fun e => (own_lab HAR.out.fo b2 e).ne HBX.out.lab (by decide) rfl)).at_ 0
            have HI := Veil.mk hI
            clear hI
            clear h10
            rw [ha]
            simp only [puts, setAll, List.setIfInBounds_toArray, List.set_cons_zero, List.set_cons_succ]
            go_simp
            exact hK _ _ (chain_step HI.out hus hbs 0 _ (by show 0 < 11; decide) rfl hbp (val_of rfl rfl) (HI.out.ph.step 0 _ (by decide) (by decide) (by decide)) (by simp only [puts, setAll, List.set_cons_zero, List.set_cons_succ, List.setIfInBounds_toArray]))
          refine Steps.cons rfl (fun bb aa w' hbs hb0 hbp hI K hK => ?_) ?_
          · obtain ⟨us, hus, ha, hI⟩ := hI
            obtain ⟨u0, u1, u2, u3, u4, u5, u6, u7, u8, u9, u10, rfl⟩ := len11 hus
            have h2 := hI.before 2 1 rfl (by kernel_rfl) hb0
            have h3 := hI.before 3 2 rfl (by kernel_rfl) h2
            have h4 := hI.before 4 3 rfl (by kernel_rfl) h3
            have h7 := hI.before 7 4 rfl (by kernel_rfl) h4
            have h10 := hI.before 10 7 rfl (by kernel_rfl) h7
            have hch := hI.ph.below h10 h7
            have c0 : w'.cell? ⟨b2, 0, none⟩ = some (.pointer (some ⟨A, 0, none⟩)) := (HBX.out.on hch HBX.out.lt).at_ 0
            have HI := Veil.mk hI
            clear hI
            clear h10
            clear h7
            clear h4
            clear h3
            clear h2
            rw [ha]
            simp only [puts, setAll, List.setIfInBounds_toArray, List.set_cons_zero, List.set_cons_succ]
            go_simp
            exact hK _ _ (chain_step HI.out hus hbs 1 _ (by show 1 < 11; decide) rfl hbp (val_of rfl rfl) (HI.out.ph.step 1 _ (by decide) (by decide) (by decide)) (by simp only [puts, setAll, List.set_cons_zero, List.set_cons_succ, List.setIfInBounds_toArray]))
          refine Steps.cons rfl (fun bb aa w' hbs hb0 hbp hI K hK => ?_) ?_
          · obtain ⟨us, hus, ha, hI⟩ := hI
            obtain ⟨u0, u1, u2, u3, u4, u5, u6, u7, u8, u9, u10, rfl⟩ := len11 hus
            have e1 : u1 = .pointer (some ⟨A, 0, none⟩) := hI.val 1 _ rfl (gen_after 1 (by kernel_rfl) hbp)
            subst e1
            have HI := Veil.mk hI
            clear hI
            rw [ha]
            simp only [puts, setAll, List.setIfInBounds_toArray, List.set_cons_zero, List.set_cons_succ]
            go_simp
            exact hK _ _ (chain_step HI.out hus hbs 2 _ (by show 2 < 11; decide) rfl hbp (val_of rfl rfl) (HI.out.ph.step 2 _ (by decide) (by decide) (by decide)) (by simp only [puts, setAll, List.set_cons_zero, List.set_cons_succ, List.setIfInBounds_toArray]))
          refine Steps.cons rfl (fun bb aa w' hbs hb0 hbp hI K hK => ?_) ?_
          · obtain ⟨us, hus, ha, hI⟩ := hI
            obtain ⟨u0, u1, u2, u3, u4, u5, u6, u7, u8, u9, u10, rfl⟩ := len11 hus
            have e2 : u2 = .pointer (some ⟨A, 0, none⟩) := hI.val 2 _ rfl (gen_after 2 (by kernel_rfl) hbp)
            subst e2
            have HI := Veil.mk hI
            clear hI
            rw [ha]
            simp only [puts, setAll, List.setIfInBounds_toArray, List.set_cons_zero, List.set_cons_succ]
            go_simp
            exact hK _ _ (chain_step HI.out hus hbs 3 _ (by show 3 < 11; decide) rfl hbp (val_of rfl rfl) (HI.out.ph.step 3 _ (by decide) (by decide) (by decide)) (by simp only [puts, setAll, List.set_cons_zero, List.set_cons_succ, List.setIfInBounds_toArray]))
          refine Steps.cons rfl (fun bb aa w' hbs hb0 hbp hI K hK => ?_) ?_
          · obtain ⟨us, hus, ha, hI⟩ := hI
            obtain ⟨u0, u1, u2, u3, u4, u5, u6, u7, u8, u9, u10, rfl⟩ := len11 hus
            have e3 : u3 = .pointer (some ⟨A, 1, none⟩) := hI.val 3 _ rfl (gen_after 3 (by kernel_rfl) hbp)
            subst e3
            have h7 := hI.before 7 4 rfl (by kernel_rfl) hb0
            have h10 := hI.before 10 7 rfl (by kernel_rfl) h7
            have hch := hI.ph.below h10 h7
            have c0 : w'.cell? ⟨A, 1, none⟩ = some (.slice af FL.length cf) := (HAR.out.on hch).box.at_ 1
            have HI := Veil.mk hI
            clear hI
            clear h10
            clear h7
            rw [ha]
            simp only [puts, setAll, List.setIfInBounds_toArray, List.set_cons_zero, List.set_cons_succ]
            go_simp
            exact hK _ _ (chain_step HI.out hus hbs 4 _ (by show 4 < 11; decide) rfl hbp (val_of rfl rfl) (HI.out.ph.step 4 _ (by decide) (by decide) (by decide)) (by simp only [puts, setAll, List.set_cons_zero, List.set_cons_succ, List.setIfInBounds_toArray]))
          refine Steps.cons rfl (fun bb aa w' hbs hb0 hbp hI K hK => ?_) ?_
          · obtain ⟨us, hus, ha, hI⟩ := hI
            obtain ⟨u0, u1, u2, u3, u4, u5, u6, u7, u8, u9, u10, rfl⟩ := len11 hus
            have HI := Veil.mk hI
            clear hI
            rw [ha]
            simp only [puts, setAll, List.setIfInBounds_toArray, List.set_cons_zero, List.set_cons_succ]
            go_simp
            exact hK _ _ (chain_step HI.out hus hbs 5 _ (by show 5 < 11; decide) rfl hbp (val_of rfl rfl) (HI.out.ph.step 5 _ (by decide) (by decide) (by decide)) (by simp only [puts, setAll, List.set_cons_zero, List.set_cons_succ, List.setIfInBounds_toArray]))
          refine Steps.cons rfl (fun bb aa w' hbs hb0 hbp hI K hK => ?_) ?_
          · obtain ⟨us, hus, ha, hI⟩ := hI
            obtain ⟨u0, u1, u2, u3, u4, u5, u6, u7, u8, u9, u10, rfl⟩ := len11 hus
            have e5 : u5 = .int .i64 (x : Int) := hI.val 5 _ rfl (gen_after 5 (by kernel_rfl) hbp)
            subst e5
            have h7 := hI.before 7 6 rfl (by kernel_rfl) hb0
            have h10 := hI.before 10 7 rfl (by kernel_rfl) h7
            have HI := Veil.mk hI
            clear hI
            have HF := Veil.mk (And.intro h10 h7)
            clear h10
            clear h7
            rw [ha]
            simp only [puts, setAll, List.setIfInBounds_toArray, List.set_cons_zero, List.set_cons_succ]
            go_simp
            exact hK _ _ (chain_step HI.out hus hbs 6 _ (by show 6 < 11; decide) rfl hbp (none_of rfl) (HI.out.ph.row (by decide) (by decide) HF.out.1 HF.out.2) (by simp only [puts, setAll, List.set_cons_zero, List.set_cons_succ, List.setIfInBounds_toArray]))
          refine Steps.cons rfl (fun bb aa w' hbs hb0 hbp hI K hK => ?_) ?_
          · obtain ⟨us, hus, ha, hI⟩ := hI
            obtain ⟨u0, u1, u2, u3, u4, u5, u6, u7, u8, u9, u10, rfl⟩ := len11 hus
            have e4 : u4 = .slice af FL.length cf := hI.val 4 _ rfl (gen_after 4 (by kernel_rfl) hbp)
            subst e4
            have h10 := hI.before 10 7 rfl (by kernel_rfl) hb0
            have hp := hI.ph.at_bs h10 hb0 (gen_after 6 (by kernel_rfl) hbp)
            have HI := Veil.mk hI
            clear hI
            have HF := Veil.mk h10
            clear h10
            rw [ha]
            simp only [puts, setAll, List.setIfInBounds_toArray, List.set_cons_zero, List.set_cons_succ]
            clear ha
            obtain ⟨w2, hch, e6, rfl⟩ := hp
            have e : u6 = .slice (some ⟨w2.heap.size, 0, none⟩) 1 1 := e6
            clear e6
            subst e
            have hT2 := HAR.out.on hch
            have hs2 := hch.size
            refine wp_append_lies _ (.tmp 61) (.tmp 63) 57 rfl B 3 i0 (.int .i64 0) 1 8 Tryz.underlying57 hi hz0 hz1 hz2 rfl (by decide) (.slice af FL.length cf) FL.length (numsV FL) (by simp [Act.eval]) (hT2.fo.alloc _) ⟨w2.heap.size, 0, none⟩ 1 1 [.int .i64 (x : Int)] (by simp [Act.eval]) rfl (news_at _ _ rfl _ _) (by simp [Value.oneCell']) (by decide) (by unfold maxLen; omega) (by omega) (by simp; omega) _ rfl ?_; intro r cap' w3 hown' hgrow3 hblk hg3
            exact hK _ _ (chain_step HI.out hus hbs 7 _ (by show 7 < 11; decide) rfl hbp (none_of rfl) (AppPh.app (by decide) HF.out hch hown' hgrow3 hblk) (by simp only [Act.put, puts, setAll, List.set_cons_zero, List.set_cons_succ, List.setIfInBounds_toArray]))
          refine Steps.cons rfl (fun bb aa w' hbs hb0 hbp hI K hK => ?_) ?_
          · obtain ⟨us, hus, ha, hI⟩ := hI
            obtain ⟨u0, u1, u2, u3, u4, u5, u6, u7, u8, u9, u10, rfl⟩ := len11 hus
            have e0 : u0 = .pointer (some ⟨A, 0, none⟩) := hI.val 0 _ rfl (gen_after 0 (by kernel_rfl) hbp)
            subst e0
            have HI := Veil.mk hI
            clear hI
            rw [ha]
            simp only [puts, setAll, List.setIfInBounds_toArray, List.set_cons_zero, List.set_cons_succ]
            go_simp
            exact hK _ _ (chain_step HI.out hus hbs 8 _ (by show 8 < 11; decide) rfl hbp (val_of rfl rfl) (HI.out.ph.step 8 _ (by decide) (by decide) (by decide)) (by simp only [puts, setAll, List.set_cons_zero, List.set_cons_succ, List.setIfInBounds_toArray]))
          refine Steps.cons rfl (fun bb aa w' hbs hb0 hbp hI K hK => ?_) ?_
          · obtain ⟨us, hus, ha, hI⟩ := hI
            obtain ⟨u0, u1, u2, u3, u4, u5, u6, u7, u8, u9, u10, rfl⟩ := len11 hus
            have e8 : u8 = .pointer (some ⟨A, 0, none⟩) := hI.val 8 _ rfl (gen_after 8 (by kernel_rfl) hbp)
            subst e8
            have HI := Veil.mk hI
            clear hI
            rw [ha]
            simp only [puts, setAll, List.setIfInBounds_toArray, List.set_cons_zero, List.set_cons_succ]
            go_simp
            exact hK _ _ (chain_step HI.out hus hbs 9 _ (by show 9 < 11; decide) rfl hbp (val_of rfl rfl) (HI.out.ph.step 9 _ (by decide) (by decide) (by decide)) (by simp only [puts, setAll, List.set_cons_zero, List.set_cons_succ, List.setIfInBounds_toArray]))
          refine Steps.cons rfl (fun bb aa w' hbs hb0 hbp hI K hK => ?_) ?_
          · obtain ⟨us, hus, ha, hI⟩ := hI
            obtain ⟨u0, u1, u2, u3, u4, u5, u6, u7, u8, u9, u10, rfl⟩ := len11 hus
            have e9 : u9 = .pointer (some ⟨A, 1, none⟩) := hI.val 9 _ rfl (gen_after 9 (by kernel_rfl) hbp)
            subst e9
            have hp := hI.ph.at_ap hb0 (gen_after 7 (by kernel_rfl) hbp)
            have HI := Veil.mk hI
            clear hI
            rw [ha]
            simp only [puts, setAll, List.setIfInBounds_toArray, List.set_cons_zero, List.set_cons_succ]
            clear ha
            obtain ⟨r, cap', e7, w2, hch, hown', hgrow3, hblk⟩ := hp
            have e : u7 = .slice (some ⟨r, 0, none⟩) (FL.length + 1) cap' := e7
            clear e7
            subst e
            have hT2 := HAR.out.on hch
            have hx3 : Box w' A 106 _ := (hT2.box.more _).grown hgrow3 (hT2.box.apart hT2.fo (by decide))
            have e12 : w'.cell? ⟨A, 1, none⟩ = some (.slice af FL.length cf) := hx3.at_ 1
            have e13 := hx3.free 1
            go_simp
            exact hK _ _ (chain_step HI.out hus hbs 10 undef (by show 10 < 11; decide) rfl hbp (none_of rfl) (AppPh.sto hch hown' hgrow3 hblk) (by simp only [puts, setAll, List.set_cons_zero, List.set_cons_succ, List.setIfInBounds_toArray]))
          exact Steps.nil
        · intro us w5 hus D hD2 hJ
          obtain ⟨u0, u1, u2, u3, u4, u5, u6, u7, u8, u9, u10, rfl⟩ := len11 hus
          obtain ⟨w3, r, cap', ⟨w2, hb2, ho, hg, hr⟩, rfl⟩ := hJ.ph.at_st (hD2 10 (by show 10 < 11; decide))
          obtain ⟨g1, g2, g3⟩ := ArAt.grow (x := x) HAR.out hb2 ho hg hr
          obtain ⟨t1, t2, ar, hf', hvs⟩ := HB.out
          obtain ⟨z1, z2, z3, z4, z5, z6, z7⟩ := HW0.out
          have lA := z6.box.lab
          have lc := own_lab z6.co
          have lf := own_lab z6.fo
          have bqW : Box W bx 57 #[.slice aof fr.length cpf] := z5.touch t1 (fun e => by
            rcases e with e | e | e
            · exact z5.lab.ne lA (by decide) e
            · exact (lc bx e).ne z5.lab (by decide) rfl
            · exact (lf bx e).ne z5.lab (by decide) rfl)
          have frW : W.ownsRow w.heap.size 3 1 (.slice aof fr.length cpf) fr.length (numsV fr) := own_touch z3 t1 (fun k hk e => by
            rcases e with e | e | e
            · exact (own_lab z3 k hk).ne lA (by decide) e
            · exact (own_lab z3 k hk).ne (lc k e) (by decide) rfl
            · have h1 := (own_lt z3 k hk).1
              have h2 := HA.out.2.1 k (.inr (.inr (.inl e)))
              omega)
          have lA2 := ar.box.lab
          have lc2 := own_lab ar.co
          have lf2 := own_lab ar.fo
          have nA : ¬ (A = bx ∨ (Value.slice aof fr.length cpf).ownBlock = some A) := fun e => by
            rcases e with e | e
            · exact lA2.ne bqW.lab (by decide) e
            · exact (own_lab frW A e).ne lA2 (by decide) rfl
          have nC : ¬ (gc = bx ∨ (Value.slice aof fr.length cpf).ownBlock = some gc) := fun e => by
            rcases e with e | e
            · exact (lc2 gc rfl).ne bqW.lab (by decide) e
            · exact (own_lab frW gc e).ne (lc2 gc rfl) (by decide) rfl
          have nF : ∀ k, (Value.slice af FL.length cf).ownBlock = some k → ¬ (k = bx ∨ (Value.slice aof fr.length cpf).ownBlock = some k) := fun k hk e => by
            rcases e with e | e
            · exact (lf2 k hk).ne bqW.lab (by decide) e
            · have h1 := (own_lt z3 k e).1
              have h4 := z7 k e
              rcases hf' k hk with h2 | h2
              · have := HA.out.2.1 k (.inr (.inr (.inl h2)))
                omega
              · omega
          refine ⟨(t2.mono (fun k hk => by rw [hk]; exact ⟨nC, .lab (lc2 gc rfl)⟩)).later g2 (fun k hk h4 => ?_), .slice (some ⟨r, 0, none⟩) (FL.length + 1) cap', (t1.later t2 (fun k hk h4 => .inr (.inl (by rw [h4]; rfl)))).later g2 (fun k hk h4 => ?_), ?_, fun k hk => ?_⟩
          · rcases h4 with h4 | h4
            · rw [h4]; exact ⟨nA, .lab lA2⟩
            · exact ⟨nF k h4, .lab (lf2 k h4)⟩
          · rcases h4 with h4 | h4
            · exact .inl h4
            · rcases hf' k h4 with h5 | h5
              · exact .inr (.inr h5)
              · omega
          · rw [List.map_append, hvs]
            have e : d.freed (vs ++ [x]) = { d.freed vs with cells := (d.freed vs).cells.set i none, free := FL ++ [x] } := by
              unfold AD.freed
              rw [clearC_snoc, ← HFL.out, List.append_assoc, show x - 1 = i by have := HXI.out; omega]
            show ArAt _ B A _ _ rv (d.freed (vs ++ [x]))
            rw [e]
            exact g1
          · injection hk with hk
            have hk : r = k := hk
            subst hk
            rcases g3 with h5 | h5
            · exact hf' r h5
            · have h6 := t1.size
              have h7 := t2.size
              exact .inr (by omega)
      case done =>
        rintro D xs W hD rfl ⟨fv', t1, ar, hf'⟩ hK
        rw [back_vals] at ar
        obtain ⟨z1, z2, z3, z4, z5, z6, z7⟩ := HW0.out
        obtain ⟨hA, hN, hNw2, hcnt⟩ := HA.out
        have lA := z6.box.lab
        have lc := own_lab z6.co
        have lf := own_lab z6.fo
        have nS : ∀ k e, Lab W0 k e → e ≠ 106 → e ≠ 87 → e ≠ 3 → ¬ SwF A cv fv k := fun k e hl e1 e2 e3 hs => by
          rcases hs with hs | hs | hs
          · exact hl.ne lA e1 hs
          · exact hl.ne (lc k hs) e2 rfl
          · exact hl.ne (lf k hs) e3 rfl
        have bxW : Box W b2 51 #[.pointer (some ⟨A, 0, none⟩)] := z2.touch t1 (nS _ _ z2.lab (by decide) (by decide) (by decide))
        have frW : W.ownsRow w.heap.size 3 1 (.slice aof fr.length cpf) fr.length (numsV fr) := own_touch z3 t1 (fun k hk e => by
          rcases e with e | e | e
          · exact (own_lab z3 k hk).ne lA (by decide) e
          · exact (own_lab z3 k hk).ne (lc k e) (by decide) rfl
          · have h1 := (own_lt z3 k hk).1
            have h2 := hN k (.inr (.inr (.inl e)))
            omega)
        have x0 : W.cell? ⟨b2, 0, none⟩ = some (.pointer (some ⟨A, 0, none⟩)) := bxW.at_ 0
        have x2 : W.cell? ⟨A, 2, none⟩ = some (.int .i64 (d.count : Int)) := ar.box.at_ 2
        have x2f := ar.box.free 2
        rw [HFG.out.1] at hcnt
        obtain ⟨c', hc'⟩ : ∃ c' : Nat, d.count - fr.length = c' := ⟨_, rfl⟩
        have hsub : (d.count : Int) - (fr.length : Int) = (c' : Int) := by omega
        have q9 : IntKind.i64.wrap (c' : Int) = (c' : Int) := IntWalk.i64_in _ (by omega)
        have ar2 := ar.put2 c'
        have t2 : Touch (fun k => k = A) W (W.setCell ⟨A, 2, none⟩ (.int .i64 (c' : Int))) := Touch.put (S := fun k => k = A) rfl _ _
        have lAW := ar.box.lab
        have hK2 : (W.setCell ⟨A, 2, none⟩ (.int .i64 (c' : Int))).heap[D]? = some (.deferred (some [])) := (t2.block D (Array.getElem?_eq_some_iff.1 hK).1 (fun e => def_lab hK A _ lAW e.symm)).trans hK
        have fr2 := own_touch frW t2 (fun k hk e => (own_lab frW k hk).ne lAW (by decide) e)
        have tt : Touch (SwF A cv fv) w (W.setCell ⟨A, 2, none⟩ (.int .i64 (c' : Int))) := ((Touch.of_below z1).trans t1).trans (t2.mono (fun k hk => .inl hk))
        have HE := Veil.mk (And.intro ar2 (And.intro hK2 (And.intro fr2 (And.intro tt hf'))))
        have HCC := Veil.mk hc'
        clear z1 z2 z3 z4 z5 z6 z7 hA hN lA lc lf nS bxW frW ar ar2 t1 t2 lAW hK hK2 fr2 tt hf' hc' hcnt
        go_upto_region 17 with (fail)
        generalize W.setCell ⟨A, 2, none⟩ (.int .i64 (c' : Int)) = W3 at HE ⊢
        clear x0 x2 x2f hsub
        go_upto_region 18 with (fail)
        go_loopw [78] (fun i wr => i = .int .i64 0 ∧ wr = W3) (fun _ _ => 0)
        case atStart => exact ⟨rfl, rfl⟩
        case round =>
          obtain ⟨rfl, rfl⟩ := hrel
          obtain ⟨ar2, hD3, fr2, tt, hf'⟩ := HE.out
          have tD := put_def wr D (.deferred none)
          have dl := def_lab hD3
          have ar4 := ar2.touchN tD dl
          have fr4 := own_touch fr2 tD (fun k hk => dl _ _ (own_lab fr2 k hk))
          have tf : Touch (SwF A cv fv) w (wr.putObj D (.deferred none)) := tt.later tD (fun k hk e => by omega)
          have HP : Veil (SwPost B A cv fv rv d M w (.returned (.slice aof fr.length cpf)) (wr.putObj D (.deferred none))) := ⟨by
            unfold SwPost
            rw [HFG.out.1]
            refine ⟨_, fv', rfl, fr4, ?_, tf, fun k hk => ?_⟩
            · have e : d.swept fr = { d.freed fr.reverse with count := c' } := by unfold AD.swept; rw [HCC.out]
              rw [e]
              exact ar4
            · rcases hf' k hk with h5 | h5
              · exact .inl h5
              · exact .inr (by omega)⟩
          clear ar2 fr2 tt hf' tD dl ar4 fr4 tf
          go_wp2
          refine ⟨by simp, .inl ⟨_, _, rfl, run_takeDeferred hD3, ?_⟩⟩
          exact ⟨.slice aof fr.length cpf, results_tmp (t := 4) rfl _ _ _, HP.out⟩
end Go.Proofs.YtbeapojjbgkalaaGreatDoor
