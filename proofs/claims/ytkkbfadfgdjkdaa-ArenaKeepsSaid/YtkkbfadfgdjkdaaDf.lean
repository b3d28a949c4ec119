/- Package arena: a marker with what waits: a map of rows. -/
import Derived.Test.YtkkbfadfgdjkdaaDb
import Derived.Test.YtkkbfadfgdjkdaaDc
import Derived.Test.YtkkbfadfgdjkdaaDe
import Derived.Maps.GroupsBeside
namespace Go.Proofs.Ytkkbfadfgdjkdaa
open Go Go.RowKit
open Go.ChangeShapes (lits)

/-! What waits, as mathematics -/
abbrev DI := DataW Nat
def litInt : DI → Int
  | .lit (.int _ z) => z
  | _ => 0
def itemsI : DI → List Int
  | .slice es _ => es.map litInt
  | _ => []
theorem items_lits (zs : List Int) : (lits (H := Nat) .i64 zs).map litInt = zs := by
  unfold lits
  rw [List.map_map]
  exact List.map_id _
theorem items_row {w : World} {B : Nat} {e : TypeId} {v : Value} {zs : List Int} (h : w.ownsInts B e .i64 v zs) : itemsI (rowDatum .i64 v zs) = zs := by
  rcases h.datum (H := Nat) with ⟨h1, rfl⟩ | h1
  · rw [h1]; rfl
  · rw [h1]; exact items_lits zs
def wtOf (D : DI) : Int → List Int := fun key => itemsI (D.atKey (.int .i64 key) .nil)
theorem wtOf_nil (key : Int) : wtOf (.map []) key = [] := rfl
theorem wtOf_at {w : World} {B : Nat} {e : TypeId} {v : Value} {zs : List Int} {D : DI} {key : Int} (h : w.ownsInts B e .i64 v zs) (hat : D.atKey (.int .i64 key) .nil = rowDatum .i64 v zs) : wtOf D key = zs := by
  unfold wtOf
  rw [hat, items_row h]
theorem wtOf_put {w : World} {B : Nat} {e : TypeId} {v : Value} {zs : List Int} {D : DI} (hD : Maps.IsMap D) (key : Int) (h : w.ownsInts B e .i64 v zs) : wtOf (D.put (.int .i64 key) (rowDatum .i64 v zs)) = fun k => if k = key then zs else wtOf D k := by
  funext k
  unfold wtOf
  by_cases e : k = key
  · subst e
    rw [Maps.atKey_put_same hD (by trivial), if_pos rfl, items_row h]
  · rw [Maps.atKey_put_other (by intro h; injection h with _ h; exact e h), if_neg e]
theorem kLaw : Maps.Keyed Try.prog 3 := Maps.int_keyed Try.underlying3
theorem zeroS (w : World) : (zeroValue 22).run Try.prog w = .ok (.slice none 0 0) w := by kernel_rfl
/-- What waits lies in block b, its rows behind it. -/
abbrev Grp (w : World) (b c : Nat) (D : DI) : Prop := w.ownsGroups Try.prog 3 (b + 1) 3 .i64 b c D
theorem Grp.isMap {w : World} {b c : Nat} {D : DI} (h : Grp w b c D) : Maps.IsMap D := by
  obtain ⟨es, clock, -, -, -, rfl, -⟩ := h
  exact ⟨_, rfl⟩
def GFoot (w : World) (b j : Nat) : Prop := j = b ∨ ∃ es clock, w.heap[b]? = some (.map es clock) ∧ ∃ x ∈ es.toList, x.val.ownBlock = some j
theorem Grp.row {w : World} {b c : Nat} {D : DI} (h : Grp w b c D) {es : Array MapEntry} {clock : Nat} (hb : w.heap[b]? = some (.map es clock)) {x : MapEntry} (hx : x ∈ es.toList) : ∃ zs, w.ownsInts (b + 1) 3 .i64 x.val zs := by
  obtain ⟨es', clock', hb', F, _⟩ := h
  rw [hb] at hb'
  injection hb' with hb'
  injection hb' with h1 h2
  subst h1
  obtain ⟨y, hy⟩ := F.reads x hx
  obtain ⟨z, hz, _⟩ := WideElems.rd_val hy
  obtain ⟨zs, ho, _⟩ := rowElem_inv hz
  exact ⟨zs, ho⟩
theorem Grp.blk {w : World} {b c : Nat} {D : DI} (h : Grp w b c D) : ∃ es clock, w.heap[b]? = some (.map es clock) := by
  obtain ⟨es, clock, hb, _⟩ := h
  exact ⟨es, clock, hb⟩
theorem Grp.foot {w : World} {b c : Nat} {D : DI} (h : Grp w b c D) {j : Nat} (hj : GFoot w b j) : j = b ∨ (b < j ∧ j < w.heap.size ∧ Lab w j 3) := by
  rcases hj with rfl | ⟨es, clock, hb, x, hx, hj⟩
  · exact .inl rfl
  · obtain ⟨zs, ho⟩ := h.row hb hx
    have := own_lt ho.1 j hj
    exact .inr ⟨by omega, this.2, own_lab ho.1 j hj⟩
theorem map_lab {w : World} {b : Nat} {es : Array MapEntry} {clock : Nat} (hb : w.heap[b]? = some (.map es clock)) {k : Nat} {e : TypeId} (h : Lab w k e) : k ≠ b := by
  rintro rfl
  obtain ⟨cs, fr, h⟩ := h
  rw [hb] at h
  cases h
theorem Grp.touch {S : Nat → Prop} {w w' : World} {b c : Nat} {D : DI} (h : Grp w b c D) (ht : Touch S w w') (hn : ∀ j, GFoot w b j → ¬ S j) : Grp w' b c D ∧ w'.heap[b]? = w.heap[b]? := by
  have hblt : b < w.heap.size := by
    obtain ⟨es, clock, hb⟩ := h.blk
    exact (Array.getElem?_eq_some_iff.1 hb).1
  have hbb' : w'.heap[b]? = w.heap[b]? := ht.block b hblt (hn b (.inl rfl))
  refine ⟨?_, hbb'⟩
  have hrow := fun es clock hb x hx => h.row (es := es) (clock := clock) hb (x := x) hx
  obtain ⟨es, clock, hb, F, hs, rfl, hbb, hlen, hap⟩ := h
  have own' : ∀ x ∈ es.toList, ∀ zs, w.ownsInts (b + 1) 3 .i64 x.val zs → w'.ownsInts (b + 1) 3 .i64 x.val zs := fun x hx zs ho => ⟨own_touch ho.1 ht (fun j hj => hn j (.inr ⟨es, clock, hb, x, hx, hj⟩)), ho.2⟩
  have hst : ∀ x ∈ es.toList, ∀ z, rowElem (H := Nat) w (b + 1) 3 .i64 x.val = some z → rowElem w' (b + 1) 3 .i64 x.val = some z := fun x hx z hz => by
    obtain ⟨zs, ho, rfl⟩ := rowElem_inv hz
    exact rowElem_mk (own' x hx zs ho)
  obtain ⟨F1, hmap, _⟩ := F.stay hst
  refine ⟨es, clock, hbb'.trans hb, F1, hs, by rw [hmap], hbb, fun x hx zs ho => ?_, hap⟩
  obtain ⟨zs0, ho0⟩ := hrow es clock hb x hx
  rw [ho.unique (own' x hx zs0 ho0)]
  exact hlen x hx zs0 ho0
theorem Grp.more {w : World} {b c c' : Nat} {D : DI} (h : Grp w b c D) (hc : c ≤ c') : Grp w b c' D := by
  obtain ⟨es, clock, hb, F, hs, rfl, hbb, hlen, hap⟩ := h
  exact ⟨es, clock, hb, F, by omega, rfl, hbb, fun x hx zs ho => Nat.le_trans (hlen x hx zs ho) hc, hap⟩
theorem Shuns.same {w w' : World} {b : Nat} {No No' : Nat → Prop} (h : w.Shuns b No) (hb : w'.heap[b]? = w.heap[b]?) (hn : ∀ j, GFoot w b j → No' j → No j) : w'.Shuns b No' := fun es clock hb' x hx g hg hN => by
  rw [hb] at hb'
  exact h es clock hb' x hx g hg (hn g (.inr ⟨es, clock, hb', x, hx, hg⟩) hN)
/-- A marker and what waits. -/
structure MkW (w : World) (N A m : Nat) (mv tv pv : Value) (M : List Bool) (todo : List Nat) (D : DI) (c : Nat) : Prop where
  mk_ : MkP w N A m mv tv pv M todo
  wm : (pv = .map none ∧ D = .map []) ∨ ∃ b, pv = .map (some b) ∧ N ≤ b ∧ Grp w b c D ∧ w.Shuns b (fun g => tv.ownBlock = some g)
/-- All blocks of a marker. -/
def WFoot (w : World) (m : Nat) (mv tv pv : Value) (j : Nat) : Prop := MFoot m mv tv j ∨ ∃ b, pv = .map (some b) ∧ GFoot w b j
section
variable {w w' : World} {N A m : Nat} {mv tv pv : Value} {M : List Bool} {todo : List Nat} {D : DI} {c : Nat}
theorem MkW.isMap (h : MkW w N A m mv tv pv M todo D c) : Maps.IsMap D := by
  rcases h.wm with ⟨_, rfl⟩ | ⟨b, _, _, hg, _⟩
  · exact Maps.isMap_empty
  · exact hg.isMap
theorem WFoot.ge (h : MkW w N A m mv tv pv M todo D c) {j : Nat} (hj : WFoot w m mv tv pv j) : N ≤ j := by
  rcases hj with hj | ⟨b, rfl, hj⟩
  · exact MFoot.lt h.mk_ hj
  · rcases h.wm with ⟨h1, _⟩ | ⟨b', h1, hb, hg, _⟩
    · cases h1
    · cases h1
      rcases hg.foot hj with rfl | h2
      · exact hb
      · omega
theorem WFoot.cel (h : MkW w N A m mv tv pv M todo D c) {j : Nat} (hj : WFoot w m mv tv pv j) : CelO w j := by
  rcases hj with hj | ⟨b, rfl, hj⟩
  · exact h.mk_.cells' hj
  · rcases h.wm with ⟨h1, _⟩ | ⟨b', h1, hb, hg, _⟩
    · cases h1
    · cases h1
      rcases hg.foot hj with rfl | h2
      · obtain ⟨es, clock, he⟩ := hg.blk
        exact .map he
      · exact .lab h2.2.2
theorem WFoot.nom (h : MkW w N A m mv tv pv M todo D c) {j : Nat} (hj : WFoot w m mv tv pv j) : j = m ∨ ¬ ∃ e, Lab w j e ∧ e ≠ 4 ∧ e ≠ 3 := by
  rcases hj with (hj | hj | hj) | ⟨b, rfl, hj⟩
  · exact .inl hj
  · refine .inr (fun ⟨e, hl, h1, _⟩ => hl.ne (own_lab h.mk_.mo j hj) h1 rfl)
  · refine .inr (fun ⟨e, hl, _, h1⟩ => hl.ne (own_lab h.mk_.tq j hj) h1 rfl)
  · rcases h.wm with ⟨h1, _⟩ | ⟨b', h1, hb, hg, _⟩
    · cases h1
    · cases h1
      refine .inr (fun ⟨e, hl, _, h2⟩ => ?_)
      rcases hg.foot hj with rfl | h3
      · obtain ⟨es, clock, he⟩ := hg.blk
        exact map_lab he hl rfl
      · exact hl.ne h3.2.2 h2 rfl
theorem MkW.touch {S : Nat → Prop} (h : MkW w N A m mv tv pv M todo D c) (ht : Touch S w w') (hn : ∀ j, WFoot w m mv tv pv j → ¬ S j) : MkW w' N A m mv tv pv M todo D c := by
  refine ⟨⟨h.mk_.box.touch ht (hn _ (.inl (.inl rfl))), own_touch h.mk_.mo ht (fun k hk => hn _ (.inl (.inr (.inl hk)))), own_touch h.mk_.tq ht (fun k hk => hn _ (.inl (.inr (.inr hk)))), h.mk_.hm⟩, ?_⟩
  rcases h.wm with h1 | ⟨b, rfl, hb, hg, hs⟩
  · exact .inl h1
  · obtain ⟨g1, g2⟩ := hg.touch ht (fun j hj => hn j (.inr ⟨b, rfl, hj⟩))
    exact .inr ⟨b, rfl, hb, g1, Shuns.same hs g2 (fun _ _ h => h)⟩
theorem MkW.on (h : MkW w N A m mv tv pv M todo D c) (hb : Below w.heap.size w w') : MkW w' N A m mv tv pv M todo D c := h.touch (S := fun _ => False) (Touch.of_below hb) (fun _ _ h => h)
theorem MkW.touchC {S : Nat → Prop} (h : MkW w N A m mv tv pv M todo D c) (ht : Touch S w w') (hn : ∀ j, CelO w j → ¬ S j) : MkW w' N A m mv tv pv M todo D c := h.touch ht (fun j hj => hn j (WFoot.cel h hj))
theorem MkW.more (h : MkW w N A m mv tv pv M todo D c) {c' : Nat} (hc : c ≤ c') : MkW w N A m mv tv pv M todo D c' := ⟨h.mk_, h.wm.imp id (fun ⟨b, h1, h2, h3, h4⟩ => ⟨b, h1, h2, h3.more hc, h4⟩)⟩
theorem TM.mkw (h : MkW w N A m mv tv pv M todo D c) (ht : Touch (WFoot w m mv tv pv) w w') : TM N w w' := TM.of ht (fun _ hk => WFoot.ge h hk) (fun k hk hl => by
  rcases WFoot.nom h hk with rfl | h1
  · exact hl.ne h.mk_.box.lab (by decide) rfl
  · exact h1 ⟨_, hl, by decide, by decide⟩)
/-- Marking leaves what waits. -/
theorem MkW.marked (h : MkW w N A m mv tv pv M todo D c) {tv' : Value} {M' : List Bool} {todo' : List Nat} (ht : Touch (MFoot m mv tv) w w') (hk : MkP w' N A m mv tv' pv M' todo') (ho : ∀ j, tv'.ownBlock = some j → tv.ownBlock = some j ∨ w.heap.size ≤ j) : MkW w' N A m mv tv' pv M' todo' D c := by
  refine ⟨hk, ?_⟩
  rcases h.wm with h1 | ⟨b, rfl, hb, hg, hs⟩
  · exact .inl h1
  · have hnf : ∀ j, GFoot w b j → ¬ MFoot m mv tv j := fun j hj hf => by
      rcases hg.foot hj with rfl | h3
      · obtain ⟨es, clock, he⟩ := hg.blk
        obtain ⟨e, hl⟩ := MFoot.cells h.mk_ hf
        exact map_lab he hl rfl
      · rcases hf with hf | hf | hf
        · exact h3.2.2.ne h.mk_.box.lab (by decide) hf
        · exact h3.2.2.ne (own_lab h.mk_.mo j hf) (by decide) rfl
        · rcases hj with rfl | ⟨es, clock, he, x, hx, hg2⟩
          · omega
          · exact hs es clock he x hx j hg2 hf
    obtain ⟨g1, g2⟩ := hg.touch ht hnf
    refine .inr ⟨b, rfl, hb, g1, Shuns.same hs g2 (fun j hj hN => ?_)⟩
    rcases ho j hN with h5 | h5
    · exact h5
    · rcases hg.foot hj with rfl | h3
      · obtain ⟨es, clock, he⟩ := hg.blk
        have := (Array.getElem?_eq_some_iff.1 he).1
        omega
      · omega
end
set_option maxRecDepth 100000 in
/-- mark, where something waits. -/
theorem mark_w (B A N m : Nat) {pv : Value} (cv fv rv mv tv : Value) (d : AD) (M : List Bool) (todo : List Nat) (D : DI) (c : Nat) (hML : M.length = d.cells.length) (hT : todo.length ≤ d.cells.length) (hL : d.cells.length < 1000000) (r : Int) (w : World) (hNw : N ≤ w.heap.size) (h : ArAt w B A cv fv rv d) (hm : MkW w N A m mv tv pv M todo D c) :
    Calls Try.prog 26 #[.pointer (some ⟨m, 0, none⟩), .int .i64 r] w fun e w' => e = .returned (.tuple #[]) ∧ Touch (MFoot m mv tv) w w' ∧ ∃ tv', MkW w' N A m mv tv' pv (markP d (M, todo) r).1 (markP d (M, todo) r).2 D c :=
  (mark_full B A N m cv fv rv mv tv d M todo hML hT hL r w hNw h hm.mk_).mono fun _ _ ⟨h1, h2, tv', h3, h4⟩ => ⟨h1, h2, tv', hm.marked h2 h3 h4⟩
end Go.Proofs.Ytkkbfadfgdjkdaa
