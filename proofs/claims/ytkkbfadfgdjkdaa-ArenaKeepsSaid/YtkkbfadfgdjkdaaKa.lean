/- ArenaKeeps: append(nil, s...) of whatever slice; what a step's slices read as. -/
import Derived.Test.YtkkbfadfgdjkdaaDm
import Derived.Test.YtkkbfadfgdjkdaaCa
import Derived.Test.YtkkbfadfgdjkdaaIl
import Derived.Laws.AppendOwn
import Derived.Maps.AppendAt
namespace Go.Proofs.Ytkkbfadfgdjkdaa
open Go Go.RowKit

theorem Try.infoPR : (Try.prog.info? 32).map (fun i => (i.zero, i.size, i.bytes)) = some (some (.agg #[.int .i64 0, .int .i64 0]), 2, 16) := by kernel_rfl
/-- A slice value reads as these cells, n elements of z cells, below block A. -/
def Rd (w : World) (A : Nat) (v : Value) (n z : Nat) (cs : List Value) : Prop :=
  cs.length = n * z ∧ ∃ a c, v = .slice a n c ∧ (a = none → n = 0 ∧ c = 0) ∧ ∀ ad, a = some ad → ∀ (j : Nat) u, cs[j]? = some u → ad.block < A ∧ w.cell? (ad.add j) = some u
theorem Addr.add_block (a : Addr) (j : Nat) : (a.add j).block = a.block := by
  unfold Addr.add
  split <;> rfl
theorem Rd.on {w w' : World} {A n z : Nat} {v : Value} {cs : List Value} (h : Rd w A v n z cs) (hb : Below A w w') : Rd w' A v n z cs := by
  obtain ⟨h0, a, c, h1, h2, h3⟩ := h
  refine ⟨h0, a, c, h1, h2, fun ad e j u hu => ?_⟩
  obtain ⟨q1, q2⟩ := h3 ad e j u hu
  exact ⟨q1, by rw [hb.cell (p := ad.add j) (by rw [Addr.add_block]; exact q1)]; exact q2⟩
section
variable {P : Program} (w : World)
theorem run_append_nil_any (t ty e : TypeId) (i : TypeInfo) (z : Value) (size bytes : Nat) (ht : P.underlying t = some (.slice e)) (hi : P.info? e = some i) (hz : i.zero = some z)
    (hsize : i.size = size) (hby : i.bytes = bytes) (hzs : z.cells.size = size) (hsz : 0 < size)
    (A n : Nat) (v : Value) (cs : List Value) (hr : Rd w A v n size cs) (h1 : ∀ u ∈ cs, u.oneCell' = true) (h63 : n ≤ maxLen) (hbytes : n * bytes ≤ 140737488355328) :
    ∃ v' w', (Builtin.append_ #[t, t] ty #[.slice none 0 0, v]).run P w = .ok v' w' ∧ Below w.heap.size w w' ∧ w'.ownsRow w.heap.size e size v' n cs := by
  obtain ⟨h0, a, c, rfl, h2, h3⟩ := hr
  cases a with
  | none =>
    obtain ⟨rfl, rfl⟩ := h2 rfl
    have hn : cs = [] := List.eq_nil_of_length_eq_zero (by simpa using h0)
    subst hn
    refine ⟨.slice none 0 0, w, ?_, Below.refl _ _, World.ownsRow_nil w _ e size⟩
    simp [Builtin.append_, run_underlying ht, sizeOf, typeInfo, hi, Builtin.lenOf, Builtin.firstCells]
  | some ad =>
    obtain ⟨v', w', q1, q2, q3, _, _⟩ := run_append_own_at (P := P) w w.heap.size t ty e i z size bytes ht hi hz hsize hby hzs hsz (.slice none 0 0) 0 [] (World.ownsRow_nil w _ e size) ad n c cs h0 (fun j u hu => (h3 ad rfl j u hu).2) h1 (by omega) (by rw [Nat.zero_add]; exact hbytes) (Nat.le_refl _)
    refine ⟨v', w', q1, ⟨q3.os, q3.tape, q3.output, q3.size, fun k hk => q3.block k hk (by simp [Value.ownBlock])⟩, ?_⟩
    simpa using q2
/-- At an operation. -/
theorem wp_append_nil {o : Oper} {a : Act} {K : Act → World → Prop} {Q : Exit → Act → World → Prop} (s x : Operand) (t : TypeId)
    (ho : o.op = .call { callee := .builtin .append, args := #[s, x], argTypes := #[t, t] })
    (e : TypeId) (i : TypeInfo) (z : Value) (size bytes : Nat) (ht : P.underlying t = some (.slice e)) (hi : P.info? e = some i) (hz : i.zero = some z)
    (hsize : i.size = size) (hby : i.bytes = bytes) (hzs : z.cells.size = size) (hsz : 0 < size)
    (A n : Nat) (v : Value) (cs : List Value) (hs : a.eval s = .slice none 0 0) (hx : a.eval x = v) (hr : Rd w A v n size cs) (h1 : ∀ u ∈ cs, u.oneCell' = true) (h63 : n ≤ maxLen) (hbytes : n * bytes ≤ 140737488355328)
    (h : ∀ v' w', Below w.heap.size w w' → w'.ownsRow w.heap.size e size v' n cs → K (a.put o.dst v') w') : o.wp P a w K Q := by
  obtain ⟨v', w', hr, h2, h3⟩ := run_append_nil_any (P := P) w t o.type e i z size bytes ht hi hz hsize hby hzs hsz A n v cs hr h1 h63 hbytes
  unfold Oper.wp execOp
  simp only [ho, resolve, invoke, builtin, Sem.run_bind, Sem.run_pure, Result.andThen_ok, List.map_toArray, List.map_cons, List.map_nil, hs, hx, hr]
  exact h v' w' h2 h3
end
theorem flat2_one : ∀ (T : List (Int × Int)), ∀ u ∈ flat2 T, u.oneCell' = true := fun T u hu => by
  unfold flat2 at hu
  obtain ⟨p, _, hp⟩ := List.mem_flatMap.1 hu
  simp at hp
  rcases hp with rfl | rfl <;> rfl
theorem intsV_one : ∀ (L : List Int), ∀ u ∈ intsV L, u.oneCell' = true := fun L u hu => by
  obtain ⟨x, _, rfl⟩ := List.mem_map.1 hu
  rfl
theorem flat2_len (T : List (Int × Int)) : (flat2 T).length = T.length * 2 := by
  unfold flat2
  induction T with
  | nil => rfl
  | cons p T ih =>
    rw [List.flatMap_cons, List.length_append, ih]
    simp
    omega
/-- While a field of both bodies is filled. -/
structure FlA (WD : World) (E z n : Nat) (C : List Value) (v1 v2 : Value) (w : World) : Prop where
  bel : Below WD.heap.size WD w
  r1 : w.ownsRow WD.heap.size E z v1 n C
  r2 : w.ownsRow WD.heap.size E z v2 n C
  ap : ∀ k, v1.ownBlock = some k → v2.ownBlock ≠ some k
def FlSt (WD : World) (x y fld E z n : Nat) (C : List Value) : Nat → (Nat → Value) → World → Prop
  | 0 => fun _ w => w = WD
  | 1 => fun f w => Below WD.heap.size WD w ∧ w.ownsRow WD.heap.size E z (f 0) n C
  | 2 => fun f w => FlA WD E z n C (f 0) (f 1) w
  | 3 => fun f w => ∃ w2, FlA WD E z n C (f 0) (f 1) w2 ∧ w = w2.setCell ⟨x, fld, none⟩ (f 0)
  | _ => fun f w => ∃ w2, FlA WD E z n C (f 0) (f 1) w2 ∧ w = (w2.setCell ⟨x, fld, none⟩ (f 0)).setCell ⟨y, fld, none⟩ (f 1)
theorem LPh.any {cs : List Nat} {St : Nat → (Nat → Value) → World → Prop} {d : Nat → Bool} {us : Nat → Value} {w : World} (h : LPh cs St d us w) (F : World → Prop) (hF : ∀ s f w, St s f w → F w) : F w := by
  obtain ⟨s, _, _, h3⟩ := h
  exact hF s _ w h3
/-- A block other than the two is as it was. -/
theorem FlSt.box {WD w : World} {x y fld E z n : Nat} {C : List Value} {s : Nat} {f : Nat → Value} (h : FlSt WD x y fld E z n C s f w) {g : Nat} {t : TypeId} {cs : Array Value} (hb : Box WD g t cs) (hx : g ≠ x) (hy : g ≠ y) : Box w g t cs := by
  have put : ∀ (w : World) (k : Nat) (v : Value), g ≠ k → Box w g t cs → Box (w.setCell ⟨k, fld, none⟩ v) g t cs := fun w k v hk hb => hb.touch (S := fun j => j = k) (Touch.put (S := fun j => j = k) rfl _ _) hk
  match s, h with
  | 0, h => exact (show w = WD from h) ▸ hb
  | 1, h => exact hb.below h.1
  | 2, h => exact hb.below (show FlA _ _ _ _ _ _ _ _ from h).bel
  | 3, h =>
    obtain ⟨w2, h1, rfl⟩ := h
    exact put _ _ _ hx (hb.below h1.bel)
  | s + 4, h =>
    obtain ⟨w2, h1, rfl⟩ := h
    exact put _ _ _ hy (put _ _ _ hx (hb.below h1.bel))
theorem FlA.of {WD w w' : World} {E z n : Nat} {C : List Value} {v1 v2 : Value} (hb : Below WD.heap.size WD w) (h1 : w.ownsRow WD.heap.size E z v1 n C) (hb2 : Below w.heap.size w w') (h2 : w'.ownsRow w.heap.size E z v2 n C) : FlA WD E z n C v1 v2 w' :=
  ⟨hb.trans (hb2.mono hb.size), own_below h1 hb2, own_monoB h2 hb.size, fun k hk hk2 => by
    have h3 := (own_lt h1 k hk).2
    have h4 := (own_lt h2 k hk2).1
    omega⟩
end Go.Proofs.Ytkkbfadfgdjkdaa
