/- Machines whose objects have properties. -/
import Derived.Test.YtgdkjkfbknbgkaaGreatDoorVd
import Derived.Test.YtgdkjkfbknbgkaaGreatDoorHd
namespace Go.Proofs.YtgdkjkfbknbgkaaGreatDoor
open Go Go.RowKit

theorem define_new {w : World} {B o : Nat} {cl proto : Int} {pv ev fn : Value} {kd : Int} {F : Nat → Prop} {O : List En} (hb : Box w o 99 (objF cl proto false pv ev fn kd)) (hc : (cl == 1) = false) (hp : PrAt B w pv F O) (hB : B ≤ w.heap.size) (hn : O.length < 40000) (fl : Int) (k v : Vt) (hk : k.2.2.size ≤ 1000) (HLK : ∃ v0, lookO O (keyT k) = (v0, 0, false)) :
    Calls Tryz.prog 34 #[.pointer (some ⟨o, 0, none⟩), valV k, valV v, .int .i64 fl] w fun e w' => e = .returned (.bool true) ∧ ∃ pv' F', Box w' o 99 (objF cl proto false pv' ev fn kd) ∧ PrAt B w' pv' F' (putO (O, []) (keyT k) v fl).1 ∧ Touch (fun b => b = o ∨ F b) w w' ∧ ∀ b, F' b → F b ∨ w.heap.size ≤ b := by
  rcases hp with ⟨rfl, rfl, rfl⟩ | ⟨t, rfl, hT⟩
  · exact define_nil hb hc hB fl k v hk
  · exact define_more hb hc hT hn fl k v hk HLK
/-- An object beside its table: the table's blocks and entries. -/
structure TO where
  b : Nat
  cl : Int
  proto : Int
  pv : Value
  ev : Value
  fn : Value
  kd : Int
  F : Nat → Prop
  O : List En
def TO.os (t : TO) : OS := (t.b, objF t.cl t.proto false t.pv t.ev t.fn t.kd)
/-- A plain object without properties. -/
abbrev TO.plain (b : Nat) (cl proto : Int) (ev : Value) : TO := ⟨b, cl, proto, .pointer none, ev, .nilIface, 0, fun _ => False, []⟩
structure MP (W : World) (h A m : Nat) (f : Nat → Int) (ts : List TO) : Prop where
  mm : MM W h A m f (ts.map TO.os)
  pr : ∀ t ∈ ts, PrAt A W t.pv t.F t.O
  sep : ∀ t ∈ ts, ∀ k, t.F k → ¬ FO W A k ∧ k ≠ h ∧ k ≠ m ∧ ∀ t' ∈ ts, k ≠ t'.b
  dis : ∀ (i j : Nat) ti tj, ts[i]? = some ti → ts[j]? = some tj → i ≠ j → ∀ k, ti.F k → ¬ tj.F k
section
variable {W W' : World} {h A m : Nat} {f : Nat → Int} {os : List OS} {ts ts1 ts2 : List TO}
/-- The memory below A is as it was, and so are all values' blocks. -/
structure Bk (A : Nat) (W W' : World) : Prop where
  bel : Below A W W'
  kv : ∀ k, Lab W k 30 → W'.heap[k]? = W.heap[k]?
theorem Bk.trans {A : Nat} {W W1 W2 : World} (h : Bk A W W1) (h2 : Bk A W1 W2) : Bk A W W2 :=
  ⟨h.bel.trans h2.bel, fun k hl => by
    have e := h.kv k hl
    obtain ⟨cs, fr, hb⟩ := hl
    exact (h2.kv k ⟨cs, fr, e.trans hb⟩).trans e⟩
theorem Bk.of_below {A : Nat} {W W1 : World} (hA : A ≤ W.heap.size) (h : Below W.heap.size W W1) : Bk A W W1 := ⟨h.mono hA, fun k hl => h.block k (lab_lt hl)⟩
theorem Bk.of_kp {A : Nat} {W W1 : World} (h : Below A W W1) (hk : Kp arT W W1) : Bk A W W1 := ⟨h, fun k hl => hk k _ hl rfl⟩
theorem Bk.box {A : Nat} {W W1 : World} (h : Bk A W W1) {g : Nat} {cs : Array Value} (hb : Box W g 30 cs) : Box W1 g 30 cs := (h.kv g hb.lab).trans hb
theorem Bk.row {A : Nat} {W W1 : World} (h : Bk A W W1) {ev : Value} {l : List Vt} (hr : RowV W ev l) : RowV W1 ev l := by
  obtain ⟨ao, cap, e, h1, h2, h3⟩ := hr
  refine ⟨ao, cap, e, h1, h2, fun ad had => ?_⟩
  obtain ⟨g, e2, hl, hc⟩ := h3 ad had
  have hb := h.kv g hl
  obtain ⟨cs, fr, hx⟩ := hl
  exact ⟨g, e2, ⟨cs, fr, hb.trans hx⟩, fun j u hj => by rw [cell_blk hb]; exact hc j u hj⟩
theorem PrAt.not_lab {w : World} {B : Nat} {pv : Value} {F : Nat → Prop} {O : List En} (h : PrAt B w pv F O) {g : Nat} {e : TypeId} (hl : Lab w g e) (he : e ≠ 173 ∧ e ≠ 169 ∧ e ≠ 3 ∧ e ≠ 94 ∧ e ≠ 199) : ¬ F g := by
  rcases h with ⟨_, _, rfl⟩ | ⟨t, _, hT⟩
  · exact fun h => h
  · exact hT.not_lab hl he
theorem FO.on (hA : A < W.heap.size) (h : Below W.heap.size W W') (k : Nat) (hk : FO W' A k) : FO W A k := by
  obtain ⟨cv, fv, rv, c, hb, hk⟩ := hk
  exact ⟨cv, fv, rv, c, (h.block A hA).symm.trans hb, hk⟩
theorem MP.lt (H : MP W h A m f ts) {t : TO} (ht : t ∈ ts) {k : Nat} (hk : t.F k) : A ≤ k ∧ k < W.heap.size := (H.pr t ht).lt k hk
theorem MP.on (H : MP W h A m f ts) (hb : Below W.heap.size W W') : MP W' h A m f ts :=
  ⟨H.mm.on hb, fun t ht => (H.pr t ht).on hb, fun t ht k hk => ⟨fun h9 => (H.sep t ht k hk).1 (FO.on H.mm.alt hb k h9), (H.sep t ht k hk).2⟩, H.dis⟩
/-- Blocks that are none of the machine's are written. -/
theorem MM.touch {S : Nat → Prop} (H : MM W h A m f os) (ht : Touch S W W') (hS : ∀ k, S k → ¬ FO W A k ∧ k ≠ h ∧ k ≠ m ∧ ∀ o ∈ os, k ≠ o.1) : MM W' h A m f os := by
  obtain ⟨⟨cv, fv, rv, hp⟩, mb, ob, am, al, nd⟩ := H
  refine ⟨⟨cv, fv, rv, hp.hb.touch ht (fun e => (hS h e).2.1 rfl), hp.ar.touch ht (fun k hk e => (hS k e).1 ((FO.of hp.ar k).2 hk)), hp.hB⟩, mb.touch ht (fun e => (hS m e).2.2.1 rfl), fun o ho => (ob o ho).touch ht (fun e => (hS _ e).2.2.2 o ho rfl), am, al, nd⟩
theorem FO.touch {S : Nat → Prop} (hA : A < W.heap.size) (ht : Touch S W W') (hn : ¬ S A) (k : Nat) (hk : FO W' A k) : FO W A k := by
  obtain ⟨cv, fv, rv, c, hb, hk⟩ := hk
  exact ⟨cv, fv, rv, c, (ht.block A hA hn).symm.trans hb, hk⟩
theorem MM.notA (H : MM W h A m f os) : FO W A A := by
  obtain ⟨cv, fv, rv, hp⟩ := H.hp
  exact (FO.of hp.ar A).2 (.inl rfl)
/-- An object's cells and blocks that are none of the machine's are written. -/
theorem MM.replace {S : Nat → Prop} {b : Nat} {cs cs' : Array Value} {os1 os2 : List OS} (H : MM W h A m f (os1 ++ (b, cs) :: os2)) (ht : Touch (fun k => k = b ∨ S k) W W') (hS : ∀ k, S k → ¬ FO W A k ∧ k ≠ h ∧ k ≠ m ∧ ∀ o ∈ os1 ++ (b, cs) :: os2, k ≠ o.1) (hb' : Box W' b 99 cs') : MM W' h A m f (os1 ++ (b, cs') :: os2) := by
  obtain ⟨⟨cv, fv, rv, hp⟩, mb, ob, am, al, nd⟩ := H
  have hb := ob (b, cs) (by simp)
  have nd2 : ∀ o ∈ os1 ++ os2, o.1 ≠ b := fun o ho e => by
    rw [List.map_append, List.map_cons] at nd
    obtain ⟨-, n2, n3⟩ := List.nodup_append.1 nd
    have n2 := (List.nodup_cons.1 n2).1
    rcases List.mem_append.1 ho with h9 | h9
    · exact n3 o.1 (List.mem_map.2 ⟨o, h9, rfl⟩) b (by simp) e
    · exact n2 (List.mem_map.2 ⟨o, h9, e⟩)
  have e1 : ((os1 ++ (b, cs') :: os2).map fun o => some (40, o.1)) = ((os1 ++ (b, cs) :: os2).map fun o => some (40, o.1)) := by simp
  have e2 : (os1 ++ (b, cs') :: os2).length = (os1 ++ (b, cs) :: os2).length := by simp
  have key : ∀ o, o ∈ os1 ++ (b, cs') :: os2 → o = (b, cs') ∨ (o ∈ os1 ++ os2 ∧ o ∈ os1 ++ (b, cs) :: os2) := fun o ho => by
    simp only [List.mem_append, List.mem_cons] at ho ⊢
    rcases ho with h9 | h9 | h9 <;> simp [h9]
  refine ⟨⟨cv, fv, rv, ?_⟩, mb.touch ht (fun e => e.elim (fun e => mb.lab.ne hb.lab (by decide) e) (fun e => (hS m e).2.2.1 rfl)), fun o ho => ?_, am, fun o ho => ?_, ?_⟩
  · rw [e1, e2]
    refine ⟨hp.hb.touch ht (fun e => e.elim (fun e => hp.hb.lab.ne hb.lab (by decide) e) (fun e => (hS h e).2.1 rfl)), hp.ar.touch ht (fun k hk e => ?_), hp.hB⟩
    rcases e with rfl | e
    · exact AFoot.lab hp.ar hb.lab (by decide) (by decide) (by decide) hk
    · exact (hS k e).1 ((FO.of hp.ar k).2 hk)
  · rcases key o ho with rfl | ⟨h9, h8⟩
    · exact hb'
    · exact (ob o h8).touch ht (fun e => e.elim (fun e => nd2 o h9 e) (fun e => (hS _ e).2.2.2 o h8 rfl))
  · rcases key o ho with rfl | ⟨h9, h8⟩
    · exact al (b, cs) (by simp)
    · exact al o h8
  · have e3 : (os1 ++ (b, cs') :: os2).map Prod.fst = (os1 ++ (b, cs) :: os2).map Prod.fst := by simp
    rw [e3]
    exact nd
theorem MP.mem_b (H : MP W h A m f ts) {t : TO} (ht : t ∈ ts) : Box W t.b 99 (objF t.cl t.proto false t.pv t.ev t.fn t.kd) := H.mm.ob t.os (List.mem_map.2 ⟨t, ht, rfl⟩)
/-- An object's properties change. -/
theorem MP.step {t : TO} (H : MP W h A m f (ts1 ++ t :: ts2)) (pv' ev' fn' : Value) (kd' : Int) (F' : Nat → Prop) (O' : List En) (ht : Touch (fun k => k = t.b ∨ t.F k) W W') (hb : Box W' t.b 99 (objF t.cl t.proto false pv' ev' fn' kd')) (hp : PrAt A W' pv' F' O') (hF : ∀ k, F' k → t.F k ∨ W.heap.size ≤ k) :
    MP W' h A m f (ts1 ++ ⟨t.b, t.cl, t.proto, pv', ev', fn', kd', F', O'⟩ :: ts2) ∧ Bk A W W' := by
  have hm : t ∈ ts1 ++ t :: ts2 := by simp
  have hbt := H.mem_b hm
  have hS : ∀ k, t.F k → ¬ FO W A k ∧ k ≠ h ∧ k ≠ m ∧ ∀ o ∈ (ts1 ++ t :: ts2).map TO.os, k ≠ o.1 := fun k hk => by
    obtain ⟨s1, s2, s3, s4⟩ := H.sep t hm k hk
    refine ⟨s1, s2, s3, fun o ho => ?_⟩
    obtain ⟨t', ht', rfl⟩ := List.mem_map.1 ho
    exact s4 t' ht'
  have hmm := H.mm
  rw [List.map_append, List.map_cons] at hmm hS
  have hA : ¬ (A = t.b ∨ t.F A) := fun e => e.elim (fun e => by
    obtain ⟨cv, fv, rv, hp⟩ := H.mm.hp
    exact hp.ar.box.lab.ne hbt.lab (by decide) e) (fun e => (H.sep t hm A e).1 H.mm.notA)
  have key : ∀ t', t' ∈ ts1 ++ ⟨t.b, t.cl, t.proto, pv', ev', fn', kd', F', O'⟩ :: ts2 → t' = ⟨t.b, t.cl, t.proto, pv', ev', fn', kd', F', O'⟩ ∨ t' ∈ ts1 ++ t :: ts2 := fun t' h9 => by
    simp only [List.mem_append, List.mem_cons] at h9 ⊢
    rcases h9 with h9 | h9 | h9 <;> simp [h9]
  have bs : ∀ t' ∈ ts1 ++ ⟨t.b, t.cl, t.proto, pv', ev', fn', kd', F', O'⟩ :: ts2, ∃ t'' ∈ ts1 ++ t :: ts2, t'.b = t''.b := fun t' h9 => by
    rcases key t' h9 with rfl | h9
    · exact ⟨t, hm, rfl⟩
    · exact ⟨t', h9, rfl⟩
  have hlen : (ts1 ++ ⟨t.b, t.cl, t.proto, pv', ev', fn', kd', F', O'⟩ :: ts2).length = (ts1 ++ t :: ts2).length := by simp
  have get : ∀ (i : Nat) t', (ts1 ++ ⟨t.b, t.cl, t.proto, pv', ev', fn', kd', F', O'⟩ :: ts2)[i]? = some t' → (i = ts1.length ∧ t' = ⟨t.b, t.cl, t.proto, pv', ev', fn', kd', F', O'⟩) ∨ (i ≠ ts1.length ∧ (ts1 ++ t :: ts2)[i]? = some t') := fun i t' h9 => by
    rcases Nat.lt_trichotomy i ts1.length with hi | hi | hi
    · rw [List.getElem?_append_left hi] at h9 ⊢
      exact .inr ⟨by omega, h9⟩
    · subst hi
      simp at h9
      exact .inl ⟨rfl, h9.symm⟩
    · refine .inr ⟨by omega, ?_⟩
      rw [List.getElem?_append_right (by omega)] at h9 ⊢
      obtain ⟨j, hj⟩ : ∃ j, i - ts1.length = j + 1 := ⟨i - ts1.length - 1, by omega⟩
      rw [hj] at h9 ⊢
      simpa using h9
  have tat : (ts1 ++ t :: ts2)[ts1.length]? = some t := by simp
  have dist : ∀ (i : Nat) t', i ≠ ts1.length → (ts1 ++ t :: ts2)[i]? = some t' → ∀ k, t'.F k → ¬ (k = t.b ∨ t.F k) := fun i t' hi hg k hk e => by
    have hm' := List.mem_of_getElem? hg
    rcases e with e | e
    · exact (H.sep t' hm' k hk).2.2.2 t hm e
    · exact H.dis i _ t' t hg tat hi k hk e
  refine ⟨⟨?_, fun t' h9 => ?_, fun t' h9 k hk => ?_, fun i j ti tj hi hj hne k hk hk2 => ?_⟩, ?_⟩
  · rw [List.map_append, List.map_cons]
    exact hmm.replace ht hS hb
  · obtain ⟨i, hi⟩ := List.mem_iff_getElem?.1 h9
    rcases get i t' hi with ⟨-, rfl⟩ | ⟨hne, hg⟩
    · exact hp
    · exact (H.pr t' (List.mem_of_getElem? hg)).touch ht (dist i t' hne hg)
  · obtain ⟨i, hi⟩ := List.mem_iff_getElem?.1 h9
    rcases get i t' hi with ⟨-, rfl⟩ | ⟨hne, hg⟩
    · rcases hF k hk with h8 | h8
      · obtain ⟨s1, s2, s3, s4⟩ := H.sep t hm k h8
        refine ⟨fun h7 => s1 (FO.touch H.mm.alt ht hA k h7), s2, s3, fun t9 h7 e => ?_⟩
        obtain ⟨t'', h6, e6⟩ := bs t9 h7
        exact s4 t'' h6 (by rw [e, e6])
      · have hb9 : ∀ t9 ∈ ts1 ++ t :: ts2, t9.b < W.heap.size := fun t9 h7 => (H.mem_b h7).lt
        have hh : h < W.heap.size := by obtain ⟨cv, fv, rv, hp⟩ := H.mm.hp; exact hp.hb.lt
        have hmlt := H.mm.mb.lt
        refine ⟨fun h7 => ?_, by omega, by omega, fun t9 h7 e => ?_⟩
        · have h6 := FO.touch H.mm.alt ht hA k h7
          obtain ⟨cv, fv, rv, hp⟩ := H.mm.hp
          have := (AFoot.lt hp.ar ((FO.of hp.ar k).1 h6)).2
          omega
        · obtain ⟨t'', h6, e6⟩ := bs t9 h7
          have := hb9 t'' h6
          omega
    · have hm' := List.mem_of_getElem? hg
      obtain ⟨s1, s2, s3, s4⟩ := H.sep t' hm' k hk
      refine ⟨fun h7 => s1 (FO.touch H.mm.alt ht hA k h7), s2, s3, fun t9 h7 e => ?_⟩
      obtain ⟨t'', h6, e6⟩ := bs t9 h7
      exact s4 t'' h6 (by rw [e, e6])
  · rcases get i ti hi with ⟨ei, rfl⟩ | ⟨hni, hgi⟩
    · rcases get j tj hj with ⟨ej, rfl⟩ | ⟨hnj, hgj⟩
      · exact hne (by rw [ei, ej])
      · have hmj := List.mem_of_getElem? hgj
        rcases hF k hk with h8 | h8
        · exact dist j tj hnj hgj k hk2 (.inr h8)
        · have := (H.lt hmj hk2).2
          omega
    · have hmi := List.mem_of_getElem? hgi
      rcases get j tj hj with ⟨ej, rfl⟩ | ⟨hnj, hgj⟩
      · rcases hF k hk2 with h8 | h8
        · exact dist i ti hni hgi k hk (.inr h8)
        · have := (H.lt hmi hk).2
          omega
      · exact H.dis i j ti tj hgi hgj hne k hk hk2
  · refine ⟨ht.below (Nat.le_of_lt H.mm.alt) (fun k hk => ?_), fun k hl => ht.block k (lab_lt hl) (fun e => ?_)⟩
    · rcases hk with rfl | hk
      · exact H.mm.al t.os (List.mem_map.2 ⟨t, hm, rfl⟩)
      · exact (H.lt hm hk).1
    · rcases e with rfl | e
      · exact hl.ne hbt.lab (by decide) rfl
      · exact (H.pr t hm).not_lab hl (by decide) e
/-- A new object beside the others. -/
theorem MP.new {t : TO} (H : MP W h A m f ts) (hmm : MM W' h A m f (ts.map TO.os ++ [t.os])) (hq : Kq A W W') (hbl : Below A W W') (hbn : W.heap.size ≤ t.b) (hF : ∀ k, ¬ t.F k) (hpr : PrAt A W' t.pv t.F t.O) : MP W' h A m f (ts ++ [t]) := by
  have mem : ∀ t', t' ∈ ts ++ [t] → t' ∈ ts ∨ t' = t := fun t' h9 => by simpa using h9
  have get : ∀ (i : Nat) t', (ts ++ [t])[i]? = some t' → ts[i]? = some t' ∨ t' = t := fun i t' h9 => by
    rcases Nat.lt_or_ge i ts.length with hi | hi
    · rw [List.getElem?_append_left hi] at h9
      exact .inl h9
    · rw [List.getElem?_append_right hi] at h9
      have := List.mem_of_getElem? h9
      exact .inr (by simpa using this)
  refine ⟨by rw [List.map_append]; exact hmm, fun t' h9 => ?_, fun t' h9 k hk => ?_, fun i j ti tj hi hj hne k hk hk2 => ?_⟩
  · rcases mem t' h9 with h9 | rfl
    · rcases H.pr t' h9 with ⟨e1, e2, e3⟩ | ⟨tt, e1, hT⟩
      · exact .inl ⟨e1, e2, e3⟩
      · refine .inr ⟨tt, e1, ?_⟩
        exact hT.touch (S := FO W A) ⟨hbl.os, hbl.tape, hbl.output, hq.size, fun k hk hn => hq.blk k hk hn⟩ (fun k hk => (H.sep t' h9 k hk).1)
    · exact hpr
  · rcases mem t' h9 with h9 | rfl
    · obtain ⟨s1, s2, s3, s4⟩ := H.sep t' h9 k hk
      have hlt := (H.lt h9 hk).2
      refine ⟨fun h7 => (hq.foot k h7).elim s1 (fun h6 => by omega), s2, s3, fun t9 h7 e => ?_⟩
      rcases mem t9 h7 with h7 | rfl
      · exact s4 t9 h7 e
      · omega
    · exact (hF k hk).elim
  · rcases get i ti hi with hi | rfl
    · rcases get j tj hj with hj | rfl
      · exact H.dis i j ti tj hi hj hne k hk hk2
      · exact hF k hk2
    · exact hF k hk
end
end Go.Proofs.YtgdkjkfbknbgkaaGreatDoor
