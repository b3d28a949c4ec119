/- Texts of the stage, joined: Le Lf Lg Lw Ja Jb Jc Jd Je Jf Jg Jh Ji Jj Jk Jl Jm Jn. -/
import Derived.Test.YtahkohfppakaiaaGreatDoorBm
import Derived.Test.YtahkohfppakaiaaGreatDoorBe
import Derived.Defers
import Derived.Laws.AppendOwn
import Derived.Maps.AppendAt
set_option maxHeartbeats 40000000
set_option maxRecDepth 100000
namespace Go.Proofs.YtahkohfppakaiaaGreatDoor
open Go Go.RowKit
section
variable {h A m g iw ia o b i n : Nat} {ts : List TO} {kd : Int} {xs : Nat -> Vt}
end
section
variable {w W W' : World} {h A m g iw ia o b i n : Nat} {ts : List TO} {E : Nat -> Prop} {xs : Nat -> Vt} {st kd at_ : Int} {sl : Value}
theorem LawW.setA (L : LawW ts iw o kd sl at_) (t : TO) (hia : 37 <= ia) (hne : iw ≠ ia) : LawW (ts.set ia t) iw o kd sl at_ := by
 obtain ⟨t0, a1, a2⟩ := L.p0
 obtain ⟨t1, h1, h2⟩ := L.p11
 obtain ⟨t3, h3, h4⟩ := L.fn
 exact ⟨by rw [List.getElem?_set_ne (Ne.symm hne)]; exact L.wk, L.ge, ⟨t0, by rw [List.getElem?_set_ne (by omega)]; exact a1, a2⟩, ⟨t1, by rw [List.getElem?_set_ne (by omega)]; exact h1, h2⟩, ⟨t3, by rw [List.getElem?_set_ne (by omega)]; exact h3, h4⟩⟩
theorem LawT.more (L : LawT ts ia) (t : TO) (hl : ts.length < 99999) : LawT (ts ++ [t]) ia := by
 have key : ∀ (k : Nat) u, ts[k]? = some u -> (ts ++ [t])[k]? = some u := fun k u hu => by
  rw [List.getElem?_append_left (List.getElem?_eq_some_iff.1 hu).1]
  exact hu
 obtain ⟨t2, a1, a2⟩ := L.p2
 refine ⟨by rw [List.length_append]; show ts.length + 1 < 100000; omega, by rw [List.length_append]; have := L.lt; omega, L.ge, ⟨t2, key _ _ a1, a2⟩, fun j hj => ?_⟩
 obtain ⟨t9, b1, b2⟩ := L.fn j hj
 exact ⟨t9, key _ _ b1, b2⟩
theorem LawT.setW (L : LawT ts ia) (t : TO) (hw : 37 <= iw) : LawT (ts.set iw t) ia := by
 obtain ⟨t2, a1, a2⟩ := L.p2
 refine ⟨by rw [List.length_set]; exact L.len, by rw [List.length_set]; exact L.lt, L.ge, ⟨t2, by rw [List.getElem?_set_ne (by omega)]; exact a1, a2⟩, fun j hj => ?_⟩
 obtain ⟨t9, b1, b2⟩ := L.fn j hj
 exact ⟨t9, by rw [List.getElem?_set_ne (by omega)]; exact b1, b2⟩
end
end Go.Proofs.YtahkohfppakaiaaGreatDoor
namespace Go.Proofs.YtahkohfppakaiaaGreatDoor
open Go Go.RowKit
attribute [local go_sem] Oper.semAt_some
section
variable {W w w' w0 : World} {h A m ia b n n' : Nat} {f f2 : MF} {ts : List TO} {V0 E K : Nat -> Prop} {xs ys : Nat -> Vt} {t2 : TO}
end
section
variable {w W W' : World} {h A m ia b n n' : Nat} {ts : List TO} {E : Nat -> Prop} {xs ys : Nat -> Vt} {st st' : Int}
end
section
variable {W w w' w0 : World} {h A m ia b n n' : Nat} {f f2 : MF} {ts : List TO} {V0 E K : Nat -> Prop} {xs ys : Nat -> Vt} {st st' : Int}
end
section
variable {w W W' : World} {h A m ia b n : Nat} {ts : List TO} {E : Nat -> Prop} {xs ys : Nat -> Vt} {st st' : Int}
end
end Go.Proofs.YtahkohfppakaiaaGreatDoor
namespace Go.Proofs.YtahkohfppakaiaaGreatDoor
end Go.Proofs.YtahkohfppakaiaaGreatDoor
namespace Go.Proofs.YtahkohfppakaiaaGreatDoor
open Go Go.RowKit
attribute [local go_sem] Oper.semAt_some
abbrev TO.arz (b : Nat) (cz : Bool) (ev : Value) : TO := ⟨b, 1, 3, .pointer none, ev, .nilIface, ⟨0, .slice none 0 0, 0, cz⟩, fun _ => False, []⟩
structure FZ (w : World) (h A m : Nat) (ts : List TO) (ia b : Nat) (cz : Bool) (n : Nat) (xs : Nat -> Vt) (st : Int) (E : Nat -> Prop) (w' : World) : Prop where
 x : ∃ ev na ca xs0, MP w' h A m (mfS st na ca) (ts.set ia (TO.arz b cz ev)) /\ EL w' A ev n xs0 /\ (∀ j, j < n -> xs0 j = xs j) /\ Rest w' A (mfS st na ca) /\ (∀ k, ev.ownBlock = some k -> ¬ VCf (mfS st na ca) k /\ ¬ E k) /\ ∀ k, VCf (mfS st na ca) k -> ¬ E k
 bel : Below w.heap.size w w'
 lo : w.heap.size <= A
def TStay (T : List TO -> (Nat -> Prop) -> World -> Prop) : Prop := ∀ ts D w1 w2, T ts D w1 -> (∀ k e, e ∈ kvL -> D k -> Lab w1 k e -> w2.heap[k]? = w1.heap[k]?) -> T ts D w2
def FZX (w : World) (h A m ia b : Nat) (cz : Bool) (n : Nat) (xs : Nat -> Vt) (st : Int) (T : List TO -> (Nat -> Prop) -> World -> Prop) (E : Nat -> Prop) (w' : World) : Prop :=
 ∃ ts D, T ts D w' /\ (∀ k, D k -> ¬ E k /\ k < w'.heap.size) /\ FZ w h A m ts ia b cz n xs st (fun k => E k \/ D k) w'
section
variable {w W W' : World} {h A m ia b n : Nat} {cz : Bool} {ts : List TO} {E : Nat -> Prop} {xs : Nat -> Vt} {st st' : Int} {T : List TO -> (Nat -> Prop) -> World -> Prop}
theorem LS.fz (H : LS w h A m ts ia b n xs st E W) : FZ w h A m ts ia b false n xs st E W := ⟨H.x, H.bel, H.lo⟩
theorem FZ.on (H : FZ w h A m ts ia b cz n xs st E W) (hb : Below W.heap.size W W') : FZ w h A m ts ia b cz n xs st E W' := by
 obtain ⟨ev, na, ca, xs0, h1, h2, h3, h4, h5, h6⟩ := H.x
 exact ⟨⟨ev, na, ca, xs0, h1.on hb, h2.on hb, h3, h4.keep (fun k hk => hb.block k (h4.lt hk).2), h5, h6⟩, H.bel.trans (hb.mono H.bel.size), H.lo⟩
theorem FZ.excl (H : FZ w h A m ts ia b cz n xs st E W) {E' : Nat -> Prop} (hE : ∀ k, E' k -> E k \/ W.heap.size <= k) : FZ w h A m ts ia b cz n xs st E' W := by
 obtain ⟨ev, na, ca, xs0, h1, h2, h3, h4, h5, h6⟩ := H.x
 refine ⟨⟨ev, na, ca, xs0, h1, h2, h3, h4, fun k hk => ⟨(h5 k hk).1, fun h9 => ?_⟩, fun k hk h9 => ?_⟩, H.bel, H.lo⟩
 ·rcases hE k h9 with h8 | h8
  ·exact (h5 k hk).2 h8
  ·have := (h2.own_lt k hk).2.1
   omega
 ·rcases hE k h9 with h8 | h8
  ·exact h6 k hk h8
  ·have := (h4.lt hk).2
   omega
theorem FZ.touch {S : Nat -> Prop} (H : FZ w h A m ts ia b cz n xs st E W) (ht : Touch S W W') (hS : ∀ k, S k -> E k /\ w.heap.size <= k /\ Lab W k VTy) : FZ w h A m ts ia b cz n xs st E W' := by
 obtain ⟨ev, na, ca, xs0, h1, h2, h3, h4, h5, h6⟩ := H.x
 refine ⟨⟨ev, na, ca, xs0, h1.touchV ht (fun k hk => ⟨VTy, by decide, (hS k hk).2.2⟩), ?_, h3, h4.keep (fun k hk => ht.block k (h4.lt hk).2 (fun e => h6 k hk (hS k e).1)), h5, h6⟩, H.bel.trans (ht.below H.bel.size (fun k hk => (hS k hk).2.1)), H.lo⟩
 exact h2.imp (fun h => h) (fun ⟨g, cap, e, h9⟩ => ⟨g, cap, e, h9.touch ht (fun hg => (h5 g (by rw [e]; rfl)).2 (hS g hg).1)⟩)
theorem FZ.put (H : FZ w h A m ts ia b cz n xs st E W) {g : Nat} (hl : Lab W g VTy) (hg : E g) (hn : w.heap.size <= g) (i : Nat) (u : Value) : FZ w h A m ts ia b cz n xs st E (W.setCell ⟨g, i, none⟩ u) :=
 H.touch (Touch.put (S := fun k => k = g) rfl _ _) (fun k hk => by obtain rfl : k = g := hk; exact ⟨hg, hn, hl⟩)
theorem FZ.at0 (H : FZ w h A m ts ia b cz n xs st E W) : W.cell? ⟨m, 0, none⟩ = some (.pointer (some ⟨h, 0, none⟩)) := by
 obtain ⟨ev, na, ca, xs0, h1, -⟩ := H.x
 exact h1.mm.mb.at_ 0
theorem FZ.cl : StP w.heap.size (FZ w h A m ts ia b cz n xs st) := ⟨fun H hb => H.on hb, fun H hE => H.excl hE, fun H hl hg hn i u => H.put hl hg hn i u⟩
theorem FZX.touch {S : Nat -> Prop} (hT : TStay T) (H : FZX w h A m ia b cz n xs st T E W) (ht : Touch S W W') (hS : ∀ k, S k -> E k /\ w.heap.size <= k /\ Lab W k VTy) : FZX w h A m ia b cz n xs st T E W' := by
 obtain ⟨ts, D, a, c, d⟩ := H
 exact ⟨ts, D, hT ts D W W' a (fun k e he hd hl => ht.block k (c k hd).2 (fun hs => (c k hd).1 (hS k hs).1)), fun k hk => ⟨(c k hk).1, Nat.lt_of_lt_of_le (c k hk).2 ht.size⟩, d.touch ht (fun k hk => ⟨.inl (hS k hk).1, (hS k hk).2⟩)⟩
theorem FZX.cl (hT : TStay T) : StP w.heap.size (FZX w h A m ia b cz n xs st T) := by
 refine ⟨fun {E W W'} H hb => ?_, fun {E W E'} H hE => ?_, fun {E W b'} H hl hg hn i u => FZX.touch hT H (Touch.put (S := fun k => k = b') rfl _ _) (fun k hk => by obtain rfl : k = b' := hk; exact ⟨hg, hn, hl⟩)⟩
 ·obtain ⟨ts, D, a, c, d⟩ := H
  exact ⟨ts, D, hT ts D W W' a (fun k e he hd hl => hb.block k (c k hd).2), fun k hk => ⟨(c k hk).1, Nat.lt_of_lt_of_le (c k hk).2 hb.size⟩, d.on hb⟩
 ·obtain ⟨ts, D, a, c, d⟩ := H
  refine ⟨ts, D, a, fun k hk => ⟨fun h9 => ?_, (c k hk).2⟩, d.excl (fun k hk => ?_)⟩
  ·rcases hE k h9 with h8 | h8
   ·exact (c k hk).1 h8
   ·have := (c k hk).2
    omega
  ·rcases hk with hk | hk
   ·exact (hE k hk).imp .inl (fun h => h)
   ·exact .inl (.inr hk)
theorem FZ.member (H : FZ w h A m ts ia b cz n xs st E W) (L : LawT ts ia) (j : Nat) (hj : j < 10) :
  Calls Tryz.prog 21 #[.pointer (some ⟨m, 0, none⟩), valV (9, (ia : Int) + 1, ⟨#[]⟩), .string (mn j)] W fun e w' => e = .returned (.tuple #[valV (9, 27 + (j : Int), ⟨#[]⟩), .int .i64 0]) /\ Below W.heap.size W w' := by
 obtain ⟨ev, na, ca, xs0, h1, -⟩ := H.x
 obtain ⟨t2, ht2, hp2⟩ := L.p2
 have hge := L.ge
 exact h1.method_of (by rw [List.length_set]; exact L.len) (List.getElem?_set_self L.lt) rfl rfl rfl (by rw [List.getElem?_set_ne (by omega)]; exact ht2) hp2 j hj
theorem FZ.callM (H : FZ w h A m ts ia b cz n xs st E W) (L : LawT ts ia) (hE : ∀ k, E k -> k < W.heap.size) (hs0 : 0 <= st) (hs1 : st < 4194304) (jf : Nat) (hjf : jf < 15) (tv : Vt) (args : Value) (l : List Vt) (hr : RowV W args l) (hl : l.length <= 1000) (hgE : ∀ k, args.ownBlock = some k -> E k) (x : Vt) (en : Int) (hT : TStay T)
  (HD : ∀ W1 f1 fo ev xs0, Below w.heap.size w W1 -> MP W1 h A m f1 (ts.set ia (TO.arz b cz ev)) -> EL W1 A ev n xs0 -> (∀ j, j < n -> xs0 j = xs j) -> f1.ov = false -> f1.st = st + 1 -> (∀ k, f1 k = mfW k) -> (∀ b t c, t ∈ kvL -> E b -> Box W b t c -> Box W1 b t c) -> RowV W1 args l -> Calls Tryz.prog 348 #[.pointer (some ⟨m, 0, none⟩), .int .i64 (150 + (jf : Int)), callV fo tv args (0, 0, ⟨#[]⟩)] W1 fun e w' => e = .returned (.tuple #[valV x, .int .i64 en]) /\ ∃ ts1 D, T ts1 D w' /\ (∀ k, D k -> k < w'.heap.size /\ W1.heap.size <= k) /\ MP w' h A m { f1 with st := st' } (ts1.set ia (TO.arz b cz ev)) /\ Bk A W1 w') :
  Calls Tryz.prog 28 #[.pointer (some ⟨m, 0, none⟩), valV (9, 23 + (jf : Int), ⟨#[]⟩), valV tv, args] W fun e w' => e = .returned (.tuple #[valV x, .int .i64 en]) /\ FZX w h A m ia b cz n xs st' T E w' /\ (∀ b t c, t ∈ kvL -> E b -> Box W b t c -> Box w' b t c) /\ W.heap.size <= w'.heap.size := by
 obtain ⟨ev, na, ca, xs0, h1, h2, h3, h4, h5, h6⟩ := H.x
 obtain ⟨t, ht, c1, c2, c3⟩ := L.fn jf hjf
 have hge := L.ge
 have hA := Nat.le_of_lt h1.mm.alt
 have ht' : (ts.set ia (TO.arz b cz ev))[22 + jf]? = some t := by rw [List.getElem?_set_ne (by omega)]; exact ht
 obtain ⟨ao, cap, hag, -⟩ := id hr
 have hR : RStay A (fun D2 ts2 st2 w9 => ∃ ts1 D, T ts1 D w9 /\ (∀ k, D k -> k < w9.heap.size /\ W.heap.size <= k) /\ ts2 = ts1.set ia (TO.arz b cz ev) /\ EL w9 A ev n xs0 /\ st2 = st' /\ (∀ k, D k -> D2 k) /\ ∀ k, ev.ownBlock = some k -> D2 k) := fun D2 ts2 st2 w1 w2 V' hq hbv hn => by
  obtain ⟨ts1, D, e0, e1, e2, e3, e4, e5, e6⟩ := hq
  exact ⟨ts1, D, hT ts1 D w1 w2 e0 (fun k e he hd hl => hbv.kv k e he hl (hn k (e5 k hd))), fun k hk => ⟨Nat.lt_of_lt_of_le (e1 k hk).1 hbv.bel.size, (e1 k hk).2⟩, e2, e3.bv hbv (fun k hk => hn k (e6 k hk)), e4, e5, e6⟩
 have key := h1.call h4 rfl hs0 hs1 (by show (0 : Int) <= 0; decide) (by show (0 : Int) < 20; decide) (by rw [List.length_set]; exact L.len) ht' c1 (decide (jf = 0)) c2 (150 + (jf : Int)) c3 tv x en args ao l.length cap hag (by omega) (fun k => ev.ownBlock = some k) (fun k hk => ⟨(h2.own_lt k hk).2.1, (h5 k hk).1⟩) _ hR ⟨fun W1 f1 g1 g2 g3 g4 => by
  obtain ⟨na1, ca1, hf1⟩ := g2
  have hel1 : EL W1 A ev n xs0 := h2.bv g3 (fun k hk => (h5 k hk).1)
  refine (HD W1 f1 t.b ev xs0 (H.bel.trans (g3.bel.mono H.lo)) g1 hel1 h3 (by rw [hf1]) (by rw [hf1]) (fun k => by rw [hf1]) (fun b t c hT hg hbx => g3.box hbx hT (fun h9 => h6 b h9 hg)) (g3.row hr (fun k hk h9 => h6 k h9 (hgE k hk)))).mono ?_
  rintro e w9 ⟨he, ts1, D, q0, q1, q2, q3⟩
  have hel9 : EL w9 A ev n xs0 := hel1.bv (q3.bv (fun _ => False)) (fun k _ h => h)
  refine ⟨he, _, _, fun k => ev.ownBlock = some k \/ D k, q2, q3.bv _, ⟨ts1, D, q0, fun k hk => ⟨(q1 k hk).1, Nat.le_trans g3.bel.size (q1 k hk).2⟩, rfl, hel9, rfl, fun k hk => .inr hk, fun k hk => .inl hk⟩, fun k hk => ?_⟩
  rcases hk with hk | hk
  ·exact ⟨(hel9.own_lt k hk).2.1, fun h => h, .inl hk⟩
  ·exact ⟨(q1 k hk).1, fun h => h, .inr (q1 k hk).2⟩⟩
 rw [show ((22 + jf : Nat) : Int) + 1 = 23 + (jf : Int) by omega] at key
 refine key.mono ?_
 rintro e w9 ⟨he, hq⟩
 obtain ⟨ts2, st2, D2, f2, q1, ⟨na2, ca2, q2⟩, q3, q4, q5, ⟨ts1, D, r0, r1, r2, r3, r4, r5, r6⟩, q7⟩ := hq.x
 subst r2 r4 q2
 refine ⟨he, ⟨ts1, D, r0, fun k hk => ⟨fun h9 => ?_, (r1 k hk).1⟩, ⟨ev, na2, ca2, xs0, q1, r3, h3, q3, fun k hk => ⟨(q7 k (r6 k hk)).2.1, fun h9 => ?_⟩, fun k hk h9 => ?_⟩, H.bel.trans (q5.bel.mono H.lo), H.lo⟩, fun b t c hT hg hbx => q5.box hbx hT (fun h9 => h9.elim (fun h8 => (h5 b h8).2 hg) (fun h8 => h6 b h8 hg)), q5.bel.size⟩
 ·have := hE k h9
  have := (r1 k hk).2
  omega
 ·rcases h9 with h9 | h9
  ·exact (h5 k hk).2 h9
  ·have := (h2.own_lt k hk).2.1
   have := (r1 k h9).2
   omega
 ·rcases h9 with h9 | h9
  ·rcases (q4 k hk).1 with h8 | h8
   ·exact h6 k h8 h9
   ·have := hE k h9
    omega
  ·exact (q7 k (r5 k h9)).2.1 hk
theorem FZ.askM (H : FZ w h A m ts ia b cz n xs st E W) (L : LawT ts ia) (hE : ∀ k, E k -> k < W.heap.size) (hs0 : 0 <= st) (hs1 : st < 4194304) (j : Nat) (hj : j < 10) (args : Value) (l : List Vt) (hr : RowV W args l) (hl : l.length <= 1000) (hgE : ∀ k, args.ownBlock = some k -> E k) (x : Vt) (en : Int) (hT : TStay T)
  (HD : ∀ W1 f1 fo ev xs0, Below w.heap.size w W1 -> MP W1 h A m f1 (ts.set ia (TO.arz b cz ev)) -> EL W1 A ev n xs0 -> (∀ j, j < n -> xs0 j = xs j) -> f1.ov = false -> f1.st = st + 1 -> (∀ k, f1 k = mfW k) -> RowV W1 args l -> Calls Tryz.prog 348 #[.pointer (some ⟨m, 0, none⟩), .int .i64 (154 + (j : Int)), callV fo (9, (ia : Int) + 1, ⟨#[]⟩) args (0, 0, ⟨#[]⟩)] W1 fun e w' => e = .returned (.tuple #[valV x, .int .i64 en]) /\ ∃ ts1 D, T ts1 D w' /\ (∀ k, D k -> k < w'.heap.size /\ W1.heap.size <= k) /\ MP w' h A m { f1 with st := st' } (ts1.set ia (TO.arz b cz ev)) /\ Bk A W1 w') :
  Calls Tryz.prog 20 #[.pointer (some ⟨m, 0, none⟩), valV (9, (ia : Int) + 1, ⟨#[]⟩), .string (mn j), args] W fun e w' => e = .returned (.tuple #[valV x, .int .i64 en]) /\ FZX w h A m ia b cz n xs st' T E w' /\ (∀ b t c, t ∈ kvL -> E b -> Box W b t c -> Box w' b t c) /\ W.heap.size <= w'.heap.size := by
 refine ask_gen FZ.cl (FZX.cl hT) H H.bel.size hE (9, (ia : Int) + 1, ⟨#[]⟩) (9, 27 + (j : Int), ⟨#[]⟩) x en (mn j) args (fun w9 hb => (H.on hb).member L j hj) (fun w9 E' H9 hE9 hEE hb9 => ?_)
 have key := H9.callM (st' := st') L hE9 hs0 hs1 (4 + j) (by omega) (9, (ia : Int) + 1, ⟨#[]⟩) args l (hr.on hb9) hl (fun k hk => hEE k (hgE k hk)) x en hT (fun W1 f1 fo ev xs0 g1 g2 g3 g4 g5 g6 g7 g8 g9 => by
  rw [show (150 : Int) + ((4 + j : Nat) : Int) = 154 + (j : Int) by omega]
  exact HD W1 f1 fo ev xs0 g1 g2 g3 g4 g5 g6 g7 g9)
 rw [show (23 : Int) + ((4 + j : Nat) : Int) = 27 + (j : Int) by omega] at key
 exact key
end
section
variable {W : World} {h A m : Nat} {f : MF} {ts : List TO}
theorem MP.fail (H : MP W h A m f ts) (hl : ts.length < 100000) :
  Calls Tryz.prog 56 #[.pointer (some ⟨m, 0, none⟩), .int .i64 6, .string ⟨#[]⟩] W fun e w' => e = .returned (.tuple #[valV (9, (ts.length : Int) + 1, ⟨#[]⟩), .int .i64 1]) /\ ∃ b, MP w' h A m f (ts ++ [TO.plain b 12 (f 6) (.slice none 0 0)]) /\ Bk A W w' := by
 obtain ⟨rb, hrb⟩ : ∃ rb, W.heap.size = rb := ⟨_, rfl⟩
 obtain ⟨W0, hW0⟩ : ∃ W0, W.alloc (.cells #[.int .i64 0, .int .i64 0, .string ⟨#[]⟩] VTy) = W0 := ⟨_, rfl⟩
 have b1 := Box.new W VTy #[.int .i64 0, .int .i64 0, .string ⟨#[]⟩]
 have bb : Below W.heap.size W (W.alloc (.cells #[.int .i64 0, .int .i64 0, .string ⟨#[]⟩] VTy)) := (Below.refl _ _).alloc (Nat.le_refl _) _
 rw [hW0] at b1 bb
 rw [hrb] at b1
 have HW0 := Veil.mk (And.intro hW0 hrb)
 have H0 := Veil.mk (H.on bb)
 have HPR : Veil (Calls Tryz.prog 37 #[.pointer (some ⟨m, 0, none⟩), .int .i64 6] W0 fun e w' => e = .returned (.int .i64 (f 6)) /\ w' = W0) := ⟨H0.out.mm.proto_any 6 (by decide)⟩
 have HCR := Veil.mk (H0.out.create 12 (f 6) (by decide) hl)
 have HX := Veil.mk (And.intro b1 bb)
 have HA : Veil (A <= W.heap.size) := ⟨Nat.le_of_lt H.mm.alt⟩
 obtain ⟨n, hn⟩ : ∃ n, ts.length = n := ⟨_, rfl⟩
 rw [hn] at HCR ⊢
 clear hW0 hrb b1 bb H hl hn H0
 go_enter Tryz.func56, Tryz.ntmps56
 go_upto_region 1 with (fail)
 rw [HW0.out.1, HW0.out.2]
 go_upto_region 4 with (first | (go_at_call 37; ((with_reducible refine HPR.out.mono ?_); rintro e w1 ⟨rfl, h1⟩; subst w1)) | (go_at_call 36; ((with_reducible refine HCR.out.mono ?_); rintro e w2 ⟨rfl, hm2, hb2⟩; have HM2 := Veil.mk (And.intro hm2 hb2); clear hm2 hb2)))
 have HB2 := Veil.mk (HM2.out.2.boxE HX.out.1 (by decide))
 have HVO := Veil.mk (object_mk ((n : Int) + 1) w2)
 clear HPR HCR
 go_wp2_with (go_at_call 23; ((with_reducible refine HVO.out.mono ?_); rintro e w5 ⟨rfl, hb5⟩; have HB5 := Veil.mk (And.intro hb5 (HB2.out.below hb5)); have v0 : w5.cell? ⟨rb, 0, none⟩ = some (.int .i64 0) := HB5.out.2.at_ 0; have v1 : w5.cell? ⟨rb, 1, none⟩ = some (.int .i64 0) := HB5.out.2.at_ 1; have v2 : w5.cell? ⟨rb, 2, none⟩ = some (.string ⟨#[]⟩) := HB5.out.2.at_ 2; have g0 := HB5.out.2.free 0; have g1 := HB5.out.2.free 1; have g2 := HB5.out.2.free 2; clear hb5))
 have hr6 := ((HB5.out.2.put 0 (.int .i64 9)).put 1 (.int .i64 ((n : Int) + 1))).put 2 (.string ⟨#[]⟩)
 have y0 := hr6.at_ 0
 have y1 := hr6.at_ 1
 have y2 := hr6.at_ 2
 have hp3 := (((HM2.out.1.on HB5.out.1).putv HB5.out.2.lab 0 (.int .i64 9)).putv (HB5.out.2.put 0 _).lab 1 (.int .i64 ((n : Int) + 1))).putv ((HB5.out.2.put 0 _).put 1 _).lab 2 (.string ⟨#[]⟩)
 have hrb : W.heap.size <= rb := Nat.le_of_eq HW0.out.2
 have hk3 := (((((Bk.of_below HA.out HX.out.2).trans HM2.out.2).trans (Bk.of_below (Nat.le_trans HA.out (Nat.le_trans HX.out.2.size HM2.out.2.bel.size)) HB5.out.1)).setv hrb HA.out 0 (.int .i64 9)).setv hrb HA.out 1 (.int .i64 ((n : Int) + 1))).setv hrb HA.out 2 (.string ⟨#[]⟩)
 exact bodyPost_ret (v := (.tuple #[valV (9, (n : Int) + 1, ⟨#[]⟩), .int .i64 1])) (by simp [results, Tryz.results56, go_sem, y0, y1, y2]) rfl ⟨rfl, _, hp3, hk3⟩
theorem MP.type (H : MP W h A m f ts) (hl : ts.length < 100000) :
  Calls Tryz.prog 51 #[.pointer (some ⟨m, 0, none⟩), .string ⟨#[]⟩] W fun e w' => e = .returned (.tuple #[valV (9, (ts.length : Int) + 1, ⟨#[]⟩), .int .i64 1]) /\ ∃ b, MP w' h A m f (ts ++ [TO.plain b 12 (f 6) (.slice none 0 0)]) /\ Bk A W w' := by
 obtain ⟨rb, hrb⟩ : ∃ rb, W.heap.size = rb := ⟨_, rfl⟩
 obtain ⟨W0, hW0⟩ : ∃ W0, W.alloc (.cells #[.int .i64 0, .int .i64 0, .string ⟨#[]⟩] VTy) = W0 := ⟨_, rfl⟩
 have b1 := Box.new W VTy #[.int .i64 0, .int .i64 0, .string ⟨#[]⟩]
 have bb : Below W.heap.size W (W.alloc (.cells #[.int .i64 0, .int .i64 0, .string ⟨#[]⟩] VTy)) := (Below.refl _ _).alloc (Nat.le_refl _) _
 rw [hW0] at b1 bb
 rw [hrb] at b1
 have HW0 := Veil.mk (And.intro hW0 hrb)
 have HFL := Veil.mk ((H.on bb).fail hl)
 have HX := Veil.mk (And.intro b1 bb)
 have HA : Veil (A <= W.heap.size) := ⟨Nat.le_of_lt H.mm.alt⟩
 obtain ⟨n, hn⟩ : ∃ n, ts.length = n := ⟨_, rfl⟩
 rw [hn] at HFL ⊢
 clear hW0 hrb b1 bb H hl hn
 go_enter Tryz.func51, Tryz.ntmps51
 go_upto_region 1 with (fail)
 rw [HW0.out.1, HW0.out.2]
 go_wp2_with (go_at_call 56; ((with_reducible refine HFL.out.mono ?_); rintro e w5 ⟨rfl, ob, hm2, hb2⟩; have HM2 := Veil.mk (And.intro hm2 hb2); clear hm2 hb2; have HB5 := Veil.mk (HM2.out.2.boxE HX.out.1 (by decide)); have v0 : w5.cell? ⟨rb, 0, none⟩ = some (.int .i64 0) := HB5.out.at_ 0; have v1 : w5.cell? ⟨rb, 1, none⟩ = some (.int .i64 0) := HB5.out.at_ 1; have v2 : w5.cell? ⟨rb, 2, none⟩ = some (.string ⟨#[]⟩) := HB5.out.at_ 2; have g0 := HB5.out.free 0; have g1 := HB5.out.free 1; have g2 := HB5.out.free 2))
 have hr6 := ((HB5.out.put 0 (.int .i64 9)).put 1 (.int .i64 ((n : Int) + 1))).put 2 (.string ⟨#[]⟩)
 have y0 := hr6.at_ 0
 have y1 := hr6.at_ 1
 have y2 := hr6.at_ 2
 have hp3 := ((HM2.out.1.putv HB5.out.lab 0 (.int .i64 9)).putv (HB5.out.put 0 _).lab 1 (.int .i64 ((n : Int) + 1))).putv ((HB5.out.put 0 _).put 1 _).lab 2 (.string ⟨#[]⟩)
 have hrb : W.heap.size <= rb := Nat.le_of_eq HW0.out.2
 have hk3 := ((((Bk.of_below HA.out HX.out.2).trans HM2.out.2).setv hrb HA.out 0 (.int .i64 9)).setv hrb HA.out 1 (.int .i64 ((n : Int) + 1))).setv hrb HA.out 2 (.string ⟨#[]⟩)
 exact bodyPost_ret (v := (.tuple #[valV (9, (n : Int) + 1, ⟨#[]⟩), .int .i64 1])) (by simp [results, Tryz.results51, go_sem, y0, y1, y2]) rfl ⟨rfl, ob, hp3, hk3⟩
end
theorem open_nil (w : World) : Calls Tryz.prog 98 #[.pointer none] w fun e w' => e = .returned (.bool false) /\ w' = w := by
 go_enter Tryz.func98, Tryz.ntmps98
 go_wp2
 go_ret
 exact ⟨rfl, rfl⟩
theorem cursor_nil (w : World) : Calls Tryz.prog 59 #[.pointer none] w fun e w' => e = .returned (.pointer none) /\ w' = w := by
 go_enter Tryz.func59, Tryz.ntmps59
 go_wp2
 go_ret
 exact ⟨rfl, rfl⟩
theorem next_nil (w : World) : Calls Tryz.prog 61 #[.pointer none] w fun e w' => e = .returned (.tuple #[valV zV, valV zV, .int .i64 0, .bool false]) /\ Below w.heap.size w w' := by
 obtain ⟨a, ha⟩ : ∃ a, w.heap.size = a := ⟨_, rfl⟩
 obtain ⟨w1, hw1⟩ : ∃ w1, w.alloc (.cells #[.int .i64 0, .int .i64 0, .string ⟨#[]⟩] VTy) = w1 := ⟨_, rfl⟩
 obtain ⟨b, hb⟩ : ∃ b, a + 1 = b := ⟨_, rfl⟩
 obtain ⟨w2, hw2⟩ : ∃ w2, w1.alloc (.cells #[.int .i64 0, .int .i64 0, .string ⟨#[]⟩] VTy) = w2 := ⟨_, rfl⟩
 have l1 : Below w.heap.size w w1 := by rw [<- hw1]; exact (Below.refl _ _).alloc (Nat.le_refl _) _
 have l2 : Below w1.heap.size w1 w2 := by rw [<- hw2]; exact (Below.refl _ _).alloc (Nat.le_refl _) _
 have xa : Box w2 a VTy #[.int .i64 0, .int .i64 0, .string ⟨#[]⟩] := by have h9 := (Box.new w VTy #[.int .i64 0, .int .i64 0, .string ⟨#[]⟩]); rw [hw1, ha] at h9; exact h9.below l2
 have xb : Box w2 b VTy #[.int .i64 0, .int .i64 0, .string ⟨#[]⟩] := by have h9 := (Box.new w1 VTy #[.int .i64 0, .int .i64 0, .string ⟨#[]⟩]); rw [hw2, show w1.heap.size = b by rw [<- hw1]; simp only [World.size_alloc]; omega] at h9; exact h9
 have hab : a ≠ b := by omega
 have HX := Veil.mk (And.intro (And.intro hw1 (And.intro ha (And.intro hw2 hb))) (And.intro (l1.trans (l2.mono l1.size)) (And.intro xa (And.intro xb hab))))
 have HO := Veil.mk (open_nil w2)
 have u0 := xa.at_ 0
 have u1 := xa.at_ 1
 have u2 := xa.at_ 2
 have u3 := xb.at_ 0
 have u4 := xb.at_ 1
 have u5 := xb.at_ 2
 have f0 := xa.free 0
 have f1 := xa.free 1
 have f2 := xa.free 2
 have f3 := xb.free 0
 have f4 := xb.free 1
 have f5 := xb.free 2
 clear l1 l2 hw1 hw2 ha hb xa xb
 go_enter Tryz.func61, Tryz.ntmps61
 go_upto_region 1 with (fail)
 rw [HX.out.1.1, HX.out.1.2.1, HX.out.1.2.2.1, HX.out.1.2.2.2]
 go_wp2_with (go_at_call 98; ((with_reducible refine HO.out.mono ?_); rintro e w9 ⟨rfl, h9⟩; subst w9))
 have ya := ((HX.out.2.2.1.put 0 (.int .i64 0)).put 1 (.int .i64 0)).put 2 (.string ⟨#[]⟩)
 have yb := (((((HX.out.2.2.2.1.touch (Touch.put (S := fun k => k = a) rfl 0 (.int .i64 0)) (fun e => hab e.symm)).touch (Touch.put (S := fun k => k = a) rfl 1 (.int .i64 0)) (fun e => hab e.symm)).touch (Touch.put (S := fun k => k = a) rfl 2 (.string ⟨#[]⟩)) (fun e => hab e.symm)).put 0 (.int .i64 0)).put 1 (.int .i64 0)).put 2 (.string ⟨#[]⟩)
 have yc := ((ya.touch (Touch.put (S := fun k => k = b) rfl 0 (.int .i64 0)) hab).touch (Touch.put (S := fun k => k = b) rfl 1 (.int .i64 0)) hab).touch (Touch.put (S := fun k => k = b) rfl 2 (.string ⟨#[]⟩)) hab
 have y0 := yc.at_ 0
 have y1 := yc.at_ 1
 have y2 := yc.at_ 2
 have y3 := yb.at_ 0
 have y4 := yb.at_ 1
 have y5 := yb.at_ 2
 have ga : w.heap.size <= a := Nat.le_of_eq HX.out.1.2.1
 have gb : w.heap.size <= b := by
  have h2 := HX.out.1.2.2.2
  omega
 have hbl := (((((HX.out.2.1.setCell (p := ⟨a, 0, none⟩) ga (.int .i64 0)).setCell (p := ⟨a, 1, none⟩) ga (.int .i64 0)).setCell (p := ⟨a, 2, none⟩) ga (.string ⟨#[]⟩)).setCell (p := ⟨b, 0, none⟩) gb (.int .i64 0)).setCell (p := ⟨b, 1, none⟩) gb (.int .i64 0)).setCell (p := ⟨b, 2, none⟩) gb (.string ⟨#[]⟩)
 exact bodyPost_ret (v := (.tuple #[valV zV, valV zV, .int .i64 0, .bool false])) (by simp [results, Tryz.results61, go_sem, y0, y1, y2, y3, y4, y5]) rfl ⟨rfl, hbl⟩
theorem close_nil (u : FrameMode) (w : World) : CallsD Tryz.prog 60 #[.pointer none] u w fun e u' w' => u' = u /\ (e = .returned (.tuple #[]) /\ w' = w) := by
 have HO := Veil.mk (open_nil w)
 go_enter_d Tryz.func60, Tryz.ntmps60
 go_wp2_with (go_at_call 98; ((with_reducible refine HO.out.mono ?_); rintro e w9 ⟨rfl, h9⟩; subst w9))
 exact bodyPost_ret (results_none rfl _ _ _) rfl ⟨rfl, rfl⟩
theorem freeze_nil {w : World} {b : Nat} {cl proto : Int} {cs : Bool} {ev fn : Value} {kd : KD} (hb : Box w b 63 (objF cl proto cs (.pointer none) ev fn kd)) :
  Calls Tryz.prog 29 #[.pointer (some ⟨b, 0, none⟩)] w fun e w' => e = .returned (.tuple #[]) /\ Below (w.setCell ⟨b, 2, none⟩ (.bool true)).heap.size (w.setCell ⟨b, 2, none⟩ (.bool true)) w' := by
 have hb2 := hb.put 2 (.bool true)
 have c2 := hb.at_ 2
 have f2 := hb.free 2
 obtain ⟨w2, hw2⟩ : ∃ w2, w.setCell ⟨b, 2, none⟩ (.bool true) = w2 := ⟨_, rfl⟩
 rw [hw2] at hb2 ⊢
 have c3 : w2.cell? ⟨b, 3, none⟩ = some (.pointer none) := hb2.at_ 3
 have HC := Veil.mk (cursor_nil w2)
 have HN := Veil.mk (next_nil w2)
 have HW2 := Veil.mk hw2
 clear hb hb2 hw2
 go_enter_defers Tryz.func29, Tryz.ntmps29
 go_upto_region 2 with (fail)
 rw [HW2.out]
 go_upto_region 4 with (go_at_call 59; ((with_reducible refine HC.out.mono ?_); rintro e w9 ⟨rfl, h9⟩; subst w9))
 refine wp_loop_once ?_
 go_wp2_with (go_at_call 61; ((with_reducible refine HN.out.mono ?_); rintro e w9 ⟨rfl, h9⟩; have HB9 := Veil.mk h9; clear h9))
 refine leaves_cons (f := 60) (args := #[.pointer none]) (by simp) (by simp [go_sem]) ?_
 refine (close_nil .returning _).mono ?_
 rintro e u' w8 ⟨rfl, rfl, h8⟩
 subst w8
 exact ⟨_, results_none rfl _ _ _, rfl, (HB9.out.alloc HB9.out.size _).alloc (by simp only [World.size_alloc]; have := HB9.out.size; omega) _⟩
section
variable {w W W' : World} {h A m ia b n : Nat} {cz : Bool} {ts : List TO} {E : Nat -> Prop} {xs : Nat -> Vt} {st : Int}
theorem FZ.freeze (H : FZ w h A m ts ia b cz n xs st E W) (L : LawT ts ia) :
  Calls Tryz.prog 29 #[.pointer (some ⟨b, 0, none⟩)] W fun e w' => e = .returned (.tuple #[]) /\ FZ w h A m ts ia b true n xs st E w' /\ (∀ b t c, t ∈ kvL -> Box W b t c -> Box w' b t c) /\ W.heap.size <= w'.heap.size := by
 obtain ⟨ev, na, ca, xs0, h1, h2, h3, h4, h5, h6⟩ := H.x
 have hp : (ts.set ia (TO.arz b cz ev))[ia]? = some (TO.arz b cz ev) := List.getElem?_set_self L.lt
 have hbx : Box W b 63 (objF 1 3 cz (.pointer none) ev .nilIface ⟨0, .slice none 0 0, 0, cz⟩) := h1.mem_b (List.mem_of_getElem? hp) rfl
 refine (freeze_nil hbx).mono ?_
 rintro e w' ⟨he, hb⟩
 obtain ⟨q1, q2⟩ := h1.step_at (W' := W.setCell ⟨b, 2, none⟩ (.bool true)) hp rfl (.pointer none) ev .nilIface ⟨0, .slice none 0 0, 0, true⟩ (fun _ => False) [] (Touch.put (S := fun k => k = b \/ False) (.inl rfl) _ _) (hbx.put 2 (.bool true)) (.inl ⟨rfl, rfl, rfl⟩) (fun _ h => h.elim)
 rw [List.set_set] at q1
 have hA := Nat.le_of_lt q1.mm.alt
 have hk := q2.trans (Bk.of_below hA hb)
 exact ⟨he, ⟨⟨ev, na, ca, xs0, q1.on hb, h2.bv (hk.bv (fun _ => False)) (fun _ _ h => h), h3, h4.bk hk, h5, h6⟩, H.bel.trans (hk.bel.mono H.lo), H.lo⟩, fun b t c hT hbx => hk.boxE hbx hT, hk.bel.size⟩
end
def DQ (h A m : Nat) (f2 : MF) (T : List TO -> (Nat -> Prop) -> World -> Prop) (F : List TO -> List TO) (W w' : World) : Prop :=
 ∃ ts1 D, T ts1 D w' /\ (∀ k, D k -> k < w'.heap.size /\ W.heap.size <= k) /\ MP w' h A m f2 (F ts1) /\ Bk A W w'
section
variable {W w9 w' : World} {h A m rb : Nat} {f2 : MF} {T : List TO -> (Nat -> Prop) -> World -> Prop} {F : List TO -> List TO} {cs : Array Value}
theorem DQ.bk (H : DQ h A m f2 T F W w') : Bk A W w' := by
 obtain ⟨_, _, _, _, _, h⟩ := H
 exact h
theorem DQ.fin (hT : TStay T) (H : DQ h A m f2 T F w9 w') (hA : A <= W.heap.size) (hb : Below W.heap.size W w9) (hx : Box w9 rb VTy cs) (hrb : W.heap.size <= rb) (u0 u1 u2 : Value) :
  DQ h A m f2 T F W (((w'.setCell ⟨rb, 0, none⟩ u0).setCell ⟨rb, 1, none⟩ u1).setCell ⟨rb, 2, none⟩ u2) := by
 obtain ⟨ts1, D, h1, h2, h3, h4⟩ := H
 have hx' := h4.boxE hx (by decide)
 refine ⟨ts1, D, hT ts1 D _ _ h1 (fun k e he hd hl => ?_), fun k hk => ⟨?_, ?_⟩, ((h3.putv hx'.lab 0 u0).putv (hx'.put 0 _).lab 1 u1).putv ((hx'.put 0 _).put 1 _).lab 2 u2, (((((Bk.of_below hA hb).trans h4).setv hrb hA 0 u0).setv hrb hA 1 u1).setv hrb hA 2 u2)⟩
 ·have hne : k ≠ rb := fun e => by
   have := (h2 k hd).2
   have := hx.lt
   omega
  exact (touch3 w' rb u0 u1 u2).block k (h2 k hd).1 hne
 ·simp only [World.size_setCell]; exact (h2 k hk).1
 ·exact Nat.le_trans hb.size (h2 k hk).2
end
section
variable {W : World} {h A m ia b : Nat} {cz : Bool} {f f2 : MF} {ts : List TO} {ev : Value} {T : List TO -> (Nat -> Prop) -> World -> Prop} {F : List TO -> List TO}
theorem MP.doPushZ (H : MP W h A m f ts) (hat : ts[ia]? = some (TO.arz b cz ev)) (hT : TStay T) (fo : Nat) (tgt x : Vt) (en : Int) (args : Value)
  (HIN : Veil (∀ w9, Below W.heap.size W w9 -> Calls Tryz.prog 353 #[.pointer (some ⟨m, 0, none⟩), valV (9, (ia : Int) + 1, ⟨#[]⟩), .pointer (some ⟨b, 0, none⟩), args] w9 fun e w' => e = .returned (.tuple #[valV x, .int .i64 en]) /\ DQ h A m f2 T F w9 w')) :
  Calls Tryz.prog 348 #[.pointer (some ⟨m, 0, none⟩), .int .i64 154, callV fo (9, (ia : Int) + 1, ⟨#[]⟩) args tgt] W fun e w' => e = .returned (.tuple #[valV x, .int .i64 en]) /\ DQ h A m f2 T F W w' := by
 obtain ⟨fv, hfv⟩ : ∃ fv : Vt, ((9, (ia : Int) + 1, ⟨#[]⟩) : Vt) = fv := ⟨_, rfl⟩
 have HA : Veil (A <= W.heap.size) := ⟨Nat.le_of_lt H.mm.alt⟩
 have HBX : Veil (Box W b 63 (objF 1 3 cz (.pointer none) ev .nilIface ⟨0, .slice none 0 0, 0, cz⟩)) := ⟨H.mem_b (List.mem_of_getElem? hat) rfl⟩
 obtain ⟨cb, hcb⟩ : ∃ cb, W.heap.size = cb := ⟨_, rfl⟩
 obtain ⟨rb, hrb⟩ : ∃ rb, cb + 1 = rb := ⟨_, rfl⟩
 obtain ⟨W0, hW0⟩ : ∃ W0, ((W.alloc (.cells #[.pointer (some ⟨fo, 0, none⟩), .int .i64 fv.1, .int .i64 fv.2.1, .string fv.2.2, args, .int .i64 tgt.1, .int .i64 tgt.2.1, .string tgt.2.2] CTy)).alloc (.cells #[.int .i64 0, .int .i64 0, .string ⟨#[]⟩] VTy)) = W0 := ⟨_, rfl⟩
 have bb : Below W.heap.size W W0 := by rw [<- hW0]; exact (((Below.refl _ _).alloc (Nat.le_refl _) _).alloc (by simp only [World.size_alloc]; omega) _)
 have xcb : Box W0 cb CTy #[.pointer (some ⟨fo, 0, none⟩), .int .i64 fv.1, .int .i64 fv.2.1, .string fv.2.2, args, .int .i64 tgt.1, .int .i64 tgt.2.1, .string tgt.2.2] := by have h9 := ((Box.new W CTy #[.pointer (some ⟨fo, 0, none⟩), .int .i64 fv.1, .int .i64 fv.2.1, .string fv.2.2, args, .int .i64 tgt.1, .int .i64 tgt.2.1, .string tgt.2.2]).more (.cells #[.int .i64 0, .int .i64 0, .string ⟨#[]⟩] VTy)); rw [hW0, hcb] at h9; exact h9
 have xrb : Box W0 rb VTy #[.int .i64 0, .int .i64 0, .string ⟨#[]⟩] := by have h9 := Box.new (W.alloc (.cells #[.pointer (some ⟨fo, 0, none⟩), .int .i64 fv.1, .int .i64 fv.2.1, .string fv.2.2, args, .int .i64 tgt.1, .int .i64 tgt.2.1, .string tgt.2.2] CTy)) VTy #[.int .i64 0, .int .i64 0, .string ⟨#[]⟩]; rw [hW0, show (W.alloc (.cells #[.pointer (some ⟨fo, 0, none⟩), .int .i64 fv.1, .int .i64 fv.2.1, .string fv.2.2, args, .int .i64 tgt.1, .int .i64 tgt.2.1, .string tgt.2.2] CTy)).heap.size = rb from by simp only [World.size_alloc]; omega] at h9; exact h9
 have HW0 := Veil.mk (And.intro hW0 (And.intro hcb (hrb)))
 have HBB := Veil.mk (And.intro bb (And.intro xcb (xrb)))
 have HLO : Veil (W.heap.size <= rb) := ⟨by omega⟩
 clear hW0 bb hcb xcb hrb xrb
 have HOF : Veil (∀ w9, Below W.heap.size W w9 -> Calls Tryz.prog 14 #[.pointer (some ⟨h, 0, none⟩), valV fv] w9 fun e w' => e = .returned (.pointer (some ⟨b, 0, none⟩)) /\ Below w9.heap.size w9 w') := ⟨fun w9 hb => by rw [<- hfv]; exact (H.on hb).of_at hat rfl ⟨#[]⟩⟩
 have HCM : Veil (∀ w9, Below W.heap.size W w9 -> w9.cell? ⟨m, 0, none⟩ = some (.pointer (some ⟨h, 0, none⟩))) := ⟨fun w9 hb => (H.on hb).mm.mb.at_ 0⟩
 have HTT := Veil.mk hT
 try rw [hfv] at HIN
 rw [hfv]
 clear H hat hT hfv
 go_enter Tryz.func348, Tryz.ntmps348
 go_upto_region 1 with (fail)
 rw [HW0.out.1, HW0.out.2.1, HW0.out.2.2]
 go_upto_region 14 with (fail)
 clear HW0
 have m0 : ∀ z : BW W0, z.w.cell? ⟨m, 0, none⟩ = some (.pointer (some ⟨h, 0, none⟩)) := fun z => HCM.out _ (HBB.out.1.trans (z.h.mono HBB.out.1.size))
 have c1 : ∀ z : BW W0, z.w.cell? ⟨cb, 1, none⟩ = some (.int .i64 fv.1) := fun z => (HBB.out.2.1.below z.h).at_ 1
 have c2 : ∀ z : BW W0, z.w.cell? ⟨cb, 2, none⟩ = some (.int .i64 fv.2.1) := fun z => (HBB.out.2.1.below z.h).at_ 2
 have c3 : ∀ z : BW W0, z.w.cell? ⟨cb, 3, none⟩ = some (.string fv.2.2) := fun z => (HBB.out.2.1.below z.h).at_ 3
 have hNE := BW.ne W0
 refine wp_region_below (by kernel_rfl) (by kernel_rfl) ?_
 repeat (go_big_quiet_step ((go_at_call 14; exact BW.on _ (HOF.out _ (HBB.out.1.trans ((BW.h _).mono HBB.out.1.size))))))
 refine wpQuiet_nil ?_
 rintro _ ⟨z, rfl⟩
 have HQ := Veil.mk z.h
 obtain ⟨wE, hE2⟩ : ∃ wE, z.w = wE := ⟨_, rfl⟩
 rw [hE2] at HQ ⊢
 clear m0 c1 c2 c3 hE2 z hNE
 have hbE := HBB.out.1.trans (HQ.out.mono HBB.out.1.size)
 have bcb := HBB.out.2.1.below HQ.out
 have brb := HBB.out.2.2.below HQ.out
 have d0 : wE.cell? ⟨b, 0, none⟩ = some (.int .i64 1) := (HBX.out.below hbE).at_ 0
 have c0 : wE.cell? ⟨cb, 0, none⟩ = some (.pointer (some ⟨fo, 0, none⟩)) := bcb.at_ 0
 have c1 : wE.cell? ⟨cb, 1, none⟩ = some (.int .i64 fv.1) := bcb.at_ 1
 have c2 : wE.cell? ⟨cb, 2, none⟩ = some (.int .i64 fv.2.1) := bcb.at_ 2
 have c3 : wE.cell? ⟨cb, 3, none⟩ = some (.string fv.2.2) := bcb.at_ 3
 have c4 : wE.cell? ⟨cb, 4, none⟩ = some args := bcb.at_ 4
 have c5 : wE.cell? ⟨cb, 5, none⟩ = some (.int .i64 tgt.1) := bcb.at_ 5
 have c6 : wE.cell? ⟨cb, 6, none⟩ = some (.int .i64 tgt.2.1) := bcb.at_ 6
 have c7 : wE.cell? ⟨cb, 7, none⟩ = some (.string tgt.2.2) := bcb.at_ 7
 have HWC := Veil.mk (HIN.out wE hbE)
 have HRB := Veil.mk (And.intro brb hbE)
 clear hbE bcb brb HQ HOF HCM HBX HBB HIN
 go_wp2_with (go_at_call 353; ((with_reducible refine HWC.out.mono ?_); rintro e w6 ⟨rfl, hq⟩; have HR6 := Veil.mk (And.intro (hq.bk.boxE HRB.out.1 (by decide)) hq); clear hq; have z0 : w6.cell? ⟨rb, 0, none⟩ = some (.int .i64 0) := HR6.out.1.at_ 0; have z1 : w6.cell? ⟨rb, 1, none⟩ = some (.int .i64 0) := HR6.out.1.at_ 1; have z2 : w6.cell? ⟨rb, 2, none⟩ = some (.string ⟨#[]⟩) := HR6.out.1.at_ 2; have q0 := HR6.out.1.free 0; have q1 := HR6.out.1.free 1; have q2 := HR6.out.1.free 2))
 have hr3 := ((HR6.out.1.put 0 (.int .i64 x.1)).put 1 (.int .i64 x.2.1)).put 2 (.string x.2.2)
 have y0 := hr3.at_ 0
 have y1 := hr3.at_ 1
 have y2 := hr3.at_ 2
 exact bodyPost_ret (v := (.tuple #[valV x, .int .i64 en])) (by simp [results, Tryz.results348, go_sem, y0, y1, y2]) rfl ⟨rfl, HR6.out.2.fin HTT.out HA.out HRB.out.2 HRB.out.1 HLO.out _ _ _⟩
theorem MP.doPopZ (H : MP W h A m f ts) (hat : ts[ia]? = some (TO.arz b cz ev)) (hT : TStay T) (fo : Nat) (tgt x : Vt) (en : Int) (args : Value)
  (HIN : Veil (∀ w9, Below W.heap.size W w9 -> Calls Tryz.prog 354 #[.pointer (some ⟨m, 0, none⟩), .pointer (some ⟨b, 0, none⟩)] w9 fun e w' => e = .returned (.tuple #[valV x, .int .i64 en]) /\ DQ h A m f2 T F w9 w')) :
  Calls Tryz.prog 348 #[.pointer (some ⟨m, 0, none⟩), .int .i64 155, callV fo (9, (ia : Int) + 1, ⟨#[]⟩) args tgt] W fun e w' => e = .returned (.tuple #[valV x, .int .i64 en]) /\ DQ h A m f2 T F W w' := by
 obtain ⟨fv, hfv⟩ : ∃ fv : Vt, ((9, (ia : Int) + 1, ⟨#[]⟩) : Vt) = fv := ⟨_, rfl⟩
 have HA : Veil (A <= W.heap.size) := ⟨Nat.le_of_lt H.mm.alt⟩
 have HBX : Veil (Box W b 63 (objF 1 3 cz (.pointer none) ev .nilIface ⟨0, .slice none 0 0, 0, cz⟩)) := ⟨H.mem_b (List.mem_of_getElem? hat) rfl⟩
 obtain ⟨cb, hcb⟩ : ∃ cb, W.heap.size = cb := ⟨_, rfl⟩
 obtain ⟨rb, hrb⟩ : ∃ rb, cb + 1 = rb := ⟨_, rfl⟩
 obtain ⟨W0, hW0⟩ : ∃ W0, ((W.alloc (.cells #[.pointer (some ⟨fo, 0, none⟩), .int .i64 fv.1, .int .i64 fv.2.1, .string fv.2.2, args, .int .i64 tgt.1, .int .i64 tgt.2.1, .string tgt.2.2] CTy)).alloc (.cells #[.int .i64 0, .int .i64 0, .string ⟨#[]⟩] VTy)) = W0 := ⟨_, rfl⟩
 have bb : Below W.heap.size W W0 := by rw [<- hW0]; exact (((Below.refl _ _).alloc (Nat.le_refl _) _).alloc (by simp only [World.size_alloc]; omega) _)
 have xcb : Box W0 cb CTy #[.pointer (some ⟨fo, 0, none⟩), .int .i64 fv.1, .int .i64 fv.2.1, .string fv.2.2, args, .int .i64 tgt.1, .int .i64 tgt.2.1, .string tgt.2.2] := by have h9 := ((Box.new W CTy #[.pointer (some ⟨fo, 0, none⟩), .int .i64 fv.1, .int .i64 fv.2.1, .string fv.2.2, args, .int .i64 tgt.1, .int .i64 tgt.2.1, .string tgt.2.2]).more (.cells #[.int .i64 0, .int .i64 0, .string ⟨#[]⟩] VTy)); rw [hW0, hcb] at h9; exact h9
 have xrb : Box W0 rb VTy #[.int .i64 0, .int .i64 0, .string ⟨#[]⟩] := by have h9 := Box.new (W.alloc (.cells #[.pointer (some ⟨fo, 0, none⟩), .int .i64 fv.1, .int .i64 fv.2.1, .string fv.2.2, args, .int .i64 tgt.1, .int .i64 tgt.2.1, .string tgt.2.2] CTy)) VTy #[.int .i64 0, .int .i64 0, .string ⟨#[]⟩]; rw [hW0, show (W.alloc (.cells #[.pointer (some ⟨fo, 0, none⟩), .int .i64 fv.1, .int .i64 fv.2.1, .string fv.2.2, args, .int .i64 tgt.1, .int .i64 tgt.2.1, .string tgt.2.2] CTy)).heap.size = rb from by simp only [World.size_alloc]; omega] at h9; exact h9
 have HW0 := Veil.mk (And.intro hW0 (And.intro hcb (hrb)))
 have HBB := Veil.mk (And.intro bb (And.intro xcb (xrb)))
 have HLO : Veil (W.heap.size <= rb) := ⟨by omega⟩
 clear hW0 bb hcb xcb hrb xrb
 have HOF : Veil (∀ w9, Below W.heap.size W w9 -> Calls Tryz.prog 14 #[.pointer (some ⟨h, 0, none⟩), valV fv] w9 fun e w' => e = .returned (.pointer (some ⟨b, 0, none⟩)) /\ Below w9.heap.size w9 w') := ⟨fun w9 hb => by rw [<- hfv]; exact (H.on hb).of_at hat rfl ⟨#[]⟩⟩
 have HCM : Veil (∀ w9, Below W.heap.size W w9 -> w9.cell? ⟨m, 0, none⟩ = some (.pointer (some ⟨h, 0, none⟩))) := ⟨fun w9 hb => (H.on hb).mm.mb.at_ 0⟩
 have HTT := Veil.mk hT
 try rw [hfv] at HIN
 rw [hfv]
 clear H hat hT hfv
 go_enter Tryz.func348, Tryz.ntmps348
 go_upto_region 1 with (fail)
 rw [HW0.out.1, HW0.out.2.1, HW0.out.2.2]
 go_upto_region 14 with (fail)
 clear HW0
 have m0 : ∀ z : BW W0, z.w.cell? ⟨m, 0, none⟩ = some (.pointer (some ⟨h, 0, none⟩)) := fun z => HCM.out _ (HBB.out.1.trans (z.h.mono HBB.out.1.size))
 have c1 : ∀ z : BW W0, z.w.cell? ⟨cb, 1, none⟩ = some (.int .i64 fv.1) := fun z => (HBB.out.2.1.below z.h).at_ 1
 have c2 : ∀ z : BW W0, z.w.cell? ⟨cb, 2, none⟩ = some (.int .i64 fv.2.1) := fun z => (HBB.out.2.1.below z.h).at_ 2
 have c3 : ∀ z : BW W0, z.w.cell? ⟨cb, 3, none⟩ = some (.string fv.2.2) := fun z => (HBB.out.2.1.below z.h).at_ 3
 have hNE := BW.ne W0
 refine wp_region_below (by kernel_rfl) (by kernel_rfl) ?_
 repeat (go_big_quiet_step ((go_at_call 14; exact BW.on _ (HOF.out _ (HBB.out.1.trans ((BW.h _).mono HBB.out.1.size))))))
 refine wpQuiet_nil ?_
 rintro _ ⟨z, rfl⟩
 have HQ := Veil.mk z.h
 obtain ⟨wE, hE2⟩ : ∃ wE, z.w = wE := ⟨_, rfl⟩
 rw [hE2] at HQ ⊢
 clear m0 c1 c2 c3 hE2 z hNE
 have hbE := HBB.out.1.trans (HQ.out.mono HBB.out.1.size)
 have bcb := HBB.out.2.1.below HQ.out
 have brb := HBB.out.2.2.below HQ.out
 have d0 : wE.cell? ⟨b, 0, none⟩ = some (.int .i64 1) := (HBX.out.below hbE).at_ 0
 have c0 : wE.cell? ⟨cb, 0, none⟩ = some (.pointer (some ⟨fo, 0, none⟩)) := bcb.at_ 0
 have c1 : wE.cell? ⟨cb, 1, none⟩ = some (.int .i64 fv.1) := bcb.at_ 1
 have c2 : wE.cell? ⟨cb, 2, none⟩ = some (.int .i64 fv.2.1) := bcb.at_ 2
 have c3 : wE.cell? ⟨cb, 3, none⟩ = some (.string fv.2.2) := bcb.at_ 3
 have c4 : wE.cell? ⟨cb, 4, none⟩ = some args := bcb.at_ 4
 have c5 : wE.cell? ⟨cb, 5, none⟩ = some (.int .i64 tgt.1) := bcb.at_ 5
 have c6 : wE.cell? ⟨cb, 6, none⟩ = some (.int .i64 tgt.2.1) := bcb.at_ 6
 have c7 : wE.cell? ⟨cb, 7, none⟩ = some (.string tgt.2.2) := bcb.at_ 7
 have HWC := Veil.mk (HIN.out wE hbE)
 have HRB := Veil.mk (And.intro brb hbE)
 clear hbE bcb brb HQ HOF HCM HBX HBB HIN
 go_wp2_with (go_at_call 354; ((with_reducible refine HWC.out.mono ?_); rintro e w6 ⟨rfl, hq⟩; have HR6 := Veil.mk (And.intro (hq.bk.boxE HRB.out.1 (by decide)) hq); clear hq; have z0 : w6.cell? ⟨rb, 0, none⟩ = some (.int .i64 0) := HR6.out.1.at_ 0; have z1 : w6.cell? ⟨rb, 1, none⟩ = some (.int .i64 0) := HR6.out.1.at_ 1; have z2 : w6.cell? ⟨rb, 2, none⟩ = some (.string ⟨#[]⟩) := HR6.out.1.at_ 2; have q0 := HR6.out.1.free 0; have q1 := HR6.out.1.free 1; have q2 := HR6.out.1.free 2))
 have hr3 := ((HR6.out.1.put 0 (.int .i64 x.1)).put 1 (.int .i64 x.2.1)).put 2 (.string x.2.2)
 have y0 := hr3.at_ 0
 have y1 := hr3.at_ 1
 have y2 := hr3.at_ 2
 exact bodyPost_ret (v := (.tuple #[valV x, .int .i64 en])) (by simp [results, Tryz.results348, go_sem, y0, y1, y2]) rfl ⟨rfl, HR6.out.2.fin HTT.out HA.out HRB.out.2 HRB.out.1 HLO.out _ _ _⟩
theorem MP.doEachZ (H : MP W h A m f ts) (hat : ts[ia]? = some (TO.arz b cz ev)) (hT : TStay T) (fo : Nat) (tgt x : Vt) (en : Int) (args : Value)
  (HIN : Veil (∀ w9, Below W.heap.size W w9 -> Calls Tryz.prog 355 #[.pointer (some ⟨m, 0, none⟩), .pointer (some ⟨b, 0, none⟩), callV fo (9, (ia : Int) + 1, ⟨#[]⟩) args tgt, .bool false] w9 fun e w' => e = .returned (.tuple #[valV x, .int .i64 en]) /\ DQ h A m f2 T F w9 w')) :
  Calls Tryz.prog 348 #[.pointer (some ⟨m, 0, none⟩), .int .i64 159, callV fo (9, (ia : Int) + 1, ⟨#[]⟩) args tgt] W fun e w' => e = .returned (.tuple #[valV x, .int .i64 en]) /\ DQ h A m f2 T F W w' := by
 obtain ⟨fv, hfv⟩ : ∃ fv : Vt, ((9, (ia : Int) + 1, ⟨#[]⟩) : Vt) = fv := ⟨_, rfl⟩
 have HA : Veil (A <= W.heap.size) := ⟨Nat.le_of_lt H.mm.alt⟩
 have HBX : Veil (Box W b 63 (objF 1 3 cz (.pointer none) ev .nilIface ⟨0, .slice none 0 0, 0, cz⟩)) := ⟨H.mem_b (List.mem_of_getElem? hat) rfl⟩
 obtain ⟨cb, hcb⟩ : ∃ cb, W.heap.size = cb := ⟨_, rfl⟩
 obtain ⟨rb, hrb⟩ : ∃ rb, cb + 1 = rb := ⟨_, rfl⟩
 obtain ⟨W0, hW0⟩ : ∃ W0, ((W.alloc (.cells #[.pointer (some ⟨fo, 0, none⟩), .int .i64 fv.1, .int .i64 fv.2.1, .string fv.2.2, args, .int .i64 tgt.1, .int .i64 tgt.2.1, .string tgt.2.2] CTy)).alloc (.cells #[.int .i64 0, .int .i64 0, .string ⟨#[]⟩] VTy)) = W0 := ⟨_, rfl⟩
 have bb : Below W.heap.size W W0 := by rw [<- hW0]; exact (((Below.refl _ _).alloc (Nat.le_refl _) _).alloc (by simp only [World.size_alloc]; omega) _)
 have xcb : Box W0 cb CTy #[.pointer (some ⟨fo, 0, none⟩), .int .i64 fv.1, .int .i64 fv.2.1, .string fv.2.2, args, .int .i64 tgt.1, .int .i64 tgt.2.1, .string tgt.2.2] := by have h9 := ((Box.new W CTy #[.pointer (some ⟨fo, 0, none⟩), .int .i64 fv.1, .int .i64 fv.2.1, .string fv.2.2, args, .int .i64 tgt.1, .int .i64 tgt.2.1, .string tgt.2.2]).more (.cells #[.int .i64 0, .int .i64 0, .string ⟨#[]⟩] VTy)); rw [hW0, hcb] at h9; exact h9
 have xrb : Box W0 rb VTy #[.int .i64 0, .int .i64 0, .string ⟨#[]⟩] := by have h9 := Box.new (W.alloc (.cells #[.pointer (some ⟨fo, 0, none⟩), .int .i64 fv.1, .int .i64 fv.2.1, .string fv.2.2, args, .int .i64 tgt.1, .int .i64 tgt.2.1, .string tgt.2.2] CTy)) VTy #[.int .i64 0, .int .i64 0, .string ⟨#[]⟩]; rw [hW0, show (W.alloc (.cells #[.pointer (some ⟨fo, 0, none⟩), .int .i64 fv.1, .int .i64 fv.2.1, .string fv.2.2, args, .int .i64 tgt.1, .int .i64 tgt.2.1, .string tgt.2.2] CTy)).heap.size = rb from by simp only [World.size_alloc]; omega] at h9; exact h9
 have HW0 := Veil.mk (And.intro hW0 (And.intro hcb (hrb)))
 have HBB := Veil.mk (And.intro bb (And.intro xcb (xrb)))
 have HLO : Veil (W.heap.size <= rb) := ⟨by omega⟩
 clear hW0 bb hcb xcb hrb xrb
 have HOF : Veil (∀ w9, Below W.heap.size W w9 -> Calls Tryz.prog 14 #[.pointer (some ⟨h, 0, none⟩), valV fv] w9 fun e w' => e = .returned (.pointer (some ⟨b, 0, none⟩)) /\ Below w9.heap.size w9 w') := ⟨fun w9 hb => by rw [<- hfv]; exact (H.on hb).of_at hat rfl ⟨#[]⟩⟩
 have HCM : Veil (∀ w9, Below W.heap.size W w9 -> w9.cell? ⟨m, 0, none⟩ = some (.pointer (some ⟨h, 0, none⟩))) := ⟨fun w9 hb => (H.on hb).mm.mb.at_ 0⟩
 have HTT := Veil.mk hT
 try rw [hfv] at HIN
 rw [hfv]
 clear H hat hT hfv
 go_enter Tryz.func348, Tryz.ntmps348
 go_upto_region 1 with (fail)
 rw [HW0.out.1, HW0.out.2.1, HW0.out.2.2]
 go_upto_region 14 with (fail)
 clear HW0
 have m0 : ∀ z : BW W0, z.w.cell? ⟨m, 0, none⟩ = some (.pointer (some ⟨h, 0, none⟩)) := fun z => HCM.out _ (HBB.out.1.trans (z.h.mono HBB.out.1.size))
 have c1 : ∀ z : BW W0, z.w.cell? ⟨cb, 1, none⟩ = some (.int .i64 fv.1) := fun z => (HBB.out.2.1.below z.h).at_ 1
 have c2 : ∀ z : BW W0, z.w.cell? ⟨cb, 2, none⟩ = some (.int .i64 fv.2.1) := fun z => (HBB.out.2.1.below z.h).at_ 2
 have c3 : ∀ z : BW W0, z.w.cell? ⟨cb, 3, none⟩ = some (.string fv.2.2) := fun z => (HBB.out.2.1.below z.h).at_ 3
 have hNE := BW.ne W0
 refine wp_region_below (by kernel_rfl) (by kernel_rfl) ?_
 repeat (go_big_quiet_step ((go_at_call 14; exact BW.on _ (HOF.out _ (HBB.out.1.trans ((BW.h _).mono HBB.out.1.size))))))
 refine wpQuiet_nil ?_
 rintro _ ⟨z, rfl⟩
 have HQ := Veil.mk z.h
 obtain ⟨wE, hE2⟩ : ∃ wE, z.w = wE := ⟨_, rfl⟩
 rw [hE2] at HQ ⊢
 clear m0 c1 c2 c3 hE2 z hNE
 have hbE := HBB.out.1.trans (HQ.out.mono HBB.out.1.size)
 have bcb := HBB.out.2.1.below HQ.out
 have brb := HBB.out.2.2.below HQ.out
 have d0 : wE.cell? ⟨b, 0, none⟩ = some (.int .i64 1) := (HBX.out.below hbE).at_ 0
 have c0 : wE.cell? ⟨cb, 0, none⟩ = some (.pointer (some ⟨fo, 0, none⟩)) := bcb.at_ 0
 have c1 : wE.cell? ⟨cb, 1, none⟩ = some (.int .i64 fv.1) := bcb.at_ 1
 have c2 : wE.cell? ⟨cb, 2, none⟩ = some (.int .i64 fv.2.1) := bcb.at_ 2
 have c3 : wE.cell? ⟨cb, 3, none⟩ = some (.string fv.2.2) := bcb.at_ 3
 have c4 : wE.cell? ⟨cb, 4, none⟩ = some args := bcb.at_ 4
 have c5 : wE.cell? ⟨cb, 5, none⟩ = some (.int .i64 tgt.1) := bcb.at_ 5
 have c6 : wE.cell? ⟨cb, 6, none⟩ = some (.int .i64 tgt.2.1) := bcb.at_ 6
 have c7 : wE.cell? ⟨cb, 7, none⟩ = some (.string tgt.2.2) := bcb.at_ 7
 have HWC := Veil.mk (HIN.out wE hbE)
 have HRB := Veil.mk (And.intro brb hbE)
 clear hbE bcb brb HQ HOF HCM HBX HBB HIN
 go_wp2_with (go_at_call 355; ((with_reducible refine HWC.out.mono ?_); rintro e w6 ⟨rfl, hq⟩; have HR6 := Veil.mk (And.intro (hq.bk.boxE HRB.out.1 (by decide)) hq); clear hq; have z0 : w6.cell? ⟨rb, 0, none⟩ = some (.int .i64 0) := HR6.out.1.at_ 0; have z1 : w6.cell? ⟨rb, 1, none⟩ = some (.int .i64 0) := HR6.out.1.at_ 1; have z2 : w6.cell? ⟨rb, 2, none⟩ = some (.string ⟨#[]⟩) := HR6.out.1.at_ 2; have q0 := HR6.out.1.free 0; have q1 := HR6.out.1.free 1; have q2 := HR6.out.1.free 2))
 have hr3 := ((HR6.out.1.put 0 (.int .i64 x.1)).put 1 (.int .i64 x.2.1)).put 2 (.string x.2.2)
 have y0 := hr3.at_ 0
 have y1 := hr3.at_ 1
 have y2 := hr3.at_ 2
 exact bodyPost_ret (v := (.tuple #[valV x, .int .i64 en])) (by simp [results, Tryz.results348, go_sem, y0, y1, y2]) rfl ⟨rfl, HR6.out.2.fin HTT.out HA.out HRB.out.2 HRB.out.1 HLO.out _ _ _⟩
theorem MP.doSliceZ (H : MP W h A m f ts) (hat : ts[ia]? = some (TO.arz b cz ev)) (hT : TStay T) (fo : Nat) (tgt x : Vt) (en : Int) (args : Value)
  (HIN : Veil (∀ w9, Below W.heap.size W w9 -> Calls Tryz.prog 358 #[.pointer (some ⟨m, 0, none⟩), .pointer (some ⟨b, 0, none⟩), callV fo (9, (ia : Int) + 1, ⟨#[]⟩) args tgt] w9 fun e w' => e = .returned (.tuple #[valV x, .int .i64 en]) /\ DQ h A m f2 T F w9 w')) :
  Calls Tryz.prog 348 #[.pointer (some ⟨m, 0, none⟩), .int .i64 163, callV fo (9, (ia : Int) + 1, ⟨#[]⟩) args tgt] W fun e w' => e = .returned (.tuple #[valV x, .int .i64 en]) /\ DQ h A m f2 T F W w' := by
 obtain ⟨fv, hfv⟩ : ∃ fv : Vt, ((9, (ia : Int) + 1, ⟨#[]⟩) : Vt) = fv := ⟨_, rfl⟩
 have HA : Veil (A <= W.heap.size) := ⟨Nat.le_of_lt H.mm.alt⟩
 have HBX : Veil (Box W b 63 (objF 1 3 cz (.pointer none) ev .nilIface ⟨0, .slice none 0 0, 0, cz⟩)) := ⟨H.mem_b (List.mem_of_getElem? hat) rfl⟩
 obtain ⟨cb, hcb⟩ : ∃ cb, W.heap.size = cb := ⟨_, rfl⟩
 obtain ⟨rb, hrb⟩ : ∃ rb, cb + 1 = rb := ⟨_, rfl⟩
 obtain ⟨W0, hW0⟩ : ∃ W0, ((W.alloc (.cells #[.pointer (some ⟨fo, 0, none⟩), .int .i64 fv.1, .int .i64 fv.2.1, .string fv.2.2, args, .int .i64 tgt.1, .int .i64 tgt.2.1, .string tgt.2.2] CTy)).alloc (.cells #[.int .i64 0, .int .i64 0, .string ⟨#[]⟩] VTy)) = W0 := ⟨_, rfl⟩
 have bb : Below W.heap.size W W0 := by rw [<- hW0]; exact (((Below.refl _ _).alloc (Nat.le_refl _) _).alloc (by simp only [World.size_alloc]; omega) _)
 have xcb : Box W0 cb CTy #[.pointer (some ⟨fo, 0, none⟩), .int .i64 fv.1, .int .i64 fv.2.1, .string fv.2.2, args, .int .i64 tgt.1, .int .i64 tgt.2.1, .string tgt.2.2] := by have h9 := ((Box.new W CTy #[.pointer (some ⟨fo, 0, none⟩), .int .i64 fv.1, .int .i64 fv.2.1, .string fv.2.2, args, .int .i64 tgt.1, .int .i64 tgt.2.1, .string tgt.2.2]).more (.cells #[.int .i64 0, .int .i64 0, .string ⟨#[]⟩] VTy)); rw [hW0, hcb] at h9; exact h9
 have xrb : Box W0 rb VTy #[.int .i64 0, .int .i64 0, .string ⟨#[]⟩] := by have h9 := Box.new (W.alloc (.cells #[.pointer (some ⟨fo, 0, none⟩), .int .i64 fv.1, .int .i64 fv.2.1, .string fv.2.2, args, .int .i64 tgt.1, .int .i64 tgt.2.1, .string tgt.2.2] CTy)) VTy #[.int .i64 0, .int .i64 0, .string ⟨#[]⟩]; rw [hW0, show (W.alloc (.cells #[.pointer (some ⟨fo, 0, none⟩), .int .i64 fv.1, .int .i64 fv.2.1, .string fv.2.2, args, .int .i64 tgt.1, .int .i64 tgt.2.1, .string tgt.2.2] CTy)).heap.size = rb from by simp only [World.size_alloc]; omega] at h9; exact h9
 have HW0 := Veil.mk (And.intro hW0 (And.intro hcb (hrb)))
 have HBB := Veil.mk (And.intro bb (And.intro xcb (xrb)))
 have HLO : Veil (W.heap.size <= rb) := ⟨by omega⟩
 clear hW0 bb hcb xcb hrb xrb
 have HOF : Veil (∀ w9, Below W.heap.size W w9 -> Calls Tryz.prog 14 #[.pointer (some ⟨h, 0, none⟩), valV fv] w9 fun e w' => e = .returned (.pointer (some ⟨b, 0, none⟩)) /\ Below w9.heap.size w9 w') := ⟨fun w9 hb => by rw [<- hfv]; exact (H.on hb).of_at hat rfl ⟨#[]⟩⟩
 have HCM : Veil (∀ w9, Below W.heap.size W w9 -> w9.cell? ⟨m, 0, none⟩ = some (.pointer (some ⟨h, 0, none⟩))) := ⟨fun w9 hb => (H.on hb).mm.mb.at_ 0⟩
 have HTT := Veil.mk hT
 try rw [hfv] at HIN
 rw [hfv]
 clear H hat hT hfv
 go_enter Tryz.func348, Tryz.ntmps348
 go_upto_region 1 with (fail)
 rw [HW0.out.1, HW0.out.2.1, HW0.out.2.2]
 go_upto_region 14 with (fail)
 clear HW0
 have m0 : ∀ z : BW W0, z.w.cell? ⟨m, 0, none⟩ = some (.pointer (some ⟨h, 0, none⟩)) := fun z => HCM.out _ (HBB.out.1.trans (z.h.mono HBB.out.1.size))
 have c1 : ∀ z : BW W0, z.w.cell? ⟨cb, 1, none⟩ = some (.int .i64 fv.1) := fun z => (HBB.out.2.1.below z.h).at_ 1
 have c2 : ∀ z : BW W0, z.w.cell? ⟨cb, 2, none⟩ = some (.int .i64 fv.2.1) := fun z => (HBB.out.2.1.below z.h).at_ 2
 have c3 : ∀ z : BW W0, z.w.cell? ⟨cb, 3, none⟩ = some (.string fv.2.2) := fun z => (HBB.out.2.1.below z.h).at_ 3
 have hNE := BW.ne W0
 refine wp_region_below (by kernel_rfl) (by kernel_rfl) ?_
 repeat (go_big_quiet_step ((go_at_call 14; exact BW.on _ (HOF.out _ (HBB.out.1.trans ((BW.h _).mono HBB.out.1.size))))))
 refine wpQuiet_nil ?_
 rintro _ ⟨z, rfl⟩
 have HQ := Veil.mk z.h
 obtain ⟨wE, hE2⟩ : ∃ wE, z.w = wE := ⟨_, rfl⟩
 rw [hE2] at HQ ⊢
 clear m0 c1 c2 c3 hE2 z hNE
 have hbE := HBB.out.1.trans (HQ.out.mono HBB.out.1.size)
 have bcb := HBB.out.2.1.below HQ.out
 have brb := HBB.out.2.2.below HQ.out
 have d0 : wE.cell? ⟨b, 0, none⟩ = some (.int .i64 1) := (HBX.out.below hbE).at_ 0
 have c0 : wE.cell? ⟨cb, 0, none⟩ = some (.pointer (some ⟨fo, 0, none⟩)) := bcb.at_ 0
 have c1 : wE.cell? ⟨cb, 1, none⟩ = some (.int .i64 fv.1) := bcb.at_ 1
 have c2 : wE.cell? ⟨cb, 2, none⟩ = some (.int .i64 fv.2.1) := bcb.at_ 2
 have c3 : wE.cell? ⟨cb, 3, none⟩ = some (.string fv.2.2) := bcb.at_ 3
 have c4 : wE.cell? ⟨cb, 4, none⟩ = some args := bcb.at_ 4
 have c5 : wE.cell? ⟨cb, 5, none⟩ = some (.int .i64 tgt.1) := bcb.at_ 5
 have c6 : wE.cell? ⟨cb, 6, none⟩ = some (.int .i64 tgt.2.1) := bcb.at_ 6
 have c7 : wE.cell? ⟨cb, 7, none⟩ = some (.string tgt.2.2) := bcb.at_ 7
 have HWC := Veil.mk (HIN.out wE hbE)
 have HRB := Veil.mk (And.intro brb hbE)
 clear hbE bcb brb HQ HOF HCM HBX HBB HIN
 go_wp2_with (go_at_call 358; ((with_reducible refine HWC.out.mono ?_); rintro e w6 ⟨rfl, hq⟩; have HR6 := Veil.mk (And.intro (hq.bk.boxE HRB.out.1 (by decide)) hq); clear hq; have z0 : w6.cell? ⟨rb, 0, none⟩ = some (.int .i64 0) := HR6.out.1.at_ 0; have z1 : w6.cell? ⟨rb, 1, none⟩ = some (.int .i64 0) := HR6.out.1.at_ 1; have z2 : w6.cell? ⟨rb, 2, none⟩ = some (.string ⟨#[]⟩) := HR6.out.1.at_ 2; have q0 := HR6.out.1.free 0; have q1 := HR6.out.1.free 1; have q2 := HR6.out.1.free 2))
 have hr3 := ((HR6.out.1.put 0 (.int .i64 x.1)).put 1 (.int .i64 x.2.1)).put 2 (.string x.2.2)
 have y0 := hr3.at_ 0
 have y1 := hr3.at_ 1
 have y2 := hr3.at_ 2
 exact bodyPost_ret (v := (.tuple #[valV x, .int .i64 en])) (by simp [results, Tryz.results348, go_sem, y0, y1, y2]) rfl ⟨rfl, HR6.out.2.fin HTT.out HA.out HRB.out.2 HRB.out.1 HLO.out _ _ _⟩
end
theorem define_closed {w : World} {o : Nat} {proto : Int} {ev : Value} (hbx : Box w o 63 (objC 1 proto true (.pointer none) ev)) (k v v0 : Vt) (fl : Int) (HOW : ∀ W, Below w.heap.size w W -> Calls Tryz.prog 71 #[.pointer (some ⟨o, 0, none⟩), valV k] W fun e w' => e = .returned (.tuple #[valV v0, .int .i64 0, .bool false]) /\ Below W.heap.size W w') :
  Calls Tryz.prog 72 #[.pointer (some ⟨o, 0, none⟩), valV k, valV v, .int .i64 fl] w fun e w' => e = .returned (.bool false) /\ Below w.heap.size w w' := by
 obtain ⟨kb, hkb⟩ : ∃ kb, w.heap.size = kb := ⟨_, rfl⟩
 obtain ⟨vb, hvb⟩ : ∃ vb, kb + 1 = vb := ⟨_, rfl⟩
 obtain ⟨W0, hW0⟩ : ∃ W0, ((w.alloc (.cells #[.int .i64 k.1, .int .i64 k.2.1, .string k.2.2] 28)).alloc (.cells #[.int .i64 v.1, .int .i64 v.2.1, .string v.2.2] 28)) = W0 := ⟨_, rfl⟩
 have bb : Below w.heap.size w W0 := by rw [<- hW0]; exact (((Below.refl _ _).alloc (Nat.le_refl _) _).alloc (by simp only [World.size_alloc]; omega) _)
 have xkb : Box W0 kb 28 #[.int .i64 k.1, .int .i64 k.2.1, .string k.2.2] := by have h9 := ((Box.new w 28 #[.int .i64 k.1, .int .i64 k.2.1, .string k.2.2]).more (.cells #[.int .i64 v.1, .int .i64 v.2.1, .string v.2.2] 28)); rw [hW0, hkb] at h9; exact h9
 have xvb : Box W0 vb 28 #[.int .i64 v.1, .int .i64 v.2.1, .string v.2.2] := by have h9 := Box.new (w.alloc (.cells #[.int .i64 k.1, .int .i64 k.2.1, .string k.2.2] 28)) 28 #[.int .i64 v.1, .int .i64 v.2.1, .string v.2.2]; rw [hW0, show (w.alloc (.cells #[.int .i64 k.1, .int .i64 k.2.1, .string k.2.2] 28)).heap.size = vb from by simp only [World.size_alloc]; omega] at h9; exact h9
 have HW0 := Veil.mk (And.intro hW0 (And.intro hkb (hvb)))
 have HBB := Veil.mk (And.intro bb (And.intro xkb (xvb)))
 have HLO : Veil (w.heap.size <= kb /\ w.heap.size <= vb) := ⟨by omega⟩
 clear hW0 bb hkb xkb hvb xvb
 have HOW := Veil.mk HOW
 have HBX := Veil.mk hbx
 have x0 : W0.cell? ⟨kb, 0, none⟩ = some (.int .i64 k.1) := HBB.out.2.1.at_ 0
 have x1 : W0.cell? ⟨kb, 1, none⟩ = some (.int .i64 k.2.1) := HBB.out.2.1.at_ 1
 have x2 : W0.cell? ⟨kb, 2, none⟩ = some (.string k.2.2) := HBB.out.2.1.at_ 2
 clear hbx
 go_enter Tryz.func72, Tryz.ntmps72
 go_upto_region 1 with (fail)
 rw [HW0.out.1, HW0.out.2.1, HW0.out.2.2]
 go_upto_region 4 with (go_at_call 71; ((with_reducible refine (HOW.out _ HBB.out.1).mono ?_); rintro e w1 ⟨rfl, hb1⟩))
 have hal : Below w1.heap.size w1 (w1.alloc (.cells #[.int .i64 v0.1, .int .i64 v0.2.1, .string v0.2.2] 28)) := (Below.refl _ _).alloc (Nat.le_refl _) _
 obtain ⟨W2, hW2⟩ : ∃ W2, w1.alloc (.cells #[.int .i64 v0.1, .int .i64 v0.2.1, .string v0.2.2] 28) = W2 := ⟨_, rfl⟩
 rw [hW2] at hal ⊢
 have HB2 : Veil (Below w.heap.size w W2) := ⟨blw2 (blw2 HBB.out.1 hb1) hal⟩
 have o2 : W2.cell? ⟨o, 2, none⟩ = some (.bool true) := (HBX.out.below HB2.out).at_ 2
 clear x0 x1 x2 hb1 hal hW2 HOW HBB HW0 HLO
 go_wp2
 go_ret
 exact ⟨rfl, HB2.out⟩
theorem hput_closed {W : World} {h A m ia b n i : Nat} {f : MF} {ts : List TO} {ev : Value} {xs : Nat -> Vt} {t2 : TO} (H : MP W h A m f ts) (hat : ts[ia]? = some (TO.arz b true ev)) (hel : EL W A ev n xs) (hin : n <= i) (hi : i < 512) (ht2 : ts[2]? = some t2) (hp2 : PlT t2 1 e2W) (hl : ts.length < 1000000) (x : Vt) :
  Calls Tryz.prog 87 #[.pointer (some ⟨h, 0, none⟩), .int .i64 ((ia : Int) + 1), valV (7, 0, kI i), valV x] W fun e w' => e = .returned (.bool false) /\ Below W.heap.size W w' := by
 obtain ⟨k1, k2, k3⟩ := kI_all i hi
 have hbx : Box W b 63 (objC 1 3 true (.pointer none) ev) := H.mem_b (List.mem_of_getElem? hat) rfl
 have hown : ∀ w2, Below W.heap.size W w2 -> Calls Tryz.prog 71 #[.pointer (some ⟨b, 0, none⟩), valV (7, 0, kI i)] w2 fun e w' => e = .returned (.tuple #[valV (0, 0, ⟨#[]⟩), .int .i64 0, .bool false]) /\ Below w2.heap.size w2 w' := fun w2 hb => own_outF (B := A) (n := n) (xs := xs) (hbx.below hb) (hel.on hb) (kI i) (by omega) k3 i k1 hin
 exact put_new (P := fun W' w' => Below W'.heap.size W' w') hbx ((ia : Int) + 1) ⟨fun W' hb => (H.on hb).obj_at hat rfl⟩ (7, 0, kI i) x (0, 0, ⟨#[]⟩) ⟨fun W' hb => proto_none (H.on hb) ht2 hp2 i hi hl⟩ false (fun W w' h1 h2 => blw2 h1 h2) hown (fun W2 hb => define_closed (hbx.below hb) (7, 0, kI i) x (0, 0, ⟨#[]⟩) 7 (fun w3 hb3 => hown w3 (hb.trans (hb3.mono hb.size))))
theorem MP.putZ {W : World} {h A m ia b n i : Nat} {f : MF} {ts : List TO} {ev : Value} {xs : Nat -> Vt} {t2 : TO} (H : MP W h A m f ts) (hat : ts[ia]? = some (TO.arz b true ev)) (hel : EL W A ev n xs) (hin : n <= i) (hi : i < 100) (ht2 : ts[2]? = some t2) (hp2 : PlT t2 1 e2W) (hl : ts.length < 100000) (x : Vt) :
  Calls Tryz.prog 43 #[.pointer (some ⟨m, 0, none⟩), valV (9, (ia : Int) + 1, ⟨#[]⟩), valV (3, (i : Int), ⟨#[]⟩), valV x] W fun e w' => e = .returned (.tuple #[valV (9, (ts.length : Int) + 1, ⟨#[]⟩), .int .i64 1]) /\ ∃ eb, MP w' h A m f (ts ++ [TO.plain eb 12 (f 6) (.slice none 0 0)]) /\ Bk A W w' := by
 obtain ⟨fv, hfv⟩ : ∃ fv : Vt, ((9, (ia : Int) + 1, ⟨#[]⟩) : Vt) = fv := ⟨_, rfl⟩
 obtain ⟨kr, hkr⟩ : ∃ kr : Vt, ((3, (i : Int), ⟨#[]⟩) : Vt) = kr := ⟨_, rfl⟩
 obtain ⟨key, hkey⟩ : ∃ key : Vt, ((7, 0, kI i) : Vt) = key := ⟨_, rfl⟩
 obtain ⟨r, hr⟩ : ∃ r : Int, (ia : Int) + 1 = r := ⟨_, rfl⟩
 obtain ⟨q, hq⟩ : ∃ q : Int, (ts.length : Int) + 1 = q := ⟨_, rfl⟩
 have HA : Veil (A <= W.heap.size) := ⟨Nat.le_of_lt H.mm.alt⟩
 have HBX : Veil (Box W b 63 (objC 1 3 true (.pointer none) ev)) := ⟨H.mem_b (List.mem_of_getElem? hat) rfl⟩
 obtain ⟨tb, htb⟩ : ∃ tb, W.heap.size = tb := ⟨_, rfl⟩
 obtain ⟨kb, hkb⟩ : ∃ kb, tb + 1 = kb := ⟨_, rfl⟩
 obtain ⟨xb, hxb⟩ : ∃ xb, kb + 1 = xb := ⟨_, rfl⟩
 obtain ⟨rb, hrb⟩ : ∃ rb, xb + 1 = rb := ⟨_, rfl⟩
 obtain ⟨W0, hW0⟩ : ∃ W0, ((((W.alloc (.cells #[.int .i64 fv.1, .int .i64 fv.2.1, .string fv.2.2] VTy)).alloc (.cells #[.int .i64 kr.1, .int .i64 kr.2.1, .string kr.2.2] VTy)).alloc (.cells #[.int .i64 x.1, .int .i64 x.2.1, .string x.2.2] VTy)).alloc (.cells #[.int .i64 0, .int .i64 0, .string ⟨#[]⟩] VTy)) = W0 := ⟨_, rfl⟩
 have bb : Below W.heap.size W W0 := by rw [<- hW0]; exact (((((Below.refl _ _).alloc (Nat.le_refl _) _).alloc (by simp only [World.size_alloc]; omega) _).alloc (by simp only [World.size_alloc]; omega) _).alloc (by simp only [World.size_alloc]; omega) _)
 have xtb : Box W0 tb VTy #[.int .i64 fv.1, .int .i64 fv.2.1, .string fv.2.2] := by have h9 := ((((((Box.new W VTy #[.int .i64 fv.1, .int .i64 fv.2.1, .string fv.2.2]).more (.cells #[.int .i64 kr.1, .int .i64 kr.2.1, .string kr.2.2] VTy))).more (.cells #[.int .i64 x.1, .int .i64 x.2.1, .string x.2.2] VTy))).more (.cells #[.int .i64 0, .int .i64 0, .string ⟨#[]⟩] VTy)); rw [hW0, htb] at h9; exact h9
 have xkb : Box W0 kb VTy #[.int .i64 kr.1, .int .i64 kr.2.1, .string kr.2.2] := by have h9 := ((((Box.new (W.alloc (.cells #[.int .i64 fv.1, .int .i64 fv.2.1, .string fv.2.2] VTy)) VTy #[.int .i64 kr.1, .int .i64 kr.2.1, .string kr.2.2]).more (.cells #[.int .i64 x.1, .int .i64 x.2.1, .string x.2.2] VTy))).more (.cells #[.int .i64 0, .int .i64 0, .string ⟨#[]⟩] VTy)); rw [hW0, show (W.alloc (.cells #[.int .i64 fv.1, .int .i64 fv.2.1, .string fv.2.2] VTy)).heap.size = kb from by simp only [World.size_alloc]; omega] at h9; exact h9
 have xxb : Box W0 xb VTy #[.int .i64 x.1, .int .i64 x.2.1, .string x.2.2] := by have h9 := ((Box.new ((W.alloc (.cells #[.int .i64 fv.1, .int .i64 fv.2.1, .string fv.2.2] VTy)).alloc (.cells #[.int .i64 kr.1, .int .i64 kr.2.1, .string kr.2.2] VTy)) VTy #[.int .i64 x.1, .int .i64 x.2.1, .string x.2.2]).more (.cells #[.int .i64 0, .int .i64 0, .string ⟨#[]⟩] VTy)); rw [hW0, show ((W.alloc (.cells #[.int .i64 fv.1, .int .i64 fv.2.1, .string fv.2.2] VTy)).alloc (.cells #[.int .i64 kr.1, .int .i64 kr.2.1, .string kr.2.2] VTy)).heap.size = xb from by simp only [World.size_alloc]; omega] at h9; exact h9
 have xrb : Box W0 rb VTy #[.int .i64 0, .int .i64 0, .string ⟨#[]⟩] := by have h9 := Box.new (((W.alloc (.cells #[.int .i64 fv.1, .int .i64 fv.2.1, .string fv.2.2] VTy)).alloc (.cells #[.int .i64 kr.1, .int .i64 kr.2.1, .string kr.2.2] VTy)).alloc (.cells #[.int .i64 x.1, .int .i64 x.2.1, .string x.2.2] VTy)) VTy #[.int .i64 0, .int .i64 0, .string ⟨#[]⟩]; rw [hW0, show (((W.alloc (.cells #[.int .i64 fv.1, .int .i64 fv.2.1, .string fv.2.2] VTy)).alloc (.cells #[.int .i64 kr.1, .int .i64 kr.2.1, .string kr.2.2] VTy)).alloc (.cells #[.int .i64 x.1, .int .i64 x.2.1, .string x.2.2] VTy)).heap.size = rb from by simp only [World.size_alloc]; omega] at h9; exact h9
 have HW0 := Veil.mk (And.intro hW0 (And.intro htb (And.intro hkb (And.intro hxb (hrb)))))
 have HBB := Veil.mk (And.intro bb (And.intro xtb (And.intro xkb (And.intro xxb (xrb)))))
 have HLO : Veil (W.heap.size <= tb /\ W.heap.size <= kb /\ W.heap.size <= xb /\ W.heap.size <= rb) := ⟨by omega⟩
 clear hW0 bb htb xtb hkb xkb hxb xxb hrb xrb
 have HOF : Veil (∀ w9, Below W.heap.size W w9 -> Calls Tryz.prog 14 #[.pointer (some ⟨h, 0, none⟩), valV fv] w9 fun e w' => e = .returned (.pointer (some ⟨b, 0, none⟩)) /\ Below w9.heap.size w9 w') := ⟨fun w9 hb => by rw [<- hfv]; exact (H.on hb).of_at hat rfl ⟨#[]⟩⟩
 have HCM : Veil (∀ w9, Below W.heap.size W w9 -> w9.cell? ⟨m, 0, none⟩ = some (.pointer (some ⟨h, 0, none⟩))) := ⟨fun w9 hb => (H.on hb).mm.mb.at_ 0⟩
 have HNU : Veil (∀ w9, Calls Tryz.prog 82 #[valV fv] w9 fun e w' => e = .returned (.bool false) /\ Below w9.heap.size w9 w') := ⟨fun w9 => nullish_obj fv (by rw [<- hfv]) w9⟩
 have HRF : Veil (∀ w9, Calls Tryz.prog 47 #[valV fv] w9 fun e w' => e = .returned (.int .i64 r) /\ Below w9.heap.size w9 w') := ⟨fun w9 => by rw [<- hfv, <- hr]; exact ref_9 (9, (ia : Int) + 1, ⟨#[]⟩) rfl w9⟩
 have HPR : Veil (∀ w9, Calls Tryz.prog 85 #[valV kr] w9 fun e w' => e = .returned (.tuple #[valV key, .int .i64 0]) /\ Below w9.heap.size w9 w') := ⟨fun w9 => by rw [<- hkr, <- hkey]; exact property_int i (by omega) w9 ⟨fun w2 _ => fmt_small i hi w2⟩⟩
 have HPU : Veil (∀ w9, Below W.heap.size W w9 -> Calls Tryz.prog 87 #[.pointer (some ⟨h, 0, none⟩), .int .i64 r, valV key, valV x] w9 fun e w' => e = .returned (.bool false) /\ Below w9.heap.size w9 w') := ⟨fun w9 hb => by rw [<- hr, <- hkey]; exact hput_closed (H.on hb) hat (hel.on hb) hin (by omega) ht2 hp2 (by omega) x⟩
 have HTY : Veil (∀ w9, Below W.heap.size W w9 -> Calls Tryz.prog 51 #[.pointer (some ⟨m, 0, none⟩), .string ⟨#[]⟩] w9 fun e w' => e = .returned (.tuple #[valV (9, q, ⟨#[]⟩), .int .i64 1]) /\ ∃ eb, MP w' h A m f (ts ++ [TO.plain eb 12 (f 6) (.slice none 0 0)]) /\ Bk A w9 w') := ⟨fun w9 hb => by rw [<- hq]; exact (H.on hb).type hl⟩
 rw [hfv, hkr, hq]
 clear H hat hel hin hi ht2 hp2 hl hfv hkr hkey hr hq
 have c0 : W0.cell? ⟨tb, 0, none⟩ = some (.int .i64 fv.1) := HBB.out.2.1.at_ 0
 have c1 : W0.cell? ⟨tb, 1, none⟩ = some (.int .i64 fv.2.1) := HBB.out.2.1.at_ 1
 have c2 : W0.cell? ⟨tb, 2, none⟩ = some (.string fv.2.2) := HBB.out.2.1.at_ 2
 have HN0 := Veil.mk (HNU.out W0)
 go_enter Tryz.func43, Tryz.ntmps43
 go_upto_region 1 with (fail)
 rw [HW0.out.1, HW0.out.2.1, HW0.out.2.2.1, HW0.out.2.2.2.1, HW0.out.2.2.2.2]
 go_upto_region 5 with (go_at_call 82; ((with_reducible refine HN0.out.mono ?_); rintro e w1 ⟨rfl, hb1⟩; have HB1 := Veil.mk hb1; clear hb1))
 clear c0 c1 c2 HN0 HNU HW0
 have HQ1 := Veil.mk (And.intro (blw2 HBB.out.1 HB1.out) (And.intro (HBB.out.2.1.below HB1.out) (And.intro (HBB.out.2.2.1.below HB1.out) (And.intro (HBB.out.2.2.2.1.below HB1.out) (HBB.out.2.2.2.2.below HB1.out)))))
 clear HBB HB1
 have m0 : ∀ z : BW w1, z.w.cell? ⟨m, 0, none⟩ = some (.pointer (some ⟨h, 0, none⟩)) := fun z => HCM.out _ (blw2 HQ1.out.1 z.h)
 have c0 : ∀ z : BW w1, z.w.cell? ⟨tb, 0, none⟩ = some (.int .i64 fv.1) := fun z => (HQ1.out.2.1.below z.h).at_ 0
 have c1 : ∀ z : BW w1, z.w.cell? ⟨tb, 1, none⟩ = some (.int .i64 fv.2.1) := fun z => (HQ1.out.2.1.below z.h).at_ 1
 have c2 : ∀ z : BW w1, z.w.cell? ⟨tb, 2, none⟩ = some (.string fv.2.2) := fun z => (HQ1.out.2.1.below z.h).at_ 2
 have hNE := BW.ne w1
 refine wp_region_below (by kernel_rfl) (by kernel_rfl) ?_
 repeat (go_big_quiet_step ((go_at_call 14; exact BW.on _ (HOF.out _ (blw2 HQ1.out.1 (BW.h _))))))
 refine wpQuiet_nil ?_
 rintro _ ⟨z, rfl⟩
 have HQ := Veil.mk z.h
 obtain ⟨wE, hE2⟩ : ∃ wE, z.w = wE := ⟨_, rfl⟩
 rw [hE2] at HQ ⊢
 clear m0 c0 c1 c2 hE2 z hNE
 have HQ2 := Veil.mk (And.intro (blw2 HQ1.out.1 HQ.out) (And.intro (HQ1.out.2.1.below HQ.out) (And.intro (HQ1.out.2.2.1.below HQ.out) (And.intro (HQ1.out.2.2.2.1.below HQ.out) (HQ1.out.2.2.2.2.below HQ.out)))))
 clear HQ HQ1 HOF
 have o2 : wE.cell? ⟨b, 2, none⟩ = some (.bool true) := (HBX.out.below HQ2.out.1).at_ 2
 have k0 : wE.cell? ⟨kb, 0, none⟩ = some (.int .i64 kr.1) := HQ2.out.2.2.1.at_ 0
 have k1 : wE.cell? ⟨kb, 1, none⟩ = some (.int .i64 kr.2.1) := HQ2.out.2.2.1.at_ 1
 have k2 : wE.cell? ⟨kb, 2, none⟩ = some (.string kr.2.2) := HQ2.out.2.2.1.at_ 2
 have HP1 := Veil.mk (HPR.out wE)
 go_upto_region 10 with (first | (go_at_call 85; ((with_reducible refine HP1.out.mono ?_); rintro e w2 ⟨rfl, hb2⟩; have HB2 := Veil.mk hb2; clear hb2)) | (go_at_call 84; ((with_reducible refine (convert_ok m key w2).mono ?_); rintro e w3 ⟨rfl, hb3⟩; have HB3 := Veil.mk hb3; clear hb3)))
 clear o2 k0 k1 k2 HP1 HPR
 obtain ⟨nb, hnb⟩ : ∃ nb, w3.heap.size = nb := ⟨_, rfl⟩
 obtain ⟨w4, hw4⟩ : ∃ w4, w3.alloc (.cells #[.int .i64 key.1, .int .i64 key.2.1, .string key.2.2] 28) = w4 := ⟨_, rfl⟩
 have bxn := Box.new w3 28 #[.int .i64 key.1, .int .i64 key.2.1, .string key.2.2]
 have bl : Below w3.heap.size w3 (w3.alloc (.cells #[.int .i64 key.1, .int .i64 key.2.1, .string key.2.2] 28)) := (Below.refl _ _).alloc (Nat.le_refl _) _
 rw [hw4] at bxn bl ⊢
 rw [hnb] at bxn ⊢
 have hb4 := blw2 (blw2 HB2.out HB3.out) bl
 have HQ4 := Veil.mk (And.intro (blw2 HQ2.out.1 hb4) (And.intro (HQ2.out.2.1.below hb4) (And.intro (HQ2.out.2.2.2.1.below hb4) (And.intro (HQ2.out.2.2.2.2.below hb4) bxn))))
 clear bxn bl hb4 hnb hw4 HB2 HB3 HQ2
 have o2 : w4.cell? ⟨b, 2, none⟩ = some (.bool true) := (HBX.out.below HQ4.out.1).at_ 2
 go_upto_region 14 with (fail)
 clear o2
 have m0 : ∀ z : BW w4, z.w.cell? ⟨m, 0, none⟩ = some (.pointer (some ⟨h, 0, none⟩)) := fun z => HCM.out _ (blw2 HQ4.out.1 z.h)
 have c0 : ∀ z : BW w4, z.w.cell? ⟨tb, 0, none⟩ = some (.int .i64 fv.1) := fun z => (HQ4.out.2.1.below z.h).at_ 0
 have c1 : ∀ z : BW w4, z.w.cell? ⟨tb, 1, none⟩ = some (.int .i64 fv.2.1) := fun z => (HQ4.out.2.1.below z.h).at_ 1
 have c2 : ∀ z : BW w4, z.w.cell? ⟨tb, 2, none⟩ = some (.string fv.2.2) := fun z => (HQ4.out.2.1.below z.h).at_ 2
 have x0 : ∀ z : BW w4, z.w.cell? ⟨xb, 0, none⟩ = some (.int .i64 x.1) := fun z => (HQ4.out.2.2.1.below z.h).at_ 0
 have x1 : ∀ z : BW w4, z.w.cell? ⟨xb, 1, none⟩ = some (.int .i64 x.2.1) := fun z => (HQ4.out.2.2.1.below z.h).at_ 1
 have x2 : ∀ z : BW w4, z.w.cell? ⟨xb, 2, none⟩ = some (.string x.2.2) := fun z => (HQ4.out.2.2.1.below z.h).at_ 2
 have n0 : ∀ z : BW w4, z.w.cell? ⟨nb, 0, none⟩ = some (.int .i64 key.1) := fun z => (HQ4.out.2.2.2.2.below z.h).at_ 0
 have n1 : ∀ z : BW w4, z.w.cell? ⟨nb, 1, none⟩ = some (.int .i64 key.2.1) := fun z => (HQ4.out.2.2.2.2.below z.h).at_ 1
 have n2 : ∀ z : BW w4, z.w.cell? ⟨nb, 2, none⟩ = some (.string key.2.2) := fun z => (HQ4.out.2.2.2.2.below z.h).at_ 2
 have hNE := BW.ne w4
 refine wp_region_below (by kernel_rfl) (by kernel_rfl) ?_
 repeat (go_big_quiet_step (first | (go_at_call 47; exact BW.on _ (HRF.out _)) | (go_at_call 87; exact BW.on _ (HPU.out _ (blw2 HQ4.out.1 (BW.h _))))))
 refine wpQuiet_nil ?_
 rintro _ ⟨z, rfl⟩
 have HQ := Veil.mk z.h
 obtain ⟨w5, hE2⟩ : ∃ w5, z.w = w5 := ⟨_, rfl⟩
 rw [hE2] at HQ ⊢
 clear m0 c0 c1 c2 x0 x1 x2 n0 n1 n2 hE2 z hNE
 have HQ5 := Veil.mk (And.intro (blw2 HQ4.out.1 HQ.out) (HQ4.out.2.2.2.1.below HQ.out))
 clear HQ HQ4 HPU HRF HCM HBX
 have HT5 := Veil.mk (HTY.out w5 HQ5.out.1)
 clear HTY
 go_wp2_with (go_at_call 51; ((with_reducible refine HT5.out.mono ?_); rintro e w6 ⟨rfl, eb, hm6, hb6⟩; have HM6 := Veil.mk (And.intro (hb6.boxE HQ5.out.2 (by decide)) (And.intro hm6 ((Bk.of_below HA.out HQ5.out.1).trans hb6))); clear hm6 hb6; have z0 : w6.cell? ⟨rb, 0, none⟩ = some (.int .i64 0) := (HM6.out.1).at_ 0; have q0 := (HM6.out.1).free 0; have z1 : w6.cell? ⟨rb, 1, none⟩ = some (.int .i64 0) := (HM6.out.1).at_ 1; have q1 := (HM6.out.1).free 1; have z2 : w6.cell? ⟨rb, 2, none⟩ = some (.string ⟨#[]⟩) := (HM6.out.1).at_ 2; have q2 := (HM6.out.1).free 2))
 have hr3 := ((HM6.out.1.put 0 (.int .i64 9)).put 1 (.int .i64 q)).put 2 (.string ⟨#[]⟩)
 have y0 := hr3.at_ 0
 have y1 := hr3.at_ 1
 have y2 := hr3.at_ 2
 have hp3 := ((HM6.out.2.1.putv HM6.out.1.lab 0 (.int .i64 9)).putv (HM6.out.1.put 0 _).lab 1 (.int .i64 q)).putv ((HM6.out.1.put 0 _).put 1 _).lab 2 (.string ⟨#[]⟩)
 have hk3 := ((HM6.out.2.2.setv HLO.out.2.2.2 HA.out 0 (.int .i64 9)).setv HLO.out.2.2.2 HA.out 1 (.int .i64 q)).setv HLO.out.2.2.2 HA.out 2 (.string ⟨#[]⟩)
 exact bodyPost_ret (v := .tuple #[valV (9, q, ⟨#[]⟩), .int .i64 1]) (by simp [results, Tryz.results43, go_sem, y0, y1, y2]) rfl ⟨rfl, eb, hp3, hk3⟩
def QM (WD : World) (h A m : Nat) (f2 : MF) (F : Nat -> List TO) (_ : Nat -> Prop) (w' : World) : Prop := ∃ e, MP w' h A m f2 (F e) /\ Bk A WD w'
theorem QM.pg {WD : World} {h A m : Nat} {f2 : MF} {F : Nat -> List TO} (hA : A <= WD.heap.size) : PG WD.heap.size (QM WD h A m f2 F) :=
 ⟨fun _ w w' ⟨e, h1, h2⟩ hb => ⟨e, h1.on hb, h2.trans (Bk.of_below (Nat.le_trans hA h2.bel.size) hb)⟩, fun _ _ _ H _ => H, fun _ w g i u ⟨e, h1, h2⟩ hl _ hn => ⟨e, h1.putv hl i u, h2.setv hn hA i u⟩⟩
section
variable {W : World} {h A m ia b n : Nat} {f : MF} {ts : List TO} {ev : Value} {xs : Nat -> Vt} {t2 : TO}
theorem MP.popZ (H : MP W h A m f ts) (hat : ts[ia]? = some (TO.arz b true ev)) (hl : ts.length < 100000) :
  Calls Tryz.prog 354 #[.pointer (some ⟨m, 0, none⟩), .pointer (some ⟨b, 0, none⟩)] W fun e w' => e = .returned (.tuple #[valV (9, (ts.length : Int) + 1, ⟨#[]⟩), .int .i64 1]) /\ ∃ eb, MP w' h A m f ((fun eb => ts ++ [TO.plain eb 12 (f 6) (.slice none 0 0)]) eb) /\ Bk A W w' := by
 have HA : Veil (A <= W.heap.size) := ⟨Nat.le_of_lt H.mm.alt⟩
 have HBX : Veil (Box W b 63 (objC 1 3 true (.pointer none) ev)) := ⟨H.mem_b (List.mem_of_getElem? hat) rfl⟩
 obtain ⟨q, hq⟩ : ∃ q : Int, (ts.length : Int) + 1 = q := ⟨_, rfl⟩
 obtain ⟨rb, hrb⟩ : ∃ rb, W.heap.size = rb := ⟨_, rfl⟩
 obtain ⟨W0, hW0⟩ : ∃ W0, (W.alloc (.cells #[.int .i64 0, .int .i64 0, .string ⟨#[]⟩] VTy)) = W0 := ⟨_, rfl⟩
 have bb : Below W.heap.size W W0 := by rw [<- hW0]; exact ((Below.refl _ _).alloc (Nat.le_refl _) _)
 have xrb : Box W0 rb VTy #[.int .i64 0, .int .i64 0, .string ⟨#[]⟩] := by have h9 := Box.new W VTy #[.int .i64 0, .int .i64 0, .string ⟨#[]⟩]; rw [hW0, hrb] at h9; exact h9
 have HW0 := Veil.mk (And.intro hW0 (hrb))
 have HBB := Veil.mk (And.intro bb (xrb))
 have HLO : Veil (W.heap.size <= rb) := ⟨by omega⟩
 clear hW0 bb hrb xrb
 have HT0 := Veil.mk ((H.on HBB.out.1).type hl)
 have o2 : W0.cell? ⟨b, 2, none⟩ = some (.bool true) := (HBX.out.below HBB.out.1).at_ 2
 rw [hq] at HT0 ⊢
 clear H hat hl hq
 go_enter Tryz.func354, Tryz.ntmps354
 go_upto_region 1 with (fail)
 rw [HW0.out.1, HW0.out.2]
 go_wp2_with (go_at_call 51; ((with_reducible refine HT0.out.mono ?_); rintro e w6 ⟨rfl, eb, hm6, hb6⟩; have HM6 := Veil.mk (And.intro (hb6.boxE HBB.out.2 (by decide)) (And.intro hm6 ((Bk.of_below HA.out HBB.out.1).trans hb6))); clear hm6 hb6; have z0 : w6.cell? ⟨rb, 0, none⟩ = some (.int .i64 0) := (HM6.out.1).at_ 0; have q0 := (HM6.out.1).free 0; have z1 : w6.cell? ⟨rb, 1, none⟩ = some (.int .i64 0) := (HM6.out.1).at_ 1; have q1 := (HM6.out.1).free 1; have z2 : w6.cell? ⟨rb, 2, none⟩ = some (.string ⟨#[]⟩) := (HM6.out.1).at_ 2; have q2 := (HM6.out.1).free 2))
 have hr3 := ((HM6.out.1.put 0 (.int .i64 9)).put 1 (.int .i64 q)).put 2 (.string ⟨#[]⟩)
 have y0 := hr3.at_ 0
 have y1 := hr3.at_ 1
 have y2 := hr3.at_ 2
 have hp3 := ((HM6.out.2.1.putv HM6.out.1.lab 0 (.int .i64 9)).putv (HM6.out.1.put 0 _).lab 1 (.int .i64 q)).putv ((HM6.out.1.put 0 _).put 1 _).lab 2 (.string ⟨#[]⟩)
 have hk3 := ((HM6.out.2.2.setv HLO.out HA.out 0 (.int .i64 9)).setv HLO.out HA.out 1 (.int .i64 q)).setv HLO.out HA.out 2 (.string ⟨#[]⟩)
 exact bodyPost_ret (v := .tuple #[valV (9, q, ⟨#[]⟩), .int .i64 1]) (by simp [results, Tryz.results354, go_sem, y0, y1, y2]) rfl ⟨rfl, eb, hp3, hk3⟩
theorem MP.pushZ (H : MP W h A m f ts) (hat : ts[ia]? = some (TO.arz b true ev)) (hel : EL W A ev n xs) (hn : n < 100) (ht2 : ts[2]? = some t2) (hp2 : PlT t2 1 e2W) (hl : ts.length < 100000) (hov : f.ov = false) (hs0 : 0 <= f.st) (hs1 : f.st < 4194304) (args : Value) (v : Vt) (hr : RowV W args [v]) :
  Calls Tryz.prog 353 #[.pointer (some ⟨m, 0, none⟩), valV (9, (ia : Int) + 1, ⟨#[]⟩), .pointer (some ⟨b, 0, none⟩), args] W fun e w' => e = .returned (.tuple #[valV (9, (ts.length : Int) + 1, ⟨#[]⟩), .int .i64 1]) /\ ∃ eb, MP w' h A m { f with st := f.st + 1 } ((fun eb => ts ++ [TO.plain eb 12 (f 6) (.slice none 0 0)]) eb) /\ Bk A W w' := by
 obtain ⟨fv, hfv⟩ : ∃ fv : Vt, ((9, (ia : Int) + 1, ⟨#[]⟩) : Vt) = fv := ⟨_, rfl⟩
 obtain ⟨kr, hkr⟩ : ∃ kr : Vt, ((3, (n : Int), ⟨#[]⟩) : Vt) = kr := ⟨_, rfl⟩
 obtain ⟨q, hq⟩ : ∃ q : Int, (ts.length : Int) + 1 = q := ⟨_, rfl⟩
 have HA : Veil (A <= W.heap.size) := ⟨Nat.le_of_lt H.mm.alt⟩
 obtain ⟨ao, cap, rfl⟩ : ∃ ao cap, ev = .slice ao n cap := by
  rcases hel with ⟨e1, e2⟩ | ⟨g, cap, e1, _⟩
  ·exact ⟨none, 0, by rw [e1, e2]⟩
  ·exact ⟨_, _, e1⟩
 have HBX : Veil (Box W b 63 (objC 1 3 true (.pointer none) (.slice ao n cap))) := ⟨H.mem_b (List.mem_of_getElem? hat) rfl⟩
 obtain ⟨ga, ca, rfl, hga⟩ : ∃ ga ca, args = .slice (some ⟨ga, 0, none⟩) 1 ca /\ ∀ w', Below W.heap.size W w' -> w'.cell? ⟨ga, 0, none⟩ = some (.int .i64 v.1) /\ w'.cell? ⟨ga, 1, none⟩ = some (.int .i64 v.2.1) /\ w'.cell? ⟨ga, 2, none⟩ = some (.string v.2.2) := by
  obtain ⟨ao2, ca, ha, hcap, hnil, hrow⟩ := hr
  cases ao2 with
  | none => exact absurd (hnil rfl).1 (by simp)
  | some ad =>
   obtain ⟨g, rfl, hlab, hc⟩ := hrow ad rfl
   have hlt := lab_lt hlab
   exact ⟨g, ca, ha, fun w' hb => ⟨(hb.cell (p := ⟨g, 0, none⟩) hlt).trans (hc 0 _ rfl), (hb.cell (p := ⟨g, 1, none⟩) hlt).trans (hc 1 _ rfl), (hb.cell (p := ⟨g, 2, none⟩) hlt).trans (hc 2 _ rfl)⟩⟩
 obtain ⟨tb, htb⟩ : ∃ tb, W.heap.size = tb := ⟨_, rfl⟩
 obtain ⟨rb, hrb⟩ : ∃ rb, tb + 1 = rb := ⟨_, rfl⟩
 obtain ⟨W0, hW0⟩ : ∃ W0, ((W.alloc (.cells #[.int .i64 fv.1, .int .i64 fv.2.1, .string fv.2.2] VTy)).alloc (.cells #[.int .i64 0, .int .i64 0, .string ⟨#[]⟩] VTy)) = W0 := ⟨_, rfl⟩
 have bb : Below W.heap.size W W0 := by rw [<- hW0]; exact (((Below.refl _ _).alloc (Nat.le_refl _) _).alloc (by simp only [World.size_alloc]; omega) _)
 have xtb : Box W0 tb VTy #[.int .i64 fv.1, .int .i64 fv.2.1, .string fv.2.2] := by have h9 := ((Box.new W VTy #[.int .i64 fv.1, .int .i64 fv.2.1, .string fv.2.2]).more (.cells #[.int .i64 0, .int .i64 0, .string ⟨#[]⟩] VTy)); rw [hW0, htb] at h9; exact h9
 have xrb : Box W0 rb VTy #[.int .i64 0, .int .i64 0, .string ⟨#[]⟩] := by have h9 := Box.new (W.alloc (.cells #[.int .i64 fv.1, .int .i64 fv.2.1, .string fv.2.2] VTy)) VTy #[.int .i64 0, .int .i64 0, .string ⟨#[]⟩]; rw [hW0, show (W.alloc (.cells #[.int .i64 fv.1, .int .i64 fv.2.1, .string fv.2.2] VTy)).heap.size = rb from by simp only [World.size_alloc]; omega] at h9; exact h9
 have HW0 := Veil.mk (And.intro hW0 (And.intro htb (hrb)))
 have HBB := Veil.mk (And.intro bb (And.intro xtb (xrb)))
 have HLO : Veil (W.heap.size <= tb /\ W.heap.size <= rb) := ⟨by omega⟩
 clear hW0 bb htb xtb hrb xrb
 have HGA := Veil.mk hga
 have HSP : Veil (∀ w9, Below W.heap.size W w9 -> Calls Tryz.prog 90 #[.pointer (some ⟨m, 0, none⟩), .int .i64 1] w9 fun e w' => e = .returned (.bool true) /\ MP w' h A m { f with st := f.st + 1 } ts /\ Bk A w9 w') := ⟨fun w9 hb => (H.on hb).spend hov hs0 hs1 hl⟩
 have HPU : Veil (∀ w9, MP w9 h A m { f with st := f.st + 1 } ts -> Bk A W w9 -> Calls Tryz.prog 43 #[.pointer (some ⟨m, 0, none⟩), valV fv, valV kr, valV v] w9 fun e w' => e = .returned (.tuple #[valV (9, q, ⟨#[]⟩), .int .i64 1]) /\ ∃ eb, MP w' h A m { f with st := f.st + 1 } ((fun eb => ts ++ [TO.plain eb 12 (f 6) (.slice none 0 0)]) eb) /\ Bk A w9 w') := ⟨fun w9 hm hb => by rw [<- hfv, <- hkr, <- hq]; exact hm.putZ hat (hel.bk hb) (Nat.le_refl _) hn ht2 hp2 hl v⟩
 have HWH : Veil (∀ w9, Calls Tryz.prog 362 #[.int .i64 (n : Int)] w9 fun e w' => e = .returned (valV kr) /\ Below w9.heap.size w9 w') := ⟨fun w9 => by rw [<- hkr]; exact whole_any _ _⟩
 rw [hfv, hq]
 clear H hat hel hn ht2 hp2 hl hov hs0 hs1 hr hfv hkr hq hga
 have o4 : W0.cell? ⟨b, 4, none⟩ = some (.slice ao n cap) := (HBX.out.below HBB.out.1).at_ 4
 have a0 := (HGA.out W0 HBB.out.1).1
 have a1 := (HGA.out W0 HBB.out.1).2.1
 have a2 := (HGA.out W0 HBB.out.1).2.2
 go_enter Tryz.func353, Tryz.ntmps353
 go_upto_region 1 with (fail)
 rw [HW0.out.1, HW0.out.2.1, HW0.out.2.2]
 go_upto_region 3 with (fail)
 clear o4
 refine wp_loop_once ?_
 go_upto_region 5 with (fail)
 obtain ⟨vb, hvb⟩ : ∃ vb, W0.heap.size = vb := ⟨_, rfl⟩
 obtain ⟨w1, hw1⟩ : ∃ w1, W0.alloc (.cells #[.int .i64 v.1, .int .i64 v.2.1, .string v.2.2] VTy) = w1 := ⟨_, rfl⟩
 have bx := Box.new W0 VTy #[.int .i64 v.1, .int .i64 v.2.1, .string v.2.2]
 have bl : Below W0.heap.size W0 (W0.alloc (.cells #[.int .i64 v.1, .int .i64 v.2.1, .string v.2.2] VTy)) := (Below.refl _ _).alloc (Nat.le_refl _) _
 rw [hw1] at bx bl ⊢
 rw [hvb] at bx ⊢
 have HQ1 := Veil.mk (And.intro (blw2 HBB.out.1 bl) (And.intro (HBB.out.2.1.below bl) (And.intro (HBB.out.2.2.below bl) bx)))
 clear bx bl hw1 hvb a0 a1 a2 HBB
 have HS1 := Veil.mk (HSP.out w1 HQ1.out.1)
 go_upto_region 7 with (go_at_call 90; ((with_reducible refine HS1.out.mono ?_); rintro e w2 ⟨rfl, hm2, hb2⟩; have HM2 := Veil.mk (And.intro hm2 (And.intro ((Bk.of_below HA.out HQ1.out.1).trans hb2) (And.intro (hb2.boxE HQ1.out.2.1 (by decide)) (And.intro (hb2.boxE HQ1.out.2.2.1 (by decide)) (hb2.boxE HQ1.out.2.2.2 (by decide)))))); clear hm2 hb2))
 clear HS1 HSP HQ1
 obtain ⟨WD, hWD⟩ : ∃ WD, w2.drew = WD := ⟨_, rfl⟩
 have hdr : Below w2.heap.size w2 WD := by rw [<- hWD]; exact (Below.refl _ _).drew
 have HMD := Veil.mk (And.intro (HM2.out.1.on hdr) (HM2.out.2.1.trans (Bk.of_below (Nat.le_trans HA.out HM2.out.2.1.bel.size) hdr)))
 have HXtb := Veil.mk (HM2.out.2.2.1.below hdr)
 have HXrb := Veil.mk (HM2.out.2.2.2.1.below hdr)
 have HXvb := Veil.mk (HM2.out.2.2.2.2.below hdr)
 have HWD := Veil.mk hWD
 have HAD : Veil (A <= WD.heap.size) := ⟨Nat.le_trans HA.out HMD.out.2.bel.size⟩
 clear hdr hWD HM2 HGA
 have HP9 : Veil (PG WD.heap.size (QM WD h A m { f with st := f.st + 1 } (fun eb => ts ++ [TO.plain eb 12 (f 6) (.slice none 0 0)]))) := ⟨QM.pg HAD.out⟩
 have HC9 : Veil (∀ w', Below WD.heap.size WD w' -> Calls Tryz.prog 43 #[.pointer (some ⟨m, 0, none⟩), valV fv, valV kr, valV v] w' fun e w9 => e = .returned (.tuple #[valV (9, q, ⟨#[]⟩), .int .i64 1]) /\ QM WD h A m { f with st := f.st + 1 } (fun eb => ts ++ [TO.plain eb 12 (f 6) (.slice none 0 0)]) (fun k => WD.heap.size <= k /\ k < w'.heap.size) w9 /\ (∀ g cs, WD.heap.size <= g -> Box w' g VTy cs -> Box w9 g VTy cs) /\ w'.heap.size <= w9.heap.size) := ⟨fun w' hb => (HPU.out w' (HMD.out.1.on hb) (HMD.out.2.trans (Bk.of_below HAD.out hb))).mono fun e w9 ⟨he, eb, h1, h2⟩ => ⟨he, ⟨eb, h1, (Bk.of_below HAD.out hb).trans h2⟩, fun g cs _ hx => h2.boxE hx (by decide), h2.bel.size⟩⟩
 clear HPU
 refine wp_region_chain [qp m 0, qv fv, qi (n : Int), qv kr, qv v, qq (.tuple #[valV (9, q, ⟨#[]⟩), .int .i64 1]), qq (.tuple #[valV (9, q, ⟨#[]⟩), .int .i64 1]), qv (9, q, ⟨#[]⟩), qi 1, none, none, qi 1] (BG WD (QM WD h A m { f with st := f.st + 1 } (fun eb => ts ++ [TO.plain eb 12 (f 6) (.slice none 0 0)])) (9, q, ⟨#[]⟩) 5 9 10) [some 33, some 34, some 35, some 36, some 37, some 38, some 32, some 39, some 40, some 13, none, some 14] (curV' _ [some 33, some 34, some 35, some 36, some 37, some 38, some 32, some 39, some 40, some 13, none, some 14]) (by kernel_rfl) rfl rfl (puts_cur _ _) (by rw [HWD.out]; exact BG.start) ?_ (by kernel_rfl) ?_
 ·refine SY (fun _ S => ?_) ?_
  ·obtain ⟨⟩ := n12 S.hu
   rw [pin S.ha]
   go_simp
   exact S.kS 0 _ (S.hI.ph.pure 0 _ (by decide))
  refine SY (fun w' S => ?_) ?_
  ·obtain ⟨⟩ := n12 S.hu
   have hz := (S.hI.bwd [1] 5 1 (by kernel_rfl) rfl S.h0)
   have hbl := S.hI.ph.s0 hz
   have hq9 := HXtb.out.below hbl
   have c0 : w'.cell? ⟨tb, 0, none⟩ = some (.int .i64 fv.1) := hq9.at_ 0
   have c1 : w'.cell? ⟨tb, 1, none⟩ = some (.int .i64 fv.2.1) := hq9.at_ 1
   have c2 : w'.cell? ⟨tb, 2, none⟩ = some (.string fv.2.2) := hq9.at_ 2
   clear hq9
   clear hbl hz
   rw [pin S.ha]
   go_simp
   exact S.kS 1 _ (S.hI.ph.pure 1 _ (by decide))
  refine SY (fun _ S => ?_) ?_
  ·obtain ⟨⟩ := n12 S.hu
   rw [pin S.ha]
   go_simp
   exact S.kS 2 _ (S.hI.ph.pure 2 _ (by decide))
  refine SY (fun _ S => ?_) ?_
  ·obtain ⟨⟩ := n12 S.hu
   obtain rfl := S.q 2
   rw [pin S.ha]
   go_simp
   go_at_call 362
   refine (HWH.out _).mono ?_
   rintro e9 w9 ⟨rfl, hm9⟩
   go_simp
   exact S.kS 3 _ (S.hI.ph.quiet HP9.out 3 _ (by decide) hm9)
  refine SY (fun w' S => ?_) ?_
  ·obtain ⟨⟩ := n12 S.hu
   have hz := (S.hI.bwd [4] 5 4 (by kernel_rfl) rfl S.h0)
   have hbl := S.hI.ph.s0 hz
   have hq9 := HXvb.out.below hbl
   have c0 : w'.cell? ⟨vb, 0, none⟩ = some (.int .i64 v.1) := hq9.at_ 0
   have c1 : w'.cell? ⟨vb, 1, none⟩ = some (.int .i64 v.2.1) := hq9.at_ 1
   have c2 : w'.cell? ⟨vb, 2, none⟩ = some (.string v.2.2) := hq9.at_ 2
   clear hq9
   clear hbl hz
   rw [pin S.ha]
   go_simp
   exact S.kS 4 _ (S.hI.ph.pure 4 _ (by decide))
  refine SY (fun w' S => ?_) ?_
  ·obtain ⟨⟩ := n12 S.hu
   obtain rfl := S.q 0
   obtain rfl := S.q 1
   obtain rfl := S.q 3
   obtain rfl := S.q 4
   have h18 := (S.hI.bwd [5] 10 5 (by kernel_rfl) rfl S.h0)
   have hbl := S.hI.ph.s0 S.h0
   have HX9 := Veil.mk (HC9.out w' hbl)
   clear hbl
   rw [pin S.ha]
   go_simp
   go_at_call 43
   refine HX9.out.mono ?_
   rintro e9 w9 ⟨rfl, hq9, hk9, hs9⟩
   go_simp
   exact S.kS 5 _ (S.hI.ph.call HP9.out (by decide) (by decide) h18 hq9 hk9 hs9 _)
  refine SY (fun _ S => ?_) ?_
  ·obtain ⟨⟩ := n12 S.hu
   obtain rfl := S.q 5
   rw [pin S.ha]
   go_simp
   exact S.kS 6 _ (S.hI.ph.pure 6 _ (by decide))
  refine SY (fun _ S => ?_) ?_
  ·obtain ⟨⟩ := n12 S.hu
   obtain rfl := S.q 6
   rw [pin S.ha]
   go_simp
   exact S.kS 7 _ (S.hI.ph.pure 7 _ (by decide))
  refine SY (fun _ S => ?_) ?_
  ·obtain ⟨⟩ := n12 S.hu
   obtain rfl := S.q 6
   rw [pin S.ha]
   go_simp
   exact S.kS 8 _ (S.hI.ph.pure 8 _ (by decide))
  refine SY (fun _ S => ?_) ?_
  ·obtain ⟨⟩ := n12 S.hu
   have h18 := (S.hI.bwd [9] 10 9 (by kernel_rfl) rfl S.h0)
   rw [pin S.ha]
   go_simp
   exact S.kN 9 _ (S.hI.ph.mk_ HP9.out (by decide) (by decide) h18)
  refine SY (fun w' S => ?_) ?_
  ·obtain ⟨_, _, _, _, _, _, _, _, _, u9⟩ := n12 S.hu
   obtain rfl := S.q 7
   have h13 := (gen_after 5 (by kernel_rfl) S.hp)
   have h17 := gen_after 9 (by kernel_rfl) S.hp
   obtain ⟨g, hg, hlo, hz9, -⟩ := S.hI.ph.b h17
   replace hg : u9 = .pointer (some ⟨g, 0, none⟩) := hg
   subst hg
   have hzb := hz9 S.h0
   have z0 : w'.cell? ⟨g, 0, none⟩ = some (.int .i64 0) := hzb.at_ 0
   have z1 : w'.cell? ⟨g, 1, none⟩ = some (.int .i64 0) := hzb.at_ 1
   have z2 : w'.cell? ⟨g, 2, none⟩ = some (.string ⟨#[]⟩) := hzb.at_ 2
   have q0 := hzb.free 0
   have q1 := hzb.free 1
   have q2 := hzb.free 2
   clear hzb hz9
   rw [pin S.ha]
   go_simp
   exact S.kN 10 undef (S.hI.ph.sto HP9.out (by decide) (by decide) h13 h17 S.h0 rfl _)
  refine SY (fun _ S => ?_) ?_
  ·obtain ⟨⟩ := n12 S.hu
   obtain rfl := S.q 8
   rw [pin S.ha]
   go_simp
   exact S.kS 11 _ (S.hI.ph.pure 11 _ (by decide))
  exact Steps.nil
 ·intro us wE hus dd hD2 hJ
  obtain ⟨_, _, _, _, _, _, _, _, _, p9⟩ := n12 hus
  have hph := hJ.ph
  obtain rfl := hJ.vq 0 hD2
  obtain rfl := hJ.vq 1 hD2
  obtain rfl := hJ.vq 2 hD2
  obtain rfl := hJ.vq 3 hD2
  obtain rfl := hJ.vq 4 hD2
  obtain rfl := hJ.vq 5 hD2
  obtain rfl := hJ.vq 6 hD2
  obtain rfl := hJ.vq 7 hD2
  obtain rfl := hJ.vq 8 hD2
  obtain rfl := hJ.vq 11 hD2
  clear hJ
  obtain ⟨gv, hgv, hgl, -, hgb⟩ := hph.b (hD2 9 (by show 9 < 12; decide))
  replace hgv : p9 = .pointer (some ⟨gv, 0, none⟩) := hgv
  subst hgv
  have hgb := hgb (hD2 10 (by show 10 < 12; decide))
  have hdo := hph.s1 (hD2 5 (by show 5 < 12; decide))
  have hdo := HP9.out.excl _ (fun k => k = gv) _ hdo (fun k hk => .inl ⟨(hD2 9 (by show 9 < 12; decide)), by subst hk; rfl⟩)
  have HQ := Veil.mk (And.intro hdo (And.intro hgb hgl))
  clear hph hD2 hdo hgb hgl HP9 HC9 HWD
  simp only [puts, setAll, List.setIfInBounds_toArray, List.set_cons_zero, List.set_cons_succ]
  obtain ⟨eb, hm5, hb5⟩ := HQ.out.1
  have HM5 := Veil.mk (And.intro (hb5.boxE HXrb.out (by decide)) (And.intro hm5 (HMD.out.2.trans hb5)))
  have gvb := HQ.out.2.1
  have e0 : wE.cell? ⟨gv, 0, none⟩ = some (.int .i64 9) := gvb.at_ 0
  have e1 : wE.cell? ⟨gv, 1, none⟩ = some (.int .i64 q) := gvb.at_ 1
  have e2 : wE.cell? ⟨gv, 2, none⟩ = some (.string ⟨#[]⟩) := gvb.at_ 2
  have z0 : wE.cell? ⟨rb, 0, none⟩ = some (.int .i64 0) := HM5.out.1.at_ 0
  have z1 : wE.cell? ⟨rb, 1, none⟩ = some (.int .i64 0) := HM5.out.1.at_ 1
  have z2 : wE.cell? ⟨rb, 2, none⟩ = some (.string ⟨#[]⟩) := HM5.out.1.at_ 2
  have q0 := HM5.out.1.free 0
  have q1 := HM5.out.1.free 1
  have q2 := HM5.out.1.free 2
  clear hm5 hb5 gvb HQ HXtb HXrb HXvb HMD
  go_wp2
  have hr3 := ((HM5.out.1.put 0 (.int .i64 9)).put 1 (.int .i64 q)).put 2 (.string ⟨#[]⟩)
  have y0 := hr3.at_ 0
  have y1 := hr3.at_ 1
  have y2 := hr3.at_ 2
  have hp3 := ((HM5.out.2.1.putv HM5.out.1.lab 0 (.int .i64 9)).putv (HM5.out.1.put 0 _).lab 1 (.int .i64 q)).putv ((HM5.out.1.put 0 _).put 1 _).lab 2 (.string ⟨#[]⟩)
  have hk3 := ((HM5.out.2.2.setv HLO.out.2 HA.out 0 (.int .i64 9)).setv HLO.out.2 HA.out 1 (.int .i64 q)).setv HLO.out.2 HA.out 2 (.string ⟨#[]⟩)
  exact bodyPost_ret (v := .tuple #[valV (9, q, ⟨#[]⟩), .int .i64 1]) (by simp [results, Tryz.results353, go_sem, y0, y1, y2]) rfl ⟨rfl, by first | exact ⟨eb, hp3, hk3⟩ | exact ⟨⟨eb, hp3⟩, hk3⟩⟩
theorem object_none (W : World) (m h : Nat) (fv : Vt) (hm : W.cell? ⟨m, 0, none⟩ = some (.pointer (some ⟨h, 0, none⟩))) (hml : m < W.heap.size) (h9 : (fv.1 == 9) = false) :
  Calls Tryz.prog 81 #[.pointer (some ⟨m, 0, none⟩), valV fv] W fun e w' => e = .returned (.pointer none) /\ Below W.heap.size W w' := by
 obtain ⟨kb, hkb⟩ : ∃ kb, W.heap.size = kb := ⟨_, rfl⟩
 obtain ⟨W0, hW0⟩ : ∃ W0, (W.alloc (.cells #[.int .i64 fv.1, .int .i64 fv.2.1, .string fv.2.2] VTy)) = W0 := ⟨_, rfl⟩
 have bb : Below W.heap.size W W0 := by rw [<- hW0]; exact ((Below.refl _ _).alloc (Nat.le_refl _) _)
 have xkb : Box W0 kb VTy #[.int .i64 fv.1, .int .i64 fv.2.1, .string fv.2.2] := by have h9 := Box.new W VTy #[.int .i64 fv.1, .int .i64 fv.2.1, .string fv.2.2]; rw [hW0, hkb] at h9; exact h9
 have HW0 := Veil.mk (And.intro hW0 (hkb))
 have HBB := Veil.mk (And.intro bb (xkb))
 have HLO : Veil (W.heap.size <= kb) := ⟨by omega⟩
 clear hW0 bb hkb xkb
 have HM := Veil.mk (And.intro hm hml)
 have H9 := Veil.mk h9
 clear hm hml h9
 go_enter Tryz.func81, Tryz.ntmps81
 go_upto_region 1 with (fail)
 rw [HW0.out.1, HW0.out.2]
 go_upto_region 3 with (fail)
 have m0 : ∀ z : BW W0, z.w.cell? ⟨m, 0, none⟩ = some (.pointer (some ⟨h, 0, none⟩)) := fun z => ((blw2 HBB.out.1 z.h).cell (p := ⟨m, 0, none⟩) HM.out.2).trans HM.out.1
 have c0 : ∀ z : BW W0, z.w.cell? ⟨kb, 0, none⟩ = some (.int .i64 fv.1) := fun z => (HBB.out.2.below z.h).at_ 0
 have c1 : ∀ z : BW W0, z.w.cell? ⟨kb, 1, none⟩ = some (.int .i64 fv.2.1) := fun z => (HBB.out.2.below z.h).at_ 1
 have c2 : ∀ z : BW W0, z.w.cell? ⟨kb, 2, none⟩ = some (.string fv.2.2) := fun z => (HBB.out.2.below z.h).at_ 2
 have hNE := BW.ne W0
 refine wp_region_below (by kernel_rfl) (by kernel_rfl) ?_
 repeat (go_big_quiet_step ((go_at_call 14; exact BW.on _ (of_no h fv H9.out _))))
 refine wpQuiet_nil ?_
 rintro _ ⟨z, rfl⟩
 have HQ := Veil.mk z.h
 obtain ⟨wE, hE2⟩ : ∃ wE, z.w = wE := ⟨_, rfl⟩
 rw [hE2] at HQ ⊢
 clear m0 c0 c1 c2 hE2 z hNE
 have HB9 := Veil.mk (blw2 HBB.out.1 HQ.out)
 clear HQ
 go_wp2
 go_ret
 exact ⟨rfl, HB9.out⟩
theorem callable_no (W : World) (m h : Nat) (fv : Vt) (hm : W.cell? ⟨m, 0, none⟩ = some (.pointer (some ⟨h, 0, none⟩))) (hml : m < W.heap.size) (h9 : (fv.1 == 9) = false) :
  Calls Tryz.prog 57 #[.pointer (some ⟨m, 0, none⟩), valV fv] W fun e w' => e = .returned (.bool false) /\ Below W.heap.size W w' := by
 obtain ⟨kb, hkb⟩ : ∃ kb, W.heap.size = kb := ⟨_, rfl⟩
 obtain ⟨W0, hW0⟩ : ∃ W0, (W.alloc (.cells #[.int .i64 fv.1, .int .i64 fv.2.1, .string fv.2.2] VTy)) = W0 := ⟨_, rfl⟩
 have bb : Below W.heap.size W W0 := by rw [<- hW0]; exact ((Below.refl _ _).alloc (Nat.le_refl _) _)
 have xkb : Box W0 kb VTy #[.int .i64 fv.1, .int .i64 fv.2.1, .string fv.2.2] := by have h9 := Box.new W VTy #[.int .i64 fv.1, .int .i64 fv.2.1, .string fv.2.2]; rw [hW0, hkb] at h9; exact h9
 have HW0 := Veil.mk (And.intro hW0 (hkb))
 have HBB := Veil.mk (And.intro bb (xkb))
 have HLO : Veil (W.heap.size <= kb) := ⟨by omega⟩
 clear hW0 bb hkb xkb
 have HOB := Veil.mk (object_none W0 m h fv ((HBB.out.1.cell (p := ⟨m, 0, none⟩) hml).trans hm) (Nat.lt_of_lt_of_le hml HBB.out.1.size) h9)
 have c0 : W0.cell? ⟨kb, 0, none⟩ = some (.int .i64 fv.1) := HBB.out.2.at_ 0
 have c1 : W0.cell? ⟨kb, 1, none⟩ = some (.int .i64 fv.2.1) := HBB.out.2.at_ 1
 have c2 : W0.cell? ⟨kb, 2, none⟩ = some (.string fv.2.2) := HBB.out.2.at_ 2
 clear hm hml h9
 go_enter Tryz.func57, Tryz.ntmps57
 go_upto_region 1 with (fail)
 rw [HW0.out.1, HW0.out.2]
 go_wp2_with (go_at_call 81; ((with_reducible refine HOB.out.mono ?_); rintro e w1 ⟨rfl, hb1⟩; have HB1 := Veil.mk (blw2 HBB.out.1 hb1); clear hb1))
 go_ret
 exact ⟨rfl, HB1.out⟩
theorem arg_one (W : World) (fo : Nat) (fv tgt : Vt) (ga ca : Nat) (v : Vt) (hga : ga < W.heap.size) (h0 : W.cell? ⟨ga, 0, none⟩ = some (.int .i64 v.1)) (h1 : W.cell? ⟨ga, 1, none⟩ = some (.int .i64 v.2.1)) (h2 : W.cell? ⟨ga, 2, none⟩ = some (.string v.2.2)) :
  Calls Tryz.prog 219 #[callV fo fv (.slice (some ⟨ga, 0, none⟩) 1 ca) tgt, .int .i64 0] W fun e w' => e = .returned (valV v) /\ Below W.heap.size W w' := by
 obtain ⟨cb, hcb⟩ : ∃ cb, W.heap.size = cb := ⟨_, rfl⟩
 obtain ⟨rb, hrb⟩ : ∃ rb, cb + 1 = rb := ⟨_, rfl⟩
 obtain ⟨W0, hW0⟩ : ∃ W0, ((W.alloc (.cells #[.pointer (some ⟨fo, 0, none⟩), .int .i64 fv.1, .int .i64 fv.2.1, .string fv.2.2, .slice (some ⟨ga, 0, none⟩) 1 ca, .int .i64 tgt.1, .int .i64 tgt.2.1, .string tgt.2.2] CTy)).alloc (.cells #[.int .i64 0, .int .i64 0, .string ⟨#[]⟩] VTy)) = W0 := ⟨_, rfl⟩
 have bb : Below W.heap.size W W0 := by rw [<- hW0]; exact (((Below.refl _ _).alloc (Nat.le_refl _) _).alloc (by simp only [World.size_alloc]; omega) _)
 have xcb : Box W0 cb CTy #[.pointer (some ⟨fo, 0, none⟩), .int .i64 fv.1, .int .i64 fv.2.1, .string fv.2.2, .slice (some ⟨ga, 0, none⟩) 1 ca, .int .i64 tgt.1, .int .i64 tgt.2.1, .string tgt.2.2] := by have h9 := ((Box.new W CTy #[.pointer (some ⟨fo, 0, none⟩), .int .i64 fv.1, .int .i64 fv.2.1, .string fv.2.2, .slice (some ⟨ga, 0, none⟩) 1 ca, .int .i64 tgt.1, .int .i64 tgt.2.1, .string tgt.2.2]).more (.cells #[.int .i64 0, .int .i64 0, .string ⟨#[]⟩] VTy)); rw [hW0, hcb] at h9; exact h9
 have xrb : Box W0 rb VTy #[.int .i64 0, .int .i64 0, .string ⟨#[]⟩] := by have h9 := Box.new (W.alloc (.cells #[.pointer (some ⟨fo, 0, none⟩), .int .i64 fv.1, .int .i64 fv.2.1, .string fv.2.2, .slice (some ⟨ga, 0, none⟩) 1 ca, .int .i64 tgt.1, .int .i64 tgt.2.1, .string tgt.2.2] CTy)) VTy #[.int .i64 0, .int .i64 0, .string ⟨#[]⟩]; rw [hW0, show (W.alloc (.cells #[.pointer (some ⟨fo, 0, none⟩), .int .i64 fv.1, .int .i64 fv.2.1, .string fv.2.2, .slice (some ⟨ga, 0, none⟩) 1 ca, .int .i64 tgt.1, .int .i64 tgt.2.1, .string tgt.2.2] CTy)).heap.size = rb from by simp only [World.size_alloc]; omega] at h9; exact h9
 have HW0 := Veil.mk (And.intro hW0 (And.intro hcb (hrb)))
 have HBB := Veil.mk (And.intro bb (And.intro xcb (xrb)))
 have HLO : Veil (W.heap.size <= cb /\ W.heap.size <= rb) := ⟨by omega⟩
 clear hW0 bb hcb xcb hrb xrb
 have a0 := (HBB.out.1.cell (p := ⟨ga, 0, none⟩) hga).trans h0
 have a1 := (HBB.out.1.cell (p := ⟨ga, 1, none⟩) hga).trans h1
 have a2 := (HBB.out.1.cell (p := ⟨ga, 2, none⟩) hga).trans h2
 clear h0 h1 h2 hga
 have c4 : W0.cell? ⟨cb, 4, none⟩ = some (.slice (some ⟨ga, 0, none⟩) 1 ca) := HBB.out.2.1.at_ 4
 have z0 : W0.cell? ⟨rb, 0, none⟩ = some (.int .i64 0) := HBB.out.2.2.at_ 0
 have z1 : W0.cell? ⟨rb, 1, none⟩ = some (.int .i64 0) := HBB.out.2.2.at_ 1
 have z2 : W0.cell? ⟨rb, 2, none⟩ = some (.string ⟨#[]⟩) := HBB.out.2.2.at_ 2
 have q0 := HBB.out.2.2.free 0
 have q1 := HBB.out.2.2.free 1
 have q2 := HBB.out.2.2.free 2
 go_enter Tryz.func219, Tryz.ntmps219
 go_upto_region 1 with (fail)
 rw [HW0.out.1, HW0.out.2.1, HW0.out.2.2]
 go_wp2
 have hr3 := ((HBB.out.2.2.put 0 (.int .i64 v.1)).put 1 (.int .i64 v.2.1)).put 2 (.string v.2.2)
 have y0 := hr3.at_ 0
 have y1 := hr3.at_ 1
 have y2 := hr3.at_ 2
 have hk3 := ((HBB.out.1.setCell (p := ⟨rb, 0, none⟩) HLO.out.2 (.int .i64 v.1)).setCell (p := ⟨rb, 1, none⟩) HLO.out.2 (.int .i64 v.2.1)).setCell (p := ⟨rb, 2, none⟩) HLO.out.2 (.string v.2.2)
 exact bodyPost_ret (v := valV v) (by simp [results, Tryz.results219, go_sem, y0, y1, y2]) rfl ⟨rfl, hk3⟩
theorem arg_none0 (W : World) (fo : Nat) (fv tgt : Vt)  :
  Calls Tryz.prog 219 #[callV fo fv (.slice none 0 0) tgt, .int .i64 0] W fun e w' => e = .returned (valV zV) /\ Below W.heap.size W w' := by
 obtain ⟨cb, hcb⟩ : ∃ cb, W.heap.size = cb := ⟨_, rfl⟩
 obtain ⟨rb, hrb⟩ : ∃ rb, cb + 1 = rb := ⟨_, rfl⟩
 obtain ⟨W0, hW0⟩ : ∃ W0, ((W.alloc (.cells #[.pointer (some ⟨fo, 0, none⟩), .int .i64 fv.1, .int .i64 fv.2.1, .string fv.2.2, .slice none 0 0, .int .i64 tgt.1, .int .i64 tgt.2.1, .string tgt.2.2] CTy)).alloc (.cells #[.int .i64 0, .int .i64 0, .string ⟨#[]⟩] VTy)) = W0 := ⟨_, rfl⟩
 have bb : Below W.heap.size W W0 := by rw [<- hW0]; exact (((Below.refl _ _).alloc (Nat.le_refl _) _).alloc (by simp only [World.size_alloc]; omega) _)
 have xcb : Box W0 cb CTy #[.pointer (some ⟨fo, 0, none⟩), .int .i64 fv.1, .int .i64 fv.2.1, .string fv.2.2, .slice none 0 0, .int .i64 tgt.1, .int .i64 tgt.2.1, .string tgt.2.2] := by have h9 := ((Box.new W CTy #[.pointer (some ⟨fo, 0, none⟩), .int .i64 fv.1, .int .i64 fv.2.1, .string fv.2.2, .slice none 0 0, .int .i64 tgt.1, .int .i64 tgt.2.1, .string tgt.2.2]).more (.cells #[.int .i64 0, .int .i64 0, .string ⟨#[]⟩] VTy)); rw [hW0, hcb] at h9; exact h9
 have xrb : Box W0 rb VTy #[.int .i64 0, .int .i64 0, .string ⟨#[]⟩] := by have h9 := Box.new (W.alloc (.cells #[.pointer (some ⟨fo, 0, none⟩), .int .i64 fv.1, .int .i64 fv.2.1, .string fv.2.2, .slice none 0 0, .int .i64 tgt.1, .int .i64 tgt.2.1, .string tgt.2.2] CTy)) VTy #[.int .i64 0, .int .i64 0, .string ⟨#[]⟩]; rw [hW0, show (W.alloc (.cells #[.pointer (some ⟨fo, 0, none⟩), .int .i64 fv.1, .int .i64 fv.2.1, .string fv.2.2, .slice none 0 0, .int .i64 tgt.1, .int .i64 tgt.2.1, .string tgt.2.2] CTy)).heap.size = rb from by simp only [World.size_alloc]; omega] at h9; exact h9
 have HW0 := Veil.mk (And.intro hW0 (And.intro hcb (hrb)))
 have HBB := Veil.mk (And.intro bb (And.intro xcb (xrb)))
 have HLO : Veil (W.heap.size <= cb /\ W.heap.size <= rb) := ⟨by omega⟩
 clear hW0 bb hcb xcb hrb xrb
 have c4 : W0.cell? ⟨cb, 4, none⟩ = some (.slice none 0 0) := HBB.out.2.1.at_ 4
 have z0 : W0.cell? ⟨rb, 0, none⟩ = some (.int .i64 0) := HBB.out.2.2.at_ 0
 have z1 : W0.cell? ⟨rb, 1, none⟩ = some (.int .i64 0) := HBB.out.2.2.at_ 1
 have z2 : W0.cell? ⟨rb, 2, none⟩ = some (.string ⟨#[]⟩) := HBB.out.2.2.at_ 2
 have q0 := HBB.out.2.2.free 0
 have q1 := HBB.out.2.2.free 1
 have q2 := HBB.out.2.2.free 2
 go_enter Tryz.func219, Tryz.ntmps219
 go_upto_region 1 with (fail)
 rw [HW0.out.1, HW0.out.2.1, HW0.out.2.2]
 go_wp2
 have hr3 := ((HBB.out.2.2.put 0 (.int .i64 0)).put 1 (.int .i64 0)).put 2 (.string ⟨#[]⟩)
 have y0 := hr3.at_ 0
 have y1 := hr3.at_ 1
 have y2 := hr3.at_ 2
 have hk3 := ((HBB.out.1.setCell (p := ⟨rb, 0, none⟩) HLO.out.2 (.int .i64 0)).setCell (p := ⟨rb, 1, none⟩) HLO.out.2 (.int .i64 0)).setCell (p := ⟨rb, 2, none⟩) HLO.out.2 (.string ⟨#[]⟩)
 exact bodyPost_ret (v := valV zV) (by simp [results, Tryz.results219, go_sem, y0, y1, y2]) rfl ⟨rfl, hk3⟩
theorem arg_none1 (W : World) (fo : Nat) (fv tgt : Vt)  :
  Calls Tryz.prog 219 #[callV fo fv (.slice none 0 0) tgt, .int .i64 1] W fun e w' => e = .returned (valV zV) /\ Below W.heap.size W w' := by
 obtain ⟨cb, hcb⟩ : ∃ cb, W.heap.size = cb := ⟨_, rfl⟩
 obtain ⟨rb, hrb⟩ : ∃ rb, cb + 1 = rb := ⟨_, rfl⟩
 obtain ⟨W0, hW0⟩ : ∃ W0, ((W.alloc (.cells #[.pointer (some ⟨fo, 0, none⟩), .int .i64 fv.1, .int .i64 fv.2.1, .string fv.2.2, .slice none 0 0, .int .i64 tgt.1, .int .i64 tgt.2.1, .string tgt.2.2] CTy)).alloc (.cells #[.int .i64 0, .int .i64 0, .string ⟨#[]⟩] VTy)) = W0 := ⟨_, rfl⟩
 have bb : Below W.heap.size W W0 := by rw [<- hW0]; exact (((Below.refl _ _).alloc (Nat.le_refl _) _).alloc (by simp only [World.size_alloc]; omega) _)
 have xcb : Box W0 cb CTy #[.pointer (some ⟨fo, 0, none⟩), .int .i64 fv.1, .int .i64 fv.2.1, .string fv.2.2, .slice none 0 0, .int .i64 tgt.1, .int .i64 tgt.2.1, .string tgt.2.2] := by have h9 := ((Box.new W CTy #[.pointer (some ⟨fo, 0, none⟩), .int .i64 fv.1, .int .i64 fv.2.1, .string fv.2.2, .slice none 0 0, .int .i64 tgt.1, .int .i64 tgt.2.1, .string tgt.2.2]).more (.cells #[.int .i64 0, .int .i64 0, .string ⟨#[]⟩] VTy)); rw [hW0, hcb] at h9; exact h9
 have xrb : Box W0 rb VTy #[.int .i64 0, .int .i64 0, .string ⟨#[]⟩] := by have h9 := Box.new (W.alloc (.cells #[.pointer (some ⟨fo, 0, none⟩), .int .i64 fv.1, .int .i64 fv.2.1, .string fv.2.2, .slice none 0 0, .int .i64 tgt.1, .int .i64 tgt.2.1, .string tgt.2.2] CTy)) VTy #[.int .i64 0, .int .i64 0, .string ⟨#[]⟩]; rw [hW0, show (W.alloc (.cells #[.pointer (some ⟨fo, 0, none⟩), .int .i64 fv.1, .int .i64 fv.2.1, .string fv.2.2, .slice none 0 0, .int .i64 tgt.1, .int .i64 tgt.2.1, .string tgt.2.2] CTy)).heap.size = rb from by simp only [World.size_alloc]; omega] at h9; exact h9
 have HW0 := Veil.mk (And.intro hW0 (And.intro hcb (hrb)))
 have HBB := Veil.mk (And.intro bb (And.intro xcb (xrb)))
 have HLO : Veil (W.heap.size <= cb /\ W.heap.size <= rb) := ⟨by omega⟩
 clear hW0 bb hcb xcb hrb xrb
 have c4 : W0.cell? ⟨cb, 4, none⟩ = some (.slice none 0 0) := HBB.out.2.1.at_ 4
 have z0 : W0.cell? ⟨rb, 0, none⟩ = some (.int .i64 0) := HBB.out.2.2.at_ 0
 have z1 : W0.cell? ⟨rb, 1, none⟩ = some (.int .i64 0) := HBB.out.2.2.at_ 1
 have z2 : W0.cell? ⟨rb, 2, none⟩ = some (.string ⟨#[]⟩) := HBB.out.2.2.at_ 2
 have q0 := HBB.out.2.2.free 0
 have q1 := HBB.out.2.2.free 1
 have q2 := HBB.out.2.2.free 2
 go_enter Tryz.func219, Tryz.ntmps219
 go_upto_region 1 with (fail)
 rw [HW0.out.1, HW0.out.2.1, HW0.out.2.2]
 go_wp2
 have hr3 := ((HBB.out.2.2.put 0 (.int .i64 0)).put 1 (.int .i64 0)).put 2 (.string ⟨#[]⟩)
 have y0 := hr3.at_ 0
 have y1 := hr3.at_ 1
 have y2 := hr3.at_ 2
 have hk3 := ((HBB.out.1.setCell (p := ⟨rb, 0, none⟩) HLO.out.2 (.int .i64 0)).setCell (p := ⟨rb, 1, none⟩) HLO.out.2 (.int .i64 0)).setCell (p := ⟨rb, 2, none⟩) HLO.out.2 (.string ⟨#[]⟩)
 exact bodyPost_ret (v := valV zV) (by simp [results, Tryz.results219, go_sem, y0, y1, y2]) rfl ⟨rfl, hk3⟩
theorem MP.eachZ {cz : Bool} (H : MP W h A m f ts) (hat : ts[ia]? = some (TO.arz b cz ev)) (hel : EL W A ev n xs) (hl : ts.length < 100000) (fo : Nat) (fv tgt v : Vt) (args : Value)
  (HAR : Veil (∀ w9, Below W.heap.size W w9 -> Calls Tryz.prog 219 #[callV fo fv args tgt, .int .i64 0] w9 fun e w' => e = .returned (valV v) /\ Below w9.heap.size w9 w')) (HCA : Veil (∀ w9, Below W.heap.size W w9 -> Calls Tryz.prog 57 #[.pointer (some ⟨m, 0, none⟩), valV v] w9 fun e w' => e = .returned (.bool false) /\ Below w9.heap.size w9 w')) :
  Calls Tryz.prog 355 #[.pointer (some ⟨m, 0, none⟩), .pointer (some ⟨b, 0, none⟩), callV fo fv args tgt, .bool false] W fun e w' => e = .returned (.tuple #[valV (9, (ts.length : Int) + 1, ⟨#[]⟩), .int .i64 1]) /\ ∃ eb, MP w' h A m f ((fun eb => ts ++ [TO.plain eb 12 (f 6) (.slice none 0 0)]) eb) /\ Bk A W w' := by
 have HA : Veil (A <= W.heap.size) := ⟨Nat.le_of_lt H.mm.alt⟩
 obtain ⟨q, hq⟩ : ∃ q : Int, (ts.length : Int) + 1 = q := ⟨_, rfl⟩
 obtain ⟨ao, cap, rfl⟩ : ∃ ao cap, ev = .slice ao n cap := by
  rcases hel with ⟨e1, e2⟩ | ⟨g, cap, e1, _⟩
  ·exact ⟨none, 0, by rw [e1, e2]⟩
  ·exact ⟨_, _, e1⟩
 have HBX : Veil (Box W b 63 (objC 1 3 cz (.pointer none) (.slice ao n cap))) := ⟨H.mem_b (List.mem_of_getElem? hat) rfl⟩
 obtain ⟨cb, hcb⟩ : ∃ cb, W.heap.size = cb := ⟨_, rfl⟩
 obtain ⟨rb, hrb⟩ : ∃ rb, cb + 1 = rb := ⟨_, rfl⟩
 obtain ⟨W0, hW0⟩ : ∃ W0, ((W.alloc (.cells #[.pointer (some ⟨fo, 0, none⟩), .int .i64 fv.1, .int .i64 fv.2.1, .string fv.2.2, args, .int .i64 tgt.1, .int .i64 tgt.2.1, .string tgt.2.2] CTy)).alloc (.cells #[.int .i64 0, .int .i64 0, .string ⟨#[]⟩] VTy)) = W0 := ⟨_, rfl⟩
 have bb : Below W.heap.size W W0 := by rw [<- hW0]; exact (((Below.refl _ _).alloc (Nat.le_refl _) _).alloc (by simp only [World.size_alloc]; omega) _)
 have xcb : Box W0 cb CTy #[.pointer (some ⟨fo, 0, none⟩), .int .i64 fv.1, .int .i64 fv.2.1, .string fv.2.2, args, .int .i64 tgt.1, .int .i64 tgt.2.1, .string tgt.2.2] := by have h9 := ((Box.new W CTy #[.pointer (some ⟨fo, 0, none⟩), .int .i64 fv.1, .int .i64 fv.2.1, .string fv.2.2, args, .int .i64 tgt.1, .int .i64 tgt.2.1, .string tgt.2.2]).more (.cells #[.int .i64 0, .int .i64 0, .string ⟨#[]⟩] VTy)); rw [hW0, hcb] at h9; exact h9
 have xrb : Box W0 rb VTy #[.int .i64 0, .int .i64 0, .string ⟨#[]⟩] := by have h9 := Box.new (W.alloc (.cells #[.pointer (some ⟨fo, 0, none⟩), .int .i64 fv.1, .int .i64 fv.2.1, .string fv.2.2, args, .int .i64 tgt.1, .int .i64 tgt.2.1, .string tgt.2.2] CTy)) VTy #[.int .i64 0, .int .i64 0, .string ⟨#[]⟩]; rw [hW0, show (W.alloc (.cells #[.pointer (some ⟨fo, 0, none⟩), .int .i64 fv.1, .int .i64 fv.2.1, .string fv.2.2, args, .int .i64 tgt.1, .int .i64 tgt.2.1, .string tgt.2.2] CTy)).heap.size = rb from by simp only [World.size_alloc]; omega] at h9; exact h9
 have HW0 := Veil.mk (And.intro hW0 (And.intro hcb (hrb)))
 have HBB := Veil.mk (And.intro bb (And.intro xcb (xrb)))
 have HLO : Veil (W.heap.size <= cb /\ W.heap.size <= rb) := ⟨by omega⟩
 clear hW0 bb hcb xcb hrb xrb
 have HTY : Veil (∀ w9, Below W.heap.size W w9 -> Calls Tryz.prog 51 #[.pointer (some ⟨m, 0, none⟩), .string ⟨#[]⟩] w9 fun e w' => e = .returned (.tuple #[valV (9, q, ⟨#[]⟩), .int .i64 1]) /\ ∃ eb, MP w' h A m f ((fun eb => ts ++ [TO.plain eb 12 (f 6) (.slice none 0 0)]) eb) /\ Bk A w9 w') := ⟨fun w9 hb => by rw [<- hq]; exact (H.on hb).type hl⟩
 rw [hq]
 clear H hat hel hl hq
 go_enter_defers Tryz.func355, Tryz.ntmps355
 go_upto_region 1 with (fail)
 rw [HW0.out.1, HW0.out.2.1, HW0.out.2.2]
 refine wp_region_gen (.val (· = callV fo fv args tgt) :: .val (· = valV v) :: .val (· = .pointer (some ⟨b, 0, none⟩)) :: .val (· = .pointer (some ⟨b, 0, none⟩)) :: .val (· = .pointer (some ⟨b, 4, none⟩)) :: .val (· = .slice ao n cap) :: .val (· = .int .i64 (n : Int)) :: .box 28 #[.int .i64 0, .int .i64 0, .string ⟨#[]⟩] 8 1 :: .sto 7 1 :: .val (· = .int .i64 (n : Int)) :: [] : List Kd) [some 18, some 19, some 20, some 21, some 22, some 23, some 24, some 10, none, some 11] (curV' _ [some 18, some 19, some 20, some 21, some 22, some 23, some 24, some 10, none, some 11]) (by kernel_rfl) rfl rfl (puts_cur _ _) ?_ (by kernel_rfl) ?_
 ·refine GY (fun w' S => ?_) ?_
  ·obtain ⟨⟩ := n10 S.hu
   have hch := S.hI.below
   have hq9 := HBB.out.2.1.below hch
   have c0 : w'.cell? ⟨cb, 0, none⟩ = some (.pointer (some ⟨fo, 0, none⟩)) := hq9.at_ 0
   have c1 : w'.cell? ⟨cb, 1, none⟩ = some (.int .i64 fv.1) := hq9.at_ 1
   have c2 : w'.cell? ⟨cb, 2, none⟩ = some (.int .i64 fv.2.1) := hq9.at_ 2
   have c3 : w'.cell? ⟨cb, 3, none⟩ = some (.string fv.2.2) := hq9.at_ 3
   have c4 : w'.cell? ⟨cb, 4, none⟩ = some (args) := hq9.at_ 4
   have c5 : w'.cell? ⟨cb, 5, none⟩ = some (.int .i64 tgt.1) := hq9.at_ 5
   have c6 : w'.cell? ⟨cb, 6, none⟩ = some (.int .i64 tgt.2.1) := hq9.at_ 6
   have c7 : w'.cell? ⟨cb, 7, none⟩ = some (.string tgt.2.2) := hq9.at_ 7
   clear hq9
   clear hch
   rw [pin S.ha]
   go_simp
   exact S.k 0
  refine GY (fun w' S => ?_) ?_
  ·obtain ⟨⟩ := n10 S.hu
   obtain rfl := S.q 0
   have hch := S.hI.below
   have HA1 := Veil.mk (HAR.out w' (blw2 HBB.out.1 hch))
   clear hch
   rw [pin S.ha]
   go_simp
   go_at_call 219
   refine (HA1.out).mono ?_
   rintro e9 w9 ⟨rfl, hm9⟩
   go_simp
   exact S.kw 1 hm9
  refine GY (fun _ S => ?_) ?_
  ·obtain ⟨⟩ := n10 S.hu
   rw [pin S.ha]
   go_simp
   exact S.k 2
  refine GY (fun _ S => ?_) ?_
  ·obtain ⟨⟩ := n10 S.hu
   obtain rfl := S.q 2
   rw [pin S.ha]
   go_simp
   exact S.k 3
  refine GY (fun _ S => ?_) ?_
  ·obtain ⟨⟩ := n10 S.hu
   obtain rfl := S.q 3
   rw [pin S.ha]
   go_simp
   exact S.k 4
  refine GY (fun w' S => ?_) ?_
  ·obtain ⟨⟩ := n10 S.hu
   obtain rfl := S.q 4
   have hch := S.hI.below
   have b4 : w'.cell? ⟨b, 4, none⟩ = some (.slice ao n cap) := (HBX.out.below (blw2 HBB.out.1 hch)).at_ 4
   clear hch
   rw [pin S.ha]
   go_simp
   exact S.k 5
  refine GY (fun _ S => ?_) ?_
  ·obtain ⟨⟩ := n10 S.hu
   obtain rfl := S.q 5
   rw [pin S.ha]
   go_simp
   exact S.k 6
  refine GY (fun _ S => ?_) ?_
  ·obtain ⟨⟩ := n10 S.hu
   rw [pin S.ha]
   go_simp
   exact S.hK _ _ (gen_box S.hI S.hu S.hs 7 _ _ _ _ (by show 7 < 10; decide) (fit_of rfl) rfl S.h0 (by simp only [puts, setAll, List.set_cons_zero, List.set_cons_succ, List.setIfInBounds_toArray]))
  refine GY (fun w' S => ?_) ?_
  ·obtain ⟨_, u1, _, _, _, _, _, u7⟩ := n10 S.hu
   have hq1 := gen_after 7 (by kernel_rfl) S.hp
   have hq2 := gen_after 1 (by kernel_rfl) S.hp
   have e1 : u1 = valV v := S.hI.val 1 _ rfl hq2
   subst e1
   have hq := gen_sto S.hI S.hu S.hs 8 7 1 _ _ (by show 8 < 10; decide) (fit_of rfl) rfl rfl S.h0 hq1 hq2
   have HA9 := Veil.mk S.ha
   obtain ⟨g, hg, hx, hJ⟩ := hq
   have e7 : u7 = .pointer (some ⟨g, 0, none⟩) := hg
   subst e7
   clear hg
   have x0 : w'.cell? ⟨g, 0, none⟩ = some (.int .i64 0) := hx.at_ 0
   have x1 : w'.cell? ⟨g, 1, none⟩ = some (.int .i64 0) := hx.at_ 1
   have x2 : w'.cell? ⟨g, 2, none⟩ = some (.string ⟨#[]⟩) := hx.at_ 2
   have f0 := hx.free 0
   have f1 := hx.free 1
   have f2 := hx.free 2
   have HJ := Veil.mk hJ
   have HX := Veil.mk hx
   clear hJ hx
   rw [HA9.out]
   simp only [puts, setAll, List.setIfInBounds_toArray, List.set_cons_zero, List.set_cons_succ]
   go_simp
   exact S.hK _ _ (HJ.out _ _ _ _ (((HX.out.put 0 _).put 1 _).put 2 _) (touch3 _ _ _ _ _) (by simp only [puts, setAll, List.set_cons_zero, List.set_cons_succ, List.setIfInBounds_toArray]))
  refine GY (fun _ S => ?_) ?_
  ·obtain ⟨⟩ := n10 S.hu
   obtain rfl := S.q 6
   rw [pin S.ha]
   go_simp
   exact S.k 9
  exact Steps.nil
 ·intro us wE hus dd hD2 hJ
  obtain ⟨_, _, _, _, _, _, _, p7⟩ := n10 hus
  have hbE := hJ.below
  obtain rfl := hJ.q 0 hD2
  obtain rfl := hJ.q 1 hD2
  obtain rfl := hJ.q 2 hD2
  obtain rfl := hJ.q 3 hD2
  obtain rfl := hJ.q 4 hD2
  obtain rfl := hJ.q 5 hD2
  obtain rfl := hJ.q 6 hD2
  obtain rfl := hJ.q 9 hD2
  obtain ⟨g7, hg7, hlo7, hbx7⟩ := hJ.box 7 _ _ _ _ rfl (hD2 7 (by show 7 < 10; decide))
  rw [hD2 8 (by show 8 < 10; decide)] at hbx7
  replace hg7 : p7 = .pointer (some ⟨g7, 0, none⟩) := hg7
  subst hg7
  replace hbx7 : Box wE g7 28 (flat (valV v)) := hbx7
  clear hJ hD2
  have HBE := Veil.mk (And.intro (blw2 HBB.out.1 hbE) (HBB.out.2.2.below hbE))
  have HX7 := Veil.mk hbx7
  have n0 : wE.cell? ⟨g7, 0, none⟩ = some (.int .i64 v.1) := hbx7.at_ 0
  have n1 : wE.cell? ⟨g7, 1, none⟩ = some (.int .i64 v.2.1) := hbx7.at_ 1
  have n2 : wE.cell? ⟨g7, 2, none⟩ = some (.string v.2.2) := hbx7.at_ 2
  simp only [puts, setAll, List.setIfInBounds_toArray, List.set_cons_zero, List.set_cons_succ]
  have HCE := Veil.mk (HCA.out wE HBE.out.1)
  clear hbE hbx7 HAR HCA HBB
  go_upto_region 3 with (go_at_call 57; ((with_reducible refine HCE.out.mono ?_); rintro e w5 ⟨rfl, hb5⟩; have HB5 := Veil.mk (And.intro (blw2 HBE.out.1 hb5) (HBE.out.2.below hb5)); clear hb5))
  clear n0 n1 n2 HCE
  have HT5 := Veil.mk (HTY.out w5 HB5.out.1)
  clear HTY
  go_wp2_with (go_at_call 51; ((with_reducible refine HT5.out.mono ?_); rintro e w6 ⟨rfl, eb, hm6, hb6⟩; have HM6 := Veil.mk (And.intro (hb6.boxE HB5.out.2 (by decide)) (And.intro hm6 ((Bk.of_below HA.out HB5.out.1).trans hb6))); clear hm6 hb6; have z0 : w6.cell? ⟨rb, 0, none⟩ = some (.int .i64 0) := (HM6.out.1).at_ 0; have q0 := (HM6.out.1).free 0; have z1 : w6.cell? ⟨rb, 1, none⟩ = some (.int .i64 0) := (HM6.out.1).at_ 1; have q1 := (HM6.out.1).free 1; have z2 : w6.cell? ⟨rb, 2, none⟩ = some (.string ⟨#[]⟩) := (HM6.out.1).at_ 2; have q2 := (HM6.out.1).free 2))
  have hr3 := ((HM6.out.1.put 0 (.int .i64 9)).put 1 (.int .i64 q)).put 2 (.string ⟨#[]⟩)
  have y0 := hr3.at_ 0
  have y1 := hr3.at_ 1
  have y2 := hr3.at_ 2
  have hp3 := ((HM6.out.2.1.putv HM6.out.1.lab 0 (.int .i64 9)).putv (HM6.out.1.put 0 _).lab 1 (.int .i64 q)).putv ((HM6.out.1.put 0 _).put 1 _).lab 2 (.string ⟨#[]⟩)
  have hk3 := ((HM6.out.2.2.setv HLO.out.2 HA.out 0 (.int .i64 9)).setv HLO.out.2 HA.out 1 (.int .i64 q)).setv HLO.out.2 HA.out 2 (.string ⟨#[]⟩)
  exact ⟨(.tuple #[valV (9, q, ⟨#[]⟩), .int .i64 1]), by simp [results, Tryz.results355, go_sem, y0, y1, y2], rfl, by first | exact ⟨eb, hp3, hk3⟩ | exact ⟨⟨eb, hp3⟩, hk3⟩⟩
end
theorem place_undef (W : World) (m : Nat) (n o : Int) : Calls Tryz.prog 370 #[.pointer (some ⟨m, 0, none⟩), valV zV, .int .i64 n, .int .i64 o] W fun e w' => e = .returned (.tuple #[.int .i64 o, valV zV, .int .i64 0]) /\ Below W.heap.size W w' := by
 obtain ⟨tb, htb⟩ : ∃ tb, W.heap.size = tb := ⟨_, rfl⟩
 obtain ⟨rb, hrb⟩ : ∃ rb, tb + 1 = rb := ⟨_, rfl⟩
 obtain ⟨W0, hW0⟩ : ∃ W0, ((W.alloc (.cells #[.int .i64 0, .int .i64 0, .string ⟨#[]⟩] VTy)).alloc (.cells #[.int .i64 0, .int .i64 0, .string ⟨#[]⟩] VTy)) = W0 := ⟨_, rfl⟩
 have bb : Below W.heap.size W W0 := by rw [<- hW0]; exact (((Below.refl _ _).alloc (Nat.le_refl _) _).alloc (by simp only [World.size_alloc]; omega) _)
 have xtb : Box W0 tb VTy #[.int .i64 0, .int .i64 0, .string ⟨#[]⟩] := by have h9 := ((Box.new W VTy #[.int .i64 0, .int .i64 0, .string ⟨#[]⟩]).more (.cells #[.int .i64 0, .int .i64 0, .string ⟨#[]⟩] VTy)); rw [hW0, htb] at h9; exact h9
 have xrb : Box W0 rb VTy #[.int .i64 0, .int .i64 0, .string ⟨#[]⟩] := by have h9 := Box.new (W.alloc (.cells #[.int .i64 0, .int .i64 0, .string ⟨#[]⟩] VTy)) VTy #[.int .i64 0, .int .i64 0, .string ⟨#[]⟩]; rw [hW0, show (W.alloc (.cells #[.int .i64 0, .int .i64 0, .string ⟨#[]⟩] VTy)).heap.size = rb from by simp only [World.size_alloc]; omega] at h9; exact h9
 have HW0 := Veil.mk (And.intro hW0 (And.intro htb (hrb)))
 have HBB := Veil.mk (And.intro bb (And.intro xtb (xrb)))
 have HLO : Veil (W.heap.size <= tb /\ W.heap.size <= rb) := ⟨by omega⟩
 clear hW0 bb htb xtb hrb xrb
 have c0 : W0.cell? ⟨tb, 0, none⟩ = some (.int .i64 0) := HBB.out.2.1.at_ 0
 have c1 : W0.cell? ⟨tb, 1, none⟩ = some (.int .i64 0) := HBB.out.2.1.at_ 1
 have c2 : W0.cell? ⟨tb, 2, none⟩ = some (.string ⟨#[]⟩) := HBB.out.2.1.at_ 2
 have z0 : W0.cell? ⟨rb, 0, none⟩ = some (.int .i64 0) := HBB.out.2.2.at_ 0
 have z1 : W0.cell? ⟨rb, 1, none⟩ = some (.int .i64 0) := HBB.out.2.2.at_ 1
 have z2 : W0.cell? ⟨rb, 2, none⟩ = some (.string ⟨#[]⟩) := HBB.out.2.2.at_ 2
 have q0 := HBB.out.2.2.free 0
 have q1 := HBB.out.2.2.free 1
 have q2 := HBB.out.2.2.free 2
 go_enter Tryz.func370, Tryz.ntmps370
 go_upto_region 1 with (fail)
 rw [HW0.out.1, HW0.out.2.1, HW0.out.2.2]
 go_upto_region 2 with (fail)
 go_region
 go_wp2
 have hr3 := ((HBB.out.2.2.put 0 (.int .i64 0)).put 1 (.int .i64 0)).put 2 (.string ⟨#[]⟩)
 have y0 := hr3.at_ 0
 have y1 := hr3.at_ 1
 have y2 := hr3.at_ 2
 have hk3 := ((HBB.out.1.setCell (p := ⟨rb, 0, none⟩) HLO.out.2 (.int .i64 0)).setCell (p := ⟨rb, 1, none⟩) HLO.out.2 (.int .i64 0)).setCell (p := ⟨rb, 2, none⟩) HLO.out.2 (.string ⟨#[]⟩)
 have hk4 : ∀ k, Below W.heap.size W (((((W0.setCell ⟨rb, 0, none⟩ (.int .i64 0)).setCell ⟨rb, 1, none⟩ (.int .i64 0)).setCell ⟨rb, 2, none⟩ (.string ⟨#[]⟩))).drewN k) := fun k => hk3.trans ⟨rfl, rfl, rfl, Nat.le_refl _, fun _ _ => rfl⟩
 exact bodyPost_ret (v := .tuple #[.int .i64 o, valV zV, .int .i64 0]) (by simp [results, Tryz.results370, go_sem, y0, y1, y2]) rfl ⟨rfl, by first | exact hk3 | exact hk4 _⟩
theorem val_con (w : World) : Calls Tryz.prog 44 #[.string ⟨#[99, 111, 110, 115, 116, 114, 117, 99, 116, 111, 114]⟩] w fun e w' => e = .returned (valV kCon) /\ Below w.heap.size w w' :=
 W.val_const _ [0, 99, 0, 111, 0, 110, 0, 115, 0, 116, 0, 114, 0, 117, 0, 99, 0, 116, 0, 111, 0, 114] (by decide) (show Hid _ from (by decide +kernel : W.ofB ⟨#[99, 111, 110, 115, 116, 114, 117, 99, 116, 111, 114]⟩ = [0, 99, 0, 111, 0, 110, 0, 115, 0, 116, 0, 114, 0, 117, 0, 99, 0, 116, 0, 111, 0, 114])) w
theorem look_con : lookO e2W kCon = ((9, 23, ⟨#[]⟩), 5, true) := by kernel_rfl
theorem ne_con : NE 1 kCon := .inr (.inr ⟨rfl, _, rfl, by decide +kernel, by decide +kernel, by decide +kernel⟩)
section
variable {W : World} {h A m : Nat} {f : MF} {ts : List TO}
theorem MP.con_of (H : MP W h A m f ts) (hl : ts.length < 100000) {ia : Nat} {t t2 : TO} (ht : ts[ia]? = some t) (hcl : t.cl = 1) (hpr : t.proto = 3) (hO : t.O = []) (ht2 : ts[2]? = some t2) (hp2 : PlT t2 1 e2W) :
  Calls Tryz.prog 21 #[.pointer (some ⟨m, 0, none⟩), valV (9, (ia : Int) + 1, ⟨#[]⟩), .string ⟨#[99, 111, 110, 115, 116, 114, 117, 99, 116, 111, 114]⟩] W fun e w' => e = .returned (.tuple #[valV (9, 23, ⟨#[]⟩), .int .i64 0]) /\ Below W.heap.size W w' := by
 obtain ⟨p1, p2, p3, p4, p5, p6⟩ := hp2
 refine member_w W m (9, (ia : Int) + 1, ⟨#[]⟩) kCon (9, 23, ⟨#[]⟩) _ ⟨fun W' => val_con W'⟩ ⟨fun W' hb => ?_⟩
 refine getkey_w W' m _ _ _ rfl ⟨fun W2 hb2 => ?_⟩
 have hb3 := hb.trans (hb2.mono hb.size)
 have H2 := H.on hb3
 refine getfrom_w W2 m h _ 5 true _ _ _ (by decide) (H2.mm.mb.at_ 0) H2.mm.mb.lt ⟨fun W4 hb4 => ?_⟩
 have H4 := H2.on hb4
 have ho1 := H4.ownT ht (by rw [hcl]; rfl) kCon (by rw [hcl]; exact ne_con) rfl (by decide)
 have ho2 := H4.ownT ht2 (by rw [p1]; rfl) kCon (by rw [p1]; exact ne_con) rfl (by decide)
 rw [hO] at ho1
 rw [p6, look_con] at ho2
 exact H4.find2 (by omega) ia 2 t t2 ht ht2 (by rw [hcl]; rfl) (by rw [p1]; rfl) (by rw [hpr]; rfl) p2 _ _ _ ho1 ho2
theorem MP.maker_of (H : MP W h A m f ts) (hl : ts.length < 100000) {ia : Nat} {t t2 : TO} (ht : ts[ia]? = some t) (hcl : t.cl = 1) (hpr : t.proto = 3) (hO : t.O = []) (ht2 : ts[2]? = some t2) (hp2 : PlT t2 1 e2W) :
  Calls Tryz.prog 368 #[.pointer (some ⟨m, 0, none⟩), valV (9, (ia : Int) + 1, ⟨#[]⟩)] W fun e w' => e = .returned (.tuple #[valV (9, 23, ⟨#[]⟩), .int .i64 0]) /\ Below W.heap.size W w' := by
 obtain ⟨fv, hfv⟩ : ∃ fv : Vt, ((9, (ia : Int) + 1, ⟨#[]⟩) : Vt) = fv := ⟨_, rfl⟩
 obtain ⟨tb, htb⟩ : ∃ tb, W.heap.size = tb := ⟨_, rfl⟩
 obtain ⟨rb, hrb⟩ : ∃ rb, tb + 1 = rb := ⟨_, rfl⟩
 obtain ⟨W0, hW0⟩ : ∃ W0, ((W.alloc (.cells #[.int .i64 fv.1, .int .i64 fv.2.1, .string fv.2.2] VTy)).alloc (.cells #[.int .i64 0, .int .i64 0, .string ⟨#[]⟩] VTy)) = W0 := ⟨_, rfl⟩
 have bb : Below W.heap.size W W0 := by rw [<- hW0]; exact (((Below.refl _ _).alloc (Nat.le_refl _) _).alloc (by simp only [World.size_alloc]; omega) _)
 have xtb : Box W0 tb VTy #[.int .i64 fv.1, .int .i64 fv.2.1, .string fv.2.2] := by have h9 := ((Box.new W VTy #[.int .i64 fv.1, .int .i64 fv.2.1, .string fv.2.2]).more (.cells #[.int .i64 0, .int .i64 0, .string ⟨#[]⟩] VTy)); rw [hW0, htb] at h9; exact h9
 have xrb : Box W0 rb VTy #[.int .i64 0, .int .i64 0, .string ⟨#[]⟩] := by have h9 := Box.new (W.alloc (.cells #[.int .i64 fv.1, .int .i64 fv.2.1, .string fv.2.2] VTy)) VTy #[.int .i64 0, .int .i64 0, .string ⟨#[]⟩]; rw [hW0, show (W.alloc (.cells #[.int .i64 fv.1, .int .i64 fv.2.1, .string fv.2.2] VTy)).heap.size = rb from by simp only [World.size_alloc]; omega] at h9; exact h9
 have HW0 := Veil.mk (And.intro hW0 (And.intro htb (hrb)))
 have HBB := Veil.mk (And.intro bb (And.intro xtb (xrb)))
 have HLO : Veil (W.heap.size <= tb /\ W.heap.size <= rb) := ⟨by omega⟩
 clear hW0 bb htb xtb hrb xrb
 have HMB := Veil.mk ((H.on HBB.out.1).con_of hl ht hcl hpr hO ht2 hp2)
 rw [hfv] at HMB ⊢
 clear H hl ht hcl hpr hO ht2 hp2 hfv
 have c0 : W0.cell? ⟨tb, 0, none⟩ = some (.int .i64 fv.1) := HBB.out.2.1.at_ 0
 have c1 : W0.cell? ⟨tb, 1, none⟩ = some (.int .i64 fv.2.1) := HBB.out.2.1.at_ 1
 have c2 : W0.cell? ⟨tb, 2, none⟩ = some (.string fv.2.2) := HBB.out.2.1.at_ 2
 go_enter Tryz.func368, Tryz.ntmps368
 go_upto_region 1 with (fail)
 rw [HW0.out.1, HW0.out.2.1, HW0.out.2.2]
 go_upto_region 2 with (go_at_call 21; ((with_reducible refine HMB.out.mono ?_); rintro e w1 ⟨rfl, hb1⟩; have HB1 := Veil.mk hb1; clear hb1))
 obtain ⟨cb, hcb⟩ : ∃ cb, w1.heap.size = cb := ⟨_, rfl⟩
 obtain ⟨w2, hw2⟩ : ∃ w2, w1.alloc (.cells #[.int .i64 9, .int .i64 23, .string ⟨#[]⟩] VTy) = w2 := ⟨_, rfl⟩
 have bx := Box.new w1 VTy #[.int .i64 9, .int .i64 23, .string ⟨#[]⟩]
 have bl : Below w1.heap.size w1 (w1.alloc (.cells #[.int .i64 9, .int .i64 23, .string ⟨#[]⟩] VTy)) := (Below.refl _ _).alloc (Nat.le_refl _) _
 rw [hw2] at bx bl ⊢
 rw [hcb] at bx ⊢
 have hb2 := blw2 HB1.out bl
 have HB2 := Veil.mk (And.intro (blw2 HBB.out.1 hb2) (And.intro (HBB.out.2.2.below hb2) bx))
 clear c0 c1 c2 bx bl hb2 hcb hw2 HMB HBB HB1
 have n0 : w2.cell? ⟨cb, 0, none⟩ = some (.int .i64 9) := HB2.out.2.2.at_ 0
 have n1 : w2.cell? ⟨cb, 1, none⟩ = some (.int .i64 23) := HB2.out.2.2.at_ 1
 have n2 : w2.cell? ⟨cb, 2, none⟩ = some (.string ⟨#[]⟩) := HB2.out.2.2.at_ 2
 have HIO := Veil.mk (isobj_any (9, 23, ⟨#[]⟩) w2)
 go_upto_region 4 with (go_at_call 46; ((with_reducible refine HIO.out.mono ?_); rintro e w3 ⟨rfl, hb3⟩; have HB3 := Veil.mk hb3; clear hb3))
 have HB4 := Veil.mk (And.intro (blw2 HB2.out.1 HB3.out) (And.intro (HB2.out.2.1.below HB3.out) (HB2.out.2.2.below HB3.out)))
 clear n0 n1 n2 HIO HB2 HB3
 have n0 : w3.cell? ⟨cb, 0, none⟩ = some (.int .i64 9) := HB4.out.2.2.at_ 0
 have n1 : w3.cell? ⟨cb, 1, none⟩ = some (.int .i64 23) := HB4.out.2.2.at_ 1
 have n2 : w3.cell? ⟨cb, 2, none⟩ = some (.string ⟨#[]⟩) := HB4.out.2.2.at_ 2
 have z0 : w3.cell? ⟨rb, 0, none⟩ = some (.int .i64 0) := HB4.out.2.1.at_ 0
 have z1 : w3.cell? ⟨rb, 1, none⟩ = some (.int .i64 0) := HB4.out.2.1.at_ 1
 have z2 : w3.cell? ⟨rb, 2, none⟩ = some (.string ⟨#[]⟩) := HB4.out.2.1.at_ 2
 have q0 := HB4.out.2.1.free 0
 have q1 := HB4.out.2.1.free 1
 have q2 := HB4.out.2.1.free 2
 go_wp2
 have hr3 := ((HB4.out.2.1.put 0 (.int .i64 9)).put 1 (.int .i64 23)).put 2 (.string ⟨#[]⟩)
 have y0 := hr3.at_ 0
 have y1 := hr3.at_ 1
 have y2 := hr3.at_ 2
 have hk3 := ((HB4.out.1.setCell (p := ⟨rb, 0, none⟩) HLO.out.2 (.int .i64 9)).setCell (p := ⟨rb, 1, none⟩) HLO.out.2 (.int .i64 23)).setCell (p := ⟨rb, 2, none⟩) HLO.out.2 (.string ⟨#[]⟩)
 exact bodyPost_ret (v := .tuple #[valV (9, 23, ⟨#[]⟩), .int .i64 0]) (by simp [results, Tryz.results368, go_sem, y0, y1, y2]) rfl ⟨rfl, hk3⟩
theorem elem_z {b n i g cap : Nat} {cz : Bool} {x : Vt} (fv : Vt) (hbx : Box W b 63 (objC 1 3 cz (.pointer none) (.slice (some ⟨g, 0, none⟩) n cap))) (hin : i < n) (hx : x.1 ≠ 10) (hg : g < W.heap.size) (h0 : W.cell? ⟨g, i * 3, none⟩ = some (.int .i64 x.1)) (h1 : W.cell? ⟨g, i * 3 + 1, none⟩ = some (.int .i64 x.2.1)) (h2 : W.cell? ⟨g, i * 3 + 2, none⟩ = some (.string x.2.2)) :
  Calls Tryz.prog 372 #[.pointer (some ⟨m, 0, none⟩), valV fv, .pointer (some ⟨b, 0, none⟩), .int .i64 (i : Int)] W fun e w' => e = .returned (.tuple #[valV x, .int .i64 0]) /\ Below W.heap.size W w' := by
 obtain ⟨tb, htb⟩ : ∃ tb, W.heap.size = tb := ⟨_, rfl⟩
 obtain ⟨rb, hrb⟩ : ∃ rb, tb + 1 = rb := ⟨_, rfl⟩
 obtain ⟨W0, hW0⟩ : ∃ W0, ((W.alloc (.cells #[.int .i64 fv.1, .int .i64 fv.2.1, .string fv.2.2] VTy)).alloc (.cells #[.int .i64 0, .int .i64 0, .string ⟨#[]⟩] VTy)) = W0 := ⟨_, rfl⟩
 have bb : Below W.heap.size W W0 := by rw [<- hW0]; exact (((Below.refl _ _).alloc (Nat.le_refl _) _).alloc (by simp only [World.size_alloc]; omega) _)
 have xtb : Box W0 tb VTy #[.int .i64 fv.1, .int .i64 fv.2.1, .string fv.2.2] := by have h9 := ((Box.new W VTy #[.int .i64 fv.1, .int .i64 fv.2.1, .string fv.2.2]).more (.cells #[.int .i64 0, .int .i64 0, .string ⟨#[]⟩] VTy)); rw [hW0, htb] at h9; exact h9
 have xrb : Box W0 rb VTy #[.int .i64 0, .int .i64 0, .string ⟨#[]⟩] := by have h9 := Box.new (W.alloc (.cells #[.int .i64 fv.1, .int .i64 fv.2.1, .string fv.2.2] VTy)) VTy #[.int .i64 0, .int .i64 0, .string ⟨#[]⟩]; rw [hW0, show (W.alloc (.cells #[.int .i64 fv.1, .int .i64 fv.2.1, .string fv.2.2] VTy)).heap.size = rb from by simp only [World.size_alloc]; omega] at h9; exact h9
 have HW0 := Veil.mk (And.intro hW0 (And.intro htb (hrb)))
 have HBB := Veil.mk (And.intro bb (And.intro xtb (xrb)))
 have HLO : Veil (W.heap.size <= tb /\ W.heap.size <= rb) := ⟨by omega⟩
 clear hW0 bb htb xtb hrb xrb
 have o4 : W0.cell? ⟨b, 4, none⟩ = some (.slice (some ⟨g, 0, none⟩) n cap) := (hbx.below HBB.out.1).at_ 4
 have k0 : W0.cell? ⟨g, i * 3, none⟩ = some (.int .i64 x.1) := (HBB.out.1.cell (p := ⟨g, i * 3, none⟩) hg).trans h0
 have k1 : W0.cell? ⟨g, i * 3 + 1, none⟩ = some (.int .i64 x.2.1) := (HBB.out.1.cell (p := ⟨g, i * 3 + 1, none⟩) hg).trans h1
 have k2 : W0.cell? ⟨g, i * 3 + 2, none⟩ = some (.string x.2.2) := (HBB.out.1.cell (p := ⟨g, i * 3 + 2, none⟩) hg).trans h2
 have hi0 : (0 : Int) <= (i : Int) := by omega
 have hi1 : (i : Int) < (n : Int) := by omega
 have hx' : (x.1 = 10) = False := by simpa using hx
 have hx2 : (x.1 == 10) = false := by simpa using hx
 have z0 : W0.cell? ⟨rb, 0, none⟩ = some (.int .i64 0) := HBB.out.2.2.at_ 0
 have z1 : W0.cell? ⟨rb, 1, none⟩ = some (.int .i64 0) := HBB.out.2.2.at_ 1
 have z2 : W0.cell? ⟨rb, 2, none⟩ = some (.string ⟨#[]⟩) := HBB.out.2.2.at_ 2
 have q0 := HBB.out.2.2.free 0
 have q1 := HBB.out.2.2.free 1
 have q2 := HBB.out.2.2.free 2
 clear hbx hg h0 h1 h2
 go_enter Tryz.func372, Tryz.ntmps372
 go_upto_region 1 with (fail)
 rw [HW0.out.1, HW0.out.2.1, HW0.out.2.2]
 go_wp2
 have hr3 := ((HBB.out.2.2.put 0 (.int .i64 x.1)).put 1 (.int .i64 x.2.1)).put 2 (.string x.2.2)
 have y0 := hr3.at_ 0
 have y1 := hr3.at_ 1
 have y2 := hr3.at_ 2
 have hk3 := ((HBB.out.1.setCell (p := ⟨rb, 0, none⟩) HLO.out.2 (.int .i64 x.1)).setCell (p := ⟨rb, 1, none⟩) HLO.out.2 (.int .i64 x.2.1)).setCell (p := ⟨rb, 2, none⟩) HLO.out.2 (.string x.2.2)
 exact bodyPost_ret (v := .tuple #[valV x, .int .i64 0]) (by simp [results, Tryz.results372, go_sem, y0, y1, y2]) rfl ⟨rfl, hk3⟩
end
def lsX (xs : Nat -> Vt) (n : Nat) : List Vt := (List.range n).map xs
theorem lsX_len (xs : Nat -> Vt) (n : Nat) : (lsX xs n).length = n := by simp [lsX]
theorem lsX_at (xs : Nat -> Vt) (n j : Nat) (h : j < n) : (lsX xs n)[j]? = some (xs j) := by simp [lsX, h]
structure SL (W : World) (h A m : Nat) (f : MF) (ts : List TO) (vs : List Vt) (Bo : Nat) (j : Nat) (rv : Value) (wr : World) : Prop where
 mp : MP wr h A m { f with st := f.st + (j : Int) } ts
 bk : Bk A W wr
 row : wr.ownsRow Bo VTy 3 rv j (flatV (vs.take j))
 sz : Bo <= wr.heap.size
 jl : j <= vs.length
theorem SL.next {W wr w2 w8 w9 : World} {h A m Bo j : Nat} {f : MF} {ts : List TO} {vs : List Vt} {rv : Value} {v : Vt} (H : SL W h A m f ts vs Bo j rv wr) (hA : A <= W.heap.size) (hWB : W.heap.size <= Bo) (hv : vs[j]? = some v) (hm2 : MP w2 h A m { f with st := f.st + (j : Int) + 1 } ts) (hb2 : Bk A wr w2) (hb8 : Below w2.heap.size w2 w8) {g cap : Nat}
  (hown : w9.ownsRow Bo VTy 3 (.slice (some ⟨g, 0, none⟩) (j + 1) cap) (j + 1) (flatV (vs.take j) ++ [.int .i64 v.1, .int .i64 v.2.1, .string v.2.2])) (hg : (w8.alloc (.cells #[.int .i64 v.1, .int .i64 v.2.1, .string v.2.2] VTy)).grownBy w9 rv.ownBlock) :
  SL W h A m f ts vs Bo (j + 1) (.slice (some ⟨g, 0, none⟩) (j + 1) cap) w9 := by
 have hrow8 := own_below (own_stay H.row (fun b c _ h2 => hb2.boxE h2 (by decide))) hb8
 have ht : Touch (fun k => rv.ownBlock = some k) w8 w9 := (Touch.of_below ((Below.refl _ _).alloc (Nat.le_refl _) _)).trans (Touch.of_grown hg (fun k hk => hk))
 have hlt : j < vs.length := (List.getElem?_eq_some_iff.1 hv).1
 have h2 := hb2.bel.size
 have h28 := hb8.size
 have h89 := ht.size
 have hk8 : Bk A W w8 := (H.bk.trans hb2).trans (Bk.of_below (Nat.le_trans hA (Nat.le_trans H.bk.bel.size h2)) hb8)
 have e1 : f.st + ((j + 1 : Nat) : Int) = f.st + (j : Int) + 1 := by omega
 refine ⟨?_, ⟨hk8.bel.trans (ht.below (Nat.le_trans hA hk8.bel.size) (fun k hk => by have := (own_lt hrow8 k hk).1; omega)), fun k e he hl => ?_⟩, ?_, by have := H.sz; omega, hlt⟩
 ·rw [e1]
  exact (hm2.on hb8).touchV ht (fun k hk => ⟨VTy, by decide, own_lab hrow8 k hk⟩)
 ·have hkl := lab_lt hl
  have h9 := hk8.kv k e he hl
  rw [<- h9]
  exact ht.block k (Nat.lt_of_lt_of_le hkl hk8.bel.size) (fun hk => by have := (own_lt hrow8 k hk).1; omega)
 ·have e : flatV (vs.take (j + 1)) = flatV (vs.take j) ++ [.int .i64 v.1, .int .i64 v.2.1, .string v.2.2] := by
   rw [List.take_add_one, hv]
   unfold flatV
   rw [List.flatMap_append]
   rfl
  rw [e]
  exact hown
section
variable {W : World} {h A m ia b n : Nat} {f : MF} {ts : List TO} {ev : Value} {xs : Nat -> Vt} {t2 : TO}
theorem MP.sliceZ {cz : Bool} (H : MP W h A m f ts) (hat : ts[ia]? = some (TO.arz b cz ev)) (hel : EL W A ev n xs) (hx : ∀ j, j < n -> (xs j).1 ≠ 10) (hn : n <= 1000) (ht2 : ts[2]? = some t2) (hp2 : PlT t2 1 e2W) (hl : ts.length < 100000) (hov : f.ov = false) (hs0 : 0 <= f.st) (hs1 : f.st + (n : Int) < 4194304) (fo : Nat) (tgt : Vt) :
  Calls Tryz.prog 358 #[.pointer (some ⟨m, 0, none⟩), .pointer (some ⟨b, 0, none⟩), callV fo (9, (ia : Int) + 1, ⟨#[]⟩) (.slice none 0 0) tgt] W fun e w' => e = .returned (.tuple #[valV (9, (ts.length : Int) + 1, ⟨#[]⟩), .int .i64 0]) /\ ∃ b2 ev2, MP w' h A m { f with st := f.st + (n : Int) } (ts ++ [TO.arr b2 (f 2) ev2]) /\ RowE w' A ev2 (lsX xs n) /\ Bk A W w' /\ ∀ ad k c, ev2 = .slice (some ad) k c -> W.heap.size <= ad.block := by
 obtain ⟨fv, hfv⟩ : ∃ fv : Vt, ((9, (ia : Int) + 1, ⟨#[]⟩) : Vt) = fv := ⟨_, rfl⟩
 obtain ⟨q, hq⟩ : ∃ q : Int, (ts.length : Int) + 1 = q := ⟨_, rfl⟩
 obtain ⟨vs, hvs⟩ : ∃ vs : List Vt, lsX xs n = vs := ⟨_, rfl⟩
 have hvl : vs.length = n := by rw [<- hvs]; exact lsX_len xs n
 have HVA : Veil (∀ j, j < n -> vs[j]? = some (xs j)) := ⟨fun j hj => by rw [<- hvs]; exact lsX_at xs n j hj⟩
 have HA : Veil (A <= W.heap.size) := ⟨Nat.le_of_lt H.mm.alt⟩
 obtain ⟨ao, cap, rfl⟩ : ∃ ao cap, ev = .slice ao n cap := by
  rcases hel with ⟨e1, e2⟩ | ⟨g, cap, e1, _⟩
  ·exact ⟨none, 0, by rw [e1, e2]⟩
  ·exact ⟨_, _, e1⟩
 have HBX : Veil (Box W b 63 (objC 1 3 cz (.pointer none) (.slice ao n cap))) := ⟨H.mem_b (List.mem_of_getElem? hat) rfl⟩
 obtain ⟨cb, hcb⟩ : ∃ cb, W.heap.size = cb := ⟨_, rfl⟩
 obtain ⟨rb, hrb⟩ : ∃ rb, cb + 1 = rb := ⟨_, rfl⟩
 obtain ⟨W0, hW0⟩ : ∃ W0, ((W.alloc (.cells #[.pointer (some ⟨fo, 0, none⟩), .int .i64 fv.1, .int .i64 fv.2.1, .string fv.2.2, .slice none 0 0, .int .i64 tgt.1, .int .i64 tgt.2.1, .string tgt.2.2] CTy)).alloc (.cells #[.int .i64 0, .int .i64 0, .string ⟨#[]⟩] VTy)) = W0 := ⟨_, rfl⟩
 have bb : Below W.heap.size W W0 := by rw [<- hW0]; exact (((Below.refl _ _).alloc (Nat.le_refl _) _).alloc (by simp only [World.size_alloc]; omega) _)
 have xcb : Box W0 cb CTy #[.pointer (some ⟨fo, 0, none⟩), .int .i64 fv.1, .int .i64 fv.2.1, .string fv.2.2, .slice none 0 0, .int .i64 tgt.1, .int .i64 tgt.2.1, .string tgt.2.2] := by have h9 := ((Box.new W CTy #[.pointer (some ⟨fo, 0, none⟩), .int .i64 fv.1, .int .i64 fv.2.1, .string fv.2.2, .slice none 0 0, .int .i64 tgt.1, .int .i64 tgt.2.1, .string tgt.2.2]).more (.cells #[.int .i64 0, .int .i64 0, .string ⟨#[]⟩] VTy)); rw [hW0, hcb] at h9; exact h9
 have xrb : Box W0 rb VTy #[.int .i64 0, .int .i64 0, .string ⟨#[]⟩] := by have h9 := Box.new (W.alloc (.cells #[.pointer (some ⟨fo, 0, none⟩), .int .i64 fv.1, .int .i64 fv.2.1, .string fv.2.2, .slice none 0 0, .int .i64 tgt.1, .int .i64 tgt.2.1, .string tgt.2.2] CTy)) VTy #[.int .i64 0, .int .i64 0, .string ⟨#[]⟩]; rw [hW0, show (W.alloc (.cells #[.pointer (some ⟨fo, 0, none⟩), .int .i64 fv.1, .int .i64 fv.2.1, .string fv.2.2, .slice none 0 0, .int .i64 tgt.1, .int .i64 tgt.2.1, .string tgt.2.2] CTy)).heap.size = rb from by simp only [World.size_alloc]; omega] at h9; exact h9
 have HW0 := Veil.mk (And.intro hW0 (And.intro hcb (hrb)))
 have HBB := Veil.mk (And.intro bb (And.intro xcb (xrb)))
 have HLO : Veil (W.heap.size <= cb /\ W.heap.size <= rb) := ⟨by omega⟩
 clear hW0 bb hcb xcb hrb xrb
 have HMK : Veil (∀ w9, Below W.heap.size W w9 -> Calls Tryz.prog 368 #[.pointer (some ⟨m, 0, none⟩), valV fv] w9 fun e w' => e = .returned (.tuple #[valV (9, 23, ⟨#[]⟩), .int .i64 0]) /\ Below w9.heap.size w9 w') := ⟨fun w9 hb => by rw [<- hfv]; exact (H.on hb).maker_of hl hat rfl rfl rfl ht2 hp2⟩
 have HMP : Veil (MP W h A m f ts) := ⟨H⟩
 have HEL : Veil (∀ j, j < n -> ∃ g, ao = some ⟨g, 0, none⟩ /\ g < W.heap.size /\ Lab W g VTy /\ W.cell? ⟨g, j * 3, none⟩ = some (.int .i64 (xs j).1) /\ W.cell? ⟨g, j * 3 + 1, none⟩ = some (.int .i64 (xs j).2.1) /\ W.cell? ⟨g, j * 3 + 2, none⟩ = some (.string (xs j).2.2)) := ⟨fun j hj => by
  rcases hel with ⟨e1, e2⟩ | ⟨g, c, e1, h9⟩
  ·omega
  ·injection e1 with e1 e2 e3
   have h8 := h9.cell j (by have := h9.le; omega)
   exact ⟨g, e1, h9.lt, h9.lab, h8.1, h8.2.1, h8.2.2⟩⟩
 have HNX := Veil.mk (And.intro hx (And.intro hn (And.intro hl (And.intro hov (And.intro hs0 (And.intro hs1 (And.intro hvl hq)))))))
 have HAT := Veil.mk hat
 rw [hfv, hq, hvs]
 clear H hat hel hx hn ht2 hp2 hl hov hs0 hs1 hfv hq hvs hvl
 go_enter Tryz.func358, Tryz.ntmps358
 go_upto_region 1 with (fail)
 rw [HW0.out.1, HW0.out.2.1, HW0.out.2.2]
 refine wp_region_gen (.val (· = .pointer (some ⟨m, 0, none⟩)) :: .val (· = callV fo fv (.slice none 0 0) tgt) :: .val (· = valV zV) :: .val (· = .pointer (some ⟨b, 0, none⟩)) :: .val (· = .pointer (some ⟨b, 0, none⟩)) :: .val (· = .pointer (some ⟨b, 4, none⟩)) :: .val (· = .slice ao n cap) :: .val (· = .int .i64 (n : Int)) :: .val (· = (.tuple #[.int .i64 0, valV zV, .int .i64 0])) :: .val (· = (.tuple #[.int .i64 0, valV zV, .int .i64 0])) :: .val (· = .int .i64 0) :: .val (· = valV zV) :: .val (· = .int .i64 0) :: .box 28 #[.int .i64 0, .int .i64 0, .string ⟨#[]⟩] 15 11 :: .val (· = .int .i64 0) :: .sto 13 11 :: .val (· = .int .i64 0) :: [] : List Kd) [some 19, some 20, some 21, some 22, some 23, some 24, some 25, some 26, some 27, some 18, some 28, some 29, some 30, some 9, some 8, none, some 10] (curV' _ [some 19, some 20, some 21, some 22, some 23, some 24, some 25, some 26, some 27, some 18, some 28, some 29, some 30, some 9, some 8, none, some 10]) (by kernel_rfl) rfl rfl (puts_cur _ _) ?_ (by kernel_rfl) ?_
 ·refine GY (fun _ S => ?_) ?_
  ·obtain ⟨⟩ := n17 S.hu
   rw [pin S.ha]
   go_simp
   exact S.k 0
  refine GY (fun w' S => ?_) ?_
  ·obtain ⟨⟩ := n17 S.hu
   have hch := S.hI.below
   have hq9 := HBB.out.2.1.below hch
   have c0 : w'.cell? ⟨cb, 0, none⟩ = some (.pointer (some ⟨fo, 0, none⟩)) := hq9.at_ 0
   have c1 : w'.cell? ⟨cb, 1, none⟩ = some (.int .i64 fv.1) := hq9.at_ 1
   have c2 : w'.cell? ⟨cb, 2, none⟩ = some (.int .i64 fv.2.1) := hq9.at_ 2
   have c3 : w'.cell? ⟨cb, 3, none⟩ = some (.string fv.2.2) := hq9.at_ 3
   have c4 : w'.cell? ⟨cb, 4, none⟩ = some (.slice none 0 0) := hq9.at_ 4
   have c5 : w'.cell? ⟨cb, 5, none⟩ = some (.int .i64 tgt.1) := hq9.at_ 5
   have c6 : w'.cell? ⟨cb, 6, none⟩ = some (.int .i64 tgt.2.1) := hq9.at_ 6
   have c7 : w'.cell? ⟨cb, 7, none⟩ = some (.string tgt.2.2) := hq9.at_ 7
   clear hq9
   clear hch
   rw [pin S.ha]
   go_simp
   exact S.k 1
  refine GY (fun _ S => ?_) ?_
  ·obtain ⟨⟩ := n17 S.hu
   obtain rfl := S.q 1
   have hch := S.hI.below
   clear hch
   rw [pin S.ha]
   go_simp
   go_at_call 219
   refine (arg_none0 _ _ _ _).mono ?_
   rintro e9 w9 ⟨rfl, hm9⟩
   go_simp
   exact S.kw 2 hm9
  refine GY (fun _ S => ?_) ?_
  ·obtain ⟨⟩ := n17 S.hu
   rw [pin S.ha]
   go_simp
   exact S.k 3
  refine GY (fun _ S => ?_) ?_
  ·obtain ⟨⟩ := n17 S.hu
   obtain rfl := S.q 3
   rw [pin S.ha]
   go_simp
   exact S.k 4
  refine GY (fun _ S => ?_) ?_
  ·obtain ⟨⟩ := n17 S.hu
   obtain rfl := S.q 4
   rw [pin S.ha]
   go_simp
   exact S.k 5
  refine GY (fun w' S => ?_) ?_
  ·obtain ⟨⟩ := n17 S.hu
   obtain rfl := S.q 5
   have hch := S.hI.below
   have b4 : w'.cell? ⟨b, 4, none⟩ = some (.slice ao n cap) := (HBX.out.below (blw2 HBB.out.1 hch)).at_ 4
   clear hch
   rw [pin S.ha]
   go_simp
   exact S.k 6
  refine GY (fun _ S => ?_) ?_
  ·obtain ⟨⟩ := n17 S.hu
   obtain rfl := S.q 6
   rw [pin S.ha]
   go_simp
   exact S.k 7
  refine GY (fun _ S => ?_) ?_
  ·obtain ⟨⟩ := n17 S.hu
   obtain rfl := S.q 0
   obtain rfl := S.q 2
   obtain rfl := S.q 7
   have hch := S.hI.below
   clear hch
   rw [pin S.ha]
   go_simp
   go_at_call 370
   refine (place_undef _ _ _ _).mono ?_
   rintro e9 w9 ⟨rfl, hm9⟩
   go_simp
   exact S.kw 8 hm9
  refine GY (fun _ S => ?_) ?_
  ·obtain ⟨⟩ := n17 S.hu
   obtain rfl := S.q 8
   rw [pin S.ha]
   go_simp
   exact S.k 9
  refine GY (fun _ S => ?_) ?_
  ·obtain ⟨⟩ := n17 S.hu
   obtain rfl := S.q 9
   rw [pin S.ha]
   go_simp
   exact S.k 10
  refine GY (fun _ S => ?_) ?_
  ·obtain ⟨⟩ := n17 S.hu
   obtain rfl := S.q 9
   rw [pin S.ha]
   go_simp
   exact S.k 11
  refine GY (fun _ S => ?_) ?_
  ·obtain ⟨⟩ := n17 S.hu
   obtain rfl := S.q 9
   rw [pin S.ha]
   go_simp
   exact S.k 12
  refine GY (fun _ S => ?_) ?_
  ·obtain ⟨⟩ := n17 S.hu
   rw [pin S.ha]
   go_simp
   exact S.hK _ _ (gen_box S.hI S.hu S.hs 13 _ _ _ _ (by show 13 < 17; decide) (fit_of rfl) rfl S.h0 (by simp only [puts, setAll, List.set_cons_zero, List.set_cons_succ, List.setIfInBounds_toArray]))
  refine GY (fun _ S => ?_) ?_
  ·obtain ⟨⟩ := n17 S.hu
   obtain rfl := S.q 10
   rw [pin S.ha]
   go_simp
   exact S.k 14
  refine GY (fun w' S => ?_) ?_
  ·obtain ⟨_, _, _, _, _, _, _, _, _, _, _, u11, _, u13⟩ := n17 S.hu
   have hq1 := gen_after 13 (by kernel_rfl) S.hp
   have hq2 := gen_after 11 (by kernel_rfl) S.hp
   have e11 : u11 = valV zV := S.hI.val 11 _ rfl hq2
   subst e11
   have hq := gen_sto S.hI S.hu S.hs 15 13 11 _ _ (by show 15 < 17; decide) (fit_of rfl) rfl rfl S.h0 hq1 hq2
   have HA9 := Veil.mk S.ha
   obtain ⟨g, hg, hx, hJ⟩ := hq
   have e13 : u13 = .pointer (some ⟨g, 0, none⟩) := hg
   subst e13
   clear hg
   have x0 : w'.cell? ⟨g, 0, none⟩ = some (.int .i64 0) := hx.at_ 0
   have x1 : w'.cell? ⟨g, 1, none⟩ = some (.int .i64 0) := hx.at_ 1
   have x2 : w'.cell? ⟨g, 2, none⟩ = some (.string ⟨#[]⟩) := hx.at_ 2
   have f0 := hx.free 0
   have f1 := hx.free 1
   have f2 := hx.free 2
   have HJ := Veil.mk hJ
   have HX := Veil.mk hx
   clear hJ hx
   rw [HA9.out]
   simp only [puts, setAll, List.setIfInBounds_toArray, List.set_cons_zero, List.set_cons_succ]
   go_simp
   exact S.hK _ _ (HJ.out _ _ _ _ (((HX.out.put 0 _).put 1 _).put 2 _) (touch3 _ _ _ _ _) (by simp only [puts, setAll, List.set_cons_zero, List.set_cons_succ, List.setIfInBounds_toArray]))
  refine GY (fun _ S => ?_) ?_
  ·obtain ⟨⟩ := n17 S.hu
   obtain rfl := S.q 12
   rw [pin S.ha]
   go_simp
   exact S.k 16
  exact Steps.nil
 ·intro us wE hus dd hD2 hJ
  obtain ⟨p0, p1, p2, p3, p4, p5, p6, p7, p8, p9, p10, p11, p12, p13, p14, p15, p16⟩ := n17 hus
  have hbE := hJ.below
  obtain rfl := hJ.q 0 hD2
  obtain rfl := hJ.q 1 hD2
  obtain rfl := hJ.q 2 hD2
  obtain rfl := hJ.q 3 hD2
  obtain rfl := hJ.q 4 hD2
  obtain rfl := hJ.q 5 hD2
  obtain rfl := hJ.q 6 hD2
  obtain rfl := hJ.q 7 hD2
  obtain rfl := hJ.q 8 hD2
  obtain rfl := hJ.q 9 hD2
  obtain rfl := hJ.q 10 hD2
  obtain rfl := hJ.q 11 hD2
  obtain rfl := hJ.q 12 hD2
  obtain rfl := hJ.q 14 hD2
  obtain rfl := hJ.q 16 hD2
  obtain ⟨g13, hg13, hlo13, hbx13⟩ := hJ.box 13 _ _ _ _ rfl (hD2 13 (by show 13 < 17; decide))
  rw [hD2 15 (by show 15 < 17; decide)] at hbx13
  replace hg13 : p13 = .pointer (some ⟨g13, 0, none⟩) := hg13
  subst hg13
  replace hbx13 : Box wE g13 28 (flat (valV zV)) := hbx13
  clear hJ hD2
  simp only [puts, setAll, List.setIfInBounds_toArray, List.set_cons_zero, List.set_cons_succ]
  have HX1 := Veil.mk (And.intro (HBB.out.2.1.below hbE) (And.intro (HBB.out.2.2.below hbE) (And.intro hbx13 (blw2 HBB.out.1 hbE))))
  have HNE : Veil (g13 ≠ rb /\ W.heap.size <= g13) := ⟨fun e => by have := HBB.out.2.2.lt; omega, Nat.le_trans HBB.out.1.size hlo13⟩
  clear hbx13 hbE HBB HW0
  go_upto_region 4 with (fail)
  obtain ⟨WD, hWD⟩ : ∃ WD, wE.drew = WD := ⟨_, rfl⟩
  have hdr : Below wE.heap.size wE WD := by rw [<- hWD]; exact (Below.refl _ _).drew
  have HBF4 : Veil (Below W.heap.size W WD) := ⟨blw2 HX1.out.2.2.2 hdr⟩
  have HX4 := Veil.mk (And.intro (HX1.out.1.below hdr) (And.intro (HX1.out.2.1.below hdr) (HX1.out.2.2.1.below hdr)))
  have HWD := Veil.mk hWD
  clear hdr hWD HX1
  refine wp_region_chain [qp m 0, qq (callV fo fv (.slice none 0 0) tgt), qv zV, qp b 0, qp b 0, qp b 4, qq (.slice ao n cap), qi (n : Int), qp b 0, qp b 0, qp b 4, qq (.slice ao n cap), qi (n : Int), qq (.tuple #[.int .i64 (n : Int), valV zV, .int .i64 0]), qq (.tuple #[.int .i64 (n : Int), valV zV, .int .i64 0]), qi (n : Int), qv zV, qi 0, qi (n : Int), none, qi 0] (LPh [2, 13, 19] (SqSt WD [Below WD.heap.size WD, Below WD.heap.size WD, (fun w => ∃ w0, Below WD.heap.size WD w0 /\ w = ((w0.setCell ⟨g13, 0, none⟩ (.int .i64 0)).setCell ⟨g13, 1, none⟩ (.int .i64 0)).setCell ⟨g13, 2, none⟩ (.string ⟨#[]⟩))])) [some 36, some 37, some 38, some 39, some 40, some 41, some 42, some 43, some 44, some 45, some 46, some 47, some 48, some 49, some 35, some 50, some 51, some 52, some 11, none, some 10] (curV' _ [some 36, some 37, some 38, some 39, some 40, some 41, some 42, some 43, some 44, some 45, some 46, some 47, some 48, some 49, some 35, some 50, some 51, some 52, some 11, none, some 10]) (by kernel_rfl) rfl rfl (puts_cur _ _) (LPh.start (show wE.drew = WD from HWD.out)) ?_ (by kernel_rfl) ?_
  ·refine SY (fun _ S => ?_) ?_
   ·obtain ⟨⟩ := n21 S.hu
    rw [pin S.ha]
    go_simp
    exact S.kL 0
   refine SY (fun w' S => ?_) ?_
   ·obtain ⟨⟩ := n21 S.hu
    have gb := (S.hI.bwd [1] 2 1 (by kernel_rfl) rfl S.h0)
    have hst := S.hI.ph.btw1 0 (.inl rfl) (.inr ⟨2, rfl, gb⟩)
    have hst' : WD = w' := (show w' = WD from hst).symm
    clear hst
    subst hst'
    have hq9 := HX4.out.1
    have c0 : WD.cell? ⟨cb, 0, none⟩ = some (.pointer (some ⟨fo, 0, none⟩)) := hq9.at_ 0
    have c1 : WD.cell? ⟨cb, 1, none⟩ = some (.int .i64 fv.1) := hq9.at_ 1
    have c2 : WD.cell? ⟨cb, 2, none⟩ = some (.int .i64 fv.2.1) := hq9.at_ 2
    have c3 : WD.cell? ⟨cb, 3, none⟩ = some (.string fv.2.2) := hq9.at_ 3
    have c4 : WD.cell? ⟨cb, 4, none⟩ = some (.slice none 0 0) := hq9.at_ 4
    have c5 : WD.cell? ⟨cb, 5, none⟩ = some (.int .i64 tgt.1) := hq9.at_ 5
    have c6 : WD.cell? ⟨cb, 6, none⟩ = some (.int .i64 tgt.2.1) := hq9.at_ 6
    have c7 : WD.cell? ⟨cb, 7, none⟩ = some (.string tgt.2.2) := hq9.at_ 7
    clear hq9
    clear gb
    rw [pin S.ha]
    go_simp
    exact S.kL 1
   refine SY (fun w' S => ?_) ?_
   ·obtain ⟨⟩ := n21 S.hu
    obtain rfl := S.q 1
    have gb := S.h0
    have hst := S.hI.ph.btw1 0 (.inl rfl) (.inr ⟨2, rfl, gb⟩)
    have hst' : WD = w' := (show w' = WD from hst).symm
    clear hst
    subst hst'
    clear gb
    rw [pin S.ha]
    go_simp
    go_at_call 219
    refine (arg_none1 _ _ _ _).mono ?_
    rintro e9 w9 ⟨rfl, hm9⟩
    go_simp
    exact S.kS 2 _ (S.hI.ph.next 0 2 _ rfl S.h0 (.inl rfl) (by decide) (hm9))
   refine SY (fun _ S => ?_) ?_
   ·obtain ⟨⟩ := n21 S.hu
    rw [pin S.ha]
    go_simp
    exact S.kL 3
   refine SY (fun _ S => ?_) ?_
   ·obtain ⟨⟩ := n21 S.hu
    obtain rfl := S.q 3
    rw [pin S.ha]
    go_simp
    exact S.kL 4
   refine SY (fun _ S => ?_) ?_
   ·obtain ⟨⟩ := n21 S.hu
    obtain rfl := S.q 4
    rw [pin S.ha]
    go_simp
    exact S.kL 5
   refine SY (fun w' S => ?_) ?_
   ·obtain ⟨⟩ := n21 S.hu
    obtain rfl := S.q 5
    have gb := (S.hI.bwd [7, 6] 13 6 (by kernel_rfl) rfl S.h0)
    obtain ⟨sg, hlo, hhi, hst⟩ := S.hI.ph.btw 0 1 (.inl rfl) (.inr ⟨13, rfl, gb⟩)
    have hb9 := SqSt.bel hst (by omega)
    clear hst
    have b4 : w'.cell? ⟨b, 4, none⟩ = some (.slice ao n cap) := (HBX.out.below (blw2 HBF4.out hb9)).at_ 4
    clear gb
    rw [pin S.ha]
    go_simp
    exact S.kL 6
   refine SY (fun _ S => ?_) ?_
   ·obtain ⟨⟩ := n21 S.hu
    obtain rfl := S.q 6
    rw [pin S.ha]
    go_simp
    exact S.kL 7
   refine SY (fun _ S => ?_) ?_
   ·obtain ⟨⟩ := n21 S.hu
    rw [pin S.ha]
    go_simp
    exact S.kL 8
   refine SY (fun _ S => ?_) ?_
   ·obtain ⟨⟩ := n21 S.hu
    obtain rfl := S.q 8
    rw [pin S.ha]
    go_simp
    exact S.kL 9
   refine SY (fun _ S => ?_) ?_
   ·obtain ⟨⟩ := n21 S.hu
    obtain rfl := S.q 9
    rw [pin S.ha]
    go_simp
    exact S.kL 10
   refine SY (fun w' S => ?_) ?_
   ·obtain ⟨⟩ := n21 S.hu
    obtain rfl := S.q 10
    have gb := (S.hI.bwd [12, 11] 13 11 (by kernel_rfl) rfl S.h0)
    obtain ⟨sg, hlo, hhi, hst⟩ := S.hI.ph.btw 0 1 (.inl rfl) (.inr ⟨13, rfl, gb⟩)
    have hb9 := SqSt.bel hst (by omega)
    clear hst
    have b4 : w'.cell? ⟨b, 4, none⟩ = some (.slice ao n cap) := (HBX.out.below (blw2 HBF4.out hb9)).at_ 4
    clear gb
    rw [pin S.ha]
    go_simp
    exact S.kL 11
   refine SY (fun _ S => ?_) ?_
   ·obtain ⟨⟩ := n21 S.hu
    obtain rfl := S.q 11
    rw [pin S.ha]
    go_simp
    exact S.kL 12
   refine SY (fun w' S => ?_) ?_
   ·obtain ⟨⟩ := n21 S.hu
    obtain rfl := S.q 0
    obtain rfl := S.q 2
    obtain rfl := S.q 7
    obtain rfl := S.q 12
    have ga := (gen_after 2 (by kernel_rfl) S.hp)
    have gb := S.h0
    have hst := S.hI.ph.btw1 1 (.inr ⟨2, rfl, ga⟩) (.inr ⟨13, rfl, gb⟩)
    have HST := Veil.mk (show Below WD.heap.size WD w' from hst)
    clear hst
    have HGA := Veil.mk ga
    clear ga gb
    rw [pin S.ha]
    go_simp
    go_at_call 370
    refine (place_undef _ _ _ _).mono ?_
    rintro e9 w9 ⟨rfl, hm9⟩
    go_simp
    exact S.kS 13 _ (S.hI.ph.next 1 13 _ rfl S.h0 (.inr ⟨2, rfl, HGA.out⟩) (by decide) ((blw2 HST.out hm9)))
   refine SY (fun _ S => ?_) ?_
   ·obtain ⟨⟩ := n21 S.hu
    obtain rfl := S.q 13
    rw [pin S.ha]
    go_simp
    exact S.kL 14
   refine SY (fun _ S => ?_) ?_
   ·obtain ⟨⟩ := n21 S.hu
    obtain rfl := S.q 14
    rw [pin S.ha]
    go_simp
    exact S.kL 15
   refine SY (fun _ S => ?_) ?_
   ·obtain ⟨⟩ := n21 S.hu
    obtain rfl := S.q 14
    rw [pin S.ha]
    go_simp
    exact S.kL 16
   refine SY (fun _ S => ?_) ?_
   ·obtain ⟨⟩ := n21 S.hu
    obtain rfl := S.q 14
    rw [pin S.ha]
    go_simp
    exact S.kL 17
   refine SY (fun _ S => ?_) ?_
   ·obtain ⟨⟩ := n21 S.hu
    obtain rfl := S.q 15
    rw [pin S.ha]
    go_simp
    exact S.kL 18
   refine SY (fun w' S => ?_) ?_
   ·obtain ⟨⟩ := n21 S.hu
    obtain rfl := S.q 16
    have ga := (gen_after 13 (by kernel_rfl) S.hp)
    have gb := S.h0
    have hst := S.hI.ph.btw1 2 (.inr ⟨13, rfl, ga⟩) (.inr ⟨19, rfl, gb⟩)
    have HST := Veil.mk (show Below WD.heap.size WD w' from hst)
    clear hst
    have z0 : w'.cell? ⟨g13, 0, none⟩ = some (.int .i64 0) := (HX4.out.2.2.below HST.out).at_ 0
    have z1 : w'.cell? ⟨g13, 1, none⟩ = some (.int .i64 0) := (HX4.out.2.2.below HST.out).at_ 1
    have z2 : w'.cell? ⟨g13, 2, none⟩ = some (.string ⟨#[]⟩) := (HX4.out.2.2.below HST.out).at_ 2
    have q0 := (HX4.out.2.2.below HST.out).free 0
    have q1 := (HX4.out.2.2.below HST.out).free 1
    have q2 := (HX4.out.2.2.below HST.out).free 2
    have HGA := Veil.mk ga
    clear ga gb
    rw [pin S.ha]
    go_simp
    exact S.kN 19 undef (S.hI.ph.next 2 19 _ rfl S.h0 (.inr ⟨13, rfl, HGA.out⟩) (by decide) (⟨_, HST.out, rfl⟩))
   refine SY (fun _ S => ?_) ?_
   ·obtain ⟨⟩ := n21 S.hu
    obtain rfl := S.q 17
    rw [pin S.ha]
    go_simp
    exact S.kL 20
   exact Steps.nil
  ·intro us wE hus dd hD2 hJ
   obtain ⟨p0, p1, p2, p3, p4, p5, p6, p7, p8, p9, p10, p11, p12, p13, p14, p15, p16, p17, p18, p19, p20, rfl⟩ := lenA21 hus
   have q1 := hJ.ph.all (fun c hc => hD2 c (by
    have : c = 2 \/ c = 13 \/ c = 19 := by simpa using hc
    show c < 21
    omega))
   obtain rfl := hJ.vq 0 hD2
   obtain rfl := hJ.vq 1 hD2
   obtain rfl := hJ.vq 2 hD2
   obtain rfl := hJ.vq 3 hD2
   obtain rfl := hJ.vq 4 hD2
   obtain rfl := hJ.vq 5 hD2
   obtain rfl := hJ.vq 6 hD2
   obtain rfl := hJ.vq 7 hD2
   obtain rfl := hJ.vq 8 hD2
   obtain rfl := hJ.vq 9 hD2
   obtain rfl := hJ.vq 10 hD2
   obtain rfl := hJ.vq 11 hD2
   obtain rfl := hJ.vq 12 hD2
   obtain rfl := hJ.vq 13 hD2
   obtain rfl := hJ.vq 14 hD2
   obtain rfl := hJ.vq 15 hD2
   obtain rfl := hJ.vq 16 hD2
   obtain rfl := hJ.vq 17 hD2
   obtain rfl := hJ.vq 18 hD2
   obtain rfl := hJ.vq 20 hD2
   clear hJ hD2
   obtain ⟨w0, hb0, hwE⟩ := (show ∃ w0, Below WD.heap.size WD w0 /\ wE = ((w0.setCell ⟨g13, 0, none⟩ (.int .i64 0)).setCell ⟨g13, 1, none⟩ (.int .i64 0)).setCell ⟨g13, 2, none⟩ (.string ⟨#[]⟩) from q1)
   have hcn : cb ≠ g13 := fun e => HX4.out.1.lab.ne HX4.out.2.2.lab (by decide) e
   have hbc := (HX4.out.1.below hb0).touch (touch3 w0 g13 (.int .i64 0) (.int .i64 0) (.string ⟨#[]⟩)) hcn
   have hbr := (HX4.out.2.1.below hb0).touch (touch3 w0 g13 (.int .i64 0) (.int .i64 0) (.string ⟨#[]⟩)) (fun e => HNE.out.1 e.symm)
   have hbw := (((blw2 HBF4.out hb0).setCell (p := ⟨g13, 0, none⟩) HNE.out.2 (.int .i64 0)).setCell (p := ⟨g13, 1, none⟩) HNE.out.2 (.int .i64 0)).setCell (p := ⟨g13, 2, none⟩) HNE.out.2 (.string ⟨#[]⟩)
   rw [<- hwE] at hbc hbr hbw
   have HX5 := Veil.mk (And.intro hbc (And.intro hbr hbw))
   clear hbc hbr hbw hwE hb0 hcn q1 HX4 HWD HBF4 HNE
   simp only [puts, setAll, List.setIfInBounds_toArray, List.set_cons_zero, List.set_cons_succ]
   have c1 : wE.cell? ⟨cb, 1, none⟩ = some (.int .i64 fv.1) := HX5.out.1.at_ 1
   have c2 : wE.cell? ⟨cb, 2, none⟩ = some (.int .i64 fv.2.1) := HX5.out.1.at_ 2
   have c3 : wE.cell? ⟨cb, 3, none⟩ = some (.string fv.2.2) := HX5.out.1.at_ 3
   have HM7 := Veil.mk (HMK.out wE HX5.out.2.2)
   go_upto_region 8 with (go_at_call 368; ((with_reducible refine HM7.out.mono ?_); rintro e w1 ⟨rfl, hb1⟩; have HB1 := Veil.mk hb1; clear hb1))
   obtain ⟨w2, hw2⟩ : ∃ w2, w1.alloc (.cells #[.int .i64 9, .int .i64 23, .string ⟨#[]⟩] VTy) = w2 := ⟨_, rfl⟩
   have bl : Below w1.heap.size w1 (w1.alloc (.cells #[.int .i64 9, .int .i64 23, .string ⟨#[]⟩] VTy)) := (Below.refl _ _).alloc (Nat.le_refl _) _
   rw [hw2] at bl ⊢
   have hb2 := blw2 HB1.out bl
   have HX2 := Veil.mk (And.intro (HX5.out.1.below hb2) (And.intro (HX5.out.2.1.below hb2) (blw2 HX5.out.2.2 hb2)))
   clear c1 c2 c3 bl hb2 hw2 HM7 HB1 HX5 HMK
   obtain ⟨Bo, hBo⟩ : ∃ Bo, w2.heap.size = Bo := ⟨_, rfl⟩
   have HBo : Veil (w2.heap.size <= Bo /\ A <= w2.heap.size) := ⟨Nat.le_of_eq hBo, Nat.le_trans HA.out HX2.out.2.2.size⟩
   have H0 : Veil (SL w2 h A m f ts vs Bo 0 (.slice none 0 0) w2) := ⟨by
    have e0 : ({ f with st := f.st + ((0 : Nat) : Int) } : MF) = f := by
     show ({ f with st := f.st + 0 } : MF) = f
     rw [Int.add_zero]
    exact ⟨by rw [e0]; exact HMP.out.on HX2.out.2.2, Bk.of_below HBo.out.2 (Below.refl _ _), ⟨rfl, .inl ⟨rfl, rfl⟩⟩, Nat.le_of_eq hBo.symm, Nat.zero_le _⟩⟩
   obtain ⟨iv0, iv1, iv2, iv3, iv4⟩ := info_parts Tryz.infoW
   clear hBo HMP
   go_wp2
   go_loopw [14, 15] (fun rv jv wr => ∃ j : Nat, jv = .int .i64 (j : Int) /\ SL w2 h A m f ts vs Bo j rv wr) (fun _ jv _ => 2000 - (intOf jv).toNat)
   case atStart => exact ⟨0, rfl, H0.out⟩
   case round =>
    clear H0
    obtain ⟨j, rfl, hal⟩ := hrel
    have hj0 : (0 : Int) <= (j : Int) := by omega
    have HAL := Veil.mk hal
    have hjl := hal.jl
    rw [HNX.out.2.2.2.2.2.2.1] at hjl
    clear hal
    rcases Nat.lt_or_ge j n with hj | hj
    ·have hj1 : (j : Int) < (n : Int) := by omega
     have HS := Veil.mk (HAL.out.mp.spend HNX.out.2.2.2.1 (show 0 <= f.st + (j : Int) by have := HNX.out.2.2.2.2.1; omega) (show f.st + (j : Int) < 4194304 by have := HNX.out.2.2.2.2.2.1; omega) HNX.out.2.2.1)
     go_upto_region 16 with (go_at_call 90; ((with_reducible refine HS.out.mono ?_); rintro e w3 ⟨rfl, hm3, hb3⟩; have HM3 := Veil.mk (And.intro hm3 hb3); clear hm3 hb3))
     obtain ⟨g, rfl, hgl, hgb, hg0, hg1, hg2⟩ := HEL.out j hj
     have hk3 := HAL.out.bk.trans HM3.out.2
     have hcb3 := hk3.boxE HX2.out.1 (by decide)
     have hlab2 : Lab w2 g VTy := by obtain ⟨cs, fr, hq⟩ := hgb; exact ⟨cs, fr, (HX2.out.2.2.block g hgl).trans hq⟩
     have he3 := hk3.kv g VTy (by decide) hlab2
     have hw3 : ∀ i, w3.cell? ⟨g, i, none⟩ = W.cell? ⟨g, i, none⟩ := fun i => (cell_blk he3 i).trans (HX2.out.2.2.cell (p := ⟨g, i, none⟩) hgl)
     have hbx3 : Box w3 b 63 (objC 1 3 cz (.pointer none) (.slice (some ⟨g, 0, none⟩) n cap)) := HM3.out.1.mem_b (List.mem_of_getElem? HAT.out) rfl
     have hgl3 : g < w3.heap.size := Nat.lt_of_lt_of_le hgl (Nat.le_trans HX2.out.2.2.size hk3.bel.size)
     have HE3 := Veil.mk (elem_z (W := w3) (m := m) fv hbx3 hj (HNX.out.1 j hj) hgl3 ((hw3 _).trans hg0) ((hw3 _).trans hg1) ((hw3 _).trans hg2))
     have c1 : w3.cell? ⟨cb, 1, none⟩ = some (.int .i64 fv.1) := hcb3.at_ 1
     have c2 : w3.cell? ⟨cb, 2, none⟩ = some (.int .i64 fv.2.1) := hcb3.at_ 2
     have c3 : w3.cell? ⟨cb, 3, none⟩ = some (.string fv.2.2) := hcb3.at_ 3
     clear hgl hgb hg0 hg1 hg2 hk3 hlab2 he3 hw3 hbx3 hgl3 HS hcb3
     obtain ⟨v, hv⟩ : ∃ v, xs j = v := ⟨_, rfl⟩
     have HV := Veil.mk ((HVA.out j hj).trans (by rw [hv]))
     rw [hv] at HE3
     go_upto_region 17 with (go_at_call 372; ((with_reducible refine HE3.out.mono ?_); rintro e w4 ⟨rfl, hb4⟩; have HB4 := Veil.mk hb4; clear hb4))
     obtain ⟨xb, hxb⟩ : ∃ xb, w4.heap.size = xb := ⟨_, rfl⟩
     obtain ⟨w5, hw5⟩ : ∃ w5, w4.alloc (.cells #[.int .i64 v.1, .int .i64 v.2.1, .string v.2.2] VTy) = w5 := ⟨_, rfl⟩
     have bx := Box.new w4 VTy #[.int .i64 v.1, .int .i64 v.2.1, .string v.2.2]
     have bl : Below w4.heap.size w4 (w4.alloc (.cells #[.int .i64 v.1, .int .i64 v.2.1, .string v.2.2] VTy)) := (Below.refl _ _).alloc (Nat.le_refl _) _
     rw [hw5] at bx bl ⊢
     rw [hxb] at bx ⊢
     have HB5 := Veil.mk (blw2 HB4.out bl)
     have d0 : w5.cell? ⟨xb, 0, none⟩ = some (.int .i64 v.1) := bx.at_ 0
     have d1 : w5.cell? ⟨xb, 1, none⟩ = some (.int .i64 v.2.1) := bx.at_ 1
     have d2 : w5.cell? ⟨xb, 2, none⟩ = some (.string v.2.2) := bx.at_ 2
     clear bx bl hw5 hxb c1 c2 c3 HE3 HB4 hv
     have hrow5 : w5.ownsRow Bo VTy 3 u14 j (flatV (vs.take j)) := own_below (own_stay HAL.out.row (fun b c h1 h2 => HM3.out.2.boxE h2 (by decide))) HB5.out
     have hsz5 : Bo <= w5.heap.size := by have h1 := HAL.out.sz; have h2 := HM3.out.2.bel.size; have h3 := HB5.out.size; omega
     have hjs : j <= 1000 := by have := HNX.out.2.1; omega
     go_wp2_with (at_builtin; refine wpList_append_lies _ rfl _ _ 30 rfl Bo VTy iv0 (.agg #[.int .i64 0, .int .i64 0, .string ⟨#[]⟩]) 3 32 Tryz.underlying30 iv1 iv2 iv3 iv4 rfl (by decide) _ _ _ rfl (hrow5.alloc _) ⟨w5.heap.size, 0, none⟩ 1 1 [.int .i64 v.1, .int .i64 v.2.1, .string v.2.2] rfl rfl (news_at _ _ rfl _ _) (by simp [Value.oneCell']) (by decide) (by unfold maxLen; omega) (by omega) (by rw [World.size_alloc]; omega) _ rfl ?_; intro g5 cap5 w9 hown5 hgrow5 hblk5 hg5; refine Hid.out ?_)
     have HNEXT := Veil.mk (SL.next HAL.out HBo.out.2 HBo.out.1 HV.out HM3.out.1 HM3.out.2 HB5.out hown5 hgrow5)
     clear hown5 hgrow5 hblk5 hg5 hrow5 hsz5 d0 d1 d2
     refine Lib.hid ?_
     go_wp2
     go_roundw
     case rel => exact ⟨j + 1, by go_num, HNEXT.out⟩
     case measure => simp [intOf]; omega
    ·have hje : j = n := by omega
     subst hje
     have hj1 : ¬ ((j : Int) < (j : Int)) := by omega
     have hrw : RowV wr u14 vs := by
      have h9 := HAL.out.row
      rw [show vs.take j = vs by rw [List.take_of_length_le (by have := HNX.out.2.2.2.2.2.2.1; omega)]] at h9
      have h8 := HNX.out.2.2.2.2.2.2.1
      subst h8
      exact RowV.own h9
     have HAE := Veil.mk (HAL.out.mp.arrayE u14 vs hrw (by have h1 := HNX.out.2.1; have h2 := HNX.out.2.2.2.2.2.2.1; omega) HNX.out.2.2.1)
     rw [HNX.out.2.2.2.2.2.2.2] at HAE
     have HRB := Veil.mk (HAL.out.bk.boxE HX2.out.2.1 (by decide))
     clear hrw
     go_wp2_with (go_at_call 11; ((with_reducible refine HAE.out.mono ?_); rintro e w6 ⟨rfl, b2, ev2, hm6, hr6, hb6, hg6⟩; have HM6 := Veil.mk (And.intro (hb6.boxE HRB.out (by decide)) (And.intro hm6 (And.intro hb6 (And.intro hr6 hg6)))); clear hm6 hb6 hr6 hg6; have z0 : w6.cell? ⟨rb, 0, none⟩ = some (.int .i64 0) := (HM6.out.1).at_ 0; have q0 := (HM6.out.1).free 0; have z1 : w6.cell? ⟨rb, 1, none⟩ = some (.int .i64 0) := (HM6.out.1).at_ 1; have q1 := (HM6.out.1).free 1; have z2 : w6.cell? ⟨rb, 2, none⟩ = some (.string ⟨#[]⟩) := (HM6.out.1).at_ 2; have q2 := (HM6.out.1).free 2))
     have hr3 := ((HM6.out.1.put 0 (.int .i64 9)).put 1 (.int .i64 q)).put 2 (.string ⟨#[]⟩)
     have y0 := hr3.at_ 0
     have y1 := hr3.at_ 1
     have y2 := hr3.at_ 2
     have hp3 := ((HM6.out.2.1.putv HM6.out.1.lab 0 (.int .i64 9)).putv (HM6.out.1.put 0 _).lab 1 (.int .i64 q)).putv ((HM6.out.1.put 0 _).put 1 _).lab 2 (.string ⟨#[]⟩)
     have hk3 := (((((Bk.of_below HA.out HX2.out.2.2).trans HAL.out.bk).trans HM6.out.2.2.1).setv HLO.out.2 HA.out 0 (.int .i64 9)).setv HLO.out.2 HA.out 1 (.int .i64 q)).setv HLO.out.2 HA.out 2 (.string ⟨#[]⟩)
     have hgr : ∀ ad k c, ev2 = .slice (some ad) k c -> ad.block ≠ rb := fun ad k c e => by
      have h1 := HM6.out.2.2.2.2 ad k c e
      have h2 := HRB.out.lt
      omega
     have hr9 := ((HM6.out.2.2.2.1.put rb 0 (.int .i64 9) hgr).put rb 1 (.int .i64 q) hgr).put rb 2 (.string ⟨#[]⟩) hgr
     have hgw : ∀ ad k c, ev2 = .slice (some ad) k c -> W.heap.size <= ad.block := fun ad k c e => by
      have h1 := HM6.out.2.2.2.2 ad k c e
      have h2 := HAL.out.bk.bel.size
      have h3 := HX2.out.2.2.size
      omega
     exact bodyPost_ret (v := .tuple #[valV (9, q, ⟨#[]⟩), .int .i64 0]) (by simp [results, Tryz.results358, go_sem, y0, y1, y2]) rfl ⟨rfl, b2, ev2, hp3, hr9, hk3, hgw⟩
end
section
variable {W : World} {h A m : Nat} {f : MF} {ts : List TO}
theorem MP.adv_arz (H : MP W h A m f ts) {cz : Bool} {iw ia o g b i n : Nat} {kd : Int} {ev : Value} {xs : Nat -> Vt} (hp : ts[iw]? = some (TO.wkr o kd (.slice (some ⟨g, 0, none⟩) 1 1) (i : Int))) (hpa : ts[ia]? = some (TO.arz b cz ev)) (hne : iw ≠ ia) (hg : Box W g VTy #[.int .i64 9, .int .i64 ((ia : Int) + 1), .string ⟨#[]⟩]) (hel : EL W A ev n xs) (_hn9 : n <= 1000000) (hi9 : i <= 1000000) (hin : i < n) (hx : (xs i).1 ≠ 10) :
  Calls Tryz.prog 365 #[.pointer (some ⟨m, 0, none⟩), .pointer (some ⟨o, 0, none⟩)] W fun e w' => e = .returned (.tuple #[valV (3, (i : Int), ⟨#[]⟩), valV (xs i), .int .i64 0]) /\ MP w' h A m f (ts.set iw (TO.wkr o kd (.slice (some ⟨g, 0, none⟩) 1 1) ((i : Int) + 1))) /\ Bk A W w' := by
 have hA := Nat.le_of_lt H.mm.alt
 have hob : Box W o 63 (objF 5 12 false (.pointer none) (.slice none 0 0) .nilIface ⟨kd, .slice (some ⟨g, 0, none⟩) 1 1, (i : Int), false⟩) := H.mem_b (List.mem_of_getElem? hp) rfl
 obtain ⟨fv, hfv⟩ : ∃ fv : Vt, ((9, (ia : Int) + 1, ⟨#[]⟩) : Vt) = fv := ⟨_, rfl⟩
 have hg2 : Box W g VTy #[.int .i64 fv.1, .int .i64 fv.2.1, .string fv.2.2] := by rw [<- hfv]; exact hg
 have HOF : Veil (∀ w', Below W.heap.size W w' -> Calls Tryz.prog 14 #[.pointer (some ⟨h, 0, none⟩), valV fv] w' fun e w9 => e = .returned (.pointer (some ⟨b, 0, none⟩)) /\ Below w'.heap.size w' w9) := ⟨fun w' hb => by rw [<- hfv]; exact (H.on hb).of_at hpa rfl _⟩
 have HFV : Veil (((9, (ia : Int) + 1, ⟨#[]⟩) : Vt) = fv) := ⟨hfv⟩
 have H9 : Veil (fv.1 = 9) := ⟨by rw [<- hfv]⟩
 obtain ⟨ao, cap, rfl⟩ : ∃ ao cap, ev = .slice ao n cap := by
  rcases hel with ⟨e1, e2⟩ | ⟨g2, cap, e1, _⟩
  ·exact ⟨none, 0, by rw [e1, e2]⟩
  ·exact ⟨_, _, e1⟩
 have hbb : Box W b 63 (objC 1 3 cz (.pointer none) (.slice ao n cap)) := H.mem_b (List.mem_of_getElem? hpa) rfl
 obtain ⟨ka, hka⟩ : ∃ ka, W.heap.size = ka := ⟨_, rfl⟩
 obtain ⟨kb, hkb⟩ : ∃ kb, ka + 1 = kb := ⟨_, rfl⟩
 obtain ⟨W0, hW0⟩ : ∃ W0, ((W.alloc (.cells #[.int .i64 0, .int .i64 0, .string ⟨#[]⟩] 28)).alloc (.cells #[.int .i64 0, .int .i64 0, .string ⟨#[]⟩] 28)) = W0 := ⟨_, rfl⟩
 have bb : Below W.heap.size W W0 := by rw [<- hW0]; exact (((Below.refl _ _).alloc (Nat.le_refl _) _).alloc (by simp only [World.size_alloc]; omega) _)
 have xka : Box W0 ka 28 #[.int .i64 0, .int .i64 0, .string ⟨#[]⟩] := by have h9 := ((Box.new W 28 #[.int .i64 0, .int .i64 0, .string ⟨#[]⟩]).more (.cells #[.int .i64 0, .int .i64 0, .string ⟨#[]⟩] 28)); rw [hW0, hka] at h9; exact h9
 have xkb : Box W0 kb 28 #[.int .i64 0, .int .i64 0, .string ⟨#[]⟩] := by have h9 := Box.new (W.alloc (.cells #[.int .i64 0, .int .i64 0, .string ⟨#[]⟩] 28)) 28 #[.int .i64 0, .int .i64 0, .string ⟨#[]⟩]; rw [hW0, show (W.alloc (.cells #[.int .i64 0, .int .i64 0, .string ⟨#[]⟩] 28)).heap.size = kb from by simp only [World.size_alloc]; omega] at h9; exact h9
 have HW0 := Veil.mk (And.intro hW0 (And.intro hka (hkb)))
 have HBB := Veil.mk (And.intro bb (And.intro xka (xkb)))
 have HLO : Veil (W.heap.size <= ka /\ W.heap.size <= kb) := ⟨by omega⟩
 clear hW0 bb hka xka hkb xkb
 have HP0 := Veil.mk (H.on HBB.out.1)
 have HPL := Veil.mk (And.intro hp (And.intro hA (And.intro hpa hne)))
 have HEL := Veil.mk (hel.on HBB.out.1)
 have ho0 := hob.below HBB.out.1
 have hg0 := hg2.below HBB.out.1
 have hb0' := hbb.below HBB.out.1
 have HG0 := Veil.mk (And.intro ho0 (And.intro hg0 hb0'))
 have hi0 : (0 : Int) <= (i : Int) := by omega
 obtain ⟨x, hxe⟩ : ∃ x, xs i = x := ⟨_, rfl⟩
 rw [hxe] at hx ⊢
 have HXE := Veil.mk hxe
 clear hxe
 have hi1 : (i : Int) < (n : Int) := by omega
 have hwr : IntKind.i64.wrap ((i : Int) + 1) = (i : Int) + 1 := IntWalk.i64_in _ (by omega)
 have d5 : W0.cell? ⟨o, 5, none⟩ = some (.slice (some ⟨g, 0, none⟩) 1 1) := ho0.at_ 5
 have d7 : W0.cell? ⟨o, 7, none⟩ = some (.pointer none) := ho0.at_ 7
 have c0 : W0.cell? ⟨g, 0, none⟩ = some (.int .i64 fv.1) := hg0.at_ 0
 have c1 : W0.cell? ⟨g, 1, none⟩ = some (.int .i64 fv.2.1) := hg0.at_ 1
 have c2 : W0.cell? ⟨g, 2, none⟩ = some (.string fv.2.2) := hg0.at_ 2
 clear H hp hpa hg hg2 hel hA hob hbb ho0 hg0 hb0' hfv
 go_enter Tryz.func365, Tryz.ntmps365
 go_upto_region 1 with (fail)
 rw [HW0.out.1, HW0.out.2.1, HW0.out.2.2]
 go_upto_region 4 with (fail)
 obtain ⟨vb, hvb⟩ : ∃ vb, W0.heap.size = vb := ⟨_, rfl⟩
 obtain ⟨W2, hW2⟩ : ∃ W2, W0.alloc (.cells #[.int .i64 fv.1, .int .i64 fv.2.1, .string fv.2.2] 28) = W2 := ⟨_, rfl⟩
 have bx := Box.new W0 28 #[.int .i64 fv.1, .int .i64 fv.2.1, .string fv.2.2]
 have bl : Below W0.heap.size W0 (W0.alloc (.cells #[.int .i64 fv.1, .int .i64 fv.2.1, .string fv.2.2] 28)) := (Below.refl _ _).alloc (Nat.le_refl _) _
 rw [hW2] at bx bl ⊢
 rw [hvb] at bx ⊢
 have HB2 := Veil.mk (And.intro bl bx)
 clear c0 c1 c2 d5 d7 hvb hW2 bl bx
 have d7 : W2.cell? ⟨o, 7, none⟩ = some (.pointer none) := (HG0.out.1.below HB2.out.1).at_ 7
 go_upto_region 9 with (fail)
 obtain ⟨WD, hWD⟩ : ∃ WD, W2.drew = WD := ⟨_, rfl⟩
 have hdr : Below W2.heap.size W2 WD := by rw [<- hWD]; exact (Below.refl _ _).drew
 have hbD := blw2 HB2.out.1 hdr
 have HBX := Veil.mk (And.intro (HBB.out.2.1.below hbD) (And.intro (HBB.out.2.2.below hbD) (And.intro (HB2.out.2.below hdr) (And.intro (HG0.out.1.below hbD) (And.intro (HG0.out.2.2.below hbD) (show ∀ w', Below WD.heap.size WD w' -> w'.cell? ⟨m, 0, none⟩ = some (.pointer (some ⟨h, 0, none⟩)) from fun w' hb => ((HP0.out.on hbD).on hb).mm.mb.at_ 0))))))
 have HBF := Veil.mk hbD
 have HWD := Veil.mk hWD
 clear hWD hdr hbD d7 HB2 HG0
 have hDZ : ∀ z : BW W2, Below WD.heap.size WD z.w := fun z => by rw [<- HWD.out]; exact ⟨z.h.1, z.h.2, z.h.3, z.h.4, z.h.5⟩
 have c0_3 : ∀ z : BW W2, z.w.cell? ⟨m, 0, none⟩ = some (.pointer (some ⟨h, 0, none⟩)) := fun z => HBX.out.2.2.2.2.2 z.w (hDZ z)
 have c0_4 : ∀ z : BW W2, z.w.cell? ⟨vb, 0, none⟩ = some (.int .i64 fv.1) := fun z => (HBX.out.2.2.1.below (hDZ z)).at_ 0
 have c1_4 : ∀ z : BW W2, z.w.cell? ⟨vb, 1, none⟩ = some (.int .i64 fv.2.1) := fun z => (HBX.out.2.2.1.below (hDZ z)).at_ 1
 have c2_4 : ∀ z : BW W2, z.w.cell? ⟨vb, 2, none⟩ = some (.string fv.2.2) := fun z => (HBX.out.2.2.1.below (hDZ z)).at_ 2
 have hNE := BW.ne W2
 refine wp_region_below (by kernel_rfl) (by kernel_rfl) ?_
 repeat (go_big_quiet_step ((go_at_call 14; exact BW.on _ (HOF.out _ (HBB.out.1.trans ((blw2 HBF.out (hDZ _)).mono HBB.out.1.size))))))
 refine wpQuiet_nil ?_
 rintro _ ⟨z, rfl⟩
 have HQ := Veil.mk (hDZ z)
 obtain ⟨wE, hE2⟩ : ∃ wE, z.w = wE := ⟨_, rfl⟩
 rw [hE2] at HQ ⊢
 clear c0_3 c0_4 c1_4 c2_4 hDZ hE2 z hNE
 go_upto_region 10 with (fail)
 obtain ⟨WD, hWD⟩ : ∃ WD, wE.drew = WD := ⟨_, rfl⟩
 have hdr : Below wE.heap.size wE WD := by rw [<- hWD]; exact (Below.refl _ _).drew
 have hb9 := blw2 (HQ.out) hdr
 have HBX := Veil.mk (And.intro (HBX.out.1.below hb9) (And.intro (HBX.out.2.1.below hb9) (And.intro (HBX.out.2.2.1.below hb9) (And.intro (HBX.out.2.2.2.1.below hb9) (And.intro (HBX.out.2.2.2.2.1.below hb9) (show ∀ w', Below WD.heap.size WD w' -> w'.cell? ⟨m, 0, none⟩ = some (.pointer (some ⟨h, 0, none⟩)) from fun w' hb => HBX.out.2.2.2.2.2 w' (hb9.trans (hb.mono hb9.size))))))))
 have HBF := Veil.mk (blw2 HBF.out hb9)
 have HWD := Veil.mk hWD
 clear hWD hdr hb9
 clear HQ
 have hDZ : ∀ z : BW wE, Below WD.heap.size WD z.w := fun z => by rw [<- HWD.out]; exact ⟨z.h.1, z.h.2, z.h.3, z.h.4, z.h.5⟩
 have c0_6 : ∀ z : BW wE, z.w.cell? ⟨b, 0, none⟩ = some (.int .i64 1) := fun z => (HBX.out.2.2.2.2.1.below (hDZ z)).at_ 0
 have c14_13 : ∀ z : BW wE, z.w.cell? ⟨o, 14, none⟩ = some (.int .i64 (i : Int)) := fun z => (HBX.out.2.2.2.1.below (hDZ z)).at_ 14
 have c4_17 : ∀ z : BW wE, z.w.cell? ⟨b, 4, none⟩ = some (.slice ao n cap) := fun z => (HBX.out.2.2.2.2.1.below (hDZ z)).at_ 4
 have hNE := BW.ne wE
 refine wp_region_below (by kernel_rfl) (by kernel_rfl) ?_
 repeat (go_big_quiet_step (fail))
 refine wpQuiet_nil ?_
 rintro _ ⟨z, rfl⟩
 have HQ := Veil.mk (hDZ z)
 obtain ⟨wE, hE2⟩ : ∃ wE, z.w = wE := ⟨_, rfl⟩
 rw [hE2] at HQ ⊢
 clear c0_6 c14_13 c4_17 hDZ hE2 z hNE
 go_upto_region 11 with (fail)
 have HOE := Veil.mk (HBX.out.2.2.2.1.below HQ.out)
 have e14 : wE.cell? ⟨o, 14, none⟩ = some (.int .i64 (i : Int)) := HOE.out.at_ 14
 go_upto_region 12 with (go_at_call 362; ((with_reducible refine (whole_any _ _).mono ?_); rintro e w5 ⟨rfl, hb5⟩; have HB5 := Veil.mk (blw2 HQ.out hb5); clear hb5))
 obtain ⟨eb, heb⟩ : ∃ eb, w5.heap.size = eb := ⟨_, rfl⟩
 obtain ⟨w6, hw6⟩ : ∃ w6, w5.alloc (.cells #[.int .i64 3, .int .i64 (i : Int), .string ⟨#[]⟩] 28) = w6 := ⟨_, rfl⟩
 have bx := Box.new w5 28 #[.int .i64 3, .int .i64 (i : Int), .string ⟨#[]⟩]
 have bl : Below w5.heap.size w5 (w5.alloc (.cells #[.int .i64 3, .int .i64 (i : Int), .string ⟨#[]⟩] 28)) := (Below.refl _ _).alloc (Nat.le_refl _) _
 rw [hw6] at bx bl ⊢
 rw [heb] at bx ⊢
 have hb6 := blw2 HB5.out bl
 have HO6 := Veil.mk (HBX.out.2.2.2.1.below hb6)
 have HB6 := Veil.mk (And.intro (blw2 HBF.out hb6) (And.intro bx (And.intro (HBX.out.1.below hb6) (And.intro (HBX.out.2.1.below hb6) (HBX.out.2.2.1.below hb6)))))
 have HEBN : Veil (vb < eb /\ ka < eb /\ kb < eb /\ eb < w6.heap.size) := ⟨by
  have h1 := (HBX.out.2.2.1.below HB5.out).lt
  have h2 := (HBX.out.1.below HB5.out).lt
  have h3 := (HBX.out.2.1.below HB5.out).lt
  have h4 := bx.lt
  omega⟩
 clear heb hw6 e14 HWD HB5 hb6 bx bl HOE HQ HBX
 have e14 : w6.cell? ⟨o, 14, none⟩ = some (.int .i64 (i : Int)) := HO6.out.at_ 14
 have f14 := HO6.out.free 14
 go_upto_region 13 with (fail)
 have hmE : MP w6 h A m f ts := HP0.out.on HB6.out.1
 have hob9 := HO6.out.put 14 (.int .i64 ((i : Int) + 1))
 have hst := hmE.stepV_at (V := fun _ => False) (W' := w6.setCell ⟨o, 14, none⟩ (.int .i64 ((i : Int) + 1))) HPL.out.1 rfl (.pointer none) (.slice none 0 0) .nilIface ⟨kd, .slice (some ⟨g, 0, none⟩) 1 1, (i : Int) + 1, false⟩ (fun _ => False) [] (fun k hk => hk.elim) (Touch.put (.inl rfl) _ _) hob9 (.inl ⟨rfl, rfl, rfl⟩) (fun k hk => hk.elim)
 have hbk6 : Bk A W (w6.setCell ⟨o, 14, none⟩ (.int .i64 ((i : Int) + 1))) := (Bk.of_below HPL.out.2.1 (HBB.out.1.trans (HB6.out.1.mono HBB.out.1.size))).trans ⟨hst.2.bel, fun k e he hl => hst.2.kv k e he hl (fun h => h)⟩
 obtain ⟨w8, hw8⟩ : ∃ w8, w6.setCell ⟨o, 14, none⟩ (.int .i64 ((i : Int) + 1)) = w8 := ⟨_, rfl⟩
 have hto : Touch (fun k => k = o) w6 w8 := by rw [<- hw8]; exact Touch.put (S := fun k => k = o) rfl _ _
 rw [hw8] at hst hbk6 ⊢
 have hno : ∀ k cs, Box w6 k VTy cs -> Box w8 k VTy cs := fun k cs hx => hx.touch hto (hx.other HO6.out (by decide))
 have hel8 : EL w8 A (.slice ao n cap) n xs := (HEL.out.on HB6.out.1).bv hst.2 (fun k hk h => h)
 have hpa8 : (ts.set iw (TO.wkr o kd (.slice (some ⟨g, 0, none⟩) 1 1) ((i : Int) + 1)))[ia]? = some (TO.arz b cz (.slice ao n cap)) := by rw [List.getElem?_set_ne HPL.out.2.2.2]; exact HPL.out.2.2.1
 have hm8 : MP w8 h A m f (ts.set iw (TO.wkr o kd (.slice (some ⟨g, 0, none⟩) 1 1) ((i : Int) + 1))) := hst.1
 have hget := (get_el fv H9.out (hm8.mm.mb.at_ 0) hm8.mm.mb.lt (hm8.mem_b (List.mem_of_getElem? hpa8) rfl) hel8 hin _hn9 (by rw [HXE.out]; exact hx) ⟨fun w' hb => by rw [<- HFV.out]; exact (hm8.on hb).of_at hpa8 rfl _⟩)
 rw [HXE.out] at hget
 have HGT := Veil.mk hget
 have HS8 := Veil.mk (And.intro hm8 hbk6)
 have HB8 := Veil.mk (And.intro (hno _ _ HB6.out.2.1) (And.intro (hno _ _ HB6.out.2.2.1) (And.intro (hno _ _ HB6.out.2.2.2.1) (And.intro (hno _ _ HB6.out.2.2.2.2) hto.size))))
 clear e14 f14 hmE hob9 hst hbk6 hw8 hto hno HO6 HB6 hel8 hpa8 hm8 HOF hget HEL
 have c0 : w8.cell? ⟨vb, 0, none⟩ = some (.int .i64 fv.1) := HB8.out.2.2.2.1.at_ 0
 have c1 : w8.cell? ⟨vb, 1, none⟩ = some (.int .i64 fv.2.1) := HB8.out.2.2.2.1.at_ 1
 have c2 : w8.cell? ⟨vb, 2, none⟩ = some (.string fv.2.2) := HB8.out.2.2.2.1.at_ 2
 have d0 : w8.cell? ⟨eb, 0, none⟩ = some (.int .i64 3) := HB8.out.1.at_ 0
 have d1 : w8.cell? ⟨eb, 1, none⟩ = some (.int .i64 (i : Int)) := HB8.out.1.at_ 1
 have d2 : w8.cell? ⟨eb, 2, none⟩ = some (.string ⟨#[]⟩) := HB8.out.1.at_ 2
 go_upto_region 14 with (go_at_call 189; ((with_reducible refine HGT.out.mono ?_); rintro e w9 ⟨rfl, hb9⟩; have HB9 := Veil.mk hb9; clear hb9))
 obtain ⟨xb, hxb⟩ : ∃ xb, w9.heap.size = xb := ⟨_, rfl⟩
 obtain ⟨w10, hw10⟩ : ∃ w10, w9.alloc (.cells #[.int .i64 x.1, .int .i64 x.2.1, .string x.2.2] 28) = w10 := ⟨_, rfl⟩
 have bx := Box.new w9 28 #[.int .i64 x.1, .int .i64 x.2.1, .string x.2.2]
 have bl : Below w9.heap.size w9 (w9.alloc (.cells #[.int .i64 x.1, .int .i64 x.2.1, .string x.2.2] 28)) := (Below.refl _ _).alloc (Nat.le_refl _) _
 rw [hw10] at bx bl ⊢
 rw [hxb] at bx ⊢
 obtain ⟨WD, hWD⟩ : ∃ WD, w10.drew = WD := ⟨_, rfl⟩
 have hdr : Below w10.heap.size w10 WD := by rw [<- hWD]; exact (Below.refl _ _).drew
 have hb8D := blw2 (blw2 HB9.out bl) hdr
 have HR : Veil (Box WD eb VTy #[.int .i64 3, .int .i64 (i : Int), .string ⟨#[]⟩] /\ Box WD xb VTy #[.int .i64 x.1, .int .i64 x.2.1, .string x.2.2] /\ Box WD ka VTy #[.int .i64 0, .int .i64 0, .string ⟨#[]⟩] /\ Box WD kb VTy #[.int .i64 0, .int .i64 0, .string ⟨#[]⟩] /\ xb ≠ ka /\ kb ≠ ka /\ A <= WD.heap.size /\ A <= ka /\ A <= kb) := ⟨HB8.out.1.below hb8D, bx.below hdr, HB8.out.2.1.below hb8D, HB8.out.2.2.1.below hb8D, by have := HEBN.out; have := HB9.out.size; have := HB8.out.2.2.2.2; omega, by have := HW0.out.2.2; omega, by
  have h1 := HPL.out.2.1
  have h2 := HBB.out.1.size
  have h3 := HB8.out.2.1.lt
  have h4 := hb8D.size
  have h5 := HLO.out.1
  omega, Nat.le_trans HPL.out.2.1 HLO.out.1, Nat.le_trans HPL.out.2.1 HLO.out.2⟩
 have HS9 := Veil.mk (And.intro (HS8.out.1.on hb8D) (HS8.out.2.trans (Bk.of_below (Nat.le_of_lt HS8.out.1.mm.alt) hb8D)))
 have HWD := Veil.mk hWD
 clear hWD hdr hb8D hxb hw10 bx bl HB9 HGT HB8 HS8 c0 c1 c2 d0 d1 d2
 refine wp_region_chain [qv (3, (i : Int), ⟨#[]⟩), qv x, qi 0, none, none, qi 0] (LPh [3, 4] (SqSt WD [(fun w => Touch (fun k => k = ka) WD w /\ Box w ka VTy #[.int .i64 3, .int .i64 (i : Int), .string ⟨#[]⟩]), (fun w => Touch (fun k => k = ka \/ k = kb) WD w /\ Box w ka VTy #[.int .i64 3, .int .i64 (i : Int), .string ⟨#[]⟩] /\ Box w kb VTy #[.int .i64 x.1, .int .i64 x.2.1, .string x.2.2])])) [some 102, some 103, some 104, none, none, some 6] (curV' _ [some 102, some 103, some 104, none, none, some 6]) (by kernel_rfl) rfl rfl (puts_cur _ _) (LPh.start (show _ = WD from HWD.out)) ?_ (by kernel_rfl) ?_
 ·refine SY (fun w' S => ?_) ?_
  ·obtain ⟨⟩ := n6 S.hu
   have gb := (S.hI.bwd [0] 3 0 (by kernel_rfl) rfl S.h0)
   have hst := S.hI.ph.btw1 0 (.inl rfl) (.inr ⟨3, rfl, gb⟩)
   have hst' : WD = w' := (show w' = WD from hst).symm
   clear hst
   subst hst'
   have c0 : WD.cell? ⟨eb, 0, none⟩ = some (.int .i64 3) := HR.out.1.at_ 0
   have c1 : WD.cell? ⟨eb, 1, none⟩ = some (.int .i64 (i : Int)) := HR.out.1.at_ 1
   have c2 : WD.cell? ⟨eb, 2, none⟩ = some (.string ⟨#[]⟩) := HR.out.1.at_ 2
   clear gb
   rw [pin S.ha]
   go_simp
   exact S.kL 0
  refine SY (fun w' S => ?_) ?_
  ·obtain ⟨⟩ := n6 S.hu
   have gb := (S.hI.bwd [1] 4 1 (by kernel_rfl) rfl S.h0)
   obtain ⟨sg, hlo, hhi, hst⟩ := S.hI.ph.btw 0 1 (.inl rfl) (.inr ⟨4, rfl, gb⟩)
   have hx1 := SqSt.box2 hst (by omega) HR.out.2.1 (fun w hw => HR.out.2.1.touch hw.1 HR.out.2.2.2.2.1)
   clear hst
   have c0 : w'.cell? ⟨xb, 0, none⟩ = some (.int .i64 x.1) := hx1.at_ 0
   have c1 : w'.cell? ⟨xb, 1, none⟩ = some (.int .i64 x.2.1) := hx1.at_ 1
   have c2 : w'.cell? ⟨xb, 2, none⟩ = some (.string x.2.2) := hx1.at_ 2
   clear hx1
   clear gb
   rw [pin S.ha]
   go_simp
   exact S.kL 1
  refine SY (fun _ S => ?_) ?_
  ·obtain ⟨⟩ := n6 S.hu
   rw [pin S.ha]
   go_simp
   exact S.kL 2
  refine SY (fun w' S => ?_) ?_
  ·obtain ⟨⟩ := n6 S.hu
   obtain rfl := S.q 0
   have gb := S.h0
   have hst := S.hI.ph.btw1 0 (.inl rfl) (.inr ⟨3, rfl, gb⟩)
   have hst' : WD = w' := (show w' = WD from hst).symm
   clear hst
   subst hst'
   have z0 : WD.cell? ⟨ka, 0, none⟩ = some (.int .i64 0) := HR.out.2.2.1.at_ 0
   have z1 : WD.cell? ⟨ka, 1, none⟩ = some (.int .i64 0) := HR.out.2.2.1.at_ 1
   have z2 : WD.cell? ⟨ka, 2, none⟩ = some (.string ⟨#[]⟩) := HR.out.2.2.1.at_ 2
   have q0 := HR.out.2.2.1.free 0
   have q1 := HR.out.2.2.1.free 1
   have q2 := HR.out.2.2.1.free 2
   clear gb
   rw [pin S.ha]
   go_simp
   exact S.kN 3 undef (S.hI.ph.next 0 3 _ rfl S.h0 (.inl rfl) (by decide) (⟨touch3 _ _ _ _ _, ((HR.out.2.2.1.put 0 _).put 1 _).put 2 _⟩))
  refine SY (fun w' S => ?_) ?_
  ·obtain ⟨⟩ := n6 S.hu
   obtain rfl := S.q 1
   have ga := (gen_after 3 (by kernel_rfl) S.hp)
   have gb := S.h0
   have hst := S.hI.ph.btw1 1 (.inr ⟨3, rfl, ga⟩) (.inr ⟨4, rfl, gb⟩)
   have HS1 := Veil.mk (show Touch (fun k => k = ka) WD w' /\ Box w' ka VTy #[.int .i64 3, .int .i64 (i : Int), .string ⟨#[]⟩] from hst)
   clear hst
   have hkb1 := HR.out.2.2.2.1.touch HS1.out.1 HR.out.2.2.2.2.2.1
   have z0 : w'.cell? ⟨kb, 0, none⟩ = some (.int .i64 0) := hkb1.at_ 0
   have z1 : w'.cell? ⟨kb, 1, none⟩ = some (.int .i64 0) := hkb1.at_ 1
   have z2 : w'.cell? ⟨kb, 2, none⟩ = some (.string ⟨#[]⟩) := hkb1.at_ 2
   have q0 := hkb1.free 0
   have q1 := hkb1.free 1
   have q2 := hkb1.free 2
   have HKB1 := Veil.mk hkb1
   clear hkb1
   have HGA := Veil.mk ga
   clear ga gb
   rw [pin S.ha]
   go_simp
   exact S.kN 4 undef (S.hI.ph.next 1 4 _ rfl S.h0 (.inr ⟨3, rfl, HGA.out⟩) (by decide) (⟨(HS1.out.1.mono (fun _ h => .inl h)).trans ((touch3 _ _ _ _ _).mono (fun _ h => .inr h)), HS1.out.2.touch (touch3 _ _ _ _ _) (Ne.symm HR.out.2.2.2.2.2.1), ((HKB1.out.put 0 _).put 1 _).put 2 _⟩))
  refine SY (fun _ S => ?_) ?_
  ·obtain ⟨⟩ := n6 S.hu
   obtain rfl := S.q 2
   rw [pin S.ha]
   go_simp
   exact S.kL 5
  exact Steps.nil
 ·intro us wE hus dd hD2 hJ
  obtain ⟨⟩ := n6 hus
  have q1 := hJ.ph.all (fun c hc => hD2 c (by
   have : c = 3 \/ c = 4 := by simpa using hc
   show c < 6
   omega))
  obtain rfl := hJ.vq 0 hD2
  obtain rfl := hJ.vq 1 hD2
  obtain rfl := hJ.vq 2 hD2
  obtain rfl := hJ.vq 5 hD2
  clear hJ hD2
  have HQ := Veil.mk (show Touch (fun k => k = ka \/ k = kb) WD wE /\ Box wE ka VTy #[.int .i64 3, .int .i64 (i : Int), .string ⟨#[]⟩] /\ Box wE kb VTy #[.int .i64 x.1, .int .i64 x.2.1, .string x.2.2] from q1)
  clear q1
  simp only [puts, setAll, List.setIfInBounds_toArray, List.set_cons_zero, List.set_cons_succ]
  have r0 := HQ.out.2.1.at_ 0
  have r1 := HQ.out.2.1.at_ 1
  have r2 := HQ.out.2.1.at_ 2
  have s0 := HQ.out.2.2.at_ 0
  have s1 := HQ.out.2.2.at_ 1
  have s2 := HQ.out.2.2.at_ 2
  have hpE := HS9.out.1.touchV HQ.out.1 (fun k hk => ⟨VTy, by decide, hk.elim (fun e => by rw [e]; exact HR.out.2.2.1.lab) (fun e => by rw [e]; exact HR.out.2.2.2.1.lab)⟩)
  have hkE : Bk A W wE := ⟨HS9.out.2.bel.trans (HQ.out.1.below HR.out.2.2.2.2.2.2.1 (fun k hk => hk.elim (fun e => by rw [e]; exact HR.out.2.2.2.2.2.2.2.1) (fun e => by rw [e]; exact HR.out.2.2.2.2.2.2.2.2))), fun k e he hl => by
   have hkl := lab_lt hl
   have e1 := HS9.out.2.kv k e he hl
   exact (HQ.out.1.block k (Nat.lt_of_lt_of_le hkl HS9.out.2.bel.size) (fun h => by
    have := HLO.out.1
    have := HLO.out.2
    rcases h with h | h <;> omega)).trans e1⟩
  go_wp2
  exact bodyPost_ret (v := .tuple #[valV (3, (i : Int), ⟨#[]⟩), valV x, .int .i64 0]) (by simp [results, Tryz.results365, go_sem, r0, r1, r2, s0, s1, s2]) rfl ⟨rfl, hpE, hkE⟩
theorem MP.adv_arz_end (H : MP W h A m f ts) {cz : Bool} {iw ia o g b i n : Nat} {kd : Int} {ev : Value} {xs : Nat -> Vt} (hp : ts[iw]? = some (TO.wkr o kd (.slice (some ⟨g, 0, none⟩) 1 1) (i : Int))) (hpa : ts[ia]? = some (TO.arz b cz ev)) (hne : iw ≠ ia) (hg : Box W g VTy #[.int .i64 9, .int .i64 ((ia : Int) + 1), .string ⟨#[]⟩]) (hel : EL W A ev n xs) (_hn9 : n <= 1000000) (hi9 : i <= 1000000) (hin : n <= i) :
  Calls Tryz.prog 365 #[.pointer (some ⟨m, 0, none⟩), .pointer (some ⟨o, 0, none⟩)] W fun e w' => e = .returned (.tuple #[valV zV, valV zV, .int .i64 0]) /\ MP w' h A m f (ts.set iw (TO.wkr o kd (.slice none 0 0) (i : Int))) /\ Bk A W w' := by
 have hA := Nat.le_of_lt H.mm.alt
 have hob : Box W o 63 (objF 5 12 false (.pointer none) (.slice none 0 0) .nilIface ⟨kd, .slice (some ⟨g, 0, none⟩) 1 1, (i : Int), false⟩) := H.mem_b (List.mem_of_getElem? hp) rfl
 obtain ⟨fv, hfv⟩ : ∃ fv : Vt, ((9, (ia : Int) + 1, ⟨#[]⟩) : Vt) = fv := ⟨_, rfl⟩
 have hg2 : Box W g VTy #[.int .i64 fv.1, .int .i64 fv.2.1, .string fv.2.2] := by rw [<- hfv]; exact hg
 have HOF : Veil (∀ w', Below W.heap.size W w' -> Calls Tryz.prog 14 #[.pointer (some ⟨h, 0, none⟩), valV fv] w' fun e w9 => e = .returned (.pointer (some ⟨b, 0, none⟩)) /\ Below w'.heap.size w' w9) := ⟨fun w' hb => by rw [<- hfv]; exact (H.on hb).of_at hpa rfl _⟩
 have HFV : Veil (((9, (ia : Int) + 1, ⟨#[]⟩) : Vt) = fv) := ⟨hfv⟩
 have H9 : Veil (fv.1 = 9) := ⟨by rw [<- hfv]⟩
 obtain ⟨ao, cap, rfl⟩ : ∃ ao cap, ev = .slice ao n cap := by
  rcases hel with ⟨e1, e2⟩ | ⟨g2, cap, e1, _⟩
  ·exact ⟨none, 0, by rw [e1, e2]⟩
  ·exact ⟨_, _, e1⟩
 have hbb : Box W b 63 (objC 1 3 cz (.pointer none) (.slice ao n cap)) := H.mem_b (List.mem_of_getElem? hpa) rfl
 obtain ⟨ka, hka⟩ : ∃ ka, W.heap.size = ka := ⟨_, rfl⟩
 obtain ⟨kb, hkb⟩ : ∃ kb, ka + 1 = kb := ⟨_, rfl⟩
 obtain ⟨W0, hW0⟩ : ∃ W0, ((W.alloc (.cells #[.int .i64 0, .int .i64 0, .string ⟨#[]⟩] 28)).alloc (.cells #[.int .i64 0, .int .i64 0, .string ⟨#[]⟩] 28)) = W0 := ⟨_, rfl⟩
 have bb : Below W.heap.size W W0 := by rw [<- hW0]; exact (((Below.refl _ _).alloc (Nat.le_refl _) _).alloc (by simp only [World.size_alloc]; omega) _)
 have xka : Box W0 ka 28 #[.int .i64 0, .int .i64 0, .string ⟨#[]⟩] := by have h9 := ((Box.new W 28 #[.int .i64 0, .int .i64 0, .string ⟨#[]⟩]).more (.cells #[.int .i64 0, .int .i64 0, .string ⟨#[]⟩] 28)); rw [hW0, hka] at h9; exact h9
 have xkb : Box W0 kb 28 #[.int .i64 0, .int .i64 0, .string ⟨#[]⟩] := by have h9 := Box.new (W.alloc (.cells #[.int .i64 0, .int .i64 0, .string ⟨#[]⟩] 28)) 28 #[.int .i64 0, .int .i64 0, .string ⟨#[]⟩]; rw [hW0, show (W.alloc (.cells #[.int .i64 0, .int .i64 0, .string ⟨#[]⟩] 28)).heap.size = kb from by simp only [World.size_alloc]; omega] at h9; exact h9
 have HW0 := Veil.mk (And.intro hW0 (And.intro hka (hkb)))
 have HBB := Veil.mk (And.intro bb (And.intro xka (xkb)))
 have HLO : Veil (W.heap.size <= ka /\ W.heap.size <= kb) := ⟨by omega⟩
 clear hW0 bb hka xka hkb xkb
 have HP0 := Veil.mk (H.on HBB.out.1)
 have HPL := Veil.mk (And.intro hp (And.intro hA (And.intro hpa hne)))
 have HEL := Veil.mk (hel.on HBB.out.1)
 have ho0 := hob.below HBB.out.1
 have hg0 := hg2.below HBB.out.1
 have hb0' := hbb.below HBB.out.1
 have HG0 := Veil.mk (And.intro ho0 (And.intro hg0 hb0'))
 have hi0 : (0 : Int) <= (i : Int) := by omega
 have hi1 : ¬ (i : Int) < (n : Int) := by omega
 have d5 : W0.cell? ⟨o, 5, none⟩ = some (.slice (some ⟨g, 0, none⟩) 1 1) := ho0.at_ 5
 have d7 : W0.cell? ⟨o, 7, none⟩ = some (.pointer none) := ho0.at_ 7
 have c0 : W0.cell? ⟨g, 0, none⟩ = some (.int .i64 fv.1) := hg0.at_ 0
 have c1 : W0.cell? ⟨g, 1, none⟩ = some (.int .i64 fv.2.1) := hg0.at_ 1
 have c2 : W0.cell? ⟨g, 2, none⟩ = some (.string fv.2.2) := hg0.at_ 2
 clear H hp hpa hg hg2 hel hA hob hbb ho0 hg0 hb0' hfv
 go_enter Tryz.func365, Tryz.ntmps365
 go_upto_region 1 with (fail)
 rw [HW0.out.1, HW0.out.2.1, HW0.out.2.2]
 go_upto_region 4 with (fail)
 obtain ⟨vb, hvb⟩ : ∃ vb, W0.heap.size = vb := ⟨_, rfl⟩
 obtain ⟨W2, hW2⟩ : ∃ W2, W0.alloc (.cells #[.int .i64 fv.1, .int .i64 fv.2.1, .string fv.2.2] 28) = W2 := ⟨_, rfl⟩
 have bx := Box.new W0 28 #[.int .i64 fv.1, .int .i64 fv.2.1, .string fv.2.2]
 have bl : Below W0.heap.size W0 (W0.alloc (.cells #[.int .i64 fv.1, .int .i64 fv.2.1, .string fv.2.2] 28)) := (Below.refl _ _).alloc (Nat.le_refl _) _
 rw [hW2] at bx bl ⊢
 rw [hvb] at bx ⊢
 have HB2 := Veil.mk (And.intro bl bx)
 clear c0 c1 c2 d5 d7 hvb hW2 bl bx
 have d7 : W2.cell? ⟨o, 7, none⟩ = some (.pointer none) := (HG0.out.1.below HB2.out.1).at_ 7
 go_upto_region 9 with (fail)
 obtain ⟨WD, hWD⟩ : ∃ WD, W2.drew = WD := ⟨_, rfl⟩
 have hdr : Below W2.heap.size W2 WD := by rw [<- hWD]; exact (Below.refl _ _).drew
 have hbD := blw2 HB2.out.1 hdr
 have HBX := Veil.mk (And.intro (HBB.out.2.1.below hbD) (And.intro (HBB.out.2.2.below hbD) (And.intro (HB2.out.2.below hdr) (And.intro (HG0.out.1.below hbD) (And.intro (HG0.out.2.2.below hbD) (show ∀ w', Below WD.heap.size WD w' -> w'.cell? ⟨m, 0, none⟩ = some (.pointer (some ⟨h, 0, none⟩)) from fun w' hb => ((HP0.out.on hbD).on hb).mm.mb.at_ 0))))))
 have HBF := Veil.mk hbD
 have HWD := Veil.mk hWD
 clear hWD hdr hbD d7 HB2 HG0
 have hDZ : ∀ z : BW W2, Below WD.heap.size WD z.w := fun z => by rw [<- HWD.out]; exact ⟨z.h.1, z.h.2, z.h.3, z.h.4, z.h.5⟩
 have c0_3 : ∀ z : BW W2, z.w.cell? ⟨m, 0, none⟩ = some (.pointer (some ⟨h, 0, none⟩)) := fun z => HBX.out.2.2.2.2.2 z.w (hDZ z)
 have c0_4 : ∀ z : BW W2, z.w.cell? ⟨vb, 0, none⟩ = some (.int .i64 fv.1) := fun z => (HBX.out.2.2.1.below (hDZ z)).at_ 0
 have c1_4 : ∀ z : BW W2, z.w.cell? ⟨vb, 1, none⟩ = some (.int .i64 fv.2.1) := fun z => (HBX.out.2.2.1.below (hDZ z)).at_ 1
 have c2_4 : ∀ z : BW W2, z.w.cell? ⟨vb, 2, none⟩ = some (.string fv.2.2) := fun z => (HBX.out.2.2.1.below (hDZ z)).at_ 2
 have hNE := BW.ne W2
 refine wp_region_below (by kernel_rfl) (by kernel_rfl) ?_
 repeat (go_big_quiet_step ((go_at_call 14; exact BW.on _ (HOF.out _ (HBB.out.1.trans ((blw2 HBF.out (hDZ _)).mono HBB.out.1.size))))))
 refine wpQuiet_nil ?_
 rintro _ ⟨z, rfl⟩
 have HQ := Veil.mk (hDZ z)
 obtain ⟨wE, hE2⟩ : ∃ wE, z.w = wE := ⟨_, rfl⟩
 rw [hE2] at HQ ⊢
 clear c0_3 c0_4 c1_4 c2_4 hDZ hE2 z hNE
 go_upto_region 10 with (fail)
 obtain ⟨WD, hWD⟩ : ∃ WD, wE.drew = WD := ⟨_, rfl⟩
 have hdr : Below wE.heap.size wE WD := by rw [<- hWD]; exact (Below.refl _ _).drew
 have hb9 := blw2 (HQ.out) hdr
 have HBX := Veil.mk (And.intro (HBX.out.1.below hb9) (And.intro (HBX.out.2.1.below hb9) (And.intro (HBX.out.2.2.1.below hb9) (And.intro (HBX.out.2.2.2.1.below hb9) (And.intro (HBX.out.2.2.2.2.1.below hb9) (show ∀ w', Below WD.heap.size WD w' -> w'.cell? ⟨m, 0, none⟩ = some (.pointer (some ⟨h, 0, none⟩)) from fun w' hb => HBX.out.2.2.2.2.2 w' (hb9.trans (hb.mono hb9.size))))))))
 have HBF := Veil.mk (blw2 HBF.out hb9)
 have HWD := Veil.mk hWD
 clear hWD hdr hb9
 clear HQ
 have hDZ : ∀ z : BW wE, Below WD.heap.size WD z.w := fun z => by rw [<- HWD.out]; exact ⟨z.h.1, z.h.2, z.h.3, z.h.4, z.h.5⟩
 have c0_6 : ∀ z : BW wE, z.w.cell? ⟨b, 0, none⟩ = some (.int .i64 1) := fun z => (HBX.out.2.2.2.2.1.below (hDZ z)).at_ 0
 have c14_13 : ∀ z : BW wE, z.w.cell? ⟨o, 14, none⟩ = some (.int .i64 (i : Int)) := fun z => (HBX.out.2.2.2.1.below (hDZ z)).at_ 14
 have c4_17 : ∀ z : BW wE, z.w.cell? ⟨b, 4, none⟩ = some (.slice ao n cap) := fun z => (HBX.out.2.2.2.2.1.below (hDZ z)).at_ 4
 have hNE := BW.ne wE
 refine wp_region_below (by kernel_rfl) (by kernel_rfl) ?_
 repeat (go_big_quiet_step (fail))
 refine wpQuiet_nil ?_
 rintro _ ⟨z, rfl⟩
 have HQ := Veil.mk (hDZ z)
 obtain ⟨wE, hE2⟩ : ∃ wE, z.w = wE := ⟨_, rfl⟩
 rw [hE2] at HQ ⊢
 clear c0_6 c14_13 c4_17 hDZ hE2 z hNE
 have v0 : wE.cell? ⟨vb, 0, none⟩ = some (.int .i64 9) := by rw [<- H9.out]; exact (HBX.out.2.2.1.below HQ.out).at_ 0
 go_upto_region 15 with (fail)
 go_quiet (fail)
 obtain ⟨wF, hwF⟩ : ∃ wF, wE.drewN nq = wF := ⟨_, rfl⟩
 rw [hwF]
 have HQ : Veil (Below WD.heap.size WD wF) := ⟨HQ.out.trans (by rw [<- hwF]; exact ⟨rfl, rfl, rfl, Nat.le_refl _, fun _ _ => rfl⟩)⟩
 clear hwF v0 HWD HEL HOF
 have HOE := Veil.mk (HBX.out.2.2.2.1.below HQ.out)
 have e5 : wF.cell? ⟨o, 5, none⟩ = some (.slice (some ⟨g, 0, none⟩) 1 1) := HOE.out.at_ 5
 have f5 := HOE.out.free 5
 go_upto_region 22 with (fail)
 have hmE : MP wF h A m f ts := (HP0.out.on HBF.out).on HQ.out
 have hob9 := HOE.out.put 5 (.slice none 0 0)
 have hst := hmE.stepV_at (V := fun _ => False) (W' := wF.setCell ⟨o, 5, none⟩ (.slice none 0 0)) HPL.out.1 rfl (.pointer none) (.slice none 0 0) .nilIface ⟨kd, .slice none 0 0, (i : Int), false⟩ (fun _ => False) [] (fun k hk => hk.elim) (Touch.put (.inl rfl) _ _) hob9 (.inl ⟨rfl, rfl, rfl⟩) (fun k hk => hk.elim)
 have hbk6 : Bk A W (wF.setCell ⟨o, 5, none⟩ (.slice none 0 0)) := (Bk.of_below HPL.out.2.1 (HBB.out.1.trans ((blw2 HBF.out HQ.out).mono HBB.out.1.size))).trans ⟨hst.2.bel, fun k e he hl => hst.2.kv k e he hl (fun h => h)⟩
 obtain ⟨w8, hw8⟩ : ∃ w8, wF.setCell ⟨o, 5, none⟩ (.slice none 0 0) = w8 := ⟨_, rfl⟩
 have hto : Touch (fun k => k = o) wF w8 := by rw [<- hw8]; exact Touch.put (S := fun k => k = o) rfl _ _
 rw [hw8] at hst hbk6 ⊢
 have hno : ∀ k cs, Box wF k VTy cs -> Box w8 k VTy cs := fun k cs hx => hx.touch hto (hx.other HOE.out (by decide))
 have HKA := Veil.mk (hno _ _ (HBX.out.1.below HQ.out))
 have HKB := Veil.mk (hno _ _ (HBX.out.2.1.below HQ.out))
 have HS8 := Veil.mk (And.intro hst.1 hbk6)
 have HNK : Veil (kb ≠ ka) := ⟨by have := HW0.out.2.2; omega⟩
 clear e5 f5 hmE hob9 hst hbk6 hw8 hto hno HOE HQ HBX
 have z0 : w8.cell? ⟨ka, 0, none⟩ = some (.int .i64 0) := HKA.out.at_ 0
 have z1 : w8.cell? ⟨ka, 1, none⟩ = some (.int .i64 0) := HKA.out.at_ 1
 have z2 : w8.cell? ⟨ka, 2, none⟩ = some (.string ⟨#[]⟩) := HKA.out.at_ 2
 have q0 := HKA.out.free 0
 have q1 := HKA.out.free 1
 have q2 := HKA.out.free 2
 have x0 : w8.cell? ⟨kb, 0, none⟩ = some (.int .i64 0) := HKB.out.at_ 0
 have x1 : w8.cell? ⟨kb, 1, none⟩ = some (.int .i64 0) := HKB.out.at_ 1
 have x2 : w8.cell? ⟨kb, 2, none⟩ = some (.string ⟨#[]⟩) := HKB.out.at_ 2
 have y0 := HKB.out.free 0
 have y1 := HKB.out.free 1
 have y2 := HKB.out.free 2
 have hnk := HNK.out
 go_wp2
 have ha3 := ((HKA.out.put 0 (.int .i64 0)).put 1 (.int .i64 0)).put 2 (.string ⟨#[]⟩)
 have ha := ((ha3.touch (Touch.put (S := fun k => k = kb) rfl 0 (.int .i64 0)) (Ne.symm hnk)).touch (Touch.put (S := fun k => k = kb) rfl 1 (.int .i64 0)) (Ne.symm hnk)).touch (Touch.put (S := fun k => k = kb) rfl 2 (.string ⟨#[]⟩)) (Ne.symm hnk)
 have hk0 := ((HKB.out.touch (Touch.put (S := fun k => k = ka) rfl 0 (.int .i64 0)) hnk).touch (Touch.put (S := fun k => k = ka) rfl 1 (.int .i64 0)) hnk).touch (Touch.put (S := fun k => k = ka) rfl 2 (.string ⟨#[]⟩)) hnk
 have hb3 := ((hk0.put 0 (.int .i64 0)).put 1 (.int .i64 0)).put 2 (.string ⟨#[]⟩)
 have r0 := ha.at_ 0
 have r1 := ha.at_ 1
 have r2 := ha.at_ 2
 have s0 := hb3.at_ 0
 have s1 := hb3.at_ 1
 have s2 := hb3.at_ 2
 have hp3 := ((HS8.out.1.putv HKA.out.lab 0 (.int .i64 0)).putv (HKA.out.put 0 _).lab 1 (.int .i64 0)).putv ((HKA.out.put 0 _).put 1 _).lab 2 (.string ⟨#[]⟩)
 have hp6 := ((hp3.putv hk0.lab 0 (.int .i64 0)).putv (hk0.put 0 _).lab 1 (.int .i64 0)).putv ((hk0.put 0 _).put 1 _).lab 2 (.string ⟨#[]⟩)
 have hk3 := ((HS8.out.2.setv HLO.out.1 HPL.out.2.1 0 (.int .i64 0)).setv HLO.out.1 HPL.out.2.1 1 (.int .i64 0)).setv HLO.out.1 HPL.out.2.1 2 (.string ⟨#[]⟩)
 have hk6 := ((hk3.setv HLO.out.2 HPL.out.2.1 0 (.int .i64 0)).setv HLO.out.2 HPL.out.2.1 1 (.int .i64 0)).setv HLO.out.2 HPL.out.2.1 2 (.string ⟨#[]⟩)
 exact bodyPost_ret (v := .tuple #[valV zV, valV zV, .int .i64 0]) (by simp [results, Tryz.results365, go_sem, r0, r1, r2, s0, s1, s2]) rfl ⟨rfl, hp6, hk6⟩
end
section
variable {W : World} {h A m : Nat} {f : MF} {ts ts1 : List TO}
theorem MP.next_key (H : MP W h A m f ts) (hf : f 0 = 1) {iw o g : Nat} {at1 : Int} {sl0 : Value} {at0 : Int} (k v : Vt) (hp : ts[iw]? = some (TO.wkr o 1 sl0 at0)) (hp1 : ts1[iw]? = some (TO.wkr o 1 (.slice (some ⟨g, 0, none⟩) 1 1) at1)) (hl1 : ts1.length < 99999)
  (HAV : Veil (∀ w', Below W.heap.size W w' -> Calls Tryz.prog 365 #[.pointer (some ⟨m, 0, none⟩), .pointer (some ⟨o, 0, none⟩)] w' fun e w9 => e = .returned (.tuple #[valV k, valV v, .int .i64 0]) /\ MP w9 h A m f ts1 /\ Bk A w' w9)) :
  Calls Tryz.prog 352 #[.pointer (some ⟨m, 0, none⟩), valV (9, (iw : Int) + 1, ⟨#[]⟩)] W fun e w' => e = .returned (.tuple #[valV (9, (ts1.length : Int) + 1, ⟨#[]⟩), .int .i64 0]) /\ ∃ ob pv F, MP w' h A m f (ts1 ++ [(⟨ob, 0, 1, pv, .slice none 0 0, .nilIface, kd0, F, [(kVal, k, 7), (kDone, tvV false, 7)]⟩ : TO)]) /\ Bk A W w' := by
 obtain ⟨fv, hfv⟩ : ∃ fv : Vt, ((9, (iw : Int) + 1, ⟨#[]⟩) : Vt) = fv := ⟨_, rfl⟩
 obtain ⟨r, hr⟩ : ∃ r : Int, (ts1.length : Int) + 1 = r := ⟨_, rfl⟩
 rw [hr]
 have HA : Veil (A <= W.heap.size) := ⟨Nat.le_of_lt H.mm.alt⟩
 obtain ⟨tb, htb⟩ : ∃ tb, W.heap.size = tb := ⟨_, rfl⟩
 obtain ⟨rb, hrb⟩ : ∃ rb, tb + 1 = rb := ⟨_, rfl⟩
 obtain ⟨W0, hW0⟩ : ∃ W0, ((W.alloc (.cells #[.int .i64 fv.1, .int .i64 fv.2.1, .string fv.2.2] VTy)).alloc (.cells #[.int .i64 0, .int .i64 0, .string ⟨#[]⟩] VTy)) = W0 := ⟨_, rfl⟩
 have bb : Below W.heap.size W W0 := by rw [<- hW0]; exact (((Below.refl _ _).alloc (Nat.le_refl _) _).alloc (by simp only [World.size_alloc]; omega) _)
 have xtb : Box W0 tb VTy #[.int .i64 fv.1, .int .i64 fv.2.1, .string fv.2.2] := by have h9 := ((Box.new W VTy #[.int .i64 fv.1, .int .i64 fv.2.1, .string fv.2.2]).more (.cells #[.int .i64 0, .int .i64 0, .string ⟨#[]⟩] VTy)); rw [hW0, htb] at h9; exact h9
 have xrb : Box W0 rb VTy #[.int .i64 0, .int .i64 0, .string ⟨#[]⟩] := by have h9 := Box.new (W.alloc (.cells #[.int .i64 fv.1, .int .i64 fv.2.1, .string fv.2.2] VTy)) VTy #[.int .i64 0, .int .i64 0, .string ⟨#[]⟩]; rw [hW0, show (W.alloc (.cells #[.int .i64 fv.1, .int .i64 fv.2.1, .string fv.2.2] VTy)).heap.size = rb from by simp only [World.size_alloc]; omega] at h9; exact h9
 have HW0 := Veil.mk (And.intro hW0 (And.intro htb (hrb)))
 have HBB := Veil.mk (And.intro bb (And.intro xtb (xrb)))
 have HLO : Veil (W.heap.size <= tb /\ W.heap.size <= rb) := ⟨by omega⟩
 clear hW0 bb htb xtb hrb xrb
 have HOF : Veil (∀ w9, Below W.heap.size W w9 -> Calls Tryz.prog 14 #[.pointer (some ⟨h, 0, none⟩), valV fv] w9 fun e w' => e = .returned (.pointer (some ⟨o, 0, none⟩)) /\ Below w9.heap.size w9 w') := ⟨fun w9 hb => by rw [<- hfv]; exact (H.on hb).of_at hp rfl ⟨#[]⟩⟩
 have HCM : Veil (∀ w9, Below W.heap.size W w9 -> w9.cell? ⟨m, 0, none⟩ = some (.pointer (some ⟨h, 0, none⟩))) := ⟨fun w9 hb => (H.on hb).mm.mb.at_ 0⟩
 have HCL : Veil (∀ w9, Below W.heap.size W w9 -> w9.cell? ⟨o, 0, none⟩ = some (.int .i64 5)) := ⟨fun w9 hb => ((H.on hb).mem_b (List.mem_of_getElem? hp) rfl).at_ 0⟩
 have HRS : Veil (∀ w9 (x : Vt) (dn : Bool), MP w9 h A m f ts1 -> Calls Tryz.prog 366 #[.pointer (some ⟨m, 0, none⟩), valV x, .bool dn] w9 fun e w' => e = .returned (valV (9, r, ⟨#[]⟩)) /\ ∃ ob pv F, MP w' h A m f (ts1 ++ [(⟨ob, 0, 1, pv, .slice none 0 0, .nilIface, kd0, F, [(kVal, x, 7), (kDone, tvV dn, 7)]⟩ : TO)]) /\ Bk A w9 w') := ⟨fun w9 x dn h9 => by rw [<- hr]; exact h9.result hf hl1 x dn⟩
 have HP1 := Veil.mk hp1
 rw [hfv]
 clear H hf hp hp1 hl1 hfv hr
 go_enter Tryz.func352, Tryz.ntmps352
 go_upto_region 1 with (fail)
 rw [HW0.out.1, HW0.out.2.1, HW0.out.2.2]
 have m0 : ∀ z : BW W0, z.w.cell? ⟨m, 0, none⟩ = some (.pointer (some ⟨h, 0, none⟩)) := fun z => HCM.out _ (blw2 HBB.out.1 z.h)
 have c0 : ∀ z : BW W0, z.w.cell? ⟨tb, 0, none⟩ = some (.int .i64 fv.1) := fun z => (HBB.out.2.1.below z.h).at_ 0
 have c1 : ∀ z : BW W0, z.w.cell? ⟨tb, 1, none⟩ = some (.int .i64 fv.2.1) := fun z => (HBB.out.2.1.below z.h).at_ 1
 have c2 : ∀ z : BW W0, z.w.cell? ⟨tb, 2, none⟩ = some (.string fv.2.2) := fun z => (HBB.out.2.1.below z.h).at_ 2
 have hNE := BW.ne W0
 refine wp_region_below (by kernel_rfl) (by kernel_rfl) ?_
 repeat (go_big_quiet_step ((go_at_call 14; exact BW.on _ (HOF.out _ (blw2 HBB.out.1 (BW.h _))))))
 refine wpQuiet_nil ?_
 rintro _ ⟨z, rfl⟩
 have HQ := Veil.mk z.h
 obtain ⟨wE, hE2⟩ : ∃ wE, z.w = wE := ⟨_, rfl⟩
 rw [hE2] at HQ ⊢
 clear m0 c0 c1 c2 hE2 z hNE
 have hbE := blw2 HBB.out.1 HQ.out
 have d0 : wE.cell? ⟨o, 0, none⟩ = some (.int .i64 5) := HCL.out wE hbE
 have HXE := Veil.mk (HBB.out.2.2.below HQ.out)
 have HAE := Veil.mk (HAV.out wE hbE)
 have HBE := Veil.mk (Bk.of_below HA.out hbE)
 clear hbE HOF HCM HCL HAV HQ HBB HW0
 go_upto_region 4 with (fail)
 clear d0
 go_upto_region 5 with (go_at_call 365; ((with_reducible refine HAE.out.mono ?_); rintro e w4 ⟨rfl, hm4, hb4⟩; have HM4 := Veil.mk (And.intro hm4 (And.intro (HBE.out.trans hb4) (hb4.boxE HXE.out (by decide)))); clear hm4 hb4))
 obtain ⟨kb, hkb⟩ : ∃ kb, w4.heap.size = kb := ⟨_, rfl⟩
 obtain ⟨vb, hvb⟩ : ∃ vb, kb + 1 = vb := ⟨_, rfl⟩
 obtain ⟨w5, hw5⟩ : ∃ w5, (w4.alloc (.cells #[.int .i64 k.1, .int .i64 k.2.1, .string k.2.2] VTy)).alloc (.cells #[.int .i64 v.1, .int .i64 v.2.1, .string v.2.2] VTy) = w5 := ⟨_, rfl⟩
 have bxk := (Box.new w4 VTy #[.int .i64 k.1, .int .i64 k.2.1, .string k.2.2]).more (.cells #[.int .i64 v.1, .int .i64 v.2.1, .string v.2.2] VTy)
 have bxv := Box.new (w4.alloc (.cells #[.int .i64 k.1, .int .i64 k.2.1, .string k.2.2] VTy)) VTy #[.int .i64 v.1, .int .i64 v.2.1, .string v.2.2]
 have bl : Below w4.heap.size w4 ((w4.alloc (.cells #[.int .i64 k.1, .int .i64 k.2.1, .string k.2.2] VTy)).alloc (.cells #[.int .i64 v.1, .int .i64 v.2.1, .string v.2.2] VTy)) := ((Below.refl _ _).alloc (Nat.le_refl _) _).alloc (by simp only [World.size_alloc]; omega) _
 rw [hw5, show (w4.alloc (.cells #[.int .i64 k.1, .int .i64 k.2.1, .string k.2.2] VTy)).heap.size = vb from by rw [<- hvb, <- hkb]; simp only [World.size_alloc]] at bxv
 rw [hw5, hkb] at bxk
 rw [hw5] at bl ⊢
 rw [hkb, hvb]
 have HM5 := Veil.mk (And.intro (HM4.out.1.on bl) (And.intro (HM4.out.2.1.trans (Bk.of_below (Nat.le_of_lt HM4.out.1.mm.alt) bl)) (And.intro (HM4.out.2.2.below bl) (And.intro bxk bxv))))
 have HNE : Veil (W.heap.size <= kb /\ W.heap.size <= vb /\ vb ≠ rb /\ kb ≠ vb) := ⟨by
  have h1 := HM4.out.2.1.bel.size
  have h2 := HM4.out.2.2.lt
  omega⟩
 clear bl bxk bxv hw5 hkb hvb HM4 HAE HBE HXE
 have hob := HM5.out.1.mem_b (List.mem_of_getElem? HP1.out) rfl
 have d5 : w5.cell? ⟨o, 5, none⟩ = some (.slice (some ⟨g, 0, none⟩) 1 1) := hob.at_ 5
 have d13 : w5.cell? ⟨o, 13, none⟩ = some (.int .i64 1) := hob.at_ 13
 have c0 : w5.cell? ⟨kb, 0, none⟩ = some (.int .i64 k.1) := HM5.out.2.2.2.1.at_ 0
 have c1 : w5.cell? ⟨kb, 1, none⟩ = some (.int .i64 k.2.1) := HM5.out.2.2.2.1.at_ 1
 have c2 : w5.cell? ⟨kb, 2, none⟩ = some (.string k.2.2) := HM5.out.2.2.2.1.at_ 2
 have v0 : w5.cell? ⟨vb, 0, none⟩ = some (.int .i64 v.1) := HM5.out.2.2.2.2.at_ 0
 have v1 : w5.cell? ⟨vb, 1, none⟩ = some (.int .i64 v.2.1) := HM5.out.2.2.2.2.at_ 1
 have v2 : w5.cell? ⟨vb, 2, none⟩ = some (.string v.2.2) := HM5.out.2.2.2.2.at_ 2
 have f0 := HM5.out.2.2.2.2.free 0
 have f1 := HM5.out.2.2.2.2.free 1
 have f2 := HM5.out.2.2.2.2.free 2
 clear hob
 go_upto_region 13 with (fail)
 have hv6 := ((HM5.out.2.2.2.2.put 0 (.int .i64 k.1)).put 1 (.int .i64 k.2.1)).put 2 (.string k.2.2)
 have hm6 := ((HM5.out.1.putv HM5.out.2.2.2.2.lab 0 (.int .i64 k.1)).putv (HM5.out.2.2.2.2.put 0 _).lab 1 (.int .i64 k.2.1)).putv ((HM5.out.2.2.2.2.put 0 _).put 1 _).lab 2 (.string k.2.2)
 have hk6 := ((HM5.out.2.1.setv HNE.out.2.1 HA.out 0 (.int .i64 k.1)).setv HNE.out.2.1 HA.out 1 (.int .i64 k.2.1)).setv HNE.out.2.1 HA.out 2 (.string k.2.2)
 have hr6 := HM5.out.2.2.1.touch (touch3 w5 vb (.int .i64 k.1) (.int .i64 k.2.1) (.string k.2.2)) (fun e => HNE.out.2.2.1 e.symm)
 obtain ⟨w6, hw6⟩ : ∃ w6, ((w5.setCell ⟨vb, 0, none⟩ (.int .i64 k.1)).setCell ⟨vb, 1, none⟩ (.int .i64 k.2.1)).setCell ⟨vb, 2, none⟩ (.string k.2.2) = w6 := ⟨_, rfl⟩
 rw [hw6] at hv6 hm6 hk6 hr6 ⊢
 have HM6 := Veil.mk (And.intro hm6 (And.intro hk6 hr6))
 clear c0 c1 c2 v0 v1 v2 f0 f1 f2 d5 d13 hm6 hk6 hr6 hw6 HM5
 have v0 : w6.cell? ⟨vb, 0, none⟩ = some (.int .i64 k.1) := hv6.at_ 0
 have v1 : w6.cell? ⟨vb, 1, none⟩ = some (.int .i64 k.2.1) := hv6.at_ 1
 have v2 : w6.cell? ⟨vb, 2, none⟩ = some (.string k.2.2) := hv6.at_ 2
 clear hv6
 have HR5 := Veil.mk (HRS.out w6 k false HM6.out.1)
 clear HRS
 go_wp2_with (go_at_call 366; ((with_reducible refine HR5.out.mono ?_); rintro e w7 ⟨rfl, ob, pv, F, hm7, hb7⟩; have HM7 := Veil.mk (And.intro hm7 (And.intro (HM6.out.2.1.trans hb7) (hb7.boxE HM6.out.2.2 (by decide)))); clear hm7 hb7; have z0 : w7.cell? ⟨rb, 0, none⟩ = some (.int .i64 0) := (HM7.out.2.2).at_ 0; have q0 := (HM7.out.2.2).free 0; have z1 : w7.cell? ⟨rb, 1, none⟩ = some (.int .i64 0) := (HM7.out.2.2).at_ 1; have q1 := (HM7.out.2.2).free 1; have z2 : w7.cell? ⟨rb, 2, none⟩ = some (.string ⟨#[]⟩) := (HM7.out.2.2).at_ 2; have q2 := (HM7.out.2.2).free 2))
 have hr3 := ((HM7.out.2.2.put 0 (.int .i64 9)).put 1 (.int .i64 r)).put 2 (.string ⟨#[]⟩)
 have y0 := hr3.at_ 0
 have y1 := hr3.at_ 1
 have y2 := hr3.at_ 2
 have hp3 := ((HM7.out.1.putv HM7.out.2.2.lab 0 (.int .i64 9)).putv (HM7.out.2.2.put 0 _).lab 1 (.int .i64 r)).putv ((HM7.out.2.2.put 0 _).put 1 _).lab 2 (.string ⟨#[]⟩)
 have hk3 := ((HM7.out.2.1.setv HLO.out.2 HA.out 0 (.int .i64 9)).setv HLO.out.2 HA.out 1 (.int .i64 r)).setv HLO.out.2 HA.out 2 (.string ⟨#[]⟩)
 exact bodyPost_ret (v := .tuple #[valV (9, r, ⟨#[]⟩), .int .i64 0]) (by simp [results, Tryz.results352, go_sem, y0, y1, y2]) rfl ⟨rfl, ob, pv, F, hp3, hk3⟩
theorem MP.next_keyend (H : MP W h A m f ts) (hf : f 0 = 1) {iw o : Nat} {at1 : Int} {sl0 : Value} {at0 : Int} (k v : Vt) (hp : ts[iw]? = some (TO.wkr o 1 sl0 at0)) (hp1 : ts1[iw]? = some (TO.wkr o 1 (.slice none 0 0) at1)) (hl1 : ts1.length < 99999)
  (HAV : Veil (∀ w', Below W.heap.size W w' -> Calls Tryz.prog 365 #[.pointer (some ⟨m, 0, none⟩), .pointer (some ⟨o, 0, none⟩)] w' fun e w9 => e = .returned (.tuple #[valV k, valV v, .int .i64 0]) /\ MP w9 h A m f ts1 /\ Bk A w' w9)) :
  Calls Tryz.prog 352 #[.pointer (some ⟨m, 0, none⟩), valV (9, (iw : Int) + 1, ⟨#[]⟩)] W fun e w' => e = .returned (.tuple #[valV (9, (ts1.length : Int) + 1, ⟨#[]⟩), .int .i64 0]) /\ ∃ ob pv F, MP w' h A m f (ts1 ++ [(⟨ob, 0, 1, pv, .slice none 0 0, .nilIface, kd0, F, [(kVal, zV, 7), (kDone, tvV true, 7)]⟩ : TO)]) /\ Bk A W w' := by
 obtain ⟨fv, hfv⟩ : ∃ fv : Vt, ((9, (iw : Int) + 1, ⟨#[]⟩) : Vt) = fv := ⟨_, rfl⟩
 obtain ⟨r, hr⟩ : ∃ r : Int, (ts1.length : Int) + 1 = r := ⟨_, rfl⟩
 rw [hr]
 have HA : Veil (A <= W.heap.size) := ⟨Nat.le_of_lt H.mm.alt⟩
 obtain ⟨tb, htb⟩ : ∃ tb, W.heap.size = tb := ⟨_, rfl⟩
 obtain ⟨rb, hrb⟩ : ∃ rb, tb + 1 = rb := ⟨_, rfl⟩
 obtain ⟨W0, hW0⟩ : ∃ W0, ((W.alloc (.cells #[.int .i64 fv.1, .int .i64 fv.2.1, .string fv.2.2] VTy)).alloc (.cells #[.int .i64 0, .int .i64 0, .string ⟨#[]⟩] VTy)) = W0 := ⟨_, rfl⟩
 have bb : Below W.heap.size W W0 := by rw [<- hW0]; exact (((Below.refl _ _).alloc (Nat.le_refl _) _).alloc (by simp only [World.size_alloc]; omega) _)
 have xtb : Box W0 tb VTy #[.int .i64 fv.1, .int .i64 fv.2.1, .string fv.2.2] := by have h9 := ((Box.new W VTy #[.int .i64 fv.1, .int .i64 fv.2.1, .string fv.2.2]).more (.cells #[.int .i64 0, .int .i64 0, .string ⟨#[]⟩] VTy)); rw [hW0, htb] at h9; exact h9
 have xrb : Box W0 rb VTy #[.int .i64 0, .int .i64 0, .string ⟨#[]⟩] := by have h9 := Box.new (W.alloc (.cells #[.int .i64 fv.1, .int .i64 fv.2.1, .string fv.2.2] VTy)) VTy #[.int .i64 0, .int .i64 0, .string ⟨#[]⟩]; rw [hW0, show (W.alloc (.cells #[.int .i64 fv.1, .int .i64 fv.2.1, .string fv.2.2] VTy)).heap.size = rb from by simp only [World.size_alloc]; omega] at h9; exact h9
 have HW0 := Veil.mk (And.intro hW0 (And.intro htb (hrb)))
 have HBB := Veil.mk (And.intro bb (And.intro xtb (xrb)))
 have HLO : Veil (W.heap.size <= tb /\ W.heap.size <= rb) := ⟨by omega⟩
 clear hW0 bb htb xtb hrb xrb
 have HOF : Veil (∀ w9, Below W.heap.size W w9 -> Calls Tryz.prog 14 #[.pointer (some ⟨h, 0, none⟩), valV fv] w9 fun e w' => e = .returned (.pointer (some ⟨o, 0, none⟩)) /\ Below w9.heap.size w9 w') := ⟨fun w9 hb => by rw [<- hfv]; exact (H.on hb).of_at hp rfl ⟨#[]⟩⟩
 have HCM : Veil (∀ w9, Below W.heap.size W w9 -> w9.cell? ⟨m, 0, none⟩ = some (.pointer (some ⟨h, 0, none⟩))) := ⟨fun w9 hb => (H.on hb).mm.mb.at_ 0⟩
 have HCL : Veil (∀ w9, Below W.heap.size W w9 -> w9.cell? ⟨o, 0, none⟩ = some (.int .i64 5)) := ⟨fun w9 hb => ((H.on hb).mem_b (List.mem_of_getElem? hp) rfl).at_ 0⟩
 have HRS : Veil (∀ w9 (x : Vt) (dn : Bool), MP w9 h A m f ts1 -> Calls Tryz.prog 366 #[.pointer (some ⟨m, 0, none⟩), valV x, .bool dn] w9 fun e w' => e = .returned (valV (9, r, ⟨#[]⟩)) /\ ∃ ob pv F, MP w' h A m f (ts1 ++ [(⟨ob, 0, 1, pv, .slice none 0 0, .nilIface, kd0, F, [(kVal, x, 7), (kDone, tvV dn, 7)]⟩ : TO)]) /\ Bk A w9 w') := ⟨fun w9 x dn h9 => by rw [<- hr]; exact h9.result hf hl1 x dn⟩
 have HP1 := Veil.mk hp1
 rw [hfv]
 clear H hf hp hp1 hl1 hfv hr
 go_enter Tryz.func352, Tryz.ntmps352
 go_upto_region 1 with (fail)
 rw [HW0.out.1, HW0.out.2.1, HW0.out.2.2]
 have m0 : ∀ z : BW W0, z.w.cell? ⟨m, 0, none⟩ = some (.pointer (some ⟨h, 0, none⟩)) := fun z => HCM.out _ (blw2 HBB.out.1 z.h)
 have c0 : ∀ z : BW W0, z.w.cell? ⟨tb, 0, none⟩ = some (.int .i64 fv.1) := fun z => (HBB.out.2.1.below z.h).at_ 0
 have c1 : ∀ z : BW W0, z.w.cell? ⟨tb, 1, none⟩ = some (.int .i64 fv.2.1) := fun z => (HBB.out.2.1.below z.h).at_ 1
 have c2 : ∀ z : BW W0, z.w.cell? ⟨tb, 2, none⟩ = some (.string fv.2.2) := fun z => (HBB.out.2.1.below z.h).at_ 2
 have hNE := BW.ne W0
 refine wp_region_below (by kernel_rfl) (by kernel_rfl) ?_
 repeat (go_big_quiet_step ((go_at_call 14; exact BW.on _ (HOF.out _ (blw2 HBB.out.1 (BW.h _))))))
 refine wpQuiet_nil ?_
 rintro _ ⟨z, rfl⟩
 have HQ := Veil.mk z.h
 obtain ⟨wE, hE2⟩ : ∃ wE, z.w = wE := ⟨_, rfl⟩
 rw [hE2] at HQ ⊢
 clear m0 c0 c1 c2 hE2 z hNE
 have hbE := blw2 HBB.out.1 HQ.out
 have d0 : wE.cell? ⟨o, 0, none⟩ = some (.int .i64 5) := HCL.out wE hbE
 have HXE := Veil.mk (HBB.out.2.2.below HQ.out)
 have HAE := Veil.mk (HAV.out wE hbE)
 have HBE := Veil.mk (Bk.of_below HA.out hbE)
 clear hbE HOF HCM HCL HAV HQ HBB HW0
 go_upto_region 4 with (fail)
 clear d0
 go_upto_region 5 with (go_at_call 365; ((with_reducible refine HAE.out.mono ?_); rintro e w4 ⟨rfl, hm4, hb4⟩; have HM4 := Veil.mk (And.intro hm4 (And.intro (HBE.out.trans hb4) (hb4.boxE HXE.out (by decide)))); clear hm4 hb4))
 obtain ⟨kb, hkb⟩ : ∃ kb, w4.heap.size = kb := ⟨_, rfl⟩
 obtain ⟨vb, hvb⟩ : ∃ vb, kb + 1 = vb := ⟨_, rfl⟩
 obtain ⟨w5, hw5⟩ : ∃ w5, (w4.alloc (.cells #[.int .i64 k.1, .int .i64 k.2.1, .string k.2.2] VTy)).alloc (.cells #[.int .i64 v.1, .int .i64 v.2.1, .string v.2.2] VTy) = w5 := ⟨_, rfl⟩
 have bxk := (Box.new w4 VTy #[.int .i64 k.1, .int .i64 k.2.1, .string k.2.2]).more (.cells #[.int .i64 v.1, .int .i64 v.2.1, .string v.2.2] VTy)
 have bxv := Box.new (w4.alloc (.cells #[.int .i64 k.1, .int .i64 k.2.1, .string k.2.2] VTy)) VTy #[.int .i64 v.1, .int .i64 v.2.1, .string v.2.2]
 have bl : Below w4.heap.size w4 ((w4.alloc (.cells #[.int .i64 k.1, .int .i64 k.2.1, .string k.2.2] VTy)).alloc (.cells #[.int .i64 v.1, .int .i64 v.2.1, .string v.2.2] VTy)) := ((Below.refl _ _).alloc (Nat.le_refl _) _).alloc (by simp only [World.size_alloc]; omega) _
 rw [hw5, show (w4.alloc (.cells #[.int .i64 k.1, .int .i64 k.2.1, .string k.2.2] VTy)).heap.size = vb from by rw [<- hvb, <- hkb]; simp only [World.size_alloc]] at bxv
 rw [hw5, hkb] at bxk
 rw [hw5] at bl ⊢
 rw [hkb, hvb]
 have HM5 := Veil.mk (And.intro (HM4.out.1.on bl) (And.intro (HM4.out.2.1.trans (Bk.of_below (Nat.le_of_lt HM4.out.1.mm.alt) bl)) (And.intro (HM4.out.2.2.below bl) (And.intro bxk bxv))))
 have HNE : Veil (W.heap.size <= kb /\ W.heap.size <= vb /\ vb ≠ rb /\ kb ≠ vb) := ⟨by
  have h1 := HM4.out.2.1.bel.size
  have h2 := HM4.out.2.2.lt
  omega⟩
 clear bl bxk bxv hw5 hkb hvb HM4 HAE HBE HXE
 have hob := HM5.out.1.mem_b (List.mem_of_getElem? HP1.out) rfl
 have d5 : w5.cell? ⟨o, 5, none⟩ = some (.slice none 0 0) := hob.at_ 5
 have d13 : w5.cell? ⟨o, 13, none⟩ = some (.int .i64 1) := hob.at_ 13
 clear hob
 have HM6 := Veil.mk (And.intro HM5.out.1 (And.intro HM5.out.2.1 HM5.out.2.2.1))
 clear HM5
 obtain ⟨w6, hw6⟩ : ∃ w6, w5 = w6 := ⟨_, rfl⟩
 rw [hw6] at HM6 d5 d13 ⊢
 clear hw6
 have HR5 := Veil.mk (HRS.out w6 zV true HM6.out.1)
 clear HRS
 go_wp2_with (go_at_call 366; ((with_reducible refine HR5.out.mono ?_); rintro e w7 ⟨rfl, ob, pv, F, hm7, hb7⟩; have HM7 := Veil.mk (And.intro hm7 (And.intro (HM6.out.2.1.trans hb7) (hb7.boxE HM6.out.2.2 (by decide)))); clear hm7 hb7; have z0 : w7.cell? ⟨rb, 0, none⟩ = some (.int .i64 0) := (HM7.out.2.2).at_ 0; have q0 := (HM7.out.2.2).free 0; have z1 : w7.cell? ⟨rb, 1, none⟩ = some (.int .i64 0) := (HM7.out.2.2).at_ 1; have q1 := (HM7.out.2.2).free 1; have z2 : w7.cell? ⟨rb, 2, none⟩ = some (.string ⟨#[]⟩) := (HM7.out.2.2).at_ 2; have q2 := (HM7.out.2.2).free 2))
 have hr3 := ((HM7.out.2.2.put 0 (.int .i64 9)).put 1 (.int .i64 r)).put 2 (.string ⟨#[]⟩)
 have y0 := hr3.at_ 0
 have y1 := hr3.at_ 1
 have y2 := hr3.at_ 2
 have hp3 := ((HM7.out.1.putv HM7.out.2.2.lab 0 (.int .i64 9)).putv (HM7.out.2.2.put 0 _).lab 1 (.int .i64 r)).putv ((HM7.out.2.2.put 0 _).put 1 _).lab 2 (.string ⟨#[]⟩)
 have hk3 := ((HM7.out.2.1.setv HLO.out.2 HA.out 0 (.int .i64 9)).setv HLO.out.2 HA.out 1 (.int .i64 r)).setv HLO.out.2 HA.out 2 (.string ⟨#[]⟩)
 exact bodyPost_ret (v := .tuple #[valV (9, r, ⟨#[]⟩), .int .i64 0]) (by simp [results, Tryz.results352, go_sem, y0, y1, y2]) rfl ⟨rfl, ob, pv, F, hp3, hk3⟩
end
section
variable {W : World} {h A m : Nat} {f : MF} {ts : List TO}
theorem MP.next_arr (H : MP W h A m f ts) (hl : ts.length < 100000) {ia b : Nat} {cz : Bool} {ev : Value} (hat : ts[ia]? = some (TO.arz b cz ev)) :
  Calls Tryz.prog 352 #[.pointer (some ⟨m, 0, none⟩), valV (9, (ia : Int) + 1, ⟨#[]⟩)] W fun e w' => e = .returned (.tuple #[valV (9, (ts.length : Int) + 1, ⟨#[]⟩), .int .i64 1]) /\ ∃ eb, MP w' h A m f (ts ++ [TO.plain eb 12 (f 6) (.slice none 0 0)]) /\ Bk A W w' := by
 obtain ⟨fv, hfv⟩ : ∃ fv : Vt, ((9, (ia : Int) + 1, ⟨#[]⟩) : Vt) = fv := ⟨_, rfl⟩
 obtain ⟨q, hq⟩ : ∃ q : Int, (ts.length : Int) + 1 = q := ⟨_, rfl⟩
 have HA : Veil (A <= W.heap.size) := ⟨Nat.le_of_lt H.mm.alt⟩
 obtain ⟨tb, htb⟩ : ∃ tb, W.heap.size = tb := ⟨_, rfl⟩
 obtain ⟨rb, hrb⟩ : ∃ rb, tb + 1 = rb := ⟨_, rfl⟩
 obtain ⟨W0, hW0⟩ : ∃ W0, ((W.alloc (.cells #[.int .i64 fv.1, .int .i64 fv.2.1, .string fv.2.2] VTy)).alloc (.cells #[.int .i64 0, .int .i64 0, .string ⟨#[]⟩] VTy)) = W0 := ⟨_, rfl⟩
 have bb : Below W.heap.size W W0 := by rw [<- hW0]; exact (((Below.refl _ _).alloc (Nat.le_refl _) _).alloc (by simp only [World.size_alloc]; omega) _)
 have xtb : Box W0 tb VTy #[.int .i64 fv.1, .int .i64 fv.2.1, .string fv.2.2] := by have h9 := ((Box.new W VTy #[.int .i64 fv.1, .int .i64 fv.2.1, .string fv.2.2]).more (.cells #[.int .i64 0, .int .i64 0, .string ⟨#[]⟩] VTy)); rw [hW0, htb] at h9; exact h9
 have xrb : Box W0 rb VTy #[.int .i64 0, .int .i64 0, .string ⟨#[]⟩] := by have h9 := Box.new (W.alloc (.cells #[.int .i64 fv.1, .int .i64 fv.2.1, .string fv.2.2] VTy)) VTy #[.int .i64 0, .int .i64 0, .string ⟨#[]⟩]; rw [hW0, show (W.alloc (.cells #[.int .i64 fv.1, .int .i64 fv.2.1, .string fv.2.2] VTy)).heap.size = rb from by simp only [World.size_alloc]; omega] at h9; exact h9
 have HW0 := Veil.mk (And.intro hW0 (And.intro htb (hrb)))
 have HBB := Veil.mk (And.intro bb (And.intro xtb (xrb)))
 have HLO : Veil (W.heap.size <= tb /\ W.heap.size <= rb) := ⟨by omega⟩
 clear hW0 bb htb xtb hrb xrb
 have HOF : Veil (∀ w9, Below W.heap.size W w9 -> Calls Tryz.prog 14 #[.pointer (some ⟨h, 0, none⟩), valV fv] w9 fun e w' => e = .returned (.pointer (some ⟨b, 0, none⟩)) /\ Below w9.heap.size w9 w') := ⟨fun w9 hb => by rw [<- hfv]; exact (H.on hb).of_at hat rfl ⟨#[]⟩⟩
 have HCM : Veil (∀ w9, Below W.heap.size W w9 -> w9.cell? ⟨m, 0, none⟩ = some (.pointer (some ⟨h, 0, none⟩))) := ⟨fun w9 hb => (H.on hb).mm.mb.at_ 0⟩
 have HTY : Veil (∀ w9, Below W.heap.size W w9 -> Calls Tryz.prog 51 #[.pointer (some ⟨m, 0, none⟩), .string ⟨#[]⟩] w9 fun e w' => e = .returned (.tuple #[valV (9, q, ⟨#[]⟩), .int .i64 1]) /\ ∃ eb, MP w' h A m f (ts ++ [TO.plain eb 12 (f 6) (.slice none 0 0)]) /\ Bk A w9 w') := ⟨fun w9 hb => by rw [<- hq]; exact (H.on hb).type hl⟩
 have HCL : Veil (∀ w9, Below W.heap.size W w9 -> w9.cell? ⟨b, 0, none⟩ = some (.int .i64 1)) := ⟨fun w9 hb => ((H.on hb).mem_b (List.mem_of_getElem? hat) rfl).at_ 0⟩
 rw [hfv, hq]
 clear H hl hfv hq hat
 go_enter Tryz.func352, Tryz.ntmps352
 go_upto_region 1 with (fail)
 rw [HW0.out.1, HW0.out.2.1, HW0.out.2.2]
 have m0 : ∀ z : BW W0, z.w.cell? ⟨m, 0, none⟩ = some (.pointer (some ⟨h, 0, none⟩)) := fun z => HCM.out _ (blw2 HBB.out.1 z.h)
 have c0 : ∀ z : BW W0, z.w.cell? ⟨tb, 0, none⟩ = some (.int .i64 fv.1) := fun z => (HBB.out.2.1.below z.h).at_ 0
 have c1 : ∀ z : BW W0, z.w.cell? ⟨tb, 1, none⟩ = some (.int .i64 fv.2.1) := fun z => (HBB.out.2.1.below z.h).at_ 1
 have c2 : ∀ z : BW W0, z.w.cell? ⟨tb, 2, none⟩ = some (.string fv.2.2) := fun z => (HBB.out.2.1.below z.h).at_ 2
 have hNE := BW.ne W0
 refine wp_region_below (by kernel_rfl) (by kernel_rfl) ?_
 repeat (go_big_quiet_step ((go_at_call 14; exact BW.on _ (HOF.out _ (blw2 HBB.out.1 (BW.h _))))))
 refine wpQuiet_nil ?_
 rintro _ ⟨z, rfl⟩
 have HQ := Veil.mk z.h
 obtain ⟨wE, hE2⟩ : ∃ wE, z.w = wE := ⟨_, rfl⟩
 rw [hE2] at HQ ⊢
 clear m0 c0 c1 c2 hE2 z hNE
 have HBE := Veil.mk (And.intro (blw2 HBB.out.1 HQ.out) (HBB.out.2.2.below HQ.out))
 have d0 : wE.cell? ⟨b, 0, none⟩ = some (.int .i64 1) := HCL.out wE HBE.out.1
 have HT5 := Veil.mk (HTY.out wE HBE.out.1)
 clear HTY HOF HCM HQ HBB HW0
 go_wp2_with (go_at_call 51; ((with_reducible refine HT5.out.mono ?_); rintro e w6 ⟨rfl, eb, hm6, hb6⟩; have HM6 := Veil.mk (And.intro (hb6.boxE HBE.out.2 (by decide)) (And.intro hm6 ((Bk.of_below HA.out HBE.out.1).trans hb6))); clear hm6 hb6; have z0 : w6.cell? ⟨rb, 0, none⟩ = some (.int .i64 0) := (HM6.out.1).at_ 0; have q0 := (HM6.out.1).free 0; have z1 : w6.cell? ⟨rb, 1, none⟩ = some (.int .i64 0) := (HM6.out.1).at_ 1; have q1 := (HM6.out.1).free 1; have z2 : w6.cell? ⟨rb, 2, none⟩ = some (.string ⟨#[]⟩) := (HM6.out.1).at_ 2; have q2 := (HM6.out.1).free 2))
 have hr3 := ((HM6.out.1.put 0 (.int .i64 9)).put 1 (.int .i64 q)).put 2 (.string ⟨#[]⟩)
 have y0 := hr3.at_ 0
 have y1 := hr3.at_ 1
 have y2 := hr3.at_ 2
 have hp3 := ((HM6.out.2.1.putv HM6.out.1.lab 0 (.int .i64 9)).putv (HM6.out.1.put 0 _).lab 1 (.int .i64 q)).putv ((HM6.out.1.put 0 _).put 1 _).lab 2 (.string ⟨#[]⟩)
 have hk3 := ((HM6.out.2.2.setv HLO.out.2 HA.out 0 (.int .i64 9)).setv HLO.out.2 HA.out 1 (.int .i64 q)).setv HLO.out.2 HA.out 2 (.string ⟨#[]⟩)
 exact bodyPost_ret (v := .tuple #[valV (9, q, ⟨#[]⟩), .int .i64 1]) (by simp [results, Tryz.results352, go_sem, y0, y1, y2]) rfl ⟨rfl, by first | exact ⟨eb, hp3, hk3⟩ | exact ⟨⟨eb, hp3⟩, hk3⟩⟩
theorem MP.next_none (H : MP W h A m f ts) (hl : ts.length < 100000)  :
  Calls Tryz.prog 352 #[.pointer (some ⟨m, 0, none⟩), valV zV] W fun e w' => e = .returned (.tuple #[valV (9, (ts.length : Int) + 1, ⟨#[]⟩), .int .i64 1]) /\ ∃ eb, MP w' h A m f (ts ++ [TO.plain eb 12 (f 6) (.slice none 0 0)]) /\ Bk A W w' := by
 obtain ⟨fv, hfv⟩ : ∃ fv : Vt, (zV : Vt) = fv := ⟨_, rfl⟩
 obtain ⟨q, hq⟩ : ∃ q : Int, (ts.length : Int) + 1 = q := ⟨_, rfl⟩
 have HA : Veil (A <= W.heap.size) := ⟨Nat.le_of_lt H.mm.alt⟩
 obtain ⟨tb, htb⟩ : ∃ tb, W.heap.size = tb := ⟨_, rfl⟩
 obtain ⟨rb, hrb⟩ : ∃ rb, tb + 1 = rb := ⟨_, rfl⟩
 obtain ⟨W0, hW0⟩ : ∃ W0, ((W.alloc (.cells #[.int .i64 fv.1, .int .i64 fv.2.1, .string fv.2.2] VTy)).alloc (.cells #[.int .i64 0, .int .i64 0, .string ⟨#[]⟩] VTy)) = W0 := ⟨_, rfl⟩
 have bb : Below W.heap.size W W0 := by rw [<- hW0]; exact (((Below.refl _ _).alloc (Nat.le_refl _) _).alloc (by simp only [World.size_alloc]; omega) _)
 have xtb : Box W0 tb VTy #[.int .i64 fv.1, .int .i64 fv.2.1, .string fv.2.2] := by have h9 := ((Box.new W VTy #[.int .i64 fv.1, .int .i64 fv.2.1, .string fv.2.2]).more (.cells #[.int .i64 0, .int .i64 0, .string ⟨#[]⟩] VTy)); rw [hW0, htb] at h9; exact h9
 have xrb : Box W0 rb VTy #[.int .i64 0, .int .i64 0, .string ⟨#[]⟩] := by have h9 := Box.new (W.alloc (.cells #[.int .i64 fv.1, .int .i64 fv.2.1, .string fv.2.2] VTy)) VTy #[.int .i64 0, .int .i64 0, .string ⟨#[]⟩]; rw [hW0, show (W.alloc (.cells #[.int .i64 fv.1, .int .i64 fv.2.1, .string fv.2.2] VTy)).heap.size = rb from by simp only [World.size_alloc]; omega] at h9; exact h9
 have HW0 := Veil.mk (And.intro hW0 (And.intro htb (hrb)))
 have HBB := Veil.mk (And.intro bb (And.intro xtb (xrb)))
 have HLO : Veil (W.heap.size <= tb /\ W.heap.size <= rb) := ⟨by omega⟩
 clear hW0 bb htb xtb hrb xrb
 have HOF : Veil (∀ w9, Below W.heap.size W w9 -> Calls Tryz.prog 14 #[.pointer (some ⟨h, 0, none⟩), valV fv] w9 fun e w' => e = .returned (.pointer none) /\ Below w9.heap.size w9 w') := ⟨fun w9 hb => by rw [<- hfv]; exact of_no h zV (by decide) w9⟩
 have HCM : Veil (∀ w9, Below W.heap.size W w9 -> w9.cell? ⟨m, 0, none⟩ = some (.pointer (some ⟨h, 0, none⟩))) := ⟨fun w9 hb => (H.on hb).mm.mb.at_ 0⟩
 have HTY : Veil (∀ w9, Below W.heap.size W w9 -> Calls Tryz.prog 51 #[.pointer (some ⟨m, 0, none⟩), .string ⟨#[]⟩] w9 fun e w' => e = .returned (.tuple #[valV (9, q, ⟨#[]⟩), .int .i64 1]) /\ ∃ eb, MP w' h A m f (ts ++ [TO.plain eb 12 (f 6) (.slice none 0 0)]) /\ Bk A w9 w') := ⟨fun w9 hb => by rw [<- hq]; exact (H.on hb).type hl⟩
 rw [hfv, hq]
 clear H hl hfv hq
 go_enter Tryz.func352, Tryz.ntmps352
 go_upto_region 1 with (fail)
 rw [HW0.out.1, HW0.out.2.1, HW0.out.2.2]
 have m0 : ∀ z : BW W0, z.w.cell? ⟨m, 0, none⟩ = some (.pointer (some ⟨h, 0, none⟩)) := fun z => HCM.out _ (blw2 HBB.out.1 z.h)
 have c0 : ∀ z : BW W0, z.w.cell? ⟨tb, 0, none⟩ = some (.int .i64 fv.1) := fun z => (HBB.out.2.1.below z.h).at_ 0
 have c1 : ∀ z : BW W0, z.w.cell? ⟨tb, 1, none⟩ = some (.int .i64 fv.2.1) := fun z => (HBB.out.2.1.below z.h).at_ 1
 have c2 : ∀ z : BW W0, z.w.cell? ⟨tb, 2, none⟩ = some (.string fv.2.2) := fun z => (HBB.out.2.1.below z.h).at_ 2
 have hNE := BW.ne W0
 refine wp_region_below (by kernel_rfl) (by kernel_rfl) ?_
 repeat (go_big_quiet_step ((go_at_call 14; exact BW.on _ (HOF.out _ (blw2 HBB.out.1 (BW.h _))))))
 refine wpQuiet_nil ?_
 rintro _ ⟨z, rfl⟩
 have HQ := Veil.mk z.h
 obtain ⟨wE, hE2⟩ : ∃ wE, z.w = wE := ⟨_, rfl⟩
 rw [hE2] at HQ ⊢
 clear m0 c0 c1 c2 hE2 z hNE
 have HBE := Veil.mk (And.intro (blw2 HBB.out.1 HQ.out) (HBB.out.2.2.below HQ.out))
 have HT5 := Veil.mk (HTY.out wE HBE.out.1)
 clear HTY HOF HCM HQ HBB HW0
 go_wp2_with (go_at_call 51; ((with_reducible refine HT5.out.mono ?_); rintro e w6 ⟨rfl, eb, hm6, hb6⟩; have HM6 := Veil.mk (And.intro (hb6.boxE HBE.out.2 (by decide)) (And.intro hm6 ((Bk.of_below HA.out HBE.out.1).trans hb6))); clear hm6 hb6; have z0 : w6.cell? ⟨rb, 0, none⟩ = some (.int .i64 0) := (HM6.out.1).at_ 0; have q0 := (HM6.out.1).free 0; have z1 : w6.cell? ⟨rb, 1, none⟩ = some (.int .i64 0) := (HM6.out.1).at_ 1; have q1 := (HM6.out.1).free 1; have z2 : w6.cell? ⟨rb, 2, none⟩ = some (.string ⟨#[]⟩) := (HM6.out.1).at_ 2; have q2 := (HM6.out.1).free 2))
 have hr3 := ((HM6.out.1.put 0 (.int .i64 9)).put 1 (.int .i64 q)).put 2 (.string ⟨#[]⟩)
 have y0 := hr3.at_ 0
 have y1 := hr3.at_ 1
 have y2 := hr3.at_ 2
 have hp3 := ((HM6.out.2.1.putv HM6.out.1.lab 0 (.int .i64 9)).putv (HM6.out.1.put 0 _).lab 1 (.int .i64 q)).putv ((HM6.out.1.put 0 _).put 1 _).lab 2 (.string ⟨#[]⟩)
 have hk3 := ((HM6.out.2.2.setv HLO.out.2 HA.out 0 (.int .i64 9)).setv HLO.out.2 HA.out 1 (.int .i64 q)).setv HLO.out.2 HA.out 2 (.string ⟨#[]⟩)
 exact bodyPost_ret (v := .tuple #[valV (9, q, ⟨#[]⟩), .int .i64 1]) (by simp [results, Tryz.results352, go_sem, y0, y1, y2]) rfl ⟨rfl, by first | exact ⟨eb, hp3, hk3⟩ | exact ⟨⟨eb, hp3⟩, hk3⟩⟩
end
def TE (ts ts1 : List TO) (_ : Nat -> Prop) (_ : World) : Prop := ∃ e : TO, ts1 = ts ++ [e]
theorem TE.stay (ts : List TO) : TStay (TE ts) := fun _ _ _ _ h _ => h
def TA (ts : List TO) (A : Nat) (l : List Vt) (ts1 : List TO) (D : Nat -> Prop) (w : World) : Prop := ∃ b2 ev2, ts1 = ts ++ [TO.arr b2 3 ev2] /\ RowE w A ev2 l /\ ∀ k, ev2.ownBlock = some k -> D k
theorem RowE.keep {w1 w2 : World} {A : Nat} {ev : Value} {l : List Vt} (h : RowE w1 A ev l) (hk : ∀ k e, e ∈ kvL -> ev.ownBlock = some k -> Lab w1 k e -> w2.heap[k]? = w1.heap[k]?) : RowE w2 A ev l := by
 refine ⟨?_, h.2.imp (fun h => h) (fun ⟨g, cap, e, h9⟩ => ⟨g, cap, e, ?_⟩)⟩
 ·obtain ⟨ao, cap, e, h1, h2, h3⟩ := h.1
  refine ⟨ao, cap, e, h1, h2, fun ad had => ?_⟩
  obtain ⟨g, e2, hl, hc⟩ := h3 ad had
  have he := hk g VTy (by decide) (by rw [e, had, e2]; rfl) hl
  refine ⟨g, e2, ?_, fun j u hj => by rw [cell_blk he]; exact hc j u hj⟩
  obtain ⟨cs, fr, hb⟩ := hl
  exact ⟨cs, fr, he.trans hb⟩
 ·obtain ⟨cur, hb, hx⟩ := h9.bx
  exact ⟨h9.lo, h9.le, h9.sm, cur, (hk g VTy (by decide) (by rw [e]; rfl) h9.lab).trans hb, hx⟩
theorem TA.stay (ts : List TO) (A : Nat) (l : List Vt) : TStay (TA ts A l) := fun _ D w1 w2 ⟨b2, ev2, h1, h2, h3⟩ hk => ⟨b2, ev2, h1, h2.keep (fun k e he ho hl => hk k e he (h3 k ho) hl), h3⟩
def TW (ts : List TO) (ia : Nat) (kd : Int) (ts1 : List TO) (D : Nat -> Prop) (w : World) : Prop := ∃ o g, ts1 = ts ++ [TO.wkr o kd (.slice (some ⟨g, 0, none⟩) 1 1) 0] /\ D g /\ Box w g VTy #[.int .i64 9, .int .i64 ((ia : Int) + 1), .string ⟨#[]⟩]
theorem TW.stay (ts : List TO) (ia : Nat) (kd : Int) : TStay (TW ts ia kd) := fun _ D w1 w2 ⟨o, g, h1, h2, h3⟩ hk => ⟨o, g, h1, h2, (hk g VTy (by decide) h2 h3.lab).trans h3⟩
theorem DQ.err {W w' : World} {h A m ia b : Nat} {cz : Bool} {f2 : MF} {ts : List TO} {ev : Value} {e : TO} (hlt : ia < ts.length) (hm : MP w' h A m f2 (ts.set ia (TO.arz b cz ev) ++ [e])) (hb : Bk A W w') : DQ h A m f2 (TE ts) (fun ts1 => ts1.set ia (TO.arz b cz ev)) W w' :=
 ⟨ts ++ [e], fun _ => False, ⟨e, rfl⟩, fun k hk => hk.elim, by show MP w' h A m f2 ((ts ++ [e]).set ia (TO.arz b cz ev)); rw [List.set_append_left _ _ hlt]; exact hm, hb⟩
theorem row_one {W : World} {args : Value} {v : Vt} (hr : RowV W args [v]) : ∃ ga ca, args = .slice (some ⟨ga, 0, none⟩) 1 ca /\ ga < W.heap.size /\ W.cell? ⟨ga, 0, none⟩ = some (.int .i64 v.1) /\ W.cell? ⟨ga, 1, none⟩ = some (.int .i64 v.2.1) /\ W.cell? ⟨ga, 2, none⟩ = some (.string v.2.2) := by
 obtain ⟨ao2, ca, ha, hcap, hnil, hrow⟩ := hr
 cases ao2 with
 | none => exact absurd (hnil rfl).1 (by simp)
 | some ad =>
  obtain ⟨g, rfl, hlab, hc⟩ := hrow ad rfl
  exact ⟨g, ca, ha, lab_lt hlab, hc 0 _ rfl, hc 1 _ rfl, hc 2 _ rfl⟩
section
variable {w W : World} {h A m ia b n : Nat} {cz : Bool} {ts : List TO} {E : Nat -> Prop} {xs : Nat -> Vt} {st : Int}
theorem FZ.ask_pushZ (H : FZ w h A m ts ia b true n xs st E W) (L : LawT ts ia) (hl : ts.length < 99999) (hE : ∀ k, E k -> k < W.heap.size) (hs0 : 0 <= st) (hs1 : st < 4000000) (hn : n < 100) (args : Value) (v : Vt) (hr : RowV W args [v]) (hgE : ∀ k, args.ownBlock = some k -> E k) :
  Calls Tryz.prog 20 #[.pointer (some ⟨m, 0, none⟩), valV (9, (ia : Int) + 1, ⟨#[]⟩), .string (mn 0), args] W fun e w' => e = .returned (.tuple #[valV (9, (ts.length : Int) + 1, ⟨#[]⟩), .int .i64 1]) /\ FZX w h A m ia b true n xs (st + 2) (TE ts) E w' /\ (∀ b t c, t ∈ kvL -> E b -> Box W b t c -> Box w' b t c) /\ W.heap.size <= w'.heap.size := by
 have hlt := L.lt
 have hge := L.ge
 obtain ⟨t2, ht2, hp2⟩ := L.p2
 refine H.askM (st' := st + 2) L hE hs0 (by omega) 0 (by decide) args [v] hr (by show 1 <= 1000; decide) hgE _ 1 (TE.stay ts) (fun W1 f1 fo ev xs0 hb1 hm hel hxs hov hst hpr hrow => ?_)
 have hat : (ts.set ia (TO.arz b true ev))[ia]? = some (TO.arz b true ev) := List.getElem?_set_self hlt
 refine hm.doPushZ (f2 := { f1 with st := st + 2 }) hat (TE.stay ts) fo (0, 0, ⟨#[]⟩) _ 1 args ⟨fun w9 hb9 => ?_⟩
 have key := (hm.on hb9).pushZ hat (hel.on hb9) hn (by rw [List.getElem?_set_ne (by omega)]; exact ht2) hp2 (by rw [List.length_set]; omega) hov (by omega) (by omega) args v (hrow.on hb9)
 rw [List.length_set] at key
 refine key.mono ?_
 rintro e w' ⟨he, eb, h1, h2⟩
 rw [show f1.st + 1 = st + 2 by omega] at h1
 exact ⟨he, DQ.err hlt h1 h2⟩
theorem FZ.ask_popZ (H : FZ w h A m ts ia b true n xs st E W) (L : LawT ts ia) (hl : ts.length < 99999) (hE : ∀ k, E k -> k < W.heap.size) (hs0 : 0 <= st) (hs1 : st < 4000000)  :
  Calls Tryz.prog 20 #[.pointer (some ⟨m, 0, none⟩), valV (9, (ia : Int) + 1, ⟨#[]⟩), .string (mn 1), .slice none 0 0] W fun e w' => e = .returned (.tuple #[valV (9, (ts.length : Int) + 1, ⟨#[]⟩), .int .i64 1]) /\ FZX w h A m ia b true n xs (st + 1) (TE ts) E w' /\ (∀ b t c, t ∈ kvL -> E b -> Box W b t c -> Box w' b t c) /\ W.heap.size <= w'.heap.size := by
 have hlt := L.lt
 have hge := L.ge
 obtain ⟨t2, ht2, hp2⟩ := L.p2
 refine H.askM (st' := st + 1) L hE hs0 (by omega) 1 (by decide) (.slice none 0 0) [] (RowV.nil _) (by decide) (fun k hk => by cases hk) _ 1 (TE.stay ts) (fun W1 f1 fo ev xs0 hb1 hm hel hxs hov hst hpr hrow => ?_)
 have hat : (ts.set ia (TO.arz b true ev))[ia]? = some (TO.arz b true ev) := List.getElem?_set_self hlt
 refine hm.doPopZ (f2 := { f1 with st := st + 1 }) hat (TE.stay ts) fo (0, 0, ⟨#[]⟩) _ 1 _ ⟨fun w9 hb9 => ?_⟩
 have key := (hm.on hb9).popZ hat (by rw [List.length_set]; omega)
 rw [List.length_set] at key
 refine key.mono ?_
 rintro e w' ⟨he, eb, h1, h2⟩
 rw [show f1 = { f1 with st := st + 1 } by rw [<- hst]] at h1
 exact ⟨he, DQ.err hlt h1 h2⟩
theorem FZ.ask_eachZ (H : FZ w h A m ts ia b cz n xs st E W) (L : LawT ts ia) (hl : ts.length < 99999) (hE : ∀ k, E k -> k < W.heap.size) (hs0 : 0 <= st) (hs1 : st < 4000000) (args : Value) (v : Vt) (hr : RowV W args [v]) (hgE : ∀ k, args.ownBlock = some k -> E k) (h9 : (v.1 == 9) = false) :
  Calls Tryz.prog 20 #[.pointer (some ⟨m, 0, none⟩), valV (9, (ia : Int) + 1, ⟨#[]⟩), .string (mn 5), args] W fun e w' => e = .returned (.tuple #[valV (9, (ts.length : Int) + 1, ⟨#[]⟩), .int .i64 1]) /\ FZX w h A m ia b cz n xs (st + 1) (TE ts) E w' /\ (∀ b t c, t ∈ kvL -> E b -> Box W b t c -> Box w' b t c) /\ W.heap.size <= w'.heap.size := by
 have hlt := L.lt
 have hge := L.ge
 obtain ⟨t2, ht2, hp2⟩ := L.p2
 refine H.askM (st' := st + 1) L hE hs0 (by omega) 5 (by decide) args [v] hr (by show 1 <= 1000; decide) hgE _ 1 (TE.stay ts) (fun W1 f1 fo ev xs0 hb1 hm hel hxs hov hst hpr hrow => ?_)
 have hat : (ts.set ia (TO.arz b cz ev))[ia]? = some (TO.arz b cz ev) := List.getElem?_set_self hlt
 refine hm.doEachZ (f2 := { f1 with st := st + 1 }) hat (TE.stay ts) fo (0, 0, ⟨#[]⟩) _ 1 args ⟨fun w9 hb9 => ?_⟩
 have key := (hm.on hb9).eachZ hat (hel.on hb9) (by rw [List.length_set]; omega) fo (9, (ia : Int) + 1, ⟨#[]⟩) (0, 0, ⟨#[]⟩) v args ⟨fun w8 hb8 => by
  obtain ⟨ga, ca, rfl, a0, a1, a2, a3⟩ := row_one (hrow.on (hb9.trans (hb8.mono hb9.size)))
  exact arg_one w8 fo _ _ ga ca v a0 a1 a2 a3⟩ ⟨fun w8 hb8 => callable_no w8 m h v (((hm.on hb9).on hb8).mm.mb.at_ 0) ((hm.on hb9).on hb8).mm.mb.lt h9⟩
 rw [List.length_set] at key
 refine key.mono ?_
 rintro e w' ⟨he, eb, h1, h2⟩
 rw [show f1 = { f1 with st := st + 1 } by rw [<- hst]] at h1
 exact ⟨he, DQ.err hlt h1 h2⟩
theorem FZ.ask_sliceZ (H : FZ w h A m ts ia b cz n xs st E W) (L : LawT ts ia) (hl : ts.length < 99999) (hE : ∀ k, E k -> k < W.heap.size) (hs0 : 0 <= st) (hs1 : st < 4000000) (hn : n <= 1000) (hx : ∀ j, j < n -> (xs j).1 ≠ 10) :
  Calls Tryz.prog 20 #[.pointer (some ⟨m, 0, none⟩), valV (9, (ia : Int) + 1, ⟨#[]⟩), .string (mn 9), .slice none 0 0] W fun e w' => e = .returned (.tuple #[valV (9, (ts.length : Int) + 1, ⟨#[]⟩), .int .i64 0]) /\ FZX w h A m ia b cz n xs (st + 1 + (n : Int)) (TA ts A (lsX xs n)) E w' /\ (∀ b t c, t ∈ kvL -> E b -> Box W b t c -> Box w' b t c) /\ W.heap.size <= w'.heap.size := by
 have hlt := L.lt
 have hge := L.ge
 obtain ⟨t2, ht2, hp2⟩ := L.p2
 refine H.askM (st' := st + 1 + (n : Int)) L hE hs0 (by omega) 9 (by decide) (.slice none 0 0) [] (RowV.nil _) (by decide) (fun k hk => by cases hk) _ 0 (TA.stay ts A _) (fun W1 f1 fo ev xs0 hb1 hm hel hxs hov hst hpr hrow => ?_)
 have hat : (ts.set ia (TO.arz b cz ev))[ia]? = some (TO.arz b cz ev) := List.getElem?_set_self hlt
 refine hm.doSliceZ (f2 := { f1 with st := st + 1 + (n : Int) }) hat (TA.stay ts A _) fo (0, 0, ⟨#[]⟩) _ 0 _ ⟨fun w9 hb9 => ?_⟩
 have key := (hm.on hb9).sliceZ hat (hel.on hb9) (fun j hj => by rw [hxs j hj]; exact hx j hj) hn (by rw [List.getElem?_set_ne (by omega)]; exact ht2) hp2 (by rw [List.length_set]; omega) hov (by omega) (by omega) fo (0, 0, ⟨#[]⟩)
 rw [List.length_set] at key
 have hls : lsX xs0 n = lsX xs n := by
  unfold lsX
  exact List.map_congr_left (fun j hj => hxs j (by simpa using hj))
 rw [hls] at key
 refine key.mono ?_
 rintro e w' ⟨he, b2, ev2, h1, h2, h3, h4⟩
 rw [show f1.st + (n : Int) = st + 1 + (n : Int) by omega] at h1
 have hf2 : f1 2 = 3 := (hpr 2).trans rfl
 rw [hf2, <- List.set_append_left _ _ hlt] at h1
 refine ⟨he, _, fun k => ev2.ownBlock = some k, ⟨b2, ev2, rfl, h2, fun k hk => hk⟩, fun k hk => ?_, h1, h3⟩
 rcases h2.2 with ⟨e1, -⟩ | ⟨g, cap, e1, h9⟩
 ·rw [e1] at hk
  cases hk
 ·rw [e1] at hk
  have hk : some g = some k := hk
  injection hk with hk
  subst hk
  exact ⟨h9.lt, h4 ⟨g, 0, none⟩ _ _ e1⟩
theorem FZ.ask_keys (H : FZ w h A m ts ia b false n xs st E W) (L : LawT ts ia) (hl : ts.length < 99999) (hE : ∀ k, E k -> k < W.heap.size) (hs0 : 0 <= st) (hs1 : st < 4000000)  :
  Calls Tryz.prog 20 #[.pointer (some ⟨m, 0, none⟩), valV (9, (ia : Int) + 1, ⟨#[]⟩), .string (mn 3), .slice none 0 0] W fun e w' => e = .returned (.tuple #[valV (9, (ts.length : Int) + 1, ⟨#[]⟩), .int .i64 0]) /\ FZX w h A m ia b false n xs (st + 1) (TW ts ia 1) E w' /\ (∀ b t c, t ∈ kvL -> E b -> Box W b t c -> Box w' b t c) /\ W.heap.size <= w'.heap.size := by
 have hlt := L.lt
 have hge := L.ge
 obtain ⟨t2, ht2, hp2⟩ := L.p2
 refine H.askM (st' := st + 1) L hE hs0 (by omega) 3 (by decide) (.slice none 0 0) [] (RowV.nil _) (by decide) (fun k hk => by cases hk) _ 0 (TW.stay ts ia 1) (fun W1 f1 fo ev xs0 hb1 hm hel hxs hov hst hpr hrow => ?_)
 have hat : (ts.set ia (TO.arz b false ev))[ia]? = some (TO.arz b false ev) := List.getElem?_set_self hlt
 have key := hm.doKeys (hpr 11) (by rw [List.length_set]; exact hl) hat fo (0, 0, ⟨#[]⟩) (.slice none 0 0)
 rw [List.length_set] at key
 refine key.mono ?_
 rintro e w' ⟨he, o, g, h1, h2, h3, h4⟩
 rw [show f1 = { f1 with st := st + 1 } by rw [<- hst], <- List.set_append_left _ _ hlt] at h1
 exact ⟨he, _, fun k => k = g, ⟨o, g, rfl, rfl, h2⟩, fun k hk => by rw [hk]; exact ⟨h2.lt, h3⟩, h1, h4⟩
theorem FZ.call_arr (H : FZ w h A m ts ia b cz n xs st E W) (L : LawT ts ia) (hl : ts.length < 99999) (hE : ∀ k, E k -> k < W.heap.size) (hs0 : 0 <= st) (hs1 : st < 4000000) :
  Calls Tryz.prog 28 #[.pointer (some ⟨m, 0, none⟩), valV (9, 37, ⟨#[]⟩), valV (9, (ia : Int) + 1, ⟨#[]⟩), .slice none 0 0] W fun e w' => e = .returned (.tuple #[valV (9, (ts.length : Int) + 1, ⟨#[]⟩), .int .i64 1]) /\ FZX w h A m ia b cz n xs (st + 1) (TE ts) E w' /\ (∀ b t c, t ∈ kvL -> E b -> Box W b t c -> Box w' b t c) /\ W.heap.size <= w'.heap.size := by
 have hlt := L.lt
 have key := H.callM (st' := st + 1) L hE hs0 (by omega) 14 (by decide) (9, (ia : Int) + 1, ⟨#[]⟩) (.slice none 0 0) [] (RowV.nil _) (by decide) (fun k hk => by cases hk) (9, (ts.length : Int) + 1, ⟨#[]⟩) 1 (TE.stay ts) (fun W1 f1 fo ev xs0 hb1 hm hel hxs hov hst hpr hbx hrow => ?_)
 ·exact key
 have hat : (ts.set ia (TO.arz b cz ev))[ia]? = some (TO.arz b cz ev) := List.getElem?_set_self hlt
 have hA := Nat.le_of_lt hm.mm.alt
 have k2 := do_next hA (fun ts9 => ∃ eb, ts9 = ts.set ia (TO.arz b cz ev) ++ [TO.plain eb 12 (f1 6) (.slice none 0 0)]) (f := f1) fo (9, (ia : Int) + 1, ⟨#[]⟩) (0, 0, ⟨#[]⟩) (9, (ts.length : Int) + 1, ⟨#[]⟩) 1 (.slice none 0 0) (W := W1) (h := h) (m := m) ⟨fun w9 hb9 => by
  have k3 := (hm.on hb9).next_arr (by rw [List.length_set]; omega) hat
  rw [List.length_set] at k3
  exact k3.mono fun e w' ⟨he, eb, h1, h2⟩ => ⟨he, _, ⟨eb, rfl⟩, h1, h2⟩⟩
 refine k2.mono ?_
 rintro e w' ⟨he, ts9, ⟨eb, rfl⟩, h1, h2⟩
 rw [show f1 = { f1 with st := st + 1 } by rw [<- hst]] at h1
 exact ⟨he, DQ.err hlt h1 h2⟩
theorem FZ.call_none (H : FZ w h A m ts ia b cz n xs st E W) (L : LawT ts ia) (hl : ts.length < 99999) (hE : ∀ k, E k -> k < W.heap.size) (hs0 : 0 <= st) (hs1 : st < 4000000) :
  Calls Tryz.prog 28 #[.pointer (some ⟨m, 0, none⟩), valV (9, 37, ⟨#[]⟩), valV zV, .slice none 0 0] W fun e w' => e = .returned (.tuple #[valV (9, (ts.length : Int) + 1, ⟨#[]⟩), .int .i64 1]) /\ FZX w h A m ia b cz n xs (st + 1) (TE ts) E w' /\ (∀ b t c, t ∈ kvL -> E b -> Box W b t c -> Box w' b t c) /\ W.heap.size <= w'.heap.size := by
 have hlt := L.lt
 have key := H.callM (st' := st + 1) L hE hs0 (by omega) 14 (by decide) zV (.slice none 0 0) [] (RowV.nil _) (by decide) (fun k hk => by cases hk) (9, (ts.length : Int) + 1, ⟨#[]⟩) 1 (TE.stay ts) (fun W1 f1 fo ev xs0 hb1 hm hel hxs hov hst hpr hbx hrow => ?_)
 ·exact key
 have hat : (ts.set ia (TO.arz b cz ev))[ia]? = some (TO.arz b cz ev) := List.getElem?_set_self hlt
 have hA := Nat.le_of_lt hm.mm.alt
 have k2 := do_next hA (fun ts9 => ∃ eb, ts9 = ts.set ia (TO.arz b cz ev) ++ [TO.plain eb 12 (f1 6) (.slice none 0 0)]) (f := f1) fo zV (0, 0, ⟨#[]⟩) (9, (ts.length : Int) + 1, ⟨#[]⟩) 1 (.slice none 0 0) (W := W1) (h := h) (m := m) ⟨fun w9 hb9 => by
  have k3 := (hm.on hb9).next_none (by rw [List.length_set]; omega)
  rw [List.length_set] at k3
  exact k3.mono fun e w' ⟨he, eb, h1, h2⟩ => ⟨he, _, ⟨eb, rfl⟩, h1, h2⟩⟩
 refine k2.mono ?_
 rintro e w' ⟨he, ts9, ⟨eb, rfl⟩, h1, h2⟩
 rw [show f1 = { f1 with st := st + 1 } by rw [<- hst]] at h1
 exact ⟨he, DQ.err hlt h1 h2⟩
end
abbrev RO (ob : Nat) (pv : Value) (F : Nat -> Prop) (v : Vt) (d : Bool) : TO := ⟨ob, 0, 1, pv, .slice none 0 0, .nilIface, kd0, F, [(kVal, v, 7), (kDone, tvV d, 7)]⟩
def TK (ts : List TO) (iw : Nat) (t' : TO) (v : Vt) (d : Bool) (ts1 : List TO) (_ : Nat -> Prop) (_ : World) : Prop := ∃ ob pv F, ts1 = ts.set iw t' ++ [RO ob pv F v d]
theorem TK.stay (ts : List TO) (iw : Nat) (t' : TO) (v : Vt) (d : Bool) : TStay (TK ts iw t' v d) := fun _ _ _ _ h _ => h
section
variable {h A m g iw ia o b i n : Nat} {cz : Bool} {ts : List TO} {xs : Nat -> Vt}
theorem nxz_more (L : LawW ts iw o 1 (.slice (some ⟨g, 0, none⟩) 1 1) (i : Int)) (hl : ts.length < 99999) {ev : Value} (hpa : ts[ia]? = some (TO.arz b cz ev)) (hne : iw ≠ ia) (hn9 : n <= 1000000) (hi9 : i <= 1000000) (hin : i < n) (hx : (xs i).1 ≠ 10)
  (W1 : World) (f1 : MF) (fo : Nat) (H : MP W1 h A m f1 ts) (hf : f1 0 = 1) (hel : EL W1 A ev n xs) (hg : Box W1 g VTy #[.int .i64 9, .int .i64 ((ia : Int) + 1), .string ⟨#[]⟩]) :
  Calls Tryz.prog 348 #[.pointer (some ⟨m, 0, none⟩), .int .i64 164, callV fo (9, (iw : Int) + 1, ⟨#[]⟩) (.slice none 0 0) (0, 0, ⟨#[]⟩)] W1 fun e w' => e = .returned (.tuple #[valV (9, (ts.length : Int) + 1, ⟨#[]⟩), .int .i64 0]) /\ ∃ ts1, (∃ ob pv F, ts1 = ts.set iw (TO.wkr o 1 (.slice (some ⟨g, 0, none⟩) 1 1) ((i : Int) + 1)) ++ [RO ob pv F (3, (i : Int), ⟨#[]⟩) false]) /\ MP w' h A m f1 ts1 /\ Bk A W1 w' := by
 refine do_next (Nat.le_of_lt H.mm.alt) (fun ts1 => ∃ ob pv F, ts1 = ts.set iw (TO.wkr o 1 (.slice (some ⟨g, 0, none⟩) 1 1) ((i : Int) + 1)) ++ [RO ob pv F (3, (i : Int), ⟨#[]⟩) false]) fo (9, (iw : Int) + 1, ⟨#[]⟩) (0, 0, ⟨#[]⟩) _ 0 _ ⟨fun w' hb => ?_⟩
 have H1 := H.on hb
 have hlt := (List.getElem?_eq_some_iff.1 L.wk).1
 have key := H1.next_key (ts1 := ts.set iw (TO.wkr o 1 (.slice (some ⟨g, 0, none⟩) 1 1) ((i : Int) + 1))) hf (3, (i : Int), ⟨#[]⟩) (xs i) L.wk (List.getElem?_set_self hlt) (by rw [List.length_set]; exact hl) ⟨fun w2 hb2 => (H1.on hb2).adv_arz L.wk hpa hne ((hg.below hb).below hb2) ((hel.on hb).on hb2) hn9 hi9 hin hx⟩
 rw [List.length_set] at key
 refine key.mono ?_
 rintro e w9 ⟨he, ob, pv, F, h1, h2⟩
 exact ⟨he, _, ⟨ob, pv, F, rfl⟩, h1, h2⟩
theorem nxz_end (L : LawW ts iw o 1 (.slice (some ⟨g, 0, none⟩) 1 1) (i : Int)) (hl : ts.length < 99999) {ev : Value} (hpa : ts[ia]? = some (TO.arz b cz ev)) (hne : iw ≠ ia) (hn9 : n <= 1000000) (hi9 : i <= 1000000) (hin : n <= i)
  (W1 : World) (f1 : MF) (fo : Nat) (H : MP W1 h A m f1 ts) (hf : f1 0 = 1) (hel : EL W1 A ev n xs) (hg : Box W1 g VTy #[.int .i64 9, .int .i64 ((ia : Int) + 1), .string ⟨#[]⟩]) :
  Calls Tryz.prog 348 #[.pointer (some ⟨m, 0, none⟩), .int .i64 164, callV fo (9, (iw : Int) + 1, ⟨#[]⟩) (.slice none 0 0) (0, 0, ⟨#[]⟩)] W1 fun e w' => e = .returned (.tuple #[valV (9, (ts.length : Int) + 1, ⟨#[]⟩), .int .i64 0]) /\ ∃ ts1, (∃ ob pv F, ts1 = ts.set iw (TO.wkr o 1 (.slice none 0 0) (i : Int)) ++ [RO ob pv F zV true]) /\ MP w' h A m f1 ts1 /\ Bk A W1 w' := by
 refine do_next (Nat.le_of_lt H.mm.alt) (fun ts1 => ∃ ob pv F, ts1 = ts.set iw (TO.wkr o 1 (.slice none 0 0) (i : Int)) ++ [RO ob pv F zV true]) fo (9, (iw : Int) + 1, ⟨#[]⟩) (0, 0, ⟨#[]⟩) _ 0 _ ⟨fun w' hb => ?_⟩
 have H1 := H.on hb
 have hlt := (List.getElem?_eq_some_iff.1 L.wk).1
 have key := H1.next_keyend (ts1 := ts.set iw (TO.wkr o 1 (.slice none 0 0) (i : Int))) hf zV zV L.wk (List.getElem?_set_self hlt) (by rw [List.length_set]; exact hl) ⟨fun w2 hb2 => (H1.on hb2).adv_arz_end L.wk hpa hne ((hg.below hb).below hb2) ((hel.on hb).on hb2) hn9 hi9 hin⟩
 rw [List.length_set] at key
 refine key.mono ?_
 rintro e w9 ⟨he, ob, pv, F, h1, h2⟩
 exact ⟨he, _, ⟨ob, pv, F, rfl⟩, h1, h2⟩
end
section
variable {w W W' : World} {h A m g iw ia o b i n : Nat} {cz : Bool} {ts : List TO} {E : Nat -> Prop} {xs : Nat -> Vt} {st kd at_ : Int} {sl : Value}
theorem FZ.member_next (H : FZ w h A m ts ia b cz n xs st E W) (LT9 : LawT ts ia) (LW9 : LawW ts iw o kd sl at_) (hl : ts.length < 99999) (hne : iw ≠ ia) :
  Calls Tryz.prog 21 #[.pointer (some ⟨m, 0, none⟩), valV (9, (iw : Int) + 1, ⟨#[]⟩), .string nxB] W fun e w' => e = .returned (.tuple #[valV (9, 37, ⟨#[]⟩), .int .i64 0]) /\ Below W.heap.size W w' := by
 obtain ⟨ev, na, ca, xs0, h1, -⟩ := H.x
 have L := LW9.setA (TO.arz b cz ev) LT9.ge hne
 obtain ⟨t2, ht2, p1, p2, p3, p4, p5, p6⟩ := L.p11
 refine member_w W m (9, (iw : Int) + 1, ⟨#[]⟩) kNx (9, 37, ⟨#[]⟩) nxB ⟨fun W' => val_nx W'⟩ ⟨fun W' hb => ?_⟩
 refine getkey_w W' m _ _ _ rfl ⟨fun W2 hb2 => ?_⟩
 have H2 := h1.on (hb.trans (hb2.mono hb.size))
 refine getfrom_w W2 m h _ 5 true _ _ _ (by decide) (H2.mm.mb.at_ 0) H2.mm.mb.lt ⟨fun W4 hb4 => ?_⟩
 have H4 := H2.on hb4
 have ho1 := H4.ownT L.wk rfl kNx (.inl rfl) rfl (by decide)
 have ho2 := H4.ownT ht2 (by rw [p1]; rfl) kNx (.inl (by rw [p1]; rfl)) rfl (by decide)
 rw [p6, look_e11] at ho2
 exact H4.find2 (by rw [List.length_set]; omega) iw 11 _ t2 L.wk ht2 rfl (by rw [p1]; rfl) rfl p2 _ _ _ ho1 ho2
theorem FZ.next_more (H : FZ w h A m ts ia b cz n xs st E W) (L : LawT ts ia) (LW : LawW ts iw o 1 (.slice (some ⟨g, 0, none⟩) 1 1) (i : Int)) (hne : iw ≠ ia) (hE : ∀ k, E k -> k < W.heap.size) (hs0 : 0 <= st) (hs1 : st < 4194304) (hl : ts.length < 99999) (hn9 : n <= 1000000) (hi9 : i <= 1000000) (hgE : E g) (hg : Box W g VTy #[.int .i64 9, .int .i64 ((ia : Int) + 1), .string ⟨#[]⟩]) (hin : i < n) (hx : (xs i).1 ≠ 10) :
  Calls Tryz.prog 20 #[.pointer (some ⟨m, 0, none⟩), valV (9, (iw : Int) + 1, ⟨#[]⟩), .string ⟨#[110, 101, 120, 116]⟩, .slice none 0 0] W fun e w' => e = .returned (.tuple #[valV (9, (ts.length : Int) + 1, ⟨#[]⟩), .int .i64 0]) /\ FZX w h A m ia b cz n xs (st + 1) (TK ts iw (TO.wkr o 1 (.slice (some ⟨g, 0, none⟩) 1 1) ((i : Int) + 1)) (3, (i : Int), ⟨#[]⟩) false) E w' /\ (∀ b t c, t ∈ kvL -> E b -> Box W b t c -> Box w' b t c) /\ W.heap.size <= w'.heap.size := by
 refine ask_gen FZ.cl (FZX.cl (TK.stay ts iw (TO.wkr o 1 (.slice (some ⟨g, 0, none⟩) 1 1) ((i : Int) + 1)) (3, (i : Int), ⟨#[]⟩) false)) H H.bel.size hE (9, (iw : Int) + 1, ⟨#[]⟩) (9, 37, ⟨#[]⟩) _ 0 ⟨#[110, 101, 120, 116]⟩ (.slice none 0 0) (fun w9 hb => ((H.on hb).member_next L LW hl hne).mono fun e w' h9 => h9) (fun w9 E' H9 hE9 hEE hb9 => ?_)
 have key := H9.callM (st' := st + 1) L hE9 hs0 hs1 14 (by decide) (9, (iw : Int) + 1, ⟨#[]⟩) (.slice none 0 0) [] (RowV.nil _) (by decide) (fun k hk => by cases hk) (9, (ts.length : Int) + 1, ⟨#[]⟩) 0 (TK.stay ts iw (TO.wkr o 1 (.slice (some ⟨g, 0, none⟩) 1 1) ((i : Int) + 1)) (3, (i : Int), ⟨#[]⟩) false) (fun W1 f1 fo ev xs0 _ hm hel hxs hov hst hpr hbx _ => ?_)
 ·exact key
 have hia := L.lt
 have hge := L.ge
 have hlen : (ts.set ia (TO.arz b cz ev)).length = ts.length := List.length_set ..
 have key := nxz_more (LW.setA (TO.arz b cz ev) hge hne) (by rw [hlen]; exact hl) (List.getElem?_set_self hia) hne hn9 hi9 hin (by rw [hxs i hin]; exact hx) W1 f1 fo hm (hpr 0) hel (hbx g VTy _ (by decide) (hEE g hgE) (hg.below hb9))
 rw [hlen] at key
 refine key.mono ?_
 rintro e w' ⟨he, ts1, ⟨ob, pv, F, e1⟩, h1, h2⟩
 refine ⟨he, _, fun _ => False, ⟨ob, pv, F, rfl⟩, fun k hk => hk.elim, ?_, h2⟩
 have e3 : ({ f1 with st := st + 1 } : MF) = f1 := by rw [<- hst]
 rw [e3]
 rw [e1] at h1
 rw [List.set_comm _ _ (Ne.symm hne), <- List.set_append_left _ _ (by rw [List.length_set]; exact hia)] at h1
 exact h1
theorem FZ.next_end (H : FZ w h A m ts ia b cz n xs st E W) (L : LawT ts ia) (LW : LawW ts iw o 1 (.slice (some ⟨g, 0, none⟩) 1 1) (i : Int)) (hne : iw ≠ ia) (hE : ∀ k, E k -> k < W.heap.size) (hs0 : 0 <= st) (hs1 : st < 4194304) (hl : ts.length < 99999) (hn9 : n <= 1000000) (hi9 : i <= 1000000) (hgE : E g) (hg : Box W g VTy #[.int .i64 9, .int .i64 ((ia : Int) + 1), .string ⟨#[]⟩]) (hin : n <= i) :
  Calls Tryz.prog 20 #[.pointer (some ⟨m, 0, none⟩), valV (9, (iw : Int) + 1, ⟨#[]⟩), .string ⟨#[110, 101, 120, 116]⟩, .slice none 0 0] W fun e w' => e = .returned (.tuple #[valV (9, (ts.length : Int) + 1, ⟨#[]⟩), .int .i64 0]) /\ FZX w h A m ia b cz n xs (st + 1) (TK ts iw (TO.wkr o 1 (.slice none 0 0) (i : Int)) zV true) E w' /\ (∀ b t c, t ∈ kvL -> E b -> Box W b t c -> Box w' b t c) /\ W.heap.size <= w'.heap.size := by
 refine ask_gen FZ.cl (FZX.cl (TK.stay ts iw (TO.wkr o 1 (.slice none 0 0) (i : Int)) zV true)) H H.bel.size hE (9, (iw : Int) + 1, ⟨#[]⟩) (9, 37, ⟨#[]⟩) _ 0 ⟨#[110, 101, 120, 116]⟩ (.slice none 0 0) (fun w9 hb => ((H.on hb).member_next L LW hl hne).mono fun e w' h9 => h9) (fun w9 E' H9 hE9 hEE hb9 => ?_)
 have key := H9.callM (st' := st + 1) L hE9 hs0 hs1 14 (by decide) (9, (iw : Int) + 1, ⟨#[]⟩) (.slice none 0 0) [] (RowV.nil _) (by decide) (fun k hk => by cases hk) (9, (ts.length : Int) + 1, ⟨#[]⟩) 0 (TK.stay ts iw (TO.wkr o 1 (.slice none 0 0) (i : Int)) zV true) (fun W1 f1 fo ev xs0 _ hm hel hxs hov hst hpr hbx _ => ?_)
 ·exact key
 have hia := L.lt
 have hge := L.ge
 have hlen : (ts.set ia (TO.arz b cz ev)).length = ts.length := List.length_set ..
 have key := nxz_end (LW.setA (TO.arz b cz ev) hge hne) (by rw [hlen]; exact hl) (List.getElem?_set_self hia) hne hn9 hi9 hin W1 f1 fo hm (hpr 0) hel (hbx g VTy _ (by decide) (hEE g hgE) (hg.below hb9))
 rw [hlen] at key
 refine key.mono ?_
 rintro e w' ⟨he, ts1, ⟨ob, pv, F, e1⟩, h1, h2⟩
 refine ⟨he, _, fun _ => False, ⟨ob, pv, F, rfl⟩, fun k hk => hk.elim, ?_, h2⟩
 have e3 : ({ f1 with st := st + 1 } : MF) = f1 := by rw [<- hst]
 rw [e3]
 rw [e1] at h1
 rw [List.set_comm _ _ (Ne.symm hne), <- List.set_append_left _ _ (by rw [List.length_set]; exact hia)] at h1
 exact h1
theorem FZ.value {ir ob : Nat} {pv : Value} {F : Nat -> Prop} {v : Vt} {d : Bool} (H : FZ w h A m (ts ++ [RO ob pv F v d]) ia b cz n xs st E W) (L : LawT ts ia) (LW : LawW (ts ++ [RO ob pv F v d]) iw o kd sl at_) (hir : ts.length = ir) (hl : ts.length < 99998) :
  Calls Tryz.prog 21 #[.pointer (some ⟨m, 0, none⟩), valV (9, (ir : Int) + 1, ⟨#[]⟩), .string ⟨#[118, 97, 108, 117, 101]⟩] W fun e w' => e = .returned (.tuple #[valV v, .int .i64 0]) /\ Below W.heap.size W w' := by
 obtain ⟨ev, na, ca, xs0, h1, -⟩ := H.x
 obtain ⟨t0, h0, hp0⟩ := LW.p0
 have hia := L.lt
 have hge := L.ge
 have ht : ((ts ++ [RO ob pv F v d]).set ia (TO.arz b cz ev))[ir]? = some (RO ob pv F v d) := by
  rw [List.getElem?_set_ne (by omega), <- hir, List.getElem?_append_right (Nat.le_refl _), Nat.sub_self]
  rfl
 exact h1.part (by rw [List.length_set, List.length_append]; show ts.length + 1 < 100000; omega) ht rfl rfl (by rw [List.getElem?_set_ne (by omega)]; exact h0) hp0 ⟨#[118, 97, 108, 117, 101]⟩ kVal v (look_val v _) rfl (by decide) val_value
theorem FZ.done {ir ob : Nat} {pv : Value} {F : Nat -> Prop} {v : Vt} {d : Bool} (H : FZ w h A m (ts ++ [RO ob pv F v d]) ia b cz n xs st E W) (L : LawT ts ia) (LW : LawW (ts ++ [RO ob pv F v d]) iw o kd sl at_) (hir : ts.length = ir) (hl : ts.length < 99998) :
  Calls Tryz.prog 21 #[.pointer (some ⟨m, 0, none⟩), valV (9, (ir : Int) + 1, ⟨#[]⟩), .string ⟨#[100, 111, 110, 101]⟩] W fun e w' => e = .returned (.tuple #[valV (tvV d), .int .i64 0]) /\ Below W.heap.size W w' := by
 obtain ⟨ev, na, ca, xs0, h1, -⟩ := H.x
 obtain ⟨t0, h0, hp0⟩ := LW.p0
 have hia := L.lt
 have hge := L.ge
 have ht : ((ts ++ [RO ob pv F v d]).set ia (TO.arz b cz ev))[ir]? = some (RO ob pv F v d) := by
  rw [List.getElem?_set_ne (by omega), <- hir, List.getElem?_append_right (Nat.le_refl _), Nat.sub_self]
  rfl
 exact h1.part (by rw [List.length_set, List.length_append]; show ts.length + 1 < 100000; omega) ht rfl rfl (by rw [List.getElem?_set_ne (by omega)]; exact h0) hp0 ⟨#[100, 111, 110, 101]⟩ kDone (tvV d) (look_done v _) rfl (by decide) val_done
def KP (w : World) (h A m ia b : Nat) (cz : Bool) (n : Nat) (xs : Nat -> Vt) (iw o g : Nat) (ts0 : List TO) (st : Int) (j : Nat) (E : Nat -> Prop) (W : World) : Prop :=
 ∃ ts, ts.length = ts0.length + j /\ (∀ k, k < ts0.length -> k ≠ iw -> ts[k]? = ts0[k]?) /\ LawT ts ia /\ ¬ E g /\ FZ w h A m ts ia b cz n xs (st + (j : Int)) (fun k => E k \/ k = g) W /\ Box W g VTy #[.int .i64 9, .int .i64 ((ia : Int) + 1), .string ⟨#[]⟩] /\ ((j <= n /\ LawW ts iw o 1 (.slice (some ⟨g, 0, none⟩) 1 1) (j : Int)) \/ (j = n + 1 /\ ∃ at_, LawW ts iw o 1 (.slice none 0 0) at_))
theorem KP.walk {ts0 : List TO} (hne : iw ≠ ia) (hw : 37 <= iw) (hs0 : 0 <= st) (hs1 : st < 4000000) (hn0 : ts0.length < 90000) (hn : n <= 1000) (hx : ∀ j, j < n -> (xs j).1 ≠ 10) :
  AskSt w.heap.size m (9, (iw : Int) + 1, ⟨#[]⟩) (lsX (fun j => (3, (j : Int), ⟨#[]⟩)) n) (KP w h A m ia b cz n xs iw o g ts0 st) := by
 refine ⟨fun {j E W W'} H hb => ?_, fun {j E W E'} H hE => ?_, fun {j E S W W'} H ht hS => ?_, fun {j E W} H hj hE => ?_⟩
 ·obtain ⟨ts, a, ap, a2, b1, b2, b3, c⟩ := H
  exact ⟨ts, a, ap, a2, b1, b2.on hb, b3.below hb, c⟩
 ·obtain ⟨ts, a, ap, a2, b1, b2, b3, c⟩ := H
  refine ⟨ts, a, ap, a2, fun h9 => (hE g h9).elim b1 (fun h8 => by have := b3.lt; omega), b2.excl (fun k hk => ?_), b3, c⟩
  rcases hk with hk | hk
  ·exact (hE k hk).imp .inl (fun h => h)
  ·exact .inl (.inr hk)
 ·obtain ⟨ts, a, ap, a2, b1, b2, b3, c⟩ := H
  exact ⟨ts, a, ap, a2, b1, b2.touch ht (fun k hk => ⟨.inl (hS k hk).1, (hS k hk).2⟩), b3.touch ht (fun hk => b1 (hS g hk).1), c⟩
 ·obtain ⟨ts, hl, hap, hLT, hgE, hfz, hgb, hL⟩ := H
  rw [lsX_len] at hj
  have hst : st + ((j + 1 : Nat) : Int) = st + (j : Int) + 1 := by omega
  have hE' : ∀ k, (E k \/ k = g) -> k < W.heap.size := fun k hk => hk.elim (hE k) (fun e => by rw [e]; exact hgb.lt)
  rcases hL with ⟨-, L⟩ | ⟨hj2, -⟩
  ·rcases Nat.lt_or_ge j n with hi | hi
   ·have key := hfz.next_more hLT L hne hE' (by omega) (by omega) (by omega) (by omega) (by omega) (.inr rfl) hgb hi (hx j hi)
    refine key.mono ?_
    rintro e w' ⟨he, ⟨ts1, D, ⟨ob, pv, F, e1⟩, hD, hf2⟩, hbx, hs2⟩
    subst e1
    have hf3 := hf2.excl (E' := fun k => E k \/ k = g) (fun k hk => .inl (.inl hk))
    have hL2 : LawW (ts.set iw (TO.wkr o 1 (.slice (some ⟨g, 0, none⟩) 1 1) ((j : Int) + 1)) ++ [RO ob pv F (3, (j : Int), ⟨#[]⟩) false]) iw o 1 (.slice (some ⟨g, 0, none⟩) 1 1) ((j : Int) + 1) := L.set.more _
    have hT2 := hLT.setW (TO.wkr o 1 (.slice (some ⟨g, 0, none⟩) 1 1) ((j : Int) + 1)) hw
    have hT3 := hT2.more (RO ob pv F (3, (j : Int), ⟨#[]⟩) false) (by rw [List.length_set]; omega)
    have hlen : (ts.set iw (TO.wkr o 1 (.slice (some ⟨g, 0, none⟩) 1 1) ((j : Int) + 1))).length = ts.length := List.length_set ..
    refine ⟨_, (3, (j : Int), ⟨#[]⟩), false, he, fun _ => ⟨rfl, lsX_at _ n j hi⟩, fun h9 => by rw [lsX_len] at h9; omega, ⟨_, ?_, ?_, hT3, hgE, by rw [hst]; exact hf3, hbx g VTy _ (by decide) (.inr rfl) hgb, .inl ⟨hi, hL2⟩⟩, fun w9 hb9 => ?_, fun w9 hb9 => ?_, fun b t c h1 h2 h3 => hbx b t c h1 (.inl h2) h3, hs2⟩
    ·rw [List.length_append, hlen, hl]
     rfl
    ·intro k hk hkw
     rw [List.getElem?_append_left (by rw [hlen]; omega), List.getElem?_set_ne (Ne.symm hkw)]
     exact hap k hk hkw
    ·exact (hf3.on hb9).done hT2 hL2 hlen (by omega)
    ·exact (hf3.on hb9).value hT2 hL2 hlen (by omega)
   ·have key := hfz.next_end hLT L hne hE' (by omega) (by omega) (by omega) (by omega) (by omega) (.inr rfl) hgb hi
    refine key.mono ?_
    rintro e w' ⟨he, ⟨ts1, D, ⟨ob, pv, F, e1⟩, hD, hf2⟩, hbx, hs2⟩
    subst e1
    have hf3 := hf2.excl (E' := fun k => E k \/ k = g) (fun k hk => .inl (.inl hk))
    have hL2 : LawW (ts.set iw (TO.wkr o 1 (.slice none 0 0) (j : Int)) ++ [RO ob pv F zV true]) iw o 1 (.slice none 0 0) (j : Int) := L.set.more _
    have hT2 := hLT.setW (TO.wkr o 1 (.slice none 0 0) (j : Int)) hw
    have hT3 := hT2.more (RO ob pv F zV true) (by rw [List.length_set]; omega)
    have hlen : (ts.set iw (TO.wkr o 1 (.slice none 0 0) (j : Int))).length = ts.length := List.length_set ..
    refine ⟨_, zV, true, he, fun h9 => by rw [lsX_len] at h9; omega, fun _ => ⟨rfl, rfl⟩, ⟨_, ?_, ?_, hT3, hgE, by rw [hst]; exact hf3, hbx g VTy _ (by decide) (.inr rfl) hgb, .inr ⟨by omega, _, hL2⟩⟩, fun w9 hb9 => ?_, fun w9 hb9 => ?_, fun b t c h1 h2 h3 => hbx b t c h1 (.inl h2) h3, hs2⟩
    ·rw [List.length_append, hlen, hl]
     rfl
    ·intro k hk hkw
     rw [List.getElem?_append_left (by rw [hlen]; omega), List.getElem?_set_ne (Ne.symm hkw)]
     exact hap k hk hkw
    ·exact (hf3.on hb9).done hT2 hL2 hlen (by omega)
    ·exact (hf3.on hb9).value hT2 hL2 hlen (by omega)
  ·omega
end
theorem row_at {W : World} {v : Value} {l : List Vt} (h : RowV W v l) (j : Nat) (hj : j < l.length) : ∃ g c, v = .slice (some ⟨g, 0, none⟩) l.length c /\ g < W.heap.size /\ W.cell? ⟨g, j * 3, none⟩ = some (.int .i64 (l[j]).1) /\ W.cell? ⟨g, j * 3 + 1, none⟩ = some (.int .i64 (l[j]).2.1) /\ W.cell? ⟨g, j * 3 + 2, none⟩ = some (.string (l[j]).2.2) := by
 obtain ⟨ao, c, e, hc, hnil, hrow⟩ := h
 cases ao with
 | none =>
  have h9 := (hnil rfl).1
  rw [h9] at hj
  exact absurd hj (by simp)
 | some ad =>
  obtain ⟨g, rfl, hlab, h9⟩ := hrow ad rfl
  obtain ⟨a0, a1, a2⟩ := flatV_at l j _ (List.getElem?_eq_getElem hj)
  exact ⟨g, c, e, lab_lt hlab, h9 _ _ a0, h9 _ _ a1, h9 _ _ a2⟩
theorem row_slice {W : World} {v : Value} {l : List Vt} (h : RowV W v l) : ∃ a c, v = .slice a l.length c := by
 obtain ⟨ao, c, e, -⟩ := h
 exact ⟨ao, c, e⟩
theorem vals_same (W : World) (a b : Value) (l : List Vt) (h1 : RowV W a l) (h2 : RowV W b l) (hn : l.length <= 1000) :
  Calls Tryz.prog 13 #[a, b] W fun e w' => e = .returned (.bool true) /\ Below W.heap.size W w' := by
 obtain ⟨a0, c1, rfl⟩ := row_slice h1
 obtain ⟨b0, c2, rfl⟩ := row_slice h2
 obtain ⟨n, hln⟩ : ∃ n, l.length = n := ⟨_, rfl⟩
 have HR := Veil.mk (And.intro h1 (And.intro h2 hln))
 have HW : Veil (Below W.heap.size W W) := ⟨Below.refl _ _⟩
 rw [hln] at hn ⊢
 clear h1 h2
 go_enter Tryz.func13, Tryz.ntmps13
 go_upto_region 3 with (fail)
 go_wp2
 go_loopw [13] (fun jv wr => ∃ j : Nat, jv = .int .i64 (j : Int) /\ j <= n /\ Below W.heap.size W wr) (fun jv _ => 2000 - (intOf jv).toNat)
 case atStart => exact ⟨0, rfl, Nat.zero_le _, HW.out⟩
 case round =>
  obtain ⟨j, rfl, hjn, hb⟩ := hrel
  have HB := Veil.mk hb
  clear hb
  have hj0 : (0 : Int) <= (j : Int) := by omega
  rcases Nat.lt_or_ge j n with hj | hj
  ·have hj1 : (j : Int) < (n : Int) := by omega
   obtain ⟨v, hv⟩ : ∃ v, l[j]'(by rw [hln]; exact hj) = v := ⟨_, rfl⟩
   obtain ⟨g1, k1, e1, l1, p0, p1, p2⟩ := row_at HR.out.1 j (by rw [hln]; exact hj)
   obtain ⟨g2, k2, e2, l2, q0, q1, q2⟩ := row_at HR.out.2.1 j (by rw [hln]; exact hj)
   injection e1 with e1 _ _
   injection e2 with e2 _ _
   subst e1 e2
   rw [hv] at p0 p1 p2 q0 q1 q2
   have HP := Veil.mk (And.intro (And.intro l1 (And.intro p0 (And.intro p1 p2))) (And.intro l2 (And.intro q0 (And.intro q1 q2))))
   clear l1 l2 p0 p1 p2 q0 q1 q2 hv
   go_upto_region 6 with (fail)
   have p0 : ∀ z : BW wr, z.w.cell? ⟨g1, j * 3, none⟩ = some (.int .i64 v.1) := fun z => ((blw2 HB.out z.h).cell (p := ⟨g1, j * 3, none⟩) HP.out.1.1).trans HP.out.1.2.1
   have p1 : ∀ z : BW wr, z.w.cell? ⟨g1, j * 3 + 1, none⟩ = some (.int .i64 v.2.1) := fun z => ((blw2 HB.out z.h).cell (p := ⟨g1, j * 3 + 1, none⟩) HP.out.1.1).trans HP.out.1.2.2.1
   have p2 : ∀ z : BW wr, z.w.cell? ⟨g1, j * 3 + 2, none⟩ = some (.string v.2.2) := fun z => ((blw2 HB.out z.h).cell (p := ⟨g1, j * 3 + 2, none⟩) HP.out.1.1).trans HP.out.1.2.2.2
   have q0 : ∀ z : BW wr, z.w.cell? ⟨g2, j * 3, none⟩ = some (.int .i64 v.1) := fun z => ((blw2 HB.out z.h).cell (p := ⟨g2, j * 3, none⟩) HP.out.2.1).trans HP.out.2.2.1
   have q1 : ∀ z : BW wr, z.w.cell? ⟨g2, j * 3 + 1, none⟩ = some (.int .i64 v.2.1) := fun z => ((blw2 HB.out z.h).cell (p := ⟨g2, j * 3 + 1, none⟩) HP.out.2.1).trans HP.out.2.2.2.1
   have q2 : ∀ z : BW wr, z.w.cell? ⟨g2, j * 3 + 2, none⟩ = some (.string v.2.2) := fun z => ((blw2 HB.out z.h).cell (p := ⟨g2, j * 3 + 2, none⟩) HP.out.2.1).trans HP.out.2.2.2.2
   have hNE := BW.ne wr
   refine wp_region_below (by kernel_rfl) (by kernel_rfl) ?_
   repeat (go_big_quiet_step (fail))
   refine wpQuiet_nil ?_
   rintro _ ⟨z, rfl⟩
   have HQ := Veil.mk z.h
   obtain ⟨wE, hE2⟩ : ∃ wE, z.w = wE := ⟨_, rfl⟩
   rw [hE2] at HQ ⊢
   clear p0 p1 p2 q0 q1 q2 hE2 z hNE
   have HB2 := Veil.mk (blw2 HB.out HQ.out)
   clear HQ HP
   go_wp2
   go_roundw
   case rel => exact ⟨j + 1, by go_num, hj, HB2.out⟩
   case measure => simp [intOf]; omega
  ·have hj1 : ¬ ((j : Int) < (n : Int)) := by omega
   go_wp2
   go_ret
   exact ⟨rfl, HB.out⟩
end Go.Proofs.YtahkohfppakaiaaGreatDoor
namespace Go.Proofs.YtahkohfppakaiaaGreatDoor
open Go Go.RowKit
def Rd (w : World) (A : Nat) (v : Value) (n z : Nat) (cs : List Value) : Prop :=
 cs.length = n * z /\ ∃ a c, v = .slice a n c /\ (a = none -> n = 0 /\ c = 0) /\ ∀ ad, a = some ad -> ∀ (j : Nat) u, cs[j]? = some u -> ad.block < A /\ w.cell? (ad.add j) = some u
section
variable {P : Program} (w : World)
theorem run_append_nil_any (t ty e : TypeId) (i : TypeInfo) (z : Value) (size bytes : Nat) (ht : P.underlying t = some (.slice e)) (hi : P.info? e = some i) (hz : i.zero = some z)
  (hsize : i.size = size) (hby : i.bytes = bytes) (hzs : z.cells.size = size) (hsz : 0 < size)
  (A n : Nat) (v : Value) (cs : List Value) (hr : Rd w A v n size cs) (h1 : ∀ u ∈ cs, u.oneCell' = true) (h63 : n <= maxLen) (hbytes : n * bytes <= 140737488355328) :
  ∃ v' w', (Builtin.append_ #[t, t] ty #[.slice none 0 0, v]).run P w = .ok v' w' /\ Below w.heap.size w w' /\ w'.ownsRow w.heap.size e size v' n cs := by
 obtain ⟨h0, a, c, rfl, h2, h3⟩ := hr
 cases a with
 | none =>
  obtain ⟨rfl, rfl⟩ := h2 rfl
  have hn : cs = [] := List.eq_nil_of_length_eq_zero (by simpa using h0)
  subst hn
  refine ⟨.slice none 0 0, w, ?_, Below.refl _ _, World.ownsRow_nil w _ e size⟩
  simp [Builtin.append_, run_underlying ht, sizeOf, typeInfo, hi, Builtin.lenOf, Builtin.firstCells]
 | some ad =>
  obtain ⟨v', w', q1, q2, q3, _, _⟩ := run_append_own_at (P := P) w w.heap.size t ty e i z size bytes ht hi hz hsize hby hzs hsz (.slice none 0 0) 0 [] (World.ownsRow_nil w _ e size) ad n c cs h0 (fun j u hu => (h3 ad rfl j u hu).2) h1 (by omega) (by rw [Nat.zero_add]; exact hbytes) (Nat.le_refl _)
  refine ⟨v', w', q1, ⟨q3.os, q3.tape, q3.output, q3.size, fun k hk => q3.block k hk (by simp [Value.ownBlock])⟩, ?_⟩
  simpa using q2
theorem wpList_append_nil {w : World} {ops : Array Oper} {rest : List Oper} {o : Oper} {a : Act} {Q : Exit -> Act -> World -> Prop} (hgd : o.guard = none) (s x : Operand) (t : TypeId)
  (ho : o.op = .call { callee := .builtin .append, args := #[s, x], argTypes := #[t, t] })
  (e : TypeId) (i : TypeInfo) (z : Value) (size bytes : Nat) (ht : P.underlying t = some (.slice e)) (hi : P.info? e = some i) (hz : i.zero = some z)
  (hsize : i.size = size) (hby : i.bytes = bytes) (hzs : z.cells.size = size) (hsz : 0 < size)
  (A n : Nat) (v : Value) (cs : List Value) (hs : a.eval s = .slice none 0 0) (hx : a.eval x = v) (hr : Rd w A v n size cs) (h1 : ∀ u ∈ cs, u.oneCell' = true) (h63 : n <= maxLen) (hbytes : n * bytes <= 140737488355328)
  (h : ∀ v' w', Below w.heap.size w w' -> w'.ownsRow w.heap.size e size v' n cs -> wpList P ops Q rest (a.put o.dst v') w') : wpList P ops Q (o :: rest) a w := by
 refine wpList_plain hgd fun K hK => ?_
 obtain ⟨v', w', hrun, h2, h3⟩ := run_append_nil_any (P := P) w t o.type e i z size bytes ht hi hz hsize hby hzs hsz A n v cs hr h1 h63 hbytes
 unfold Oper.wp
 simp [execOp, ho, resolve, invoke, builtin, hs, hx, hrun, Result.andThen]
 exact hK _ _ (h v' w' h2 h3)
end
theorem RowV.rd {w : World} {v : Value} {l : List Vt} (h : RowV w v l) : Rd w w.heap.size v l.length 3 (flatV l) := by
 obtain ⟨ao, c, e, h1, h2, h3⟩ := h
 refine ⟨flatV_len l, ao, c, e, fun h9 => ⟨by rw [(h2 h9).1]; rfl, (h2 h9).2⟩, fun ad had j u hu => ?_⟩
 obtain ⟨g, rfl, hl, hc⟩ := h3 ad had
 exact ⟨lab_lt hl, by rw [show (⟨g, 0, none⟩ : Addr).add j = ⟨g, j, none⟩ by simp [Addr.add]; intro h; exact h.symm]; exact hc j u hu⟩
theorem flatV_get : ∀ (l : List Vt) (j : Nat) (u : Value), (flatV l)[j]? = some u -> ∃ q v, l[q]? = some v /\ ((j = q * 3 /\ u = .int .i64 v.1) \/ (j = q * 3 + 1 /\ u = .int .i64 v.2.1) \/ (j = q * 3 + 2 /\ u = .string v.2.2))
 | [], j, u, h => by simp [flatV] at h
 | a :: r, 0, u, h => by
  have h : some (Value.int .i64 a.1) = some u := h
  injection h with h
  exact ⟨0, a, rfl, .inl ⟨rfl, h.symm⟩⟩
 | a :: r, 1, u, h => by
  have h : some (Value.int .i64 a.2.1) = some u := h
  injection h with h
  exact ⟨0, a, rfl, .inr (.inl ⟨rfl, h.symm⟩)⟩
 | a :: r, 2, u, h => by
  have h : some (Value.string a.2.2) = some u := h
  injection h with h
  exact ⟨0, a, rfl, .inr (.inr ⟨rfl, h.symm⟩)⟩
 | a :: r, j + 3, u, h => by
  obtain ⟨q, v, h1, h2⟩ := flatV_get r j u h
  refine ⟨q + 1, v, h1, ?_⟩
  rcases h2 with ⟨rfl, e⟩ | ⟨rfl, e⟩ | ⟨rfl, e⟩
  ·exact .inl ⟨by omega, e⟩
  ·exact .inr (.inl ⟨by omega, e⟩)
  ·exact .inr (.inr ⟨by omega, e⟩)
theorem EL.rowV {W : World} {A n : Nat} {ev : Value} {xs ys : Nat -> Vt} (h : EL W A ev n xs) (he : ∀ j, j < n -> xs j = ys j) : RowV W ev (lsX ys n) := by
 rcases h with ⟨rfl, rfl⟩ | ⟨g, cap, rfl, h9⟩
 ·exact RowV.nil _
 ·refine ⟨some ⟨g, 0, none⟩, cap, by rw [lsX_len], by rw [lsX_len]; exact h9.le, fun h => (by cases h), fun ad had => ?_⟩
  injection had with had
  refine ⟨g, had.symm, h9.lab, fun j u hu => ?_⟩
  obtain ⟨q, v, h1, h2⟩ := flatV_get _ j u hu
  have hq : q < n := by
   have := (List.getElem?_eq_some_iff.1 h1).1
   rwa [lsX_len] at this
  rw [lsX_at ys n q hq] at h1
  injection h1 with h1
  subst h1
  obtain ⟨c0, c1, c2⟩ := h9.cell q (by have := h9.le; omega)
  rw [he q hq] at c0 c1 c2
  rcases h2 with ⟨rfl, e⟩ | ⟨rfl, e⟩ | ⟨rfl, e⟩
  ·rw [e]; exact c0
  ·rw [e]; exact c1
  ·rw [e]; exact c2
def kx (j : Nat) : Vt := (3, (j : Int), ⟨#[]⟩)
section
variable {w W W' : World} {h A m ia b n : Nat} {cz : Bool} {ts : List TO} {E : Nat -> Prop} {xs ys : Nat -> Vt} {st : Int}
theorem FZ.congr (H : FZ w h A m ts ia b cz n xs st E W) (he : ∀ j, j < n -> xs j = ys j) : FZ w h A m ts ia b cz n ys st E W := by
 obtain ⟨ev, na, ca, xs0, h1, h2, h3, h4, h5, h6⟩ := H.x
 exact ⟨⟨ev, na, ca, xs0, h1, h2, fun j hj => (h3 j hj).trans (he j hj), h4, h5, h6⟩, H.bel, H.lo⟩
theorem FZ.elems (H : FZ w h A m ts ia b cz n xs st E W) (L : LawT ts ia) : ∃ ev, Box W b 63 (objC 1 3 cz (.pointer none) ev) /\ RowV W ev (lsX xs n) := by
 obtain ⟨ev, na, ca, xs0, h1, h2, h3, -⟩ := H.x
 exact ⟨ev, h1.mem_b (List.mem_of_getElem? (List.getElem?_set_self L.lt)) rfl, h2.rowV h3⟩
theorem FZ.of_a (H : FZ w h A m ts ia b cz n xs st E W) (L : LawT ts ia) : Calls Tryz.prog 14 #[.pointer (some ⟨h, 0, none⟩), valV (9, (ia : Int) + 1, ⟨#[]⟩)] W fun e w' => e = .returned (.pointer (some ⟨b, 0, none⟩)) /\ Below W.heap.size W w' := by
 obtain ⟨ev, na, ca, xs0, h1, -⟩ := H.x
 exact h1.of_at (List.getElem?_set_self L.lt) rfl _
end
structure NS (w1 : World) (h A m b n : Nat) (rv : Value) (fa fw fn : Vt) (ab wb nb o g Bo : Nat) (cz : Bool) (tl : Nat) (st : Int) (E : Nat -> Prop) (wr : World) : Prop where
 x : ∃ ts, ts.length = tl /\ LawT ts 37 /\ LawW ts 38 o 1 (.slice (some ⟨g, 0, none⟩) 1 1) 0 /\ FZ w1 h A m ts 37 b cz n kx st (fun k => E k \/ rv.ownBlock = some k \/ k = ab \/ k = wb \/ k = nb \/ k = g) wr
 row : wr.ownsRow Bo VTy 3 rv n (flatV (lsX kx n))
 ba : Box wr ab VTy #[.int .i64 fa.1, .int .i64 fa.2.1, .string fa.2.2]
 bw : Box wr wb VTy #[.int .i64 fw.1, .int .i64 fw.2.1, .string fw.2.2]
 bn : Box wr nb VTy #[.int .i64 fn.1, .int .i64 fn.2.1, .string fn.2.2]
 bg : Box wr g VTy #[.int .i64 9, .int .i64 38, .string ⟨#[]⟩]
 ge : ¬ E g
section
variable {w1 wr w' : World} {h A m b n : Nat} {rv : Value} {fa fw fn : Vt} {ab wb nb o g Bo tl : Nat} {cz : Bool} {st : Int} {E : Nat -> Prop}
theorem NS.on (H : NS w1 h A m b n rv fa fw fn ab wb nb o g Bo cz tl st E wr) (hb : Below wr.heap.size wr w') : NS w1 h A m b n rv fa fw fn ab wb nb o g Bo cz tl st E w' := by
 obtain ⟨ts, a1, a2, a3, a4⟩ := H.x
 exact ⟨⟨ts, a1, a2, a3, a4.on hb⟩, own_below H.row hb, H.ba.below hb, H.bw.below hb, H.bn.below hb, H.bg.below hb, H.ge⟩
theorem NS.excl (H : NS w1 h A m b n rv fa fw fn ab wb nb o g Bo cz tl st E wr) {E' : Nat -> Prop} (hE : ∀ k, E' k -> E k \/ wr.heap.size <= k) : NS w1 h A m b n rv fa fw fn ab wb nb o g Bo cz tl st E' wr := by
 obtain ⟨ts, a1, a2, a3, a4⟩ := H.x
 refine ⟨⟨ts, a1, a2, a3, a4.excl (fun k hk => ?_)⟩, H.row, H.ba, H.bw, H.bn, H.bg, fun h9 => (hE g h9).elim H.ge (fun h8 => by have := H.bg.lt; omega)⟩
 rcases hk with hk | hk
 ·exact (hE k hk).imp .inl (fun h => h)
 ·exact .inl (.inr hk)
theorem NS.lt (H : NS w1 h A m b n rv fa fw fn ab wb nb o g Bo cz tl st E wr) {k : Nat} (hk : rv.ownBlock = some k \/ k = ab \/ k = wb \/ k = nb \/ k = g) : k < wr.heap.size := by
 rcases hk with hk | rfl | rfl | rfl | rfl
 ·exact (own_lt H.row k hk).2
 ·exact H.ba.lt
 ·exact H.bw.lt
 ·exact H.bn.lt
 ·exact H.bg.lt
theorem NS.put (H : NS w1 h A m b n rv fa fw fn ab wb nb o g Bo cz tl st E wr) {k : Nat} (hl : Lab wr k VTy) (hk : E k) (hn : w1.heap.size <= k) (hne : ¬ (rv.ownBlock = some k \/ k = ab \/ k = wb \/ k = nb \/ k = g)) (i : Nat) (u : Value) : NS w1 h A m b n rv fa fw fn ab wb nb o g Bo cz tl st E (wr.setCell ⟨k, i, none⟩ u) := by
 obtain ⟨ts, a1, a2, a3, a4⟩ := H.x
 have ht : Touch (fun j => j = k) wr (wr.setCell ⟨k, i, none⟩ u) := Touch.put (S := fun j => j = k) rfl _ _
 refine ⟨⟨ts, a1, a2, a3, a4.put hl (.inl hk) hn i u⟩, own_blk H.row (fun j hj => ht.block j (own_lt H.row j hj).2 (fun e => hne (.inl (by rw [<- e]; exact hj)))), H.ba.touch ht (fun e => hne (.inr (.inl e.symm))), H.bw.touch ht (fun e => hne (.inr (.inr (.inl e.symm)))), H.bn.touch ht (fun e => hne (.inr (.inr (.inr (.inl e.symm))))), H.bg.touch ht (fun e => hne (.inr (.inr (.inr (.inr e.symm))))), H.ge⟩
theorem NS.pg (N : Nat) (hN : w1.heap.size <= N) (hK : ∀ k, (rv.ownBlock = some k \/ k = ab \/ k = wb \/ k = nb \/ k = g) -> k < N) : PG N (NS w1 h A m b n rv fa fw fn ab wb nb o g Bo cz tl st) :=
 ⟨fun _ _ _ H hb => H.on hb, fun _ _ _ H hE => H.excl hE, fun _ _ k i u H hl hk hn => H.put hl hk (Nat.le_trans hN hn) (fun h9 => by have := hK k h9; omega) i u⟩
end
end Go.Proofs.YtahkohfppakaiaaGreatDoor
