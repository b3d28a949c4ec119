/- Texts of the stage, joined: Jo Ya Yb Lh Jp. -/
import Derived.Test.YtahkohfppakaiaaGreatDoorBn
import Derived.Test.YtahkohfppakaiaaGreatDoorBm
import Derived.Deep.AppendLies
import Derived.Deep.RegionLaw
import Derived.RangeFuncFrom
import Derived.Test.YtahkohfppakaiaaGreatDoorBe
set_option maxHeartbeats 40000000
set_option maxRecDepth 100000
namespace Go.Proofs.YtahkohfppakaiaaGreatDoor
open Go Go.RowKit
section
variable {w1 wr w' : World} {h A m b n : Nat} {rv : Value} {fa fw fn : Vt} {ab wb nb o g Bo tl : Nat} {cz : Bool} {st st' : Int} {E : Nat -> Prop} {ts : List TO}
theorem NS.all (H : NS w1 h A m b n rv fa fw fn ab wb nb o g Bo cz tl st E wr) (hE : ∀ k, E k -> k < wr.heap.size) (k : Nat) (hk : E k \/ rv.ownBlock = some k \/ k = ab \/ k = wb \/ k = nb \/ k = g) : k < wr.heap.size := hk.elim (hE k) H.lt
theorem NS.rest (H : NS w1 h A m b n rv fa fw fn ab wb nb o g Bo cz tl st E wr) (hl : ts.length = tl) (hT : LawT ts 37) (hW : LawW ts 38 o 1 (.slice (some ⟨g, 0, none⟩) 1 1) 0) (htl : tl < 99999) (hq : FZX w1 h A m 37 b cz n kx st' (TE ts) (fun k => E k \/ rv.ownBlock = some k \/ k = ab \/ k = wb \/ k = nb \/ k = g) w') (hf : ∀ b t c, t ∈ kvL -> (E b \/ rv.ownBlock = some b \/ b = ab \/ b = wb \/ b = nb \/ b = g) -> Box wr b t c -> Box w' b t c) : NS w1 h A m b n rv fa fw fn ab wb nb o g Bo cz (tl + 1) st' E w' := by
 obtain ⟨ts1, D, ⟨e, rfl⟩, hD, hz⟩ := hq
 exact ⟨⟨ts ++ [e], by rw [List.length_append, hl]; rfl, hT.more e (by omega), hW.more e, hz.excl (fun k hk => .inl (.inl hk))⟩, own_stay H.row (fun b c h1 h2 => hf b VTy c (by decide) (.inr (.inl h1)) h2), hf ab VTy _ (by decide) (.inr (.inr (.inl rfl))) H.ba, hf wb VTy _ (by decide) (.inr (.inr (.inr (.inl rfl)))) H.bw, hf nb VTy _ (by decide) (.inr (.inr (.inr (.inr (.inl rfl))))) H.bn, hf g VTy _ (by decide) (.inr (.inr (.inr (.inr (.inr rfl))))) H.bg, H.ge⟩
theorem NS.ask_push (H : NS w1 h A m b n rv fa fw fn ab wb nb o g Bo true tl st E wr) (hE : ∀ k, E k -> k < wr.heap.size) (hs0 : 0 <= st) (hs1 : st < 4000000) (htl : tl < 90000) (hn : n < 100) (args : Value) (v : Vt) (hr : RowV wr args [v]) (hgE : ∀ k, args.ownBlock = some k -> E k) :
  Calls Tryz.prog 20 #[.pointer (some ⟨m, 0, none⟩), valV (9, 38, ⟨#[]⟩), .string ⟨#[112, 117, 115, 104]⟩, args] wr fun e w' => e = .returned (.tuple #[valV (9, (tl : Int) + 1, ⟨#[]⟩), .int .i64 1]) /\ NS w1 h A m b n rv fa fw fn ab wb nb o g Bo true (tl + 1) (st + 2) E w' /\ (∀ b t c, t ∈ kvL -> E b -> Box wr b t c -> Box w' b t c) /\ wr.heap.size <= w'.heap.size := by
 obtain ⟨ts, hl, hT, hW, hz⟩ := H.x
 have key := hz.ask_pushZ hT (by omega) (H.all hE) hs0 hs1 hn args v hr (fun k hk => .inl (hgE k hk))
 rw [hl] at key
 refine Calls.mono key ?_
 rintro e w' ⟨he, hq, hf, hs⟩
 exact ⟨he, H.rest hl hT hW (by omega) hq hf, fun b t c h1 h2 h3 => hf b t c h1 (.inl h2) h3, hs⟩
theorem NS.ask_pop (H : NS w1 h A m b n rv fa fw fn ab wb nb o g Bo true tl st E wr) (hE : ∀ k, E k -> k < wr.heap.size) (hs0 : 0 <= st) (hs1 : st < 4000000) (htl : tl < 90000) :
  Calls Tryz.prog 20 #[.pointer (some ⟨m, 0, none⟩), valV (9, 38, ⟨#[]⟩), .string ⟨#[112, 111, 112]⟩, .slice none 0 0] wr fun e w' => e = .returned (.tuple #[valV (9, (tl : Int) + 1, ⟨#[]⟩), .int .i64 1]) /\ NS w1 h A m b n rv fa fw fn ab wb nb o g Bo true (tl + 1) (st + 1) E w' /\ (∀ b t c, t ∈ kvL -> E b -> Box wr b t c -> Box w' b t c) /\ wr.heap.size <= w'.heap.size := by
 obtain ⟨ts, hl, hT, hW, hz⟩ := H.x
 have key := hz.ask_popZ hT (by omega) (H.all hE) hs0 hs1
 rw [hl] at key
 refine Calls.mono key ?_
 rintro e w' ⟨he, hq, hf, hs⟩
 exact ⟨he, H.rest hl hT hW (by omega) hq hf, fun b t c h1 h2 h3 => hf b t c h1 (.inl h2) h3, hs⟩
theorem NS.ask_each (H : NS w1 h A m b n rv fa fw fn ab wb nb o g Bo cz tl st E wr) (hE : ∀ k, E k -> k < wr.heap.size) (hs0 : 0 <= st) (hs1 : st < 4000000) (htl : tl < 90000) (args : Value) (v : Vt) (hr : RowV wr args [v]) (hgE : ∀ k, args.ownBlock = some k -> E k) (h9 : (v.1 == 9) = false) :
  Calls Tryz.prog 20 #[.pointer (some ⟨m, 0, none⟩), valV (9, 38, ⟨#[]⟩), .string ⟨#[102, 111, 114, 69, 97, 99, 104]⟩, args] wr fun e w' => e = .returned (.tuple #[valV (9, (tl : Int) + 1, ⟨#[]⟩), .int .i64 1]) /\ NS w1 h A m b n rv fa fw fn ab wb nb o g Bo cz (tl + 1) (st + 1) E w' /\ (∀ b t c, t ∈ kvL -> E b -> Box wr b t c -> Box w' b t c) /\ wr.heap.size <= w'.heap.size := by
 obtain ⟨ts, hl, hT, hW, hz⟩ := H.x
 have key := hz.ask_eachZ hT (by omega) (H.all hE) hs0 hs1 args v hr (fun k hk => .inl (hgE k hk)) h9
 rw [hl] at key
 refine Calls.mono key ?_
 rintro e w' ⟨he, hq, hf, hs⟩
 exact ⟨he, H.rest hl hT hW (by omega) hq hf, fun b t c h1 h2 h3 => hf b t c h1 (.inl h2) h3, hs⟩
theorem NS.call_a (H : NS w1 h A m b n rv fa fw fn ab wb nb o g Bo cz tl st E wr) (hE : ∀ k, E k -> k < wr.heap.size) (hs0 : 0 <= st) (hs1 : st < 4000000) (htl : tl < 90000) :
  Calls Tryz.prog 28 #[.pointer (some ⟨m, 0, none⟩), valV (9, 37, ⟨#[]⟩), valV (9, 38, ⟨#[]⟩), .slice none 0 0] wr fun e w' => e = .returned (.tuple #[valV (9, (tl : Int) + 1, ⟨#[]⟩), .int .i64 1]) /\ NS w1 h A m b n rv fa fw fn ab wb nb o g Bo cz (tl + 1) (st + 1) E w' /\ (∀ b t c, t ∈ kvL -> E b -> Box wr b t c -> Box w' b t c) /\ wr.heap.size <= w'.heap.size := by
 obtain ⟨ts, hl, hT, hW, hz⟩ := H.x
 have key := hz.call_arr hT (by omega) (H.all hE) hs0 hs1
 rw [hl] at key
 refine Calls.mono key ?_
 rintro e w' ⟨he, hq, hf, hs⟩
 exact ⟨he, H.rest hl hT hW (by omega) hq hf, fun b t c h1 h2 h3 => hf b t c h1 (.inl h2) h3, hs⟩
theorem NS.call_u (H : NS w1 h A m b n rv fa fw fn ab wb nb o g Bo cz tl st E wr) (hE : ∀ k, E k -> k < wr.heap.size) (hs0 : 0 <= st) (hs1 : st < 4000000) (htl : tl < 90000) :
  Calls Tryz.prog 28 #[.pointer (some ⟨m, 0, none⟩), valV (9, 37, ⟨#[]⟩), valV zV, .slice none 0 0] wr fun e w' => e = .returned (.tuple #[valV (9, (tl : Int) + 1, ⟨#[]⟩), .int .i64 1]) /\ NS w1 h A m b n rv fa fw fn ab wb nb o g Bo cz (tl + 1) (st + 1) E w' /\ (∀ b t c, t ∈ kvL -> E b -> Box wr b t c -> Box w' b t c) /\ wr.heap.size <= w'.heap.size := by
 obtain ⟨ts, hl, hT, hW, hz⟩ := H.x
 have key := hz.call_none hT (by omega) (H.all hE) hs0 hs1
 rw [hl] at key
 refine Calls.mono key ?_
 rintro e w' ⟨he, hq, hf, hs⟩
 exact ⟨he, H.rest hl hT hW (by omega) hq hf, fun b t c h1 h2 h3 => hf b t c h1 (.inl h2) h3, hs⟩
theorem NS.freeze (H : NS w1 h A m b n rv fa fw fn ab wb nb o g Bo cz tl st E wr) :
  Calls Tryz.prog 29 #[.pointer (some ⟨b, 0, none⟩)] wr fun e w' => e = .returned (.tuple #[]) /\ NS w1 h A m b n rv fa fw fn ab wb nb o g Bo true tl st E w' /\ wr.heap.size <= w'.heap.size := by
 obtain ⟨ts, hl, hT, hW, hz⟩ := H.x
 refine (hz.freeze hT).mono ?_
 rintro e w' ⟨he, hq, hf, hs⟩
 exact ⟨he, ⟨⟨ts, hl, hT, hW, hq⟩, own_stay H.row (fun b c h1 h2 => hf b VTy c (by decide) h2), hf ab VTy _ (by decide) H.ba, hf wb VTy _ (by decide) H.bw, hf nb VTy _ (by decide) H.bn, hf g VTy _ (by decide) H.bg, H.ge⟩, hs⟩
theorem NS.of_a (H : NS w1 h A m b n rv fa fw fn ab wb nb o g Bo cz tl st E wr) : Calls Tryz.prog 14 #[.pointer (some ⟨h, 0, none⟩), valV (9, 38, ⟨#[]⟩)] wr fun e w' => e = .returned (.pointer (some ⟨b, 0, none⟩)) /\ Below wr.heap.size wr w' := by
 obtain ⟨ts, hl, hT, hW, hz⟩ := H.x
 exact hz.of_a hT
theorem NS.at0 (H : NS w1 h A m b n rv fa fw fn ab wb nb o g Bo cz tl st E wr) : wr.cell? ⟨m, 0, none⟩ = some (.pointer (some ⟨h, 0, none⟩)) := by
 obtain ⟨ts, hl, hT, hW, hz⟩ := H.x
 exact hz.at0
theorem NS.bel (H : NS w1 h A m b n rv fa fw fn ab wb nb o g Bo cz tl st E wr) : Below w1.heap.size w1 wr := by
 obtain ⟨ts, hl, hT, hW, hz⟩ := H.x
 exact hz.bel
end
structure NT (w1 : World) (h A m b n : Nat) (rv : Value) (fa fw : Vt) (ab wb o g Bo sl sb : Nat) (ev2 : Value) (ts : List TO) (st : Int) (E : Nat -> Prop) (wr : World) : Prop where
 hl : ts.length = sl + 1
 hT : LawT ts 37
 hW : LawW ts 38 o 1 (.slice (some ⟨g, 0, none⟩) 1 1) 0
 hs : ts[sl]? = some (TO.arr sb 3 ev2)
 fz : FZ w1 h A m ts 37 b true n kx st (fun k => (E k \/ rv.ownBlock = some k \/ k = ab \/ k = wb \/ ev2.ownBlock = some k) \/ k = g) wr
 row : wr.ownsRow Bo VTy 3 rv n (flatV (lsX kx n))
 el : RowE wr A ev2 (lsX kx n)
 ba : Box wr ab VTy #[.int .i64 fa.1, .int .i64 fa.2.1, .string fa.2.2]
 bw : Box wr wb VTy #[.int .i64 fw.1, .int .i64 fw.2.1, .string fw.2.2]
 bg : Box wr g VTy #[.int .i64 9, .int .i64 38, .string ⟨#[]⟩]
 ge : ¬ (E g \/ rv.ownBlock = some g \/ g = ab \/ g = wb \/ ev2.ownBlock = some g)
section
variable {w1 wr w' : World} {h A m b n : Nat} {rv : Value} {fa fw fn : Vt} {ab wb nb o g Bo tl : Nat} {cz : Bool} {st st' : Int} {E : Nat -> Prop} {ts : List TO}
theorem NS.ask_slice (H : NS w1 h A m b n rv fa fw fn ab wb nb o g Bo true tl st E wr) (hE : ∀ k, E k -> k < wr.heap.size) (hs0 : 0 <= st) (hs1 : st < 4000000) (htl : tl < 90000) (h38 : 38 < tl) (hn : n <= 1000) (hgr : ¬ (rv.ownBlock = some g \/ g = ab \/ g = wb)) :
  Calls Tryz.prog 20 #[.pointer (some ⟨m, 0, none⟩), valV (9, 38, ⟨#[]⟩), .string ⟨#[115, 108, 105, 99, 101]⟩, .slice none 0 0] wr fun e w' => e = .returned (.tuple #[valV (9, (tl : Int) + 1, ⟨#[]⟩), .int .i64 0]) /\ (∃ sb ev2 ts1, NT w1 h A m b n rv fa fw ab wb o g Bo tl sb ev2 ts1 (st + 1 + (n : Int)) E w') /\ (∀ b t c, t ∈ kvL -> E b -> Box wr b t c -> Box w' b t c) /\ wr.heap.size <= w'.heap.size := by
 obtain ⟨ts, hl, hT, hW, hz⟩ := H.x
 have key := hz.ask_sliceZ hT (by omega) (H.all hE) hs0 hs1 hn (fun j hj => by show (3 : Int) ≠ 10; decide)
 rw [hl] at key
 refine Calls.mono key ?_
 rintro e w' ⟨he, ⟨ts1, D, ⟨b2, ev2, rfl, hr2, hd2⟩, hD, hq⟩, hf, hs⟩
 refine ⟨he, ⟨b2, ev2, _, by rw [List.length_append, hl]; rfl, hT.more _ (by omega), hW.more _, by rw [<- hl, List.getElem?_append_right (Nat.le_refl _), Nat.sub_self]; rfl, hq.excl (fun k hk => ?_), own_stay H.row (fun b c h1 h2 => hf b VTy c (by decide) (.inr (.inl h1)) h2), hr2, hf ab VTy _ (by decide) (.inr (.inr (.inl rfl))) H.ba, hf wb VTy _ (by decide) (.inr (.inr (.inr (.inl rfl)))) H.bw, hf g VTy _ (by decide) (.inr (.inr (.inr (.inr (.inr rfl))))) H.bg, fun h9 => ?_⟩, fun b t c h1 h2 h3 => hf b t c h1 (.inl h2) h3, hs⟩
 ·rcases hk with (hk | hk | hk | hk | hk) | hk
  ·exact .inl (.inl (.inl hk))
  ·exact .inl (.inl (.inr (.inl hk)))
  ·exact .inl (.inl (.inr (.inr (.inl hk))))
  ·exact .inl (.inl (.inr (.inr (.inr (.inl hk)))))
  ·exact .inl (.inr (hd2 k hk))
  ·exact .inl (.inl (.inr (.inr (.inr (.inr (.inr hk))))))
 ·rcases h9 with h9 | h9 | h9 | h9 | h9
  ·exact H.ge h9
  ·exact hgr (.inl h9)
  ·exact hgr (.inr (.inl h9))
  ·exact hgr (.inr (.inr h9))
  ·exact (hD g (hd2 g h9)).1 (.inr (.inr (.inr (.inr (.inr rfl)))))
end
end Go.Proofs.YtahkohfppakaiaaGreatDoor
namespace Go.Proofs.YtahkohfppakaiaaGreatDoor.W
open Go Go.RowKit
attribute [local go_sem] Oper.semAt_some
theorem own_drew {w : World} {base : Nat} {e : TypeId} {size : Nat} {v : Value} {n : Nat} {xs : List Value} (h : w.ownsRow base e size v n xs) : w.drew.ownsRow base e size v n xs := h
theorem cells_drew {w : World} {a : Addr} {cs : List Value} (h : ∀ j u, cs[j]? = some u -> w.cell? (a.add j) = some u) : ∀ j u, cs[j]? = some u -> w.drew.cell? (a.add j) = some u := h
end Go.Proofs.YtahkohfppakaiaaGreatDoor.W
namespace Go.Proofs.YtahkohfppakaiaaGreatDoor
open Go Go.RowKit
attribute [local go_sem] Oper.semAt_some
theorem MC.on {w w1 w2 : World} {h A m : Nat} {ts : List TO} (H : MC w h A m ts w1) (hb : Below w1.heap.size w1 w2) : MC w h A m ts w2 := ⟨⟨H.s.mp.on hb, Bk.of_below (Nat.le_of_lt (H.s.mp.on hb).mm.alt) (Below.refl _ _), H.s.len, H.s.pl, H.s.p2, H.s.p11, H.s.fn⟩, H.bel.trans (hb.mono H.bel.size), H.lo⟩
section
variable {w W : World} {h A m : Nat} {ts : List TO}
theorem MC.array38 (H : MC w h A m ts W) (E : Nat -> Prop) (hE : ∀ k, E k -> k < W.heap.size) (sv : Value) (l : List Vt) (hr : RowV W sv l) (hl : l.length <= 10000) :
  Calls Tryz.prog 11 #[.pointer (some ⟨m, 0, none⟩), sv] W fun e w' => e = .returned (valV (9, 38, ⟨#[]⟩)) /\ ∃ b ts', ts'.length = 38 /\ (∃ t, ts'[0]? = some t /\ PlT t 0 []) /\ (∃ t, ts'[11]? = some t /\ PlT t 0 e11W) /\ LawT ts' 37 /\ LS w h A m ts' 37 b l.length (lx l) 0 E w' /\ (∀ g T cs, T ∈ kvL -> Box W g T cs -> Box w' g T cs) /\ W.heap.size <= w'.heap.size := by
 have hlen : ts.length = 37 := H.s.len
 have key := H.s.mp.arrayE sv l hr hl (by omega)
 rw [hlen] at key
 refine key.mono ?_
 rintro e w' ⟨he, b, ev, h1, ⟨-, h2⟩, h3, h4⟩
 have hw : (ts ++ [TO.arr b 3 ev]).set 37 (TO.arr b 3 ev) = ts ++ [TO.arr b 3 ev] := by
  rw [List.set_append_right 37 _ (by omega), hlen]
  rfl
 have hge : ∀ k t, k < 37 -> ts[k]? = some t -> (ts ++ [TO.arr b 3 ev])[k]? = some t := fun k t hk hg => by rw [List.getElem?_append_left (by omega)]; exact hg
 refine ⟨he, b, ts ++ [TO.arr b 3 ev], by rw [List.length_append, hlen]; rfl, (by obtain ⟨t, a1, a2⟩ := H.s.pl 0 (by decide) (by decide) (by decide); exact ⟨t, hge 0 t (by decide) a1, a2⟩), (by obtain ⟨t, a1, a2⟩ := H.s.p11; exact ⟨t, hge 11 t (by decide) a1, a2⟩), ⟨by rw [List.length_append, hlen]; show 38 < 100000; decide, by rw [List.length_append, hlen]; show 37 < 38; decide, by decide, ?_, fun j hj => ?_⟩, ⟨⟨ev, .slice none 0 0, .slice none 0 0, lx l, by rw [hw]; exact h1, h2, fun _ _ => rfl, ⟨⟨by simp, .inl ⟨rfl, rfl⟩⟩, ⟨by simp, .inl ⟨rfl, rfl⟩⟩⟩, fun k hk => ⟨fun h9 => ?_, fun h9 => ?_⟩, fun k hk => ?_⟩, H.bel.trans (h3.bel.mono H.lo), H.lo⟩, fun g T cs hT hbx => h3.boxE hbx hT, h3.bel.size⟩
 ·obtain ⟨t2, ht2, hp2⟩ := H.s.p2
  exact ⟨t2, hge 2 t2 (by decide) ht2, hp2⟩
 ·obtain ⟨t, ht, ⟨c1, c2, c3, c4⟩, -⟩ := H.s.fn j hj
  exact ⟨t, hge _ t (by omega) ht, c1, c3, by rw [c4]⟩
 ·rcases h9 with h9 | h9 <;> cases h9
 ·obtain ⟨ao, cap, e⟩ := h2.evs
  subst e
  cases ao with
  | none => cases hk
  | some ad =>
   have := h4 ad _ _ rfl
   have := hE k h9
   injection hk with hk
   have hk : ad.block = k := by
    first
     | exact hk
     | (split at hk <;> first | (injection hk) | cases hk)
   omega
 ·rcases hk with hk | hk <;> cases hk
end
section
variable {WD w w' : World} {P : World -> Prop} {cs : Array Value} {ir ic : Nat} {d : Nat -> Bool} {us : Nat -> Value}
end
theorem rem20 (k : Int) : ∃ c : Nat, c < 20 /\ IntKind.i64.wrap (IntKind.i64.wrap (k.tmod 20) + 20) = IntKind.i64.wrap (k.tmod 20) + 20 /\ (IntKind.i64.wrap (k.tmod 20) + 20).tmod 20 = (c : Int) /\ IntKind.i64.wrap (k.tmod 20) = k.tmod 20 := by
 have h1 : -20 < k.tmod 20 := by have := Int.lt_tmod_of_pos k (show (0 : Int) < 20 by decide); omega
 have h2 : k.tmod 20 < 20 := Int.tmod_lt_of_pos k (by decide)
 have e1 : IntKind.i64.wrap (k.tmod 20) = k.tmod 20 := IntWalk.i64_in _ (by omega)
 rw [e1]
 have h3 : 0 <= (k.tmod 20 + 20).tmod 20 := Int.tmod_nonneg _ (by omega)
 have h4 : (k.tmod 20 + 20).tmod 20 < 20 := Int.tmod_lt_of_pos _ (by decide)
 exact ⟨((k.tmod 20 + 20).tmod 20).toNat, by omega, IntWalk.i64_in _ (by omega), by omega, rfl⟩
theorem flat_kx (j : Nat) : flatV (lsX kx (j + 1)) = flatV (lsX kx j) ++ [.int .i64 3, .int .i64 (j : Int), .string ⟨#[]⟩] := by
 unfold lsX flatV
 rw [List.range_succ, List.map_append, List.flatMap_append]
 rfl
theorem native_law (w : World) (n0 : Int) (hT : Lib.TabIs Tryz.prog w "strings.asciiSpace" .u8 Lib.asciiSpaceTab) :
  Calls Tryz.prog 7 #[.int .i64 n0] w fun e w' => e = .returned (.bool true) /\ Below w.heap.size w w' := by
 have HF := Veil.mk (fit_any w hT)
 have HT := Veil.mk hT
 obtain ⟨n, hn, hr1, hr2, hr3⟩ := rem20 n0
 rw [hr3] at hr1 hr2
 have hw1 : IntKind.i64.wrap (n0.tmod 20) = n0.tmod 20 := hr3
 have hm1 : IntKind.i64.wrap (n0.tmod 20 + 20) = n0.tmod 20 + 20 := hr1
 have hm2 : (n0.tmod 20 + 20).tmod 20 = (n : Int) := hr2
 have hm3 : IntKind.i64.wrap (n : Int) = (n : Int) := IntWalk.i64_in _ (by omega)
 clear hT hr1 hr2 hr3
 go_enter Tryz.func7, Tryz.ntmps7
 go_upto_region 4 with (go_at_call 8; ((with_reducible refine HF.out.mono ?_); rintro e w1 ⟨rfl, hb1⟩; have HB1 := Veil.mk hb1; clear hb1))
 have HM := Veil.mk (machine_any w1 (Lib.tabBelow_of_tabIs HT.out w1 HB1.out))
 clear HF hw1 hm1 hm2 hm3
 go_upto_region 6 with (go_at_call 10; ((with_reducible refine HM.out.mono ?_); rintro e w2 ⟨h, A, m, ts0, rfl, hmc⟩; have HM2 := Veil.mk hmc; clear hmc))
 clear HM HT
 obtain ⟨Bo, hBo⟩ : ∃ Bo, w2.heap.size = Bo := ⟨_, rfl⟩
 have HBo : Veil (w2.heap.size <= Bo /\ Bo <= w2.heap.size) := ⟨by omega⟩
 have H0 : Veil (w2.ownsRow Bo VTy 3 (.slice none 0 0) 0 (flatV (lsX kx 0))) := ⟨⟨rfl, .inl ⟨rfl, rfl⟩⟩⟩
 obtain ⟨iv0, iv1, iv2, iv3, iv4⟩ := info_parts Tryz.infoW
 clear hBo
 go_wp2
 go_loopw [4, 33] (fun rv jv wr => ∃ j : Nat, jv = .int .i64 (j : Int) /\ j <= n /\ Below w2.heap.size w2 wr /\ wr.ownsRow Bo VTy 3 rv j (flatV (lsX kx j))) (fun _ jv _ => 2000 - (intOf jv).toNat)
 case atStart => exact ⟨0, rfl, Nat.zero_le _, Below.refl _ _, H0.out⟩
 case round =>
  clear H0
  obtain ⟨j, rfl, hjn, hb, hrow⟩ := hrel
  have HL := Veil.mk (And.intro hb hrow)
  clear hb hrow
  have hj0 : (0 : Int) <= (j : Int) := by omega
  rcases Nat.lt_or_ge j n with hj | hj
  ·have hj1 : (j : Int) < (n : Int) := by omega
   go_wp2_with (first | (go_at_call 19; ((with_reducible refine (num_any _ _).mono ?_); rintro e w5 ⟨rfl, hb5⟩; have HB5 := Veil.mk hb5; have hrow5 := own_below HL.out.2 hb5; have hsz5 : Bo <= w5.heap.size := (by have h1 := HBo.out.2; have h2 := HL.out.1.size; have h3 := hb5.size; omega); clear hb5)) | (at_builtin; refine wpList_append_lies _ rfl _ _ 30 rfl Bo VTy iv0 (.agg #[.int .i64 0, .int .i64 0, .string ⟨#[]⟩]) 3 32 Tryz.underlying30 iv1 iv2 iv3 iv4 rfl (by decide) _ _ _ rfl (hrow5.alloc _) ⟨w5.heap.size, 0, none⟩ 1 1 [.int .i64 3, .int .i64 (j : Int), .string ⟨#[]⟩] rfl rfl (news_at _ _ rfl _ _) (by simp [Value.oneCell']) (by decide) (by unfold maxLen; omega) (by omega) (by rw [World.size_alloc]; omega) _ rfl ?_; intro g5 cap5 w9 hown5 hgrow5 hblk5 hg5; refine Hid.out ?_))
   have hown9 : w9.ownsRow Bo VTy 3 (.slice (some ⟨g5, 0, none⟩) (j + 1) cap5) (j + 1) (flatV (lsX kx (j + 1))) := by rw [flat_kx]; exact hown5
   have ht9 : Touch (fun k => u4.ownBlock = some k) w5 w9 := (Touch.of_below ((Below.refl _ _).alloc (Nat.le_refl _) _)).trans (Touch.of_grown hgrow5 (fun k hk => hk))
   have hb9 : Below w2.heap.size w2 w9 := (blw2 HL.out.1 HB5.out).trans (ht9.below (Nat.le_trans HL.out.1.size HB5.out.size) (fun k hk => by have h1 := (own_lt hrow5 k hk).1; have h2 := HBo.out.1; omega))
   have HN9 := Veil.mk (And.intro hb9 hown9)
   clear hown5 hgrow5 hblk5 hg5 hrow5 hsz5 hown9 ht9 hb9
   refine Lib.hid ?_
   go_wp2
   go_roundw
   case rel => exact ⟨j + 1, by go_num, hj, HN9.out⟩
   case measure => simp [intOf]; omega
  ·obtain rfl : n = j := by omega
   have hj1 : ¬ ((n : Int) < (n : Int)) := by omega
   obtain ⟨rv, rfl⟩ : ∃ rv, rv = u4 := ⟨u4, rfl⟩
   have hrw : RowV wr rv (lsX kx n) := RowV.own (by rw [lsX_len]; exact HL.out.2)
   have hrd : Rd wr wr.heap.size rv n 3 (flatV (lsX kx n)) := by have := hrw.rd; rw [lsX_len] at this; exact this
   go_wp2_with (at_builtin; refine wpList_append_nil rfl _ _ 30 rfl VTy iv0 (.agg #[.int .i64 0, .int .i64 0, .string ⟨#[]⟩]) 3 32 Tryz.underlying30 iv1 iv2 iv3 iv4 rfl (by decide) wr.heap.size n rv (flatV (lsX kx n)) rfl rfl hrd (flatV_one _) (by unfold maxLen; omega) (by omega) ?_; intro v9 w9 hb9 hown9; refine Hid.out ?_)
   obtain ⟨fa, hfa⟩ : ∃ fa : Vt, ((9, 38, ⟨#[]⟩) : Vt) = fa := ⟨_, rfl⟩
   obtain ⟨fw, hfw⟩ : ∃ fw : Vt, ((9, 39, ⟨#[]⟩) : Vt) = fw := ⟨_, rfl⟩
   obtain ⟨fn, hfn⟩ : ∃ fn : Vt, ((9, 37, ⟨#[]⟩) : Vt) = fn := ⟨_, rfl⟩
   have hrow9 := own_below HL.out.2 hb9
   have HAR := (HM2.out.on (blw2 HL.out.1 hb9)).array38 (fun k => rv.ownBlock = some k) (fun k hk => (own_lt hrow9 k hk).2) v9 (lsX kx n) (RowV.own (by rw [lsX_len]; exact hown9)) (by rw [lsX_len]; omega)
   rw [hfa, lsX_len] at HAR
   have HAR := Veil.mk HAR
   have HR9 := Veil.mk hrow9
   have HFV := Veil.mk (And.intro hfa (And.intro hfw hfn))
   clear hrw hrd hfa hfw hfn hrow9 hb9 hown9
   refine Lib.hid ?_
   go_upto_region 12 with (go_at_call 11; ((with_reducible refine HAR.out.mono ?_); rintro e w3 ⟨rfl, b, ts, hl1, hl2, hl3, hl4, hls, hfr, hsz⟩; have HL3 := Veil.mk (And.intro hl1 (And.intro hl2 (And.intro hl3 (And.intro hl4 (And.intro hls (own_stay HR9.out (fun b c _ h2 => hfr b VTy c (by decide) h2))))))); clear hl1 hl2 hl3 hl4 hls hfr hsz))
   clear HAR HR9 HM2 HL
   obtain ⟨ab, hab⟩ : ∃ ab, w3.heap.size = ab := ⟨_, rfl⟩
   obtain ⟨w4, hw4⟩ : ∃ w4, w3.alloc (.cells #[.int .i64 fa.1, .int .i64 fa.2.1, .string fa.2.2] 28) = w4 := ⟨_, rfl⟩
   have bx := Box.new w3 28 #[.int .i64 fa.1, .int .i64 fa.2.1, .string fa.2.2]
   have bl : Below w3.heap.size w3 (w3.alloc (.cells #[.int .i64 fa.1, .int .i64 fa.2.1, .string fa.2.2] 28)) := (Below.refl _ _).alloc (Nat.le_refl _) _
   rw [hw4] at bx bl ⊢
   rw [hab] at bx ⊢
   have hz4 : FZ w1 h A m ts 37 b false n kx 0 (fun k => rv.ownBlock = some k \/ k = ab) w4 := (((HL3.out.2.2.2.2.1.fz.congr (ys := kx) (fun j hj => by show (lsX kx n).getD j _ = _; rw [List.getD_eq_getElem?_getD, lsX_at kx n j hj]; rfl)).excl (E' := (fun k => rv.ownBlock = some k \/ k = ab)) (fun k hk => hk.imp (fun h => h) (fun h => by rw [h]; omega))).on bl)
   have hrow4 := own_below HL3.out.2.2.2.2.2 bl
   have hK := hz4.ask_keys HL3.out.2.2.2.1 (by have := HL3.out.1; omega) (fun k hk => hk.elim (fun h => (own_lt hrow4 k h).2) (fun h => by rw [h]; exact bx.lt)) (by decide) (by decide)
   rw [HL3.out.1, show ((9, ((37 : Nat) : Int) + 1, ⟨#[]⟩) : Vt) = fa from HFV.out.1, show ((9, ((38 : Nat) : Int) + 1, ⟨#[]⟩) : Vt) = fw from HFV.out.2.1] at hK
   have HK : Veil (Calls Tryz.prog 20 #[.pointer (some ⟨m, 0, none⟩), valV fa, .string ⟨#[107, 101, 121, 115]⟩, .slice none 0 0] w4 fun e w' => e = .returned (.tuple #[valV fw, .int .i64 0]) /\ FZX w1 h A m 37 b false n kx (0 + 1) (TW ts 37 1) (fun k => rv.ownBlock = some k \/ k = ab) w' /\ (∀ b t c, t ∈ kvL -> (fun k => rv.ownBlock = some k \/ k = ab) b -> Box w4 b t c -> Box w' b t c) /\ w4.heap.size <= w'.heap.size) := ⟨hK⟩
   have HB4 := Veil.mk (And.intro bx hrow4)
   have c0 : w4.cell? ⟨ab, 0, none⟩ = some (.int .i64 fa.1) := bx.at_ 0
   have c1 : w4.cell? ⟨ab, 1, none⟩ = some (.int .i64 fa.2.1) := bx.at_ 1
   have c2 : w4.cell? ⟨ab, 2, none⟩ = some (.string fa.2.2) := bx.at_ 2
   clear hab hw4 bx bl hz4 hrow4 hK
   go_upto_region 13 with (go_at_call 20; ((with_reducible refine HK.out.mono ?_); rintro e w5 ⟨rfl, ⟨ts1, D, ⟨o, g, rfl, hDg, hgb⟩, hD, hz⟩, hfr, hsz⟩; have HR5 := Veil.mk (And.intro hz (And.intro hgb (And.intro (hfr ab VTy _ (by decide) (.inr rfl) HB4.out.1) (And.intro (own_stay HB4.out.2 (fun b c h1 h2 => hfr b VTy c (by decide) (.inl h1) h2)) (And.intro hDg hD))))); clear hz hgb hfr hsz hDg hD))
   clear c0 c1 c2 HK HB4
   obtain ⟨wb, hwb⟩ : ∃ wb, w5.heap.size = wb := ⟨_, rfl⟩
   obtain ⟨w6, hw6⟩ : ∃ w6, w5.alloc (.cells #[.int .i64 fw.1, .int .i64 fw.2.1, .string fw.2.2] 28) = w6 := ⟨_, rfl⟩
   have bx := Box.new w5 28 #[.int .i64 fw.1, .int .i64 fw.2.1, .string fw.2.2]
   have bl : Below w5.heap.size w5 (w5.alloc (.cells #[.int .i64 fw.1, .int .i64 fw.2.1, .string fw.2.2] 28)) := (Below.refl _ _).alloc (Nat.le_refl _) _
   rw [hw6] at bx bl ⊢
   rw [hwb] at bx ⊢
   have hW1 : LawW (ts ++ [TO.wkr o 1 (.slice (some ⟨g, 0, none⟩) 1 1) 0]) 38 o 1 (.slice (some ⟨g, 0, none⟩) 1 1) 0 := by
    have hl := HL3.out.1
    have hge : ∀ (k : Nat) t u, ts[k]? = some t -> (ts ++ [u])[k]? = some t := fun k t u hg => by
     rw [List.getElem?_append_left (List.getElem?_eq_some_iff.1 hg).1]
     exact hg
    obtain ⟨t0, a1, a2⟩ := HL3.out.2.1
    obtain ⟨t1, b1, b2⟩ := HL3.out.2.2.1
    obtain ⟨t3, c1, d1, d3, d4⟩ := HL3.out.2.2.2.1.fn 14 (by decide)
    exact ⟨by rw [<- hl, List.getElem?_append_right (Nat.le_refl _), Nat.sub_self]; rfl, by decide, ⟨t0, hge _ _ _ a1, a2⟩, ⟨t1, hge _ _ _ b1, b2⟩, ⟨t3, hge _ _ _ c1, d1, d3, by rw [d4]; rfl⟩⟩
   have hT1 := HL3.out.2.2.2.1.more (TO.wkr o 1 (.slice (some ⟨g, 0, none⟩) 1 1) 0) (by have := HL3.out.1; omega)
   have hlen1 : (ts ++ [TO.wkr o 1 (.slice (some ⟨g, 0, none⟩) 1 1) 0]).length = 39 := by rw [List.length_append, HL3.out.1]; rfl
   have hz6 : FZ w1 h A m (ts ++ [TO.wkr o 1 (.slice (some ⟨g, 0, none⟩) 1 1) 0]) 37 b false n kx (0 + 1) (fun k => rv.ownBlock = some k \/ k = ab \/ k = wb \/ k = g) w6 := (HR5.out.1.excl (fun k hk => by
    rcases hk with hk | hk | hk | hk
    ·exact .inl (.inl (.inl hk))
    ·exact .inl (.inl (.inr hk))
    ·exact .inr (by rw [hk]; omega)
    ·exact .inl (.inr (by rw [hk]; exact HR5.out.2.2.2.2.1)))).on bl
   have hM := hz6.member_next hT1 hW1 (by rw [hlen1]; decide) (by decide)
   rw [show ((9, ((38 : Nat) : Int) + 1, ⟨#[]⟩) : Vt) = fw from HFV.out.2.1, HFV.out.2.2] at hM
   have HMN : Veil (Calls Tryz.prog 21 #[.pointer (some ⟨m, 0, none⟩), valV fw, .string ⟨#[110, 101, 120, 116]⟩] w6 fun e w' => e = .returned (.tuple #[valV fn, .int .i64 0]) /\ Below w6.heap.size w6 w') := ⟨hM⟩
   have HR6 := Veil.mk (And.intro hz6 (And.intro (HR5.out.2.1.below bl) (And.intro (HR5.out.2.2.1.below bl) (And.intro (own_below HR5.out.2.2.2.1 bl) bx))))
   have HD6 := Veil.mk (And.intro HR5.out.2.2.2.2.1 (And.intro HR5.out.2.2.2.2.2 (And.intro hT1 (And.intro hW1 hlen1))))
   have HN6 : Veil (g < wb /\ ab < wb) := ⟨by have h1 := HR5.out.2.1.lt; have h2 := HR5.out.2.2.1.lt; omega⟩
   have c0 : w6.cell? ⟨wb, 0, none⟩ = some (.int .i64 fw.1) := bx.at_ 0
   have c1 : w6.cell? ⟨wb, 1, none⟩ = some (.int .i64 fw.2.1) := bx.at_ 1
   have c2 : w6.cell? ⟨wb, 2, none⟩ = some (.string fw.2.2) := bx.at_ 2
   clear hwb hw6 bx bl hW1 hT1 hlen1 hM HR5 HL3 hz6
   go_upto_region 14 with (go_at_call 21; ((with_reducible refine HMN.out.mono ?_); rintro e w7 ⟨rfl, hb7⟩; have HB7 := Veil.mk hb7; clear hb7))
   clear c0 c1 c2 HMN
   obtain ⟨nb, hnb⟩ : ∃ nb, w7.heap.size = nb := ⟨_, rfl⟩
   obtain ⟨w8, hw8⟩ : ∃ w8, w7.alloc (.cells #[.int .i64 fn.1, .int .i64 fn.2.1, .string fn.2.2] 28) = w8 := ⟨_, rfl⟩
   have bx := Box.new w7 28 #[.int .i64 fn.1, .int .i64 fn.2.1, .string fn.2.2]
   have bl : Below w7.heap.size w7 (w7.alloc (.cells #[.int .i64 fn.1, .int .i64 fn.2.1, .string fn.2.2] 28)) := (Below.refl _ _).alloc (Nat.le_refl _) _
   rw [hw8] at bx bl ⊢
   rw [hnb] at bx ⊢
   have hb8 := blw2 HB7.out bl
   have HNS : Veil (NS w1 h A m b n rv fa fw fn ab wb nb o g Bo false 39 1 (fun _ => False) w8) := ⟨by
    refine ⟨⟨_, HD6.out.2.2.2.2, HD6.out.2.2.1, HD6.out.2.2.2.1, ((HR6.out.1.on HB7.out).excl (E' := fun k => False \/ rv.ownBlock = some k \/ k = ab \/ k = wb \/ k = nb \/ k = g) (fun k hk => ?_)).on bl⟩, own_below HR6.out.2.2.2.1 hb8, HR6.out.2.2.1.below hb8, HR6.out.2.2.2.2.below hb8, bx, HR6.out.2.1.below hb8, fun h => h⟩
    rcases hk with hk | hk | hk | hk | hk | hk
    ·exact hk.elim
    ·exact .inl (.inl hk)
    ·exact .inl (.inr (.inl hk))
    ·exact .inl (.inr (.inr (.inl hk)))
    ·exact .inr (by rw [hk]; omega)
    ·exact .inl (.inr (.inr (.inr hk)))⟩
   have HNE : Veil (¬ (rv.ownBlock = some g \/ g = ab \/ g = wb) /\ g < nb /\ wb < nb) := ⟨by
    refine ⟨fun h9 => ?_, ?_, ?_⟩
    ·rcases h9 with h9 | h9 | h9
     ·exact (HD6.out.2.1 g HD6.out.1).1 (.inl h9)
     ·exact (HD6.out.2.1 g HD6.out.1).1 (.inr h9)
     ·have := HN6.out.1
      omega
    ·have h1 := HR6.out.2.1.lt
     have h2 := HB7.out.size
     omega
    ·have h1 := HR6.out.2.2.2.2.lt
     have h2 := HB7.out.size
     omega⟩
   clear hnb hw8 bx bl hb8 HR6 HD6 HN6 HB7
   obtain ⟨WD, hWD⟩ : ∃ WD, w8.drew = WD := ⟨_, rfl⟩
   have hdr : Below w8.heap.size w8 WD := by rw [<- hWD]; exact (Below.refl _ _).drew
   have HND := Veil.mk (HNS.out.on hdr)
   have HWD := Veil.mk hWD
   clear hdr hWD HNS
   have HOF : Veil (∀ w9, Below WD.heap.size WD w9 -> Calls Tryz.prog 14 #[.pointer (some ⟨h, 0, none⟩), valV fa] w9 fun e w' => e = .returned (.pointer (some ⟨b, 0, none⟩)) /\ Below w9.heap.size w9 w') := ⟨fun w9 hb => by rw [<- HFV.out.1]; exact (HND.out.on hb).of_a⟩
   have HFR : Veil (∀ w9, Below WD.heap.size WD w9 -> Calls Tryz.prog 29 #[.pointer (some ⟨b, 0, none⟩)] w9 fun e w' => e = .returned (.tuple #[]) /\ NS w1 h A m b n rv fa fw fn ab wb nb o g Bo true 39 1 (fun _ => False) w') := ⟨fun w9 hb => ((HND.out.on hb).freeze).mono fun e w' ⟨he, h1, _⟩ => ⟨he, h1⟩⟩
   refine wp_region_chain [qp m 0, qp m 0, qp m 0, qp h 0, qv fa, qp b 0, none] (LPh [5, 6] (SqSt WD [Below WD.heap.size WD, (fun w => NS w1 h A m b n rv fa fw fn ab wb nb o g Bo true 39 1 (fun _ => False) w)])) [some 58, some 59, some 60, some 61, some 62, some 63, some 64] (curV' _ [some 58, some 59, some 60, some 61, some 62, some 63, some 64]) (by kernel_rfl) rfl rfl (puts_cur _ _) (LPh.start (show w8.drew = WD from HWD.out)) ?_ (by kernel_rfl) ?_
   ·refine SY (fun _ S => ?_) ?_
    ·obtain ⟨⟩ := n7 S.hu
     rw [pin S.ha]
     go_simp
     exact S.kL 0
    refine SY (fun _ S => ?_) ?_
    ·obtain ⟨⟩ := n7 S.hu
     obtain rfl := S.q 0
     rw [pin S.ha]
     go_simp
     exact S.kL 1
    refine SY (fun _ S => ?_) ?_
    ·obtain ⟨⟩ := n7 S.hu
     obtain rfl := S.q 1
     rw [pin S.ha]
     go_simp
     exact S.kL 2
    refine SY (fun w' S => ?_) ?_
    ·obtain ⟨⟩ := n7 S.hu
     obtain rfl := S.q 2
     have gb := (S.hI.bwd [3] 5 3 (by kernel_rfl) rfl S.h0)
     have hst := S.hI.ph.btw1 0 (.inl rfl) (.inr ⟨5, rfl, gb⟩)
     have hst' : WD = w' := (show w' = WD from hst).symm
     clear hst
     subst hst'
     have c0 : WD.cell? ⟨m, 0, none⟩ = some (.pointer (some ⟨h, 0, none⟩)) := HND.out.at0
     clear gb
     rw [pin S.ha]
     go_simp
     exact S.kL 3
    refine SY (fun w' S => ?_) ?_
    ·obtain ⟨⟩ := n7 S.hu
     have gb := (S.hI.bwd [4] 5 4 (by kernel_rfl) rfl S.h0)
     have hst := S.hI.ph.btw1 0 (.inl rfl) (.inr ⟨5, rfl, gb⟩)
     have hst' : WD = w' := (show w' = WD from hst).symm
     clear hst
     subst hst'
     have c0 : WD.cell? ⟨ab, 0, none⟩ = some (.int .i64 fa.1) := HND.out.ba.at_ 0
     have c1 : WD.cell? ⟨ab, 1, none⟩ = some (.int .i64 fa.2.1) := HND.out.ba.at_ 1
     have c2 : WD.cell? ⟨ab, 2, none⟩ = some (.string fa.2.2) := HND.out.ba.at_ 2
     clear gb
     rw [pin S.ha]
     go_simp
     exact S.kL 4
    refine SY (fun w' S => ?_) ?_
    ·obtain ⟨⟩ := n7 S.hu
     obtain rfl := S.q 3
     obtain rfl := S.q 4
     have gb := S.h0
     have hst := S.hI.ph.btw1 0 (.inl rfl) (.inr ⟨5, rfl, gb⟩)
     have hst' : WD = w' := (show w' = WD from hst).symm
     clear hst
     subst hst'
     clear gb
     rw [pin S.ha]
     go_simp
     go_at_call 14
     refine (HOF.out WD (Below.refl _ _)).mono ?_
     rintro e9 w9 ⟨rfl, hm9⟩
     go_simp
     exact S.kS 5 _ (S.hI.ph.next 0 5 _ rfl S.h0 (.inl rfl) (by decide) (hm9))
    refine SY (fun w' S => ?_) ?_
    ·obtain ⟨⟩ := n7 S.hu
     obtain rfl := S.q 5
     have ga := (gen_after 5 (by kernel_rfl) S.hp)
     have gb := S.h0
     have hst := S.hI.ph.btw1 1 (.inr ⟨5, rfl, ga⟩) (.inr ⟨6, rfl, gb⟩)
     have HST := Veil.mk (show Below WD.heap.size WD w' from hst)
     clear hst
     have HGA := Veil.mk ga
     clear ga gb
     rw [pin S.ha]
     go_simp
     go_at_call 29
     refine (HFR.out w' HST.out).mono ?_
     rintro e9 w9 ⟨rfl, hm9⟩
     go_simp
     exact S.kN 6 (.tuple #[]) (S.hI.ph.next 1 6 _ rfl S.h0 (.inr ⟨5, rfl, HGA.out⟩) (by decide) (hm9))
    exact Steps.nil
   ·intro us wE hus dd hD2 hJ
    obtain ⟨p0, p1, p2, p3, p4, p5, p6⟩ := n7 hus
    have q1 := hJ.ph.all (fun c hc => hD2 c (by
     have : c = 5 \/ c = 6 := by simpa using hc
     show c < 7
     omega))
    obtain rfl := hJ.vq 0 hD2
    obtain rfl := hJ.vq 1 hD2
    obtain rfl := hJ.vq 2 hD2
    obtain rfl := hJ.vq 3 hD2
    obtain rfl := hJ.vq 4 hD2
    obtain rfl := hJ.vq 5 hD2
    clear hJ hD2
    have HNS := Veil.mk (show NS w1 h A m b n rv fa fw fn ab wb nb o g Bo true 39 1 (fun _ => False) wE from q1)
    clear q1 HOF HFR HWD HND
    simp only [puts, setAll, List.setIfInBounds_toArray, List.set_cons_zero, List.set_cons_succ]
    go_upto_region 15 with (fail)
    obtain ⟨WD, hWD⟩ : ∃ WD, wE.drew = WD := ⟨_, rfl⟩
    have hdr : Below wE.heap.size wE WD := by rw [<- hWD]; exact (Below.refl _ _).drew
    have HND := Veil.mk (HNS.out.on hdr)
    have HWD := Veil.mk hWD
    clear hdr hWD HNS
    have HP9 : Veil (PG WD.heap.size (NS w1 h A m b n rv fa fw fn ab wb nb o g Bo true 40 (1 + 2))) := ⟨NS.pg _ HND.out.bel.size (fun k hk => HND.out.lt hk)⟩
    have HC9 : Veil (∀ w9 gr, Below WD.heap.size WD w9 -> WD.heap.size <= gr -> Box w9 gr VTy #[.int .i64 3, .int .i64 1, .string ⟨#[]⟩] -> Calls Tryz.prog 20 #[.pointer (some ⟨m, 0, none⟩), valV fa, .string ⟨#[112, 117, 115, 104]⟩, .slice (some ⟨gr, 0, none⟩) 1 1] w9 fun e w8 => e = .returned (.tuple #[valV (9, 40, ⟨#[]⟩), .int .i64 1]) /\ NS w1 h A m b n rv fa fw fn ab wb nb o g Bo true 40 (1 + 2) (fun k => WD.heap.size <= k /\ k < w9.heap.size) w8 /\ (∀ g cs, WD.heap.size <= g -> Box w9 g VTy cs -> Box w8 g VTy cs) /\ w9.heap.size <= w8.heap.size) := ⟨fun w9 gr hb hgr hbx => by
     have hn9 := ((HND.out.excl (E' := (fun k => WD.heap.size <= k /\ k < w9.heap.size)) (fun k hk => .inr hk.1)).on hb)
     have key := hn9.ask_push (fun k hk => hk.2) (by decide) (by decide) (by decide) (by omega) (.slice (some ⟨gr, 0, none⟩) 1 1) (3, 1, ⟨#[]⟩) (RowV.box ([(3, 1, ⟨#[]⟩)] : List Vt) 1 rfl hbx) (fun k hk => by
      have hk : some gr = some k := hk
      injection hk with hk
      subst hk
      exact ⟨hgr, hbx.lt⟩)
     rw [HFV.out.1] at key
     exact Calls.mono key (fun e w8 ⟨he, h1, h2, h3⟩ => ⟨he, h1, fun g9 cs hg hx => h2 g9 VTy cs (by decide) ⟨hg, hx.lt⟩ hx, h3⟩)⟩
    refine wp_region_chain [qp m 0, qv fa, qv (3, 1, ⟨#[]⟩), none, qq (.tuple #[valV (9, 40, ⟨#[]⟩), .int .i64 1]), qq (.tuple #[valV (9, 40, ⟨#[]⟩), .int .i64 1]), qv (9, 40, ⟨#[]⟩), qi 1, none, none, qi 1] (BR WD (NS w1 h A m b n rv fa fw fn ab wb nb o g Bo true 40 (1 + 2)) (9, 40, ⟨#[]⟩) #[.int .i64 3, .int .i64 1, .string ⟨#[]⟩] 3 4 8 9) [some 66, some 67, some 68, some 69, some 70, some 65, some 71, some 72, some 11, none, some 12] (curV' _ [some 66, some 67, some 68, some 69, some 70, some 65, some 71, some 72, some 11, none, some 12]) (by kernel_rfl) rfl rfl (puts_cur _ _) (by rw [HWD.out]; exact BR.start) ?_ (by kernel_rfl) ?_
    ·refine SY (fun _ S => ?_) ?_
     ·obtain ⟨⟩ := n11 S.hu
      rw [pin S.ha]
      go_simp
      exact S.kS 0 _ (S.hI.ph.pure 0 _ (by decide))
     refine SY (fun w' S => ?_) ?_
     ·obtain ⟨⟩ := n11 S.hu
      have hz := (S.hI.bwd [1] 4 1 (by kernel_rfl) rfl S.h0)
      have hbl := S.hI.ph.g.s0 hz
      have hq9 := HND.out.ba.below hbl
      have c0 : w'.cell? ⟨ab, 0, none⟩ = some (.int .i64 fa.1) := hq9.at_ 0
      have c1 : w'.cell? ⟨ab, 1, none⟩ = some (.int .i64 fa.2.1) := hq9.at_ 1
      have c2 : w'.cell? ⟨ab, 2, none⟩ = some (.string fa.2.2) := hq9.at_ 2
      clear hq9 hbl hz
      rw [pin S.ha]
      go_simp
      exact S.kS 1 _ (S.hI.ph.pure 1 _ (by decide))
     refine SY (fun _ S => ?_) ?_
     ·obtain ⟨⟩ := n11 S.hu
      rw [pin S.ha]
      go_simp
      go_at_call 19
      refine (num_any _ _).mono ?_
      rintro e9 w9 ⟨rfl, hm9⟩
      go_simp
      exact S.kS 2 _ (S.hI.ph.quiet HP9.out 2 _ (by decide) hm9)
     refine SY (fun _ S => ?_) ?_
     ·obtain ⟨⟩ := n11 S.hu
      obtain rfl := S.q 2
      rw [pin S.ha]
      go_simp
      exact S.kN 3 _ (S.hI.ph.row HP9.out (by decide))
     refine SY (fun w' S => ?_) ?_
     ·obtain ⟨_, _, _, u3⟩ := n11 S.hu
      obtain rfl := S.q 0
      obtain rfl := S.q 1
      have h18 := (S.hI.bwd [4] 9 4 (by kernel_rfl) rfl S.h0)
      have hbl := S.hI.ph.g.s0 S.h0
      have h3 := gen_after 3 (by kernel_rfl) S.hp
      obtain ⟨g9, hg9, hlo9, hbx9⟩ := S.hI.ph.r h3 S.h0
      replace hg9 : u3 = .slice (some ⟨g9, 0, none⟩) 1 1 := hg9
      subst hg9
      have HX9 := Veil.mk (HC9.out w' g9 hbl hlo9 hbx9)
      clear hbl hbx9 hlo9
      rw [pin S.ha]
      go_simp
      go_at_call 20
      refine HX9.out.mono ?_
      rintro e9 w9 ⟨rfl, hq9, hk9, hs9⟩
      go_simp
      exact S.kS 4 _ (S.hI.ph.call HP9.out (by decide) (by decide) h18 hq9 hk9 hs9 _)
     refine SY (fun _ S => ?_) ?_
     ·obtain ⟨⟩ := n11 S.hu
      obtain rfl := S.q 4
      rw [pin S.ha]
      go_simp
      exact S.kS 5 _ (S.hI.ph.pure 5 _ (by decide))
     refine SY (fun _ S => ?_) ?_
     ·obtain ⟨⟩ := n11 S.hu
      obtain rfl := S.q 5
      rw [pin S.ha]
      go_simp
      exact S.kS 6 _ (S.hI.ph.pure 6 _ (by decide))
     refine SY (fun _ S => ?_) ?_
     ·obtain ⟨⟩ := n11 S.hu
      obtain rfl := S.q 5
      rw [pin S.ha]
      go_simp
      exact S.kS 7 _ (S.hI.ph.pure 7 _ (by decide))
     refine SY (fun _ S => ?_) ?_
     ·obtain ⟨⟩ := n11 S.hu
      have h18 := (S.hI.bwd [8] 9 8 (by kernel_rfl) rfl S.h0)
      rw [pin S.ha]
      go_simp
      exact S.kN 8 _ (S.hI.ph.mk_ HP9.out (by decide) (by decide) (by decide) h18)
     refine SY (fun w' S => ?_) ?_
     ·obtain ⟨_, _, _, _, _, _, _, _, u8⟩ := n11 S.hu
      obtain rfl := S.q 6
      have h13 := (gen_after 4 (by kernel_rfl) S.hp)
      have h17 := gen_after 8 (by kernel_rfl) S.hp
      obtain ⟨g0, hg, hlo, hz9, -⟩ := S.hI.ph.g.b h17
      replace hg : u8 = .pointer (some ⟨g0, 0, none⟩) := hg
      subst hg
      have hzb := hz9 S.h0
      have z0 : w'.cell? ⟨g0, 0, none⟩ = some (.int .i64 0) := hzb.at_ 0
      have z1 : w'.cell? ⟨g0, 1, none⟩ = some (.int .i64 0) := hzb.at_ 1
      have z2 : w'.cell? ⟨g0, 2, none⟩ = some (.string ⟨#[]⟩) := hzb.at_ 2
      have q0 := hzb.free 0
      have q1 := hzb.free 1
      have q2 := hzb.free 2
      clear hzb hz9
      rw [pin S.ha]
      go_simp
      exact S.kN 9 undef (S.hI.ph.sto HP9.out (by decide) (by decide) h13 h17 S.h0 rfl _)
     refine SY (fun _ S => ?_) ?_
     ·obtain ⟨⟩ := n11 S.hu
      obtain rfl := S.q 7
      rw [pin S.ha]
      go_simp
      exact S.kS 10 _ (S.hI.ph.pure 10 _ (by decide))
     exact Steps.nil
    ·intro us wE hus dd hD2 hJ
     obtain ⟨p0, p1, p2, p3, p4, p5, p6, p7, p8, p9, p10, rfl⟩ := lenA11 hus
     have hph := hJ.ph
     obtain rfl := hJ.vq 0 hD2
     obtain rfl := hJ.vq 1 hD2
     obtain rfl := hJ.vq 2 hD2
     obtain rfl := hJ.vq 4 hD2
     obtain rfl := hJ.vq 5 hD2
     obtain rfl := hJ.vq 6 hD2
     obtain rfl := hJ.vq 7 hD2
     obtain rfl := hJ.vq 10 hD2
     clear hJ
     obtain ⟨gv, hgv, hgl, -, hgb⟩ := hph.g.b (hD2 8 (by show 8 < 11; decide))
     replace hgv : p8 = .pointer (some ⟨gv, 0, none⟩) := hgv
     subst hgv
     have hdo := hph.g.s1 (hD2 4 (by show 4 < 11; decide))
     have HNS := Veil.mk (HP9.out.excl _ (fun _ => False) _ hdo (fun k hk => hk.elim))
     clear hph hD2 hdo hgb hgl HP9 HC9 HWD HND
     simp only [puts, setAll, List.setIfInBounds_toArray, List.set_cons_zero, List.set_cons_succ]
     have a0 : wE.cell? ⟨ab, 0, none⟩ = some (.int .i64 fa.1) := HNS.out.ba.at_ 0
     have a1 : wE.cell? ⟨ab, 1, none⟩ = some (.int .i64 fa.2.1) := HNS.out.ba.at_ 1
     have a2 : wE.cell? ⟨ab, 2, none⟩ = some (.string fa.2.2) := HNS.out.ba.at_ 2
     have hk9 := HNS.out.ask_pop (fun k hk => hk.elim) (by decide) (by decide) (by decide)
     rw [HFV.out.1] at hk9
     have HK : Veil (Calls Tryz.prog 20 #[.pointer (some ⟨m, 0, none⟩), valV fa, .string ⟨#[112, 111, 112]⟩, .slice none 0 0] wE fun e w' => e = .returned (.tuple #[valV (9, 41, ⟨#[]⟩), .int .i64 1]) /\ NS w1 h A m b n rv fa fw fn ab wb nb o g Bo true 41 (1 + 2 + 1) (fun _ => False) w') := ⟨Calls.mono hk9 fun e w' ⟨he, h1, _, _⟩ => ⟨he, h1⟩⟩
     clear hk9 HNS
     go_upto_region 17 with (go_at_call 20; ((with_reducible refine HK.out.mono ?_); rintro e w9 ⟨rfl, hn9⟩; have HN9 := Veil.mk hn9; clear hn9))
     clear HK a0 a1 a2
     obtain ⟨wA, hwA⟩ : ∃ wA, w9.alloc (.cells #[.int .i64 9, .int .i64 41, .string ⟨#[]⟩] 28) = wA := ⟨_, rfl⟩
     have bl : Below w9.heap.size w9 (w9.alloc (.cells #[.int .i64 9, .int .i64 41, .string ⟨#[]⟩] 28)) := (Below.refl _ _).alloc (Nat.le_refl _) _
     rw [hwA] at bl ⊢
     have HNS := Veil.mk (HN9.out.on bl)
     clear bl hwA HN9
     have a0 : wA.cell? ⟨ab, 0, none⟩ = some (.int .i64 fa.1) := HNS.out.ba.at_ 0
     have a1 : wA.cell? ⟨ab, 1, none⟩ = some (.int .i64 fa.2.1) := HNS.out.ba.at_ 1
     have a2 : wA.cell? ⟨ab, 2, none⟩ = some (.string fa.2.2) := HNS.out.ba.at_ 2
     have n0 : wA.cell? ⟨nb, 0, none⟩ = some (.int .i64 fn.1) := HNS.out.bn.at_ 0
     have n1 : wA.cell? ⟨nb, 1, none⟩ = some (.int .i64 fn.2.1) := HNS.out.bn.at_ 1
     have n2 : wA.cell? ⟨nb, 2, none⟩ = some (.string fn.2.2) := HNS.out.bn.at_ 2
     have hk9 := HNS.out.call_a (fun k hk => hk.elim) (by decide) (by decide) (by decide)
     rw [HFV.out.2.2, HFV.out.1] at hk9
     have HK : Veil (Calls Tryz.prog 28 #[.pointer (some ⟨m, 0, none⟩), valV fn, valV fa, .slice none 0 0] wA fun e w' => e = .returned (.tuple #[valV (9, 42, ⟨#[]⟩), .int .i64 1]) /\ NS w1 h A m b n rv fa fw fn ab wb nb o g Bo true 42 (1 + 2 + 1 + 1) (fun _ => False) w') := ⟨Calls.mono hk9 fun e w' ⟨he, h1, _, _⟩ => ⟨he, h1⟩⟩
     clear hk9 HNS
     go_upto_region 18 with (go_at_call 28; ((with_reducible refine HK.out.mono ?_); rintro e w9 ⟨rfl, hn9⟩; have HN9 := Veil.mk hn9; clear hn9))
     clear HK a0 a1 a2 n0 n1 n2
     obtain ⟨wA, hwA⟩ : ∃ wA, w9.alloc (.cells #[.int .i64 9, .int .i64 42, .string ⟨#[]⟩] 28) = wA := ⟨_, rfl⟩
     have bl : Below w9.heap.size w9 (w9.alloc (.cells #[.int .i64 9, .int .i64 42, .string ⟨#[]⟩] 28)) := (Below.refl _ _).alloc (Nat.le_refl _) _
     rw [hwA] at bl ⊢
     have HNS := Veil.mk (HN9.out.on bl)
     clear bl hwA HN9
     have n0 : wA.cell? ⟨nb, 0, none⟩ = some (.int .i64 fn.1) := HNS.out.bn.at_ 0
     have n1 : wA.cell? ⟨nb, 1, none⟩ = some (.int .i64 fn.2.1) := HNS.out.bn.at_ 1
     have n2 : wA.cell? ⟨nb, 2, none⟩ = some (.string fn.2.2) := HNS.out.bn.at_ 2
     have hk9 := HNS.out.call_u (fun k hk => hk.elim) (by decide) (by decide) (by decide)
     rw [HFV.out.2.2] at hk9
     have HK : Veil (Calls Tryz.prog 28 #[.pointer (some ⟨m, 0, none⟩), valV fn, valV zV, .slice none 0 0] wA fun e w' => e = .returned (.tuple #[valV (9, 43, ⟨#[]⟩), .int .i64 1]) /\ NS w1 h A m b n rv fa fw fn ab wb nb o g Bo true 43 (1 + 2 + 1 + 1 + 1) (fun _ => False) w') := ⟨Calls.mono hk9 fun e w' ⟨he, h1, _, _⟩ => ⟨he, h1⟩⟩
     clear hk9 HNS
     go_upto_region 19 with (go_at_call 28; ((with_reducible refine HK.out.mono ?_); rintro e w9 ⟨rfl, hn9⟩; have HN9 := Veil.mk hn9; clear hn9))
     clear HK n0 n1 n2
     obtain ⟨wA, hwA⟩ : ∃ wA, w9.alloc (.cells #[.int .i64 9, .int .i64 43, .string ⟨#[]⟩] 28) = wA := ⟨_, rfl⟩
     have bl : Below w9.heap.size w9 (w9.alloc (.cells #[.int .i64 9, .int .i64 43, .string ⟨#[]⟩] 28)) := (Below.refl _ _).alloc (Nat.le_refl _) _
     rw [hwA] at bl ⊢
     have HNS := Veil.mk (HN9.out.on bl)
     clear bl hwA HN9
     obtain ⟨WD, hWD⟩ : ∃ WD, wA.drew = WD := ⟨_, rfl⟩
     have hdr : Below wA.heap.size wA WD := by rw [<- hWD]; exact (Below.refl _ _).drew
     have HND := Veil.mk (HNS.out.on hdr)
     have HWD := Veil.mk hWD
     clear hdr hWD HNS
     have HP9 : Veil (PG WD.heap.size (NS w1 h A m b n rv fa fw fn ab wb nb o g Bo true 44 (1 + 2 + 1 + 1 + 1 + 1))) := ⟨NS.pg _ HND.out.bel.size (fun k hk => HND.out.lt hk)⟩
     have HC9 : Veil (∀ w9 gr, Below WD.heap.size WD w9 -> WD.heap.size <= gr -> Box w9 gr VTy #[.int .i64 3, .int .i64 1, .string ⟨#[]⟩] -> Calls Tryz.prog 20 #[.pointer (some ⟨m, 0, none⟩), valV fa, .string ⟨#[102, 111, 114, 69, 97, 99, 104]⟩, .slice (some ⟨gr, 0, none⟩) 1 1] w9 fun e w8 => e = .returned (.tuple #[valV (9, 44, ⟨#[]⟩), .int .i64 1]) /\ NS w1 h A m b n rv fa fw fn ab wb nb o g Bo true 44 (1 + 2 + 1 + 1 + 1 + 1) (fun k => WD.heap.size <= k /\ k < w9.heap.size) w8 /\ (∀ g cs, WD.heap.size <= g -> Box w9 g VTy cs -> Box w8 g VTy cs) /\ w9.heap.size <= w8.heap.size) := ⟨fun w9 gr hb hgr hbx => by
      have hn9 := ((HND.out.excl (E' := (fun k => WD.heap.size <= k /\ k < w9.heap.size)) (fun k hk => .inr hk.1)).on hb)
      have key := hn9.ask_each (fun k hk => hk.2) (by decide) (by decide) (by decide) (.slice (some ⟨gr, 0, none⟩) 1 1) (3, 1, ⟨#[]⟩) (RowV.box ([(3, 1, ⟨#[]⟩)] : List Vt) 1 rfl hbx) (fun k hk => by
       have hk : some gr = some k := hk
       injection hk with hk
       subst hk
       exact ⟨hgr, hbx.lt⟩) (by decide)
      rw [HFV.out.1] at key
      exact Calls.mono key (fun e w8 ⟨he, h1, h2, h3⟩ => ⟨he, h1, fun g9 cs hg hx => h2 g9 VTy cs (by decide) ⟨hg, hx.lt⟩ hx, h3⟩)⟩
     refine wp_region_chain [qp m 0, qv fa, qv (3, 1, ⟨#[]⟩), none, qq (.tuple #[valV (9, 44, ⟨#[]⟩), .int .i64 1]), qq (.tuple #[valV (9, 44, ⟨#[]⟩), .int .i64 1]), qv (9, 44, ⟨#[]⟩), qi 1, none, none, qi 1] (BR WD (NS w1 h A m b n rv fa fw fn ab wb nb o g Bo true 44 (1 + 2 + 1 + 1 + 1 + 1)) (9, 44, ⟨#[]⟩) #[.int .i64 3, .int .i64 1, .string ⟨#[]⟩] 3 4 8 9) [some 94, some 95, some 96, some 97, some 98, some 93, some 99, some 100, some 19, none, some 20] (curV' _ [some 94, some 95, some 96, some 97, some 98, some 93, some 99, some 100, some 19, none, some 20]) (by kernel_rfl) rfl rfl (puts_cur _ _) (by rw [HWD.out]; exact BR.start) ?_ (by kernel_rfl) ?_
     ·refine SY (fun _ S => ?_) ?_
      ·obtain ⟨⟩ := n11 S.hu
       rw [pin S.ha]
       go_simp
       exact S.kS 0 _ (S.hI.ph.pure 0 _ (by decide))
      refine SY (fun w' S => ?_) ?_
      ·obtain ⟨⟩ := n11 S.hu
       have hz := (S.hI.bwd [1] 4 1 (by kernel_rfl) rfl S.h0)
       have hbl := S.hI.ph.g.s0 hz
       have hq9 := HND.out.ba.below hbl
       have c0 : w'.cell? ⟨ab, 0, none⟩ = some (.int .i64 fa.1) := hq9.at_ 0
       have c1 : w'.cell? ⟨ab, 1, none⟩ = some (.int .i64 fa.2.1) := hq9.at_ 1
       have c2 : w'.cell? ⟨ab, 2, none⟩ = some (.string fa.2.2) := hq9.at_ 2
       clear hq9 hbl hz
       rw [pin S.ha]
       go_simp
       exact S.kS 1 _ (S.hI.ph.pure 1 _ (by decide))
      refine SY (fun _ S => ?_) ?_
      ·obtain ⟨⟩ := n11 S.hu
       rw [pin S.ha]
       go_simp
       go_at_call 19
       refine (num_any _ _).mono ?_
       rintro e9 w9 ⟨rfl, hm9⟩
       go_simp
       exact S.kS 2 _ (S.hI.ph.quiet HP9.out 2 _ (by decide) hm9)
      refine SY (fun _ S => ?_) ?_
      ·obtain ⟨⟩ := n11 S.hu
       obtain rfl := S.q 2
       rw [pin S.ha]
       go_simp
       exact S.kN 3 _ (S.hI.ph.row HP9.out (by decide))
      refine SY (fun w' S => ?_) ?_
      ·obtain ⟨_, _, _, u3⟩ := n11 S.hu
       obtain rfl := S.q 0
       obtain rfl := S.q 1
       have h18 := (S.hI.bwd [4] 9 4 (by kernel_rfl) rfl S.h0)
       have hbl := S.hI.ph.g.s0 S.h0
       have h3 := gen_after 3 (by kernel_rfl) S.hp
       obtain ⟨g9, hg9, hlo9, hbx9⟩ := S.hI.ph.r h3 S.h0
       replace hg9 : u3 = .slice (some ⟨g9, 0, none⟩) 1 1 := hg9
       subst hg9
       have HX9 := Veil.mk (HC9.out w' g9 hbl hlo9 hbx9)
       clear hbl hbx9 hlo9
       rw [pin S.ha]
       go_simp
       go_at_call 20
       refine HX9.out.mono ?_
       rintro e9 w9 ⟨rfl, hq9, hk9, hs9⟩
       go_simp
       exact S.kS 4 _ (S.hI.ph.call HP9.out (by decide) (by decide) h18 hq9 hk9 hs9 _)
      refine SY (fun _ S => ?_) ?_
      ·obtain ⟨⟩ := n11 S.hu
       obtain rfl := S.q 4
       rw [pin S.ha]
       go_simp
       exact S.kS 5 _ (S.hI.ph.pure 5 _ (by decide))
      refine SY (fun _ S => ?_) ?_
      ·obtain ⟨⟩ := n11 S.hu
       obtain rfl := S.q 5
       rw [pin S.ha]
       go_simp
       exact S.kS 6 _ (S.hI.ph.pure 6 _ (by decide))
      refine SY (fun _ S => ?_) ?_
      ·obtain ⟨⟩ := n11 S.hu
       obtain rfl := S.q 5
       rw [pin S.ha]
       go_simp
       exact S.kS 7 _ (S.hI.ph.pure 7 _ (by decide))
      refine SY (fun _ S => ?_) ?_
      ·obtain ⟨⟩ := n11 S.hu
       have h18 := (S.hI.bwd [8] 9 8 (by kernel_rfl) rfl S.h0)
       rw [pin S.ha]
       go_simp
       exact S.kN 8 _ (S.hI.ph.mk_ HP9.out (by decide) (by decide) (by decide) h18)
      refine SY (fun w' S => ?_) ?_
      ·obtain ⟨_, _, _, _, _, _, _, _, u8⟩ := n11 S.hu
       obtain rfl := S.q 6
       have h13 := (gen_after 4 (by kernel_rfl) S.hp)
       have h17 := gen_after 8 (by kernel_rfl) S.hp
       obtain ⟨g0, hg, hlo, hz9, -⟩ := S.hI.ph.g.b h17
       replace hg : u8 = .pointer (some ⟨g0, 0, none⟩) := hg
       subst hg
       have hzb := hz9 S.h0
       have z0 : w'.cell? ⟨g0, 0, none⟩ = some (.int .i64 0) := hzb.at_ 0
       have z1 : w'.cell? ⟨g0, 1, none⟩ = some (.int .i64 0) := hzb.at_ 1
       have z2 : w'.cell? ⟨g0, 2, none⟩ = some (.string ⟨#[]⟩) := hzb.at_ 2
       have q0 := hzb.free 0
       have q1 := hzb.free 1
       have q2 := hzb.free 2
       clear hzb hz9
       rw [pin S.ha]
       go_simp
       exact S.kN 9 undef (S.hI.ph.sto HP9.out (by decide) (by decide) h13 h17 S.h0 rfl _)
      refine SY (fun _ S => ?_) ?_
      ·obtain ⟨⟩ := n11 S.hu
       obtain rfl := S.q 7
       rw [pin S.ha]
       go_simp
       exact S.kS 10 _ (S.hI.ph.pure 10 _ (by decide))
      exact Steps.nil
     ·intro us wE hus dd hD2 hJ
      obtain ⟨p0, p1, p2, p3, p4, p5, p6, p7, p8, p9, p10, rfl⟩ := lenA11 hus
      have hph := hJ.ph
      obtain rfl := hJ.vq 0 hD2
      obtain rfl := hJ.vq 1 hD2
      obtain rfl := hJ.vq 2 hD2
      obtain rfl := hJ.vq 4 hD2
      obtain rfl := hJ.vq 5 hD2
      obtain rfl := hJ.vq 6 hD2
      obtain rfl := hJ.vq 7 hD2
      obtain rfl := hJ.vq 10 hD2
      clear hJ
      obtain ⟨gv, hgv, hgl, -, hgb⟩ := hph.g.b (hD2 8 (by show 8 < 11; decide))
      replace hgv : p8 = .pointer (some ⟨gv, 0, none⟩) := hgv
      subst hgv
      have hdo := hph.g.s1 (hD2 4 (by show 4 < 11; decide))
      have HNS := Veil.mk (HP9.out.excl _ (fun _ => False) _ hdo (fun k hk => hk.elim))
      clear hph hD2 hdo hgb hgl HP9 HC9 HWD HND
      simp only [puts, setAll, List.setIfInBounds_toArray, List.set_cons_zero, List.set_cons_succ]
      have a0 : wE.cell? ⟨ab, 0, none⟩ = some (.int .i64 fa.1) := HNS.out.ba.at_ 0
      have a1 : wE.cell? ⟨ab, 1, none⟩ = some (.int .i64 fa.2.1) := HNS.out.ba.at_ 1
      have a2 : wE.cell? ⟨ab, 2, none⟩ = some (.string fa.2.2) := HNS.out.ba.at_ 2
      have hk9 := HNS.out.ask_slice (fun k hk => hk.elim) (by decide) (by decide) (by decide) (by decide) (by omega) HNE.out.1
      rw [HFV.out.1] at hk9
      obtain ⟨fx, hfx⟩ : ∃ fx : Vt, ((9, 45, ⟨#[]⟩) : Vt) = fx := ⟨_, rfl⟩
      have HK : Veil (Calls Tryz.prog 20 #[.pointer (some ⟨m, 0, none⟩), valV fa, .string ⟨#[115, 108, 105, 99, 101]⟩, .slice none 0 0] wE fun e w' => e = .returned (.tuple #[valV fx, .int .i64 0]) /\ ∃ sb ev2 ts1, NT w1 h A m b n rv fa fw ab wb o g Bo 44 sb ev2 ts1 (1 + 2 + 1 + 1 + 1 + 1 + 1 + (n : Int)) (fun _ => False) w') := ⟨Calls.mono hk9 fun e w' ⟨he, h1, _, _⟩ => ⟨by rw [<- hfx]; exact he, h1⟩⟩
      have HFX := Veil.mk hfx
      clear hk9 HNS hfx
      go_upto_region 21 with (go_at_call 20; ((with_reducible refine HK.out.mono ?_); rintro e w9 ⟨rfl, sb, ev2, ts1, hnt⟩; have HNT := Veil.mk hnt; clear hnt))
      clear HK a0 a1 a2
      obtain ⟨xb, hxb⟩ : ∃ xb, w9.heap.size = xb := ⟨_, rfl⟩
      obtain ⟨wA, hwA⟩ : ∃ wA, w9.alloc (.cells #[.int .i64 fx.1, .int .i64 fx.2.1, .string fx.2.2] 28) = wA := ⟨_, rfl⟩
      have bx := Box.new w9 28 #[.int .i64 fx.1, .int .i64 fx.2.1, .string fx.2.2]
      have bl : Below w9.heap.size w9 (w9.alloc (.cells #[.int .i64 fx.1, .int .i64 fx.2.1, .string fx.2.2] 28)) := (Below.refl _ _).alloc (Nat.le_refl _) _
      rw [hwA] at bx bl ⊢
      rw [hxb] at bx ⊢
      have hz : FZ w1 h A m ts1 37 b true n kx (1 + 2 + 1 + 1 + 1 + 1 + 1 + (n : Int)) (fun k => (fun k => rv.ownBlock = some k \/ k = ab \/ k = xb \/ ev2.ownBlock = some k) k \/ k = g) wA := (HNT.out.fz.excl (fun k hk => by
       rcases hk with (hk | hk | hk | hk) | hk
       ·exact .inl (.inl (.inr (.inl hk)))
       ·exact .inl (.inl (.inr (.inr (.inl hk))))
       ·exact .inr (by rw [hk]; omega)
       ·exact .inl (.inl (.inr (.inr (.inr (.inr hk)))))
       ·exact .inl (.inr hk))).on bl
      have hgE : ¬ (fun k => rv.ownBlock = some k \/ k = ab \/ k = xb \/ ev2.ownBlock = some k) g := fun h9 => by
       rcases h9 with h9 | h9 | h9 | h9
       ·exact HNT.out.ge (.inr (.inl h9))
       ·exact HNT.out.ge (.inr (.inr (.inl h9)))
       ·have := HNT.out.bg.lt
        omega
       ·exact HNT.out.ge (.inr (.inr (.inr (.inr h9))))
      have hrowA := own_below HNT.out.row bl
      have helA : EL wA A ev2 (lsX kx n).length (lx (lsX kx n)) := HNT.out.el.2.on bl
      have hkp : (KP w1 h A m 37 b true n kx 38 o g ts1 (1 + 2 + 1 + 1 + 1 + 1 + 1 + (n : Int))) 0 (fun k => rv.ownBlock = some k \/ k = ab \/ k = xb \/ ev2.ownBlock = some k) wA := ⟨ts1, rfl, fun k _ _ => rfl, HNT.out.hT, hgE, by show FZ w1 h A m ts1 37 b true n kx (1 + 2 + 1 + 1 + 1 + 1 + 1 + (n : Int) + 0) _ wA; rw [Int.add_zero]; exact hz, HNT.out.bg.below bl, .inl ⟨Nat.zero_le _, HNT.out.hW⟩⟩
      have hE3 : ∀ k, (fun k => rv.ownBlock = some k \/ k = ab \/ k = xb \/ ev2.ownBlock = some k) k -> k < wA.heap.size := fun k hk => by
       rcases hk with hk | hk | hk | hk
       ·exact (own_lt hrowA k hk).2
       ·rw [hk]; exact (HNT.out.ba.below bl).lt
       ·rw [hk]; exact bx.lt
       ·exact (helA.own_lt k hk).2.1
      have hall := all_any (KP.walk (w := w1) (h := h) (A := A) (m := m) (b := b) (cz := true) (xs := kx) (o := o) (g := g) (ts0 := ts1) (st := 1 + 2 + 1 + 1 + 1 + 1 + 1 + (n : Int)) (iw := 38) (ia := 37) (by decide) (by decide) (by omega) (by omega) (by rw [HNT.out.hl]; decide) (by omega) (fun j hj => by show (3 : Int) ≠ 10; decide)) hkp (Nat.le_trans HNT.out.fz.bel.size bl.size) hE3 (by rw [lsX_len]; omega)
      rw [show ((9, ((38 : Nat) : Int) + 1, ⟨#[]⟩) : Vt) = fw from HFV.out.2.1, lsX_len] at hall
      have HAL := Veil.mk hall
      have HBA := Veil.mk (And.intro (HNT.out.ba.below bl) (And.intro bx (And.intro hrowA helA)))
      have HSL := Veil.mk (And.intro HNT.out.hs HNT.out.hl)
      have n0' := (HNT.out.bw.below bl)
      have b0 : wA.cell? ⟨wb, 0, none⟩ = some (.int .i64 fw.1) := n0'.at_ 0
      have b1 : wA.cell? ⟨wb, 1, none⟩ = some (.int .i64 fw.2.1) := n0'.at_ 1
      have b2 : wA.cell? ⟨wb, 2, none⟩ = some (.string fw.2.2) := n0'.at_ 2
      clear hxb hwA bx bl hz hgE hrowA helA hkp hE3 hall n0' HNT
      go_upto_region 22 with (go_at_call 17; ((with_reducible refine HAL.out.mono ?_); rintro e wB ⟨rv2, rfl, hrv2, hge2, hkp2, hfr2, hsz2⟩; have HKP := Veil.mk (And.intro hrv2 (And.intro hkp2 hfr2)); clear hrv2 hge2 hkp2 hfr2 hsz2))
      clear HAL b0 b1 b2
      obtain ⟨ts2, hl2, hap2, hT2, hgE2, hz2, hgb2, hL2⟩ := HKP.out.2.1
      obtain ⟨ev, hbb, hrv⟩ := hz2.elems hT2
      have hts : ts2[44]? = some (TO.arr sb 3 ev2) := (hap2 44 (by rw [HSL.out.2]; decide) (by decide)).trans HSL.out.1
      have HOFA : Veil (∀ w9, Below wB.heap.size wB w9 -> Calls Tryz.prog 14 #[.pointer (some ⟨h, 0, none⟩), valV fa] w9 fun e w' => e = .returned (.pointer (some ⟨b, 0, none⟩)) /\ Below w9.heap.size w9 w') := ⟨fun w9 hb => by rw [<- HFV.out.1]; exact (hz2.on hb).of_a hT2⟩
      have HOFX : Veil (∀ w9, Below wB.heap.size wB w9 -> Calls Tryz.prog 14 #[.pointer (some ⟨h, 0, none⟩), valV fx] w9 fun e w' => e = .returned (.pointer (some ⟨sb, 0, none⟩)) /\ Below w9.heap.size w9 w') := ⟨fun w9 hb => by
       obtain ⟨ev', na, ca, xs0, q1, -⟩ := (hz2.on hb).x
       rw [<- HFX.out]
       exact q1.of_at (p := 44) (t := TO.arr sb 3 ev2) (by rw [List.getElem?_set_ne (by decide)]; exact hts) rfl _⟩
      have hsb : Box wB sb 63 (objC 1 3 false (.pointer none) ev2) := by
       obtain ⟨ev', na, ca, xs0, q1, -⟩ := hz2.x
       exact q1.mem_b (t := TO.arr sb 3 ev2) (List.mem_of_getElem? (i := 44) (by rw [List.getElem?_set_ne (by decide)]; exact hts)) rfl
      have helB : EL wB A ev2 (lsX kx n).length (lx (lsX kx n)) := HBA.out.2.2.2.imp (fun h => h) (fun ⟨g9, cap, e, h9⟩ => ⟨g9, cap, e, by
       obtain ⟨cur, hb, hx⟩ := h9.bx
       exact ⟨h9.lo, h9.le, h9.sm, cur, HKP.out.2.2 g9 VTy cur (by decide) (.inr (.inr (.inr (by rw [e]; rfl)))) hb, hx⟩⟩)
      rw [lsX_len] at helB
      have hr2 : RowV wB ev2 (lsX kx n) := helB.rowV (fun j hj => by show (lsX kx n).getD j _ = _; rw [List.getD_eq_getElem?_getD, lsX_at kx n j hj]; rfl)
      have hr3 : RowV wB rv (lsX kx n) := RowV.own (by rw [lsX_len]; exact own_stay HBA.out.2.2.1 (fun b c h1 h2 => HKP.out.2.2 b VTy c (by decide) (.inl h1) h2))
      have hr4 : RowV wB rv2 (lsX kx n) := HKP.out.1
      have hks : (lsX kx n).length <= 1000 := by rw [lsX_len]; omega
      have HV1 : Veil (∀ w9, Below wB.heap.size wB w9 -> Calls Tryz.prog 13 #[ev, rv] w9 fun e w' => e = .returned (.bool true) /\ Below w9.heap.size w9 w') := ⟨fun w9 hb => vals_same w9 ev rv _ (hrv.on hb) (hr3.on hb) hks⟩
      have HV2 : Veil (∀ w9, Below wB.heap.size wB w9 -> Calls Tryz.prog 13 #[ev2, rv] w9 fun e w' => e = .returned (.bool true) /\ Below w9.heap.size w9 w') := ⟨fun w9 hb => vals_same w9 ev2 rv _ (hr2.on hb) (hr3.on hb) hks⟩
      have HV3 : Veil (∀ w9, Below wB.heap.size wB w9 -> Calls Tryz.prog 13 #[rv2, rv] w9 fun e w' => e = .returned (.bool true) /\ Below w9.heap.size w9 w') := ⟨fun w9 hb => vals_same w9 rv2 rv _ (hr4.on hb) (hr3.on hb) hks⟩
      have HZ := Veil.mk (And.intro hz2 (And.intro (HKP.out.2.2 ab VTy _ (by decide) (.inr (.inl rfl)) HBA.out.1) (And.intro (HKP.out.2.2 xb VTy _ (by decide) (.inr (.inr (.inl rfl))) HBA.out.2.1) (And.intro hbb hsb))))
      clear hl2 hap2 hT2 hgE2 hz2 hgb2 hL2 hbb hrv hts hsb helB hr2 hr3 hr4 hks HKP HBA HSL
      have m0 : ∀ z : BW wB, z.w.cell? ⟨m, 0, none⟩ = some (.pointer (some ⟨h, 0, none⟩)) := fun z => (HZ.out.1.on z.h).at0
      have a0 : ∀ z : BW wB, z.w.cell? ⟨ab, 0, none⟩ = some (.int .i64 fa.1) := fun z => (HZ.out.2.1.below z.h).at_ 0
      have a1 : ∀ z : BW wB, z.w.cell? ⟨ab, 1, none⟩ = some (.int .i64 fa.2.1) := fun z => (HZ.out.2.1.below z.h).at_ 1
      have a2 : ∀ z : BW wB, z.w.cell? ⟨ab, 2, none⟩ = some (.string fa.2.2) := fun z => (HZ.out.2.1.below z.h).at_ 2
      have x0 : ∀ z : BW wB, z.w.cell? ⟨xb, 0, none⟩ = some (.int .i64 fx.1) := fun z => (HZ.out.2.2.1.below z.h).at_ 0
      have x1 : ∀ z : BW wB, z.w.cell? ⟨xb, 1, none⟩ = some (.int .i64 fx.2.1) := fun z => (HZ.out.2.2.1.below z.h).at_ 1
      have x2 : ∀ z : BW wB, z.w.cell? ⟨xb, 2, none⟩ = some (.string fx.2.2) := fun z => (HZ.out.2.2.1.below z.h).at_ 2
      have b4 : ∀ z : BW wB, z.w.cell? ⟨b, 4, none⟩ = some (ev) := fun z => (HZ.out.2.2.2.1.below z.h).at_ 4
      have s4 : ∀ z : BW wB, z.w.cell? ⟨sb, 4, none⟩ = some (ev2) := fun z => (HZ.out.2.2.2.2.below z.h).at_ 4
      have hNE := BW.ne wB
      refine wp_region_below (by kernel_rfl) (by kernel_rfl) ?_
      repeat (go_big_quiet_step (first | (go_at_call 14; with_reducible exact BW.on _ (HOFA.out _ (BW.h _))) | (go_at_call 14; with_reducible exact BW.on _ (HOFX.out _ (BW.h _))) | (go_at_call 13; with_reducible exact BW.on _ (HV1.out _ (BW.h _))) | (go_at_call 13; with_reducible exact BW.on _ (HV2.out _ (BW.h _))) | (go_at_call 13; with_reducible exact BW.on _ (HV3.out _ (BW.h _)))))
      refine wpQuiet_nil ?_
      rintro _ ⟨z, rfl⟩
      have HQ := Veil.mk z.h
      obtain ⟨wC, hE2⟩ : ∃ wC, z.w = wC := ⟨_, rfl⟩
      rw [hE2] at HQ ⊢
      clear m0 a0 a1 a2 x0 x1 x2 b4 s4 hE2 z hNE
      have hbl := blw2 (blw2 HB1.out HZ.out.1.bel) HQ.out
      clear HQ HZ HOFA HOFX HV1 HV2 HV3
      go_wp2
      go_ret
      exact ⟨rfl, hbl⟩
end Go.Proofs.YtahkohfppakaiaaGreatDoor
