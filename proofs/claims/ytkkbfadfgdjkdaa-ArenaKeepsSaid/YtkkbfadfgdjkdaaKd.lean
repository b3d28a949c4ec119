/- ArenaKeeps: the state of both arenas; same answers true. -/
import Derived.Test.YtkkbfadfgdjkdaaKc
import Derived.Test.YtkkbfadfgdjkdaaAu
namespace Go.Proofs.Ytkkbfadfgdjkdaa
open Go Go.RowKit

structure PI where
  r : Int
  x : Nat
  y : Nat
  L : List Int
  T : List (Int × Int)
  G : List Int
  vs : Fin 6 → Value
def flat3 (ps : List PI) : List Value := ps.flatMap fun p => [.int .i64 p.r, .pointer (some ⟨p.x, 0, none⟩), .pointer (some ⟨p.y, 0, none⟩)]
theorem flat3_snoc (ps : List PI) (p : PI) : flat3 (ps ++ [p]) = flat3 ps ++ [.int .i64 p.r, .pointer (some ⟨p.x, 0, none⟩), .pointer (some ⟨p.y, 0, none⟩)] := by
  unfold flat3
  simp
theorem flat3_at : ∀ (ps : List PI) (i : Nat) (p : PI), ps[i]? = some p → (flat3 ps)[i * 3]? = some (.int .i64 p.r) ∧ (flat3 ps)[i * 3 + 1]? = some (.pointer (some ⟨p.x, 0, none⟩)) ∧ (flat3 ps)[i * 3 + 2]? = some (.pointer (some ⟨p.y, 0, none⟩))
  | [], i, p, h => by simp at h
  | q :: ps, 0, p, h => by
    have : q = p := by simpa using h
    subst this
    exact ⟨rfl, rfl, rfl⟩
  | q :: ps, i + 1, p, h => by
    have h2 := flat3_at ps i p (by simpa using h)
    have e : flat3 (q :: ps) = .int .i64 q.r :: .pointer (some ⟨q.x, 0, none⟩) :: .pointer (some ⟨q.y, 0, none⟩) :: flat3 ps := rfl
    rw [e, show (i + 1) * 3 = i * 3 + 1 + 1 + 1 by omega]
    exact ⟨by simpa using h2.1, by simpa using h2.2.1, by simpa using h2.2.2⟩
abbrev NodeT_ : TypeId := 30
/-- Both arenas with what was made of steps. -/
structure KS (A bb mb : Nat) (ps : List PI) (cv fv rv Lv lv : Value) (w : World) : Prop where
  ar : ArAt w A A cv fv rv (dN (ps.map PI.x) [])
  fil : ∀ p ∈ ps, A ≤ p.x ∧ A ≤ p.y ∧ Filled A p.x p.y p.L p.T p.G (.int .i64 0) p.vs w ∧ p.L.length ≤ 2000 ∧ p.T.length ≤ 2000 ∧ p.G.length ≤ 2000 ∧ ∀ q ∈ p.T, -9223372036854775808 ≤ q.2 ∧ q.2 ≤ 9223372036854775807
  nax : ∀ p ∈ ps, ∀ i b, (p.vs i).ownBlock = some b → ¬ AFoot A cv fv rv b
  bx : Box w bb 46 #[.pointer (some ⟨A, 0, none⟩), .pointer (some ⟨mb, 0, none⟩), lv]
  mx : Box w mb 43 #[Lv, .slice none 0 0, .slice none 0 0]
  rl : RL w A Lv (ps.map PI.y)
  ll : w.ownsRow A 73 3 lv ps.length (flat3 ps)
  bge : A ≤ bb ∧ A ≤ mb
theorem Filled.own {B x y : Nat} {L : List Int} {T : List (Int × Int)} {G : List Int} {ev : Value} {vs : Fin 6 → Value} {w : World} (h : Filled B x y L T G ev vs w) (i : Fin 6) : ∃ e sz n xs, w.ownsRow B e sz (vs i) n xs ∧ (e = 3 ∨ e = 32) := by
  match i with
  | 0 => exact ⟨_, _, _, _, h.r0, .inl rfl⟩
  | 1 => exact ⟨_, _, _, _, h.r1, .inr rfl⟩
  | 2 => exact ⟨_, _, _, _, h.r2, .inl rfl⟩
  | 3 => exact ⟨_, _, _, _, h.r3, .inl rfl⟩
  | 4 => exact ⟨_, _, _, _, h.r4, .inr rfl⟩
  | 5 => exact ⟨_, _, _, _, h.r5, .inl rfl⟩
theorem Filled.touch {B x y : Nat} {L : List Int} {T : List (Int × Int)} {G : List Int} {ev : Value} {vs : Fin 6 → Value} {w w' : World} {S : Nat → Prop} (h : Filled B x y L T G ev vs w) (ht : Touch S w w') (hx : ¬ S x) (hy : ¬ S y) (hr : ∀ i b, (vs i).ownBlock = some b → ¬ S b) : Filled B x y L T G ev vs w' :=
  ⟨h.bx.touch ht hx, h.by_.touch ht hy, own_touch h.r0 ht (hr 0), own_touch h.r1 ht (hr 1), own_touch h.r2 ht (hr 2), own_touch h.r3 ht (hr 3), own_touch h.r4 ht (hr 4), own_touch h.r5 ht (hr 5)⟩
theorem Filled.on {B x y : Nat} {L : List Int} {T : List (Int × Int)} {G : List Int} {ev : Value} {vs : Fin 6 → Value} {w w' : World} (h : Filled B x y L T G ev vs w) (hb : Below w.heap.size w w') : Filled B x y L T G ev vs w' := h.touch (S := fun _ => False) (Touch.of_below hb) (fun h => h) (fun h => h) (fun _ _ _ h => h)
theorem RL.own {w : World} {B : Nat} {Lv : Value} {ys : List Nat} (h : RL w B Lv ys) {k : Nat} (hk : Lv.ownBlock = some k) : B ≤ k ∧ k < w.heap.size ∧ Lab w k 70 := by
  rcases h with ⟨_, rfl⟩ | h
  · cases hk
  · exact ⟨(own_lt h k hk).1, (own_lt h k hk).2, own_lab h k hk⟩
theorem RL.touch {w w' : World} {B : Nat} {Lv : Value} {ys : List Nat} {S : Nat → Prop} (h : RL w B Lv ys) (ht : Touch S w w') (hn : ∀ k, Lv.ownBlock = some k → ¬ S k) : RL w' B Lv ys := h.imp id (fun h => own_touch h ht hn)
section
variable {A bb mb : Nat} {ps : List PI} {cv fv rv Lv lv : Value} {w w' : World}
theorem KS.ge (h : KS A bb mb ps cv fv rv Lv lv w) : A ≤ w.heap.size := by have := h.ar.ha; have := h.ar.box.lt; omega
theorem KS.on (h : KS A bb mb ps cv fv rv Lv lv w) (hb : Below w.heap.size w w') : KS A bb mb ps cv fv rv Lv lv w' :=
  ⟨h.ar.on hb, fun p hp => ⟨(h.fil p hp).1, (h.fil p hp).2.1, (h.fil p hp).2.2.1.on hb, (h.fil p hp).2.2.2⟩, h.nax, h.bx.below hb, h.mx.below hb, h.rl.touch (S := fun _ => False) (Touch.of_below hb) (fun _ _ h => h), own_below h.ll hb, h.bge⟩
end
/-- Rows of ints that are alike read alike. -/
theorem ints_rowv {w : World} {B : Nat} {v : Value} {l : List Int} (h : w.ownsRow B 3 1 v l.length (intsV l)) : ∃ a c, v = .slice a l.length c ∧ Ints w a l.length l := by
  obtain ⟨ao, cap, rfl, hcap, hg, -⟩ := slice_own h
  refine ⟨ao, cap, rfl, rfl, fun hp => ?_⟩
  obtain ⟨g, rfl⟩ := hg hp
  refine ⟨g, 0, rfl, (own_lt h g rfl).2, own_lab h g rfl, fun i hi => ?_⟩
  rw [Nat.zero_add, h.cellAt i (by omega), List.getElem?_map, List.getElem?_eq_getElem (by omega)]
  rfl
set_option maxHeartbeats 1000000 in
set_option maxRecDepth 100000 in
theorem nums_quiet (a b : Option Addr) (n ca cb : Nat) (L : List Int) (w : World) (ha : Ints w a n L) (hb : Ints w b n L) (hn : n ≤ 1000000) :
    Calls Try.prog 14 #[.slice a n ca, .slice b n cb] w fun e w' => e = .returned (.bool true) ∧ ∃ m, w' = w.drewN m := by
  have q0 : ((n : Int) != (n : Int)) = false := by simp
  go_enter Try.func14, Try.ntmps14
  go_wp2
  clear q0
  go_loopw [13] (fun i wr => ∃ k m : Nat, k ≤ n ∧ i = .int .i64 (k : Int) ∧ wr = w.drewN m) (fun i _ => n - (intOf i).toNat)
  case atStart => exact ⟨0, 0, Nat.zero_le _, rfl, rfl⟩
  case round =>
    obtain ⟨k, m, hk, rfl, hw⟩ := hrel
    subst hw
    have hk0 : (0 : Int) ≤ (k : Int) := by omega
    by_cases hlt : k < n
    · have hlt' : (k : Int) < (n : Int) := by omega
      obtain ⟨b1, o1, rfl, -, -, h1⟩ := ha.2 (by omega)
      obtain ⟨b2, o2, rfl, -, -, h2⟩ := hb.2 (by omega)
      have c1 := h1 k hlt
      have c2 := h2 k hlt
      obtain ⟨x, hx⟩ : ∃ x, L[k]?.getD 0 = x := ⟨_, rfl⟩
      rw [hx] at c1 c2
      have q1 : (x != x) = false := by simp
      clear h1 h2 hx
      go_upto_region 6 with (fail)
      go_quiet (fail)
      go_wp2
      go_round
      case rel => exact ⟨k + 1, _, by omega, by go_num, rfl⟩
      case measure => simp [intOf]; omega
    · have hlt' : ¬ (k : Int) < (n : Int) := by omega
      go_wp2
      go_ret
      exact ⟨rfl, m, rfl⟩
end Go.Proofs.Ytkkbfadfgdjkdaa
