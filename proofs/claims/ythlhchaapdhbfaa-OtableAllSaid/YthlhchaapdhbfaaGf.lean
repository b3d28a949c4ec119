/- The reference's table: Delete, Clear, Len. -/
import Derived.Test.YthlhchaapdhbfaaGe
namespace Go.Proofs.Ythlhchaapdhbfaa
open Go Go.RowKit

def DelL (l : List Re) (k : Vt) (l' : List Re) (r : Bool) : Prop := (∃ (j : Nat) (x : Re), l[j]? = some x ∧ ReIs x k ∧ l' = l.set j { x with gone := true } ∧ r = true) ∨ ((∀ x ∈ l, ¬ ReIs x k) ∧ l' = l ∧ r = false)
def RDelP (B g : Nat) (l : List Re) (cl : Int) (k : Vt) (F : Nat → Prop) (w : World) (e : Ending) (w' : World) : Prop := ∃ r l', e = .returned (.bool r) ∧ DelL l k l' r ∧ RPost B g l' cl F w w'
set_option maxHeartbeats 1000000 in
set_option maxRecDepth 100000 in
theorem rdel_any (B g : Nat) (l : List Re) (cl : Int) (vl : Value) (hl : l.length < 90000) (k : Vt) (w : World) (h : RT w B g l cl vl) :
    Calls Try.prog 62 #[.pointer (some ⟨g, 0, none⟩), valV k] w (RDelP B g l cl (keyT k) (RF g vl) w) := by
  obtain ⟨a, cap, rfl, hcap, hg2, hm2⟩ := slice_own h.own
  obtain ⟨W, hW⟩ : ∃ W, W = w.alloc (.cells #[.int .i64 k.1, .int .i64 k.2.1, .string k.2.2] 82) := ⟨_, rfl⟩
  have hBW : Below w.heap.size w W := by rw [hW]; exact (Below.refl _ _).alloc (Nat.le_refl _) _
  have bk : Box W w.heap.size 82 #[.int .i64 k.1, .int .i64 k.2.1, .string k.2.2] := by rw [hW]; exact Box.new w _ _
  have hT := h.on hBW
  have HW := Veil.mk hW
  have HF := Veil.mk (rfind_any B g l cl _ (by omega) k W hT)
  have k0 : W.cell? ⟨w.heap.size, 0, none⟩ = some (.int .i64 k.1) := bk.at_ 0
  have k1 : W.cell? ⟨w.heap.size, 1, none⟩ = some (.int .i64 k.2.1) := bk.at_ 1
  have k2 : W.cell? ⟨w.heap.size, 2, none⟩ = some (.string k.2.2) := bk.at_ 2
  have HT := Veil.mk hT
  clear hW h hT bk
  go_enter Try.func62, Try.ntmps62
  go_upto_region 1 with (fail)
  rw [← HW.out]
  clear HW
  go_upto_region 2 with (first | (go_at_call 63; ((with_reducible refine HF.out.mono ?_); rintro e w1 ⟨q, rfl, hq, hb1⟩)))
  have hT1 := HT.out.on hb1
  clear k0 k1 k2 HF HT
  rcases hq with ⟨j, x, rfl, hx, his⟩ | ⟨rfl, hno⟩
  · obtain ⟨r, rfl⟩ := hg2 (by have := (List.getElem?_eq_some_iff.1 hx).1; omega)
    have hjl := (List.getElem?_eq_some_iff.1 hx).1
    have n1 : ¬ (j : Int) < 0 := by omega
    have q0 : (0 : Int) ≤ (j : Int) := by omega
    have q1 : (j : Int) < (l.length : Int) := by omega
    have t0 : w1.cell? ⟨g, 0, none⟩ = some (.slice (some ⟨r, 0, none⟩) l.length cap) := hT1.box.at_ 0
    have f7 := own_free2 hT1.own (j * 8 + 7)
    have p7 := (hT1.at_ j x hx).l
    have HD : Veil (RDelP B g l cl (keyT k) (RF g (.slice (some ⟨r, 0, none⟩) l.length cap)) w (.returned (.bool true)) (w1.setCell ⟨r, j * 8 + 7, none⟩ (.bool true))) := ⟨⟨true, _, rfl, .inl ⟨j, x, hx, his, rfl, rfl⟩, _, hT1.setCell j 7 x { x with gone := true } (.bool true) hx (by omega) rfl, (Touch.of_below (hBW.trans (hb1.mono hBW.size))).trans (Touch.put (S := RF g (.slice (some ⟨r, 0, none⟩) l.length cap)) (.inr rfl) _ _), fun k hk => .inl hk⟩⟩
    clear hT1 hx his hb1 hg2
    go_wp2
    go_ret
    exact HD.out
  · have n1 : (-1 : Int) < 0 := by omega
    have HD : Veil (RDelP B g l cl (keyT k) (RF g (.slice a l.length cap)) w (.returned (.bool false)) w1) := ⟨⟨false, l, rfl, .inr ⟨hno, rfl, rfl⟩, _, hT1, Touch.of_below (hBW.trans (hb1.mono hBW.size)), fun k hk => .inl hk⟩⟩
    clear hno hT1 hb1
    go_wp2
    go_ret
    exact HD.out
set_option maxHeartbeats 1000000 in
set_option maxRecDepth 100000 in
theorem rclear_any (B g : Nat) (l : List Re) (cl : Int) (vl : Value) (h0 : 0 ≤ cl) (h1 : cl < 1000000) (w : World) (h : RT w B g l cl vl) :
    Calls Try.prog 64 #[.pointer (some ⟨g, 0, none⟩)] w fun e w' => e = .returned (.tuple #[]) ∧ RPost B g [] (cl + 1) (RF g vl) w w' := by
  have t0 : w.cell? ⟨g, 0, none⟩ = some vl := h.box.at_ 0
  have f0 := h.box.free 0
  have b1 := h.box.put 0 noRow
  have t1 : (w.setCell ⟨g, 0, none⟩ noRow).cell? ⟨g, 1, none⟩ = some (.int .i64 cl) := b1.at_ 1
  have f1 := b1.free 1
  have e1 : IntKind.i64.wrap (cl + 1) = cl + 1 := IntWalk.i64_in _ (by omega)
  have HD : Veil (RPost B g [] (cl + 1) (RF g vl) w ((w.setCell ⟨g, 0, none⟩ noRow).setCell ⟨g, 1, none⟩ (.int .i64 (cl + 1)))) := ⟨⟨noRow, ⟨b1.put 1 _, nil_own _ _ _ _, h.bt⟩, (Touch.put (S := RF g vl) (.inl rfl) _ _).trans (Touch.put (.inl rfl) _ _), fun k hk => by
    rcases hk with e | e
    · exact .inl (.inl e)
    · simp [Value.ownBlock] at e⟩⟩
  clear h b1
  go_enter Try.func64, Try.ntmps64
  go_wp2
  go_end0
  exact ⟨rfl, HD.out⟩
/-- What is there. -/
def liveR (l : List Re) : List En := (l.filter fun e => !e.gone).map fun e => (e.key, e.val, e.fl)
theorem liveR_app (a b : List Re) : liveR (a ++ b) = liveR a ++ liveR b := by simp [liveR]
theorem liveR_one (x : Re) : liveR [x] = if x.gone then [] else [(x.key, x.val, x.fl)] := by
  cases h : x.gone <;> simp [liveR, h]
theorem liveR_step {l : List Re} {p : Nat} {x : Re} (h : l[p]? = some x) : liveR (l.take (p + 1)) = liveR (l.take p) ++ if x.gone then [] else [(x.key, x.val, x.fl)] := by
  rw [List.take_add_one, h, ← liveR_one, liveR_app]
  rfl
theorem liveR_le (l : List Re) : (liveR l).length ≤ l.length := by
  unfold liveR
  rw [List.length_map]
  exact List.length_filter_le _ _
set_option maxHeartbeats 1000000 in
set_option maxRecDepth 100000 in
theorem rlen_any (B g : Nat) (l : List Re) (cl : Int) (vl : Value) (hl : l.length < 90000) (w : World) (h : RT w B g l cl vl) :
    Calls Try.prog 78 #[.pointer (some ⟨g, 0, none⟩)] w fun e w' => e = .returned (.int .i64 ((liveR l).length : Int)) ∧ Below w.heap.size w w' := by
  obtain ⟨a, cap, rfl, hcap, hg2, hm2⟩ := slice_own h.own
  have HT := Veil.mk h
  clear h
  go_enter Try.func78, Try.ntmps78
  go_wp2
  go_loop [3, 4] (fun n i => ∃ p : Nat, p ≤ l.length ∧ i = .int .i64 (p : Int) ∧ n = .int .i64 ((liveR (l.take p)).length : Int)) (fun _ i => l.length - (intOf i).toNat)
  case atStart => exact ⟨0, Nat.zero_le _, rfl, rfl⟩
  case round =>
    obtain ⟨p, hp, rfl, rfl⟩ := hrel
    have t0 : w.cell? ⟨g, 0, none⟩ = some (.slice a l.length cap) := HT.out.box.at_ 0
    by_cases hlt : p < l.length
    · have hlt' : (p : Int) < (l.length : Int) := by omega
      have hp0 : (0 : Int) ≤ (p : Int) := by omega
      obtain ⟨r, rfl⟩ := hg2 (by omega)
      obtain ⟨x, hx⟩ : ∃ x, l[p]? = some x := ⟨_, List.getElem?_eq_getElem hlt⟩
      have fg := (HT.out.at_ p x hx).l
      have hle := liveR_le (l.take p)
      rw [List.length_take] at hle
      have HS := Veil.mk (liveR_step hx)
      obtain ⟨c, hc⟩ : ∃ c, (liveR (l.take p)).length = c := ⟨_, rfl⟩
      have HC := Veil.mk hc
      rw [hc] at hle ⊢
      clear hc hx hg2
      rcases hgn : x.gone with _ | _
      · rw [hgn] at fg
        have HN : Veil ((liveR (l.take (p + 1))).length = c + 1) := ⟨by rw [HS.out, List.length_append, HC.out, hgn]; rfl⟩
        clear hgn HS HC
        go_wp2
        go_round
        case rel => exact ⟨p + 1, by omega, by go_num, by rw [HN.out]; go_num⟩
        case measure => simp [intOf]; omega
      · rw [hgn] at fg
        have HN : Veil ((liveR (l.take (p + 1))).length = c) := ⟨by rw [HS.out, List.length_append, HC.out, hgn]; rfl⟩
        clear hgn HS HC
        go_wp2
        go_round
        case rel => exact ⟨p + 1, by omega, by go_num, by rw [HN.out]⟩
        case measure => simp [intOf]; omega
    · have hlt' : ¬ (p : Int) < (l.length : Int) := by omega
      have HN : Veil (l.take p = l) := ⟨List.take_of_length_le (by omega)⟩
      rw [HN.out]
      go_wp2
      go_ret
      exact ⟨rfl, Below.refl _ _⟩
end Go.Proofs.Ythlhchaapdhbfaa
