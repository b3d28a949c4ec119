/- Package lex: Scan. -/
import Derived.Test.YtfejompnjaifmaaDoorLl
import Derived.Test.YtfejompnjaifmaaDoorLc
import Derived.Deep.AppendLies
namespace Go.Proofs.YtfejompnjaifmaaDoor
open Go Go.RowKit

theorem Tryd.infoTok : (Tryd.prog.info? 31).map (fun i => (i.zero, i.size, i.bytes)) = some (some (.agg #[.int .i64 0, .string ⟨#[]⟩, .int .i64 0, .int .i64 0]), 4, 40) := by kernel_rfl
theorem news_at (w : World) (n : Nat) (hn : w.heap.size = n) (cs : List Value) (t : TypeId) : ∀ j u, cs[j]? = some u → (w.alloc (.cells cs.toArray t)).cell? ((⟨n, 0, none⟩ : Addr).add j) = some u := by subst hn; exact cells_new w cs t
theorem slice_own {w : World} {B n size : Nat} {v : Value} {xs : List Value} {e : TypeId} (h : w.ownsRow B e size v n xs) : ∃ ao cap, v = .slice ao n cap := by
  rcases h.2 with ⟨rfl, h0⟩ | ⟨g, cap, cur, rfl, _, _, hc, hm, _⟩
  · exact ⟨none, 0, by rw [h0]⟩
  · exact ⟨_, cap, rfl⟩
theorem fillF {w0 w : World} {g : Nat} {a0 a1 : Value} (h : Box w g 27 #[a0, a1]) (a b : Value) (hb : Below w0.heap.size w0 w) (hg : w0.heap.size ≤ g) :
    Box ((w.setCell ⟨g, 0, none⟩ a).setCell ⟨g, 1, none⟩ b) g 27 #[a, b] ∧ Below w0.heap.size w0 ((w.setCell ⟨g, 0, none⟩ a).setCell ⟨g, 1, none⟩ b) :=
  ⟨(h.put 0 a).put 1 b, (hb.setCell (p := ⟨g, 0, none⟩) hg _).setCell (p := ⟨g, 1, none⟩) hg _⟩
/-- What Scan leaves, where r is its answer. -/
def ScanP (r : Except (Nat × Nat) (List (Tk × Nat))) (w : World) (e : Ending) (w' : World) : Prop :=
  Below w.heap.size w w' ∧ ((∃ k a : Nat, r = .error (k, a) ∧ e = .returned (.tuple #[.slice none 0 0, .agg #[.int .i64 k, .int .i64 a]])) ∨
    (∃ ts g cap, r = .ok ts ∧ e = .returned (.tuple #[.slice (some ⟨g, 0, none⟩) ts.length cap, .agg #[.int .i64 0, .int .i64 0]]) ∧ w'.ownsRow w.heap.size 31 4 (.slice (some ⟨g, 0, none⟩) ts.length cap) ts.length (tkFlat ts)))
theorem tkFlat_last (ts : List (Tk × Nat)) (t : Tk) (p : Nat) (x : ByteArray) (hx : x = ⟨t.text.toArray⟩) : tkFlat ts ++ [.int .i64 (t.kind : Int), .string x, .int .i64 (p : Int), .int .i64 t.n] = tkFlat (ts ++ [(t, p)]) := by
  subst hx
  rw [tkFlat_snoc]
  rfl
theorem own_mono {w : World} {B B' n size : Nat} {v : Value} {xs : List Value} {e : TypeId} (h : w.ownsRow B e size v n xs) (hB : B' ≤ B) : w.ownsRow B' e size v n xs := by
  obtain ⟨h1, h2⟩ := h
  refine ⟨h1, ?_⟩
  rcases h2 with h2 | ⟨g, cap, cur, h3, h4, h5⟩
  · exact .inl h2
  · exact .inr ⟨g, cap, cur, h3, Nat.le_trans hB h4, h5⟩
/-- The state behind a round. -/
def ScanJ (s : ByteArray) (r : Except (Nat × Nat) (List (Tk × Nat))) (b : Nat) (W0 : World) (o a : Value) (wr : World) : Prop :=
  ∃ (p f : Nat) (ts : List (Tk × Nat)), p ≤ s.size ∧ s.size + 1 ≤ p + f ∧ a = .int .i64 (p : Int) ∧ ts.length ≤ p ∧ wr.ownsRow b 31 4 o ts.length (tkFlat ts) ∧ Below b W0 wr ∧ Veil (r = joinS ts (scanL ofL f (s.data.toList.drop p) p))
set_option maxHeartbeats 8000000 in
set_option maxRecDepth 100000 in
theorem scan_any (s : ByteArray) (hs : s.size ≤ 20000) (w : World) (hG : Gl w) :
    Calls Tryd.prog 7 #[.string s] w (ScanP (scanS s.data.toList) w) := by
  obtain ⟨r, hr⟩ : ∃ r, scanS s.data.toList = r := ⟨_, rfl⟩
  rw [hr]
  have HLN : Veil (s.data.toList.length = s.size) := ⟨Array.length_toList⟩
  have HR0 : Veil (r = if 16384 < s.size then .error (2, 16384) else joinS [] (scanL ofL (s.size + 1) s.data.toList 0)) := ⟨by rw [← hr]; unfold scanS; rw [HLN.out]⟩
  have HG0 := Veil.mk hG
  clear hr hG
  obtain ⟨iT, hiT, hiT0, hiT1, hiT2⟩ := info_parts Tryd.infoTok
  have l0 : Below w.heap.size w (w.alloc (.cells #[.int .i64 0, .int .i64 0] 27)) := (Below.refl _ _).alloc (Nat.le_refl _) _
  have b0 : Box (w.alloc (.cells #[.int .i64 0, .int .i64 0] 27)) w.heap.size 27 #[.int .i64 0, .int .i64 0] := Box.new w _ _
  have hsz0 : Veil ((w.alloc (.cells #[.int .i64 0, .int .i64 0] 27)).heap.size = w.heap.size + 1) := ⟨by simp⟩
  go_enter Tryd.func7, Tryd.ntmps7
  go_upto_region 1 with (fail)
  obtain ⟨g, hg⟩ : ∃ g, w.heap.size = g := ⟨_, rfl⟩
  have HGG := Veil.mk hg
  try rw [hg]
  rw [hg] at b0 hsz0
  generalize w.alloc (.cells #[.int .i64 0, .int .i64 0] 27) = W0 at l0 b0 hsz0 ⊢
  have HB0 := Veil.mk b0
  have HL0 := Veil.mk l0
  by_cases hbig : 16384 < s.size
  · have hbig' : (16384 : Int) < (s.size : Int) := by omega
    have HVN : Veil (r = .error (2, 16384)) := ⟨by rw [HR0.out, if_pos hbig]⟩
    have c0 : W0.cell? ⟨g, 0, none⟩ = some (.int .i64 0) := b0.at_ 0
    have c1 : W0.cell? ⟨g, 1, none⟩ = some (.int .i64 0) := b0.at_ 1
    have d0 := b0.free 0
    have d1 := b0.free 1
    clear l0 b0 hg
    go_wp2
    obtain ⟨hz1, hz2⟩ := fillF HB0.out (.int .i64 2) (.int .i64 16384) HL0.out (by have := HGG.out; omega)
    generalize (W0.setCell ⟨g, 0, none⟩ (.int .i64 2)).setCell ⟨g, 1, none⟩ (.int .i64 16384) = W9 at hz1 hz2 ⊢
    have q0 : W9.cell? ⟨g, 0, none⟩ = some (.int .i64 2) := hz1.at_ 0
    have q1 : W9.cell? ⟨g, 1, none⟩ = some (.int .i64 16384) := hz1.at_ 1
    exact bodyPost_ret (v := .tuple #[.slice none 0 0, .agg #[.int .i64 2, .int .i64 16384]]) (by simp [results, Tryd.results7, go_sem, q0, q1]) rfl ⟨hz2, .inl ⟨_, _, HVN.out, rfl⟩⟩
  · have hbig' : ¬ (16384 : Int) < (s.size : Int) := by omega
    have HR : Veil (r = joinS [] (scanL ofL (s.size + 1) (s.data.toList.drop 0) 0)) := ⟨by rw [HR0.out, if_neg hbig, List.drop_zero]⟩
    have HG : Veil (Gl W0) := ⟨HG0.out.on l0⟩
    obtain ⟨b, hb⟩ : ∃ b, W0.heap.size = b := ⟨_, rfl⟩
    have hgb : g < b := by have := hsz0.out; omega
    have HBW := Veil.mk hb
    clear l0 b0 hg hsz0 HR0
    go_upto_region 5 with (fail)
    go_loopw [4, 5] (fun o a wr => ScanJ s r b W0 o a wr) (fun _ a _ => s.size - (intOf a).toNat)
    case atStart => exact ⟨0, s.size + 1, [], Nat.zero_le _, by omega, rfl, by simp, ⟨by simp [tkFlat], .inl ⟨rfl, rfl⟩⟩, by rw [← hb]; exact Below.refl _ _, HR⟩
    case round =>
      obtain ⟨p, f, ts, hps, hf, rfl, htl, hown, hbe, hR⟩ := hrel
      clear hb
      have hp0 : (0 : Int) ≤ (p : Int) := by omega
      have hbT := HB0.out.on hbe hgb
      have HBT := Veil.mk hbT
      have HBB : Veil (Below w.heap.size w wr) := ⟨by rw [HGG.out]; exact (by have h := HL0.out; rw [HGG.out] at h; exact h : Below g w W0).trans (hbe.mono (by omega))⟩
      have HBE := Veil.mk hbe
      have HGW : Veil (Gl wr) := ⟨HG.out.on (by rw [HBW.out]; exact hbe)⟩
      have HSW : Veil (b ≤ wr.heap.size) := ⟨by rw [← HBW.out]; exact (by have h := hbe.size; exact h)⟩
      obtain ⟨f, rfl⟩ : ∃ f', f = f' + 1 := ⟨f - 1, by omega⟩
      have hlen : (s.data.toList.drop p).length = s.size - p := by rw [List.length_drop, HLN.out]
      have HLEN := Veil.mk hlen
      obtain ⟨k, ok, hq⟩ : ∃ k ok, skipL (s.data.toList.drop p).length (s.data.toList.drop p) = (k, ok) := ⟨_, _, rfl⟩
      have hk := skip_le (s.data.toList.drop p).length (s.data.toList.drop p)
      rw [hq, hlen] at hk
      have hk' : p + k ≤ s.size := by have : k ≤ s.size - p := hk; omega
      have HQ := Veil.mk hq
      have HSK : Veil (∀ w, Gl w → Calls Tryd.prog 10 #[.string s, .int .i64 (p : Int)] w fun e w' => e = .returned (.tuple #[.int .i64 ((p + k : Nat) : Int), .bool ok]) ∧ w = w') := ⟨fun w hg => by
        obtain ⟨m, hm⟩ := hg.m
        have h := skip_any s hs p hps m w hm
        rw [skip_fuel s.size (s.data.toList.drop p).length (s.data.toList.drop p) (by rw [HLEN.out]; omega) (Nat.le_refl _), HQ.out] at h
        exact h⟩
      clear hq hk hlen hbe
      obtain ⟨P, hP⟩ : ∃ P, P = p + k := ⟨_, rfl⟩
      have HPP := Veil.mk hP
      rw [← hP] at HSK hk'
      clear hP
      have hdd : Veil ((s.data.toList.drop p).drop k = s.data.toList.drop P) := ⟨by rw [List.drop_drop, HPP.out]⟩
      have hP0 : (0 : Int) ≤ (P : Int) := by omega
      cases ok with
      | false =>
        have HVN : Veil (r = .error (3, P)) := ⟨by rw [hR.out, scan_bad (by rw [HQ.out]), HQ.out, HPP.out]; rfl⟩
        have c0 : wr.cell? ⟨g, 0, none⟩ = some (.int .i64 0) := hbT.at_ 0
        have c1 : wr.cell? ⟨g, 1, none⟩ = some (.int .i64 0) := hbT.at_ 1
        have d0 := hbT.free 0
        have d1 := hbT.free 1
        clear hbT hown
        go_wp2_with (first | (go_at_call 10; ((with_reducible refine (HSK.out _ HGW.out).mono ?_); rintro e9 w9 ⟨rfl, rfl⟩)))
        obtain ⟨hz1, hz2⟩ := fillF HBT.out (.int .i64 3) (.int .i64 (P : Int)) HBB.out (by have := HGG.out; omega)
        generalize (wr.setCell ⟨g, 0, none⟩ (.int .i64 3)).setCell ⟨g, 1, none⟩ (.int .i64 (P : Int)) = W9 at hz1 hz2 ⊢
        have q0 : W9.cell? ⟨g, 0, none⟩ = some (.int .i64 3) := hz1.at_ 0
        have q1 : W9.cell? ⟨g, 1, none⟩ = some (.int .i64 (P : Int)) := hz1.at_ 1
        exact bodyPost_ret (v := .tuple #[.slice none 0 0, .agg #[.int .i64 3, .int .i64 (P : Int)]]) (by simp [results, Tryd.results7, go_sem, q0, q1]) rfl ⟨hz2, .inl ⟨_, _, HVN.out, rfl⟩⟩
      | true =>
        go_upto_region 9 with (first | (go_at_call 10; ((with_reducible refine (HSK.out _ HGW.out).mono ?_); rintro e9 w9 ⟨rfl, rfl⟩)))
        have hok : Veil ((skipL (s.data.toList.drop p).length (s.data.toList.drop p)).2 = true) := ⟨by rw [HQ.out]⟩
        obtain ⟨oa, oc, rfl⟩ := slice_own hown
        by_cases hend : P = s.size
        · have hend' : ((P : Int) == (s.size : Int)) = true := beq_iff_eq.2 (by omega)
          subst hend
          have HVN : Veil (r = .ok (ts ++ [(⟨0, [], 0, 0⟩, s.size)])) := ⟨by rw [hR.out, scan_end hok.out (by rw [HQ.out, hdd.out, List.drop_eq_nil_of_le (by rw [HLN.out]; omega)]), HQ.out, HPP.out]; rfl⟩
          clear hbT
          go_wp2_with (at_builtin; refine wpList_append_lies _ rfl _ _ 24 rfl b 31 iT (.agg #[.int .i64 0, .string ⟨#[]⟩, .int .i64 0, .int .i64 0]) 4 40 Tryd.underlying24 hiT hiT0 hiT1 hiT2 rfl (by decide) _ _ _ rfl (hown.alloc _) ⟨wr.heap.size, 0, none⟩ 1 1 [.int .i64 0, .string ⟨#[]⟩, .int .i64 (s.size : Int), .int .i64 0] rfl rfl (news_at _ _ rfl _ _) (by simp [Value.oneCell']) (by decide) (by unfold maxLen; omega) (by omega) (by have := HSW.out; simp; omega) _ rfl ?_; intro gg cap' w3 hown' hgrow3 hblk hg3; have hbe3 : Below b W0 w3 := (HBE.out.alloc HSW.out _).grown hgrow3 (by have := HSW.out; simp; omega) (fun k hk => (hown.lt k hk).1); have HBE3 := Veil.mk hbe3; have hb3 := HB0.out.on hbe3 hgb; have HBT3 := Veil.mk hb3; have c0 : w3.cell? ⟨g, 0, none⟩ = some (.int .i64 0) := hb3.at_ 0; have c1 : w3.cell? ⟨g, 1, none⟩ = some (.int .i64 0) := hb3.at_ 1; have d0 := hb3.free 0; have d1 := hb3.free 1; clear hb3 hbe3; refine Hid.out ?_)
          have HBB3 : Veil (Below w.heap.size w w3) := ⟨by rw [HGG.out]; exact (by have h := HL0.out; rw [HGG.out] at h; exact h : Below g w W0).trans (HBE3.out.mono (by omega))⟩
          refine Lib.hid ?_
          go_wp2
          obtain ⟨hz1, hz2⟩ := fillF HBT3.out (.int .i64 0) (.int .i64 0) HBB3.out (by have := HGG.out; omega)
          have ho9 := own_touch hown' ((Touch.put (S := fun k => k = g) rfl 0 (.int .i64 0)).trans (Touch.put (S := fun k => k = g) rfl 1 (.int .i64 0))) (fun k hk e => by have := (hown'.lt k hk).1; omega)
          generalize (w3.setCell ⟨g, 0, none⟩ (.int .i64 0)).setCell ⟨g, 1, none⟩ (.int .i64 0) = W9 at hz1 hz2 ho9 ⊢
          have q0 : W9.cell? ⟨g, 0, none⟩ = some (.int .i64 0) := hz1.at_ 0
          have q1 : W9.cell? ⟨g, 1, none⟩ = some (.int .i64 0) := hz1.at_ 1
          have hfl := tkFlat_last ts ⟨0, [], 0, 0⟩ s.size ⟨#[]⟩ rfl
          have ho10 := own_mono ho9 (show w.heap.size ≤ b by have := HGG.out; omega)
          refine bodyPost_ret (v := .tuple #[.slice (some ⟨gg, 0, none⟩) (ts.length + 1) cap', .agg #[.int .i64 0, .int .i64 0]]) (by simp [results, Tryd.results7, go_sem, q0, q1]) rfl ⟨hz2, .inr ⟨_, gg, cap', HVN.out, by rw [List.length_append]; rfl, ?_⟩⟩
          rw [← hfl, List.length_append]
          exact ho10
        · have hend' : ((P : Int) == (s.size : Int)) = false := beq_eq_false_iff_ne.2 (by omega)
          have hPs : P < s.size := by omega
          have hne : Veil ((s.data.toList.drop p).drop (skipL (s.data.toList.drop p).length (s.data.toList.drop p)).1 ≠ []) := ⟨by
            rw [HQ.out, hdd.out]
            intro h
            have h2 := congrArg List.length h
            rw [List.length_drop, HLN.out] at h2
            simp only [List.length_nil] at h2
            omega⟩
          have hnx : Veil (nextL ofL ((s.data.toList.drop p).drop (skipL (s.data.toList.drop p).length (s.data.toList.drop p)).1) = nextL ofL (s.data.toList.drop P)) := ⟨by rw [HQ.out, hdd.out]⟩
          have hPl : (s.data.toList.drop P).length = s.size - P := by rw [List.length_drop, HLN.out]
          cases hn : nextL ofL (s.data.toList.drop P) with
          | none =>
            have HNX : Veil (∀ w, Gl w → Calls Tryd.prog 11 #[.string s, .int .i64 (P : Int)] w (BelPost w (.tuple #[.agg #[.int .i64 0, .string ⟨#[]⟩, .int .i64 0, .int .i64 0], .int .i64 (P : Int)]))) := ⟨fun w hg => by
              have h := next_any ofL s hs (quoted_any s hs) P hPs w hg
              rw [hn] at h
              exact h⟩
            have HVN : Veil (r = .error (3, P)) := ⟨by rw [hR.out, scan_none hok.out hne.out (hnx.out.trans hn), HQ.out, HPP.out]; rfl⟩
            clear hn hbT hPl hend
            go_upto_region 12 with (first | (go_at_call 11; ((with_reducible refine (HNX.out _ HGW.out).mono ?_); rintro e9 w2 ⟨rfl, hb2⟩; have HB2 := Veil.mk hb2; clear hb2)))
            have hz1 : Box (w2.alloc (.cells #[.int .i64 0, .string ⟨#[]⟩, .int .i64 0, .int .i64 0] 31)) w2.heap.size 31 #[.int .i64 0, .string ⟨#[]⟩, .int .i64 0, .int .i64 0] := Box.new _ _ _
            have hz2 : Below w2.heap.size w2 (w2.alloc (.cells #[.int .i64 0, .string ⟨#[]⟩, .int .i64 0, .int .i64 0] 31)) := (Below.refl _ _).alloc (Nat.le_refl _) _
            generalize w2.alloc (.cells #[.int .i64 0, .string ⟨#[]⟩, .int .i64 0, .int .i64 0] 31) = W3 at hz1 hz2 ⊢
            obtain ⟨h, hh⟩ : ∃ h, w2.heap.size = h := ⟨_, rfl⟩
            have hbw3 : Below wr.heap.size wr W3 := HB2.out.trans (hz2.mono HB2.out.size)
            have HBW3 := Veil.mk hbw3
            have hbe3 : Below b W0 W3 := HBE.out.trans (hbw3.mono HSW.out)
            have HBE3 := Veil.mk hbe3
            have HSW3 : Veil (b ≤ W3.heap.size) := ⟨Nat.le_trans HSW.out hbw3.size⟩
            rw [hh] at hz1 ⊢
            have HZ1 := Veil.mk hz1
            have hb3 := HB0.out.on hbe3 hgb
            have HBT3 := Veil.mk hb3
            have c0 : W3.cell? ⟨g, 0, none⟩ = some (.int .i64 0) := hb3.at_ 0
            have c1 : W3.cell? ⟨g, 1, none⟩ = some (.int .i64 0) := hb3.at_ 1
            have d0 := hb3.free 0
            have d1 := hb3.free 1
            have HBB3 : Veil (Below w.heap.size w W3) := ⟨by rw [HGG.out]; exact (by have h := HL0.out; rw [HGG.out] at h; exact h : Below g w W0).trans (HBE3.out.mono (by omega))⟩
            clear hz1 hz2 hb3 hbe3 hbw3
            go_wp2
            obtain ⟨hz1, hz2⟩ := fillF HBT3.out (.int .i64 3) (.int .i64 (P : Int)) HBB3.out (by have := HGG.out; omega)
            generalize (W3.setCell ⟨g, 0, none⟩ (.int .i64 3)).setCell ⟨g, 1, none⟩ (.int .i64 (P : Int)) = W9 at hz1 hz2 ⊢
            have q0 : W9.cell? ⟨g, 0, none⟩ = some (.int .i64 3) := hz1.at_ 0
            have q1 : W9.cell? ⟨g, 1, none⟩ = some (.int .i64 (P : Int)) := hz1.at_ 1
            exact bodyPost_ret (v := .tuple #[.slice none 0 0, .agg #[.int .i64 3, .int .i64 (P : Int)]]) (by simp [results, Tryd.results7, go_sem, q0, q1]) rfl ⟨hz2, .inl ⟨_, _, HVN.out, rfl⟩⟩
          | some tk =>
            obtain ⟨hl1, hl2⟩ := next_len _ _ _ hn
            rw [hPl] at hl2
            obtain ⟨E, hE⟩ : ∃ E, E = P + tk.len := ⟨_, rfl⟩
            have hEs : E ≤ s.size := by omega
            have hEP : P < E := by omega
            have hEP2 : ((E : Int) == (P : Int)) = false := beq_eq_false_iff_ne.2 (by omega)
            obtain ⟨x, hx⟩ : ∃ x : ByteArray, x = ⟨tk.text.toArray⟩ := ⟨_, rfl⟩
            have HX := Veil.mk hx
            have HNX : Veil (∀ w, Gl w → Calls Tryd.prog 11 #[.string s, .int .i64 (P : Int)] w (BelPost w (.tuple #[.agg #[.int .i64 (tk.kind : Int), .string x, .int .i64 (P : Int), .int .i64 tk.n], .int .i64 (E : Int)]))) := ⟨fun w hg => by
              have h := next_any ofL s hs (quoted_any s hs) P hPs w hg
              rw [hn, tokV_some hx hE.symm] at h
              exact h⟩
            have HRN : Veil (r = joinS (ts ++ [(tk, P)]) (scanL ofL f (s.data.toList.drop E) E)) := ⟨by
              rw [hR.out, scan_next hok.out hne.out (hnx.out.trans hn), HQ.out, List.drop_drop, ← HPP.out, hE, show p + (k + tk.len) = P + tk.len by rw [HPP.out, Nat.add_assoc]]⟩
            have hpE : p < E := by have := HPP.out; omega
            clear hn hbT hPl hend hx hE hl1 hl2 hR
            go_upto_region 12 with (first | (go_at_call 11; ((with_reducible refine (HNX.out _ HGW.out).mono ?_); rintro e9 w2 ⟨rfl, hb2⟩; have HB2 := Veil.mk hb2; clear hb2)))
            have hz1 : Box (w2.alloc (.cells #[.int .i64 (tk.kind : Int), .string x, .int .i64 (P : Int), .int .i64 tk.n] 31)) w2.heap.size 31 #[.int .i64 (tk.kind : Int), .string x, .int .i64 (P : Int), .int .i64 tk.n] := Box.new _ _ _
            have hz2 : Below w2.heap.size w2 (w2.alloc (.cells #[.int .i64 (tk.kind : Int), .string x, .int .i64 (P : Int), .int .i64 tk.n] 31)) := (Below.refl _ _).alloc (Nat.le_refl _) _
            generalize w2.alloc (.cells #[.int .i64 (tk.kind : Int), .string x, .int .i64 (P : Int), .int .i64 tk.n] 31) = W3 at hz1 hz2 ⊢
            obtain ⟨h, hh⟩ : ∃ h, w2.heap.size = h := ⟨_, rfl⟩
            have hbw3 : Below wr.heap.size wr W3 := HB2.out.trans (hz2.mono HB2.out.size)
            have HBW3 := Veil.mk hbw3
            have hbe3 : Below b W0 W3 := HBE.out.trans (hbw3.mono HSW.out)
            have HBE3 := Veil.mk hbe3
            have HSW3 : Veil (b ≤ W3.heap.size) := ⟨Nat.le_trans HSW.out hbw3.size⟩
            rw [hh] at hz1 ⊢
            have HZ1 := Veil.mk hz1
            have hown3 := own_touch hown (Touch.of_below (S := fun _ => False) hbw3) (fun _ _ h => h)
            have q0 : W3.cell? ⟨h, 0, none⟩ = some (.int .i64 (tk.kind : Int)) := hz1.at_ 0
            have q1 : W3.cell? ⟨h, 1, none⟩ = some (.string x) := hz1.at_ 1
            have q2 : W3.cell? ⟨h, 2, none⟩ = some (.int .i64 (P : Int)) := hz1.at_ 2
            have q3 : W3.cell? ⟨h, 3, none⟩ = some (.int .i64 tk.n) := hz1.at_ 3
            clear hz1 hz2 hbe3 hbw3 hown hh
            go_wp2_with (at_builtin; refine wpList_append_lies _ rfl _ _ 24 rfl b 31 iT (.agg #[.int .i64 0, .string ⟨#[]⟩, .int .i64 0, .int .i64 0]) 4 40 Tryd.underlying24 hiT hiT0 hiT1 hiT2 rfl (by decide) _ _ _ rfl (hown3.alloc _) ⟨W3.heap.size, 0, none⟩ 1 1 [.int .i64 (tk.kind : Int), .string x, .int .i64 (P : Int), .int .i64 tk.n] rfl rfl (news_at _ _ rfl _ _) (by simp [Value.oneCell']) (by decide) (by unfold maxLen; omega) (by omega) (by have := HSW3.out; simp; omega) _ rfl ?_; intro gg cap' w3 hown' hgrow3 hblk hg3; have hbe4 : Below b W0 w3 := (HBE3.out.alloc HSW3.out _).grown hgrow3 (by have := HSW3.out; simp; omega) (fun k hk => (hown3.lt k hk).1); refine Hid.out ?_)
            have hfl := tkFlat_last ts tk P x HX.out
            rw [hfl, show ts.length + 1 = (ts ++ [(tk, P)]).length by rw [List.length_append]; rfl] at hown'
            have HO := Veil.mk hown'
            have hlen2 : (ts ++ [(tk, P)]).length = ts.length + 1 := by rw [List.length_append]; rfl
            clear hown' hgrow3 hfl hown3
            refine Lib.hid ?_
            go_wp2
            go_roundw
            case rel => exact ⟨E, f, ts ++ [(tk, P)], hEs, by omega, by go_num, by omega, (by have h := HO.out; rw [hlen2] at h ⊢; exact h), hbe4, HRN⟩
            case measure => simp [intOf]; omega
end Go.Proofs.YtfejompnjaifmaaDoor
