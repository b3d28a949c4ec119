/- Tables: Cursor. -/
import Derived.Test.YtbeapojjbgkalaaDoorFn
namespace Go.Proofs.YtbeapojjbgkalaaDoor
open Go.RowKit

theorem Tryd.infoC : (Tryd.prog.info? 32).map (fun i => (i.zero, i.size, i.bytes)) = some (some (.pointer none), 1, 8) := by kernel_rfl
def curT (T : Tab) (c : Nat) : Tab := { T with cur := T.cur ++ [(c, 0)] }
theorem good_cur {T : Tab} (h : Good T) (c : Nat) : Good (curT T c) := ⟨⟨h.inv.hlen, h.inv.nb, h.inv.cap, h.inv.next, h.inv.live, h.inv.uniq, h.inv.cnt, h.inv.hlt⟩, h.slack, fun x hx => by
  rcases List.mem_append.1 (show x ∈ T.cur ++ [(c, 0)] from hx) with h1 | h1
  · exact h.cat x h1
  · cases List.mem_singleton.1 h1; exact Nat.zero_le _⟩
theorem obs_cur (T : Tab) (c : Nat) : obs (curT T c) = ((obs T).1, (obs T).2 ++ [(c, (obs T).1)]) := by
  unfold obs curT
  simp
def CurPost (B t : Nat) (T : Tab) (F : Nat → Prop) (w : World) (e : Ending) (w' : World) : Prop := e = .returned (.pointer (some ⟨w.heap.size, 0, none⟩)) ∧ TabPost B t (curT T w.heap.size) F w w'

set_option maxHeartbeats 4000000 in
set_option maxRecDepth 100000 in
theorem cursor_any (B t : Nat) (T : Tab) (vs vb vc : Value) (hcur : T.cur.length < 100000) (w : World) (h : TabAt w B t T vs vb vc) :
    Calls Tryd.prog 64 #[.pointer (some ⟨t, 0, none⟩)] w (CurPost B t T (Foot t T vs vb vc) w) := by
  obtain ⟨i0, hi, hz0, hz1, hz2⟩ := info_parts Tryd.infoC
  obtain ⟨cc, cl, rfl, hcl, hgc, hmc⟩ := slice_own h.oc
  have t3 : w.cell? ⟨t, 3, none⟩ = some (.slice cc T.cur.length cl) := h.box.at_ 3
  obtain ⟨W, hW⟩ : ∃ W, W = w.alloc (.cells #[.pointer (some ⟨t, 0, none⟩), .int .i64 0, .int .i64 (T.cur.length : Int)] 133) := ⟨_, rfl⟩
  have hBW : Below w.heap.size w W := by rw [hW]; exact (Below.refl _ _).alloc (Nat.le_refl _) _
  have hC : Box W w.heap.size 133 #[.pointer (some ⟨t, 0, none⟩), .int .i64 0, .int .i64 (T.cur.length : Int)] := by rw [hW]; exact Box.new w _ _
  have hT := h.on hBW
  have HW := Veil.mk hW
  have HH := Veil.mk h
  clear hW h hgc
  go_enter Tryd.func64, Tryd.ntmps64
  go_upto_region 4 with (fail)
  rw [← HW.out]
  have d3 : W.cell? ⟨t, 3, none⟩ = some (.slice cc T.cur.length cl) := hT.box.at_ 3
  have d3f := hT.box.free 3
  have hBs : B ≤ W.heap.size := by have := hT.bt; have := hT.box.lt; omega
  have hap := hT.box.apart hT.oc (by decide)
  have tl2 : t < W.heap.size := hT.box.lt
  clear t3
  go_wp2_with (at_builtin; refine wpList_append_lies _ rfl _ _ 71 rfl B 32 i0 (.pointer none) 1 8 Tryd.underlying71 hi hz0 hz1 hz2 rfl (by decide) _ _ _ rfl (hT.oc.alloc _) ⟨W.heap.size, 0, none⟩ 1 1 [.pointer (some ⟨w.heap.size, 0, none⟩)] rfl rfl (news_at _ _ rfl _ _) (by simp [Value.oneCell']) (by decide) (by unfold maxLen; omega) (by omega) (by simp; omega) _ rfl ?_; intro g cap' w3 hown' hgrow3 hblk hg3; have hx3 : Box w3 t _ _ := (hT.box.more _).grown hgrow3 hap; have e12 : w3.cell? ⟨t, 3, none⟩ = some (.slice cc T.cur.length cl) := hx3.at_ 3; have e13 := hx3.free 3; refine Hid.out ?_)
  have hgrow : (W.alloc (.cells #[.pointer (some ⟨w.heap.size, 0, none⟩)] 32)).grownBy w3 (Value.slice cc T.cur.length cl).ownBlock := hgrow3
  have hblk' : (Value.slice cc T.cur.length cl).ownBlock = some g ∨ g = (W.alloc (.cells #[.pointer (some ⟨w.heap.size, 0, none⟩)] 32)).heap.size := hblk
  have ht : Touch (fun k => (Value.slice cc T.cur.length cl).ownBlock = some k) W w3 := (Touch.of_below ((Below.refl W.heap.size W).alloc (Nat.le_refl _) (.cells #[.pointer (some ⟨w.heap.size, 0, none⟩)] 32))).trans (Touch.of_grown hgrow (fun k hk => hk))
  have hD : CurPost B t T (Foot t T vs vb (.slice cc T.cur.length cl)) w (.returned (.pointer (some ⟨w.heap.size, 0, none⟩))) (w3.setCell ⟨t, 3, none⟩ (.slice (some ⟨g, 0, none⟩) (T.cur.length + 1) cap')) := by
    have tp : Touch (fun k => k = t) w3 (w3.setCell ⟨t, 3, none⟩ (.slice (some ⟨g, 0, none⟩) (T.cur.length + 1) cap')) := Touch.put (S := fun k => k = t) rfl _ _
    have lc := own_lab hT.oc
    have o3 := own_touch hT.os ht (fun k hk e => (lc k e).ne (own_lab hT.os k hk) (by decide) rfl)
    have b3 := own_touch hT.ob ht (fun k hk e => (lc k e).ne (own_lab hT.ob k hk) (by decide) rfl)
    have c3 : Box w3 w.heap.size _ _ := hC.touch ht (fun e => (lc _ e).ne hC.lab (by decide) rfl)
    have k3 : ∀ (i : Nat) c, T.cur[i]? = some c → B ≤ c.1 ∧ Box w3 c.1 133 #[.pointer (some ⟨t, 0, none⟩), .int .i64 (c.2 : Int), .int .i64 (i : Int)] := fun i c hc => ⟨(hT.cs i c hc).1, (hT.cs i c hc).2.touch ht (fun e => (lc c.1 e).ne (hT.cs i c hc).2.lab (by decide) rfl)⟩
    have hBw : B ≤ w.heap.size := by have := HH.out.bt; have := HH.out.box.lt; omega
    refine ⟨rfl, vs, vb, .slice (some ⟨g, 0, none⟩) (T.cur.length + 1) cap', ⟨hx3.put 3 _, own_touch o3 tp (fun k hk e => ((own_lab o3 k hk).ne hx3.lab (by decide)) e), own_touch b3 tp (fun k hk e => ((own_lab b3 k hk).ne hx3.lab (by decide)) e), ?_, ?_, hT.bt⟩, ?_, ?_⟩
    · have := own_touch hown' tp (fun k hk e => ((own_lab hown' k hk).ne hx3.lab (by decide)) e)
      show World.ownsRow _ B _ 1 _ (T.cur ++ [(w.heap.size, 0)]).length (curC (T.cur ++ [(w.heap.size, 0)]))
      rw [List.length_append, show curC (T.cur ++ [(w.heap.size, 0)]) = curC T.cur ++ [.pointer (some ⟨w.heap.size, 0, none⟩)] by simp [curC]]
      exact this
    · intro i c hc
      rcases get_snoc (show (T.cur ++ [(w.heap.size, 0)])[i]? = some c from hc) with ⟨h1, _⟩ | ⟨h1, h2⟩
      · exact ⟨(k3 i c h1).1, (k3 i c h1).2.touch tp (fun e => ((k3 i c h1).2.lab.ne hx3.lab (by decide)) e)⟩
      · rw [h1, h2]
        exact ⟨hBw, c3.touch tp (fun e => (c3.lab.ne hx3.lab (by decide)) e)⟩
    · exact (Touch.of_below hBW).trans ((ht.mono (fun k hk => .inr (.inr (.inr (.inl hk))))).trans (tp.mono (fun k hk => .inl hk)))
    · rintro k (hk | hk | hk | hk | ⟨c, hc, hk⟩)
      · exact .inl (.inl hk)
      · exact .inl (.inr (.inl hk))
      · exact .inl (.inr (.inr (.inl hk)))
      · cases hk
        rcases hblk' with hb | hb
        · exact .inl (.inr (.inr (.inr (.inl hb))))
        · have := hBW.size
          refine .inr ?_
          show w.heap.size ≤ g
          rw [hb, World.size_alloc]
          omega
      · rcases List.mem_append.1 (show c ∈ T.cur ++ [(w.heap.size, 0)] from hc) with h1 | h1
        · exact .inl (.inr (.inr (.inr (.inr ⟨c, h1, hk⟩))))
        · cases List.mem_singleton.1 h1
          exact .inr (by rw [← hk]; exact Nat.le_refl _)
  have HD := Veil.mk hD
  clear hD ht hblk' hgrow hgrow3 hblk hown' hx3 hT hC hap
  refine Lib.hid ?_
  go_wp2
  go_ret
  exact HD.out
end Go.Proofs.YtbeapojjbgkalaaDoor
