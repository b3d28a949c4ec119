/- Tables: how one lies in memory; its bucket of a key. -/
import Derived.Test.YtgdkjkfbknbgkaaGreatDoorFm
namespace Go.Proofs.YtgdkjkfbknbgkaaGreatDoor
open Go.RowKit

def slCells (s : Sl) : List Value := [.int .i64 s.key.1, .int .i64 s.key.2.1, .string s.key.2.2, .int .i64 s.val.1, .int .i64 s.val.2.1, .string s.val.2.2, .int .i64 s.fl, .bool s.live, .int .i64 (s.next : Int)]
def slFlat (l : List Sl) : List Value := l.flatMap slCells
def bucketC (T : Tab) : List Value := (List.range T.nb).map fun b => .int .i64 (lastB T.hs b : Int)
def curC (l : List (Nat × Nat)) : List Value := l.map fun c => .pointer (some ⟨c.1, 0, none⟩)
theorem old_cells {W w1 : World} (hb : Below W.heap.size W w1) : (∀ b o, b < W.heap.size → w1.cell? ⟨b, o, none⟩ = W.cell? ⟨b, o, none⟩) ∧ (∀ b o, b < W.heap.size → w1.frozen? ⟨b, o, none⟩ = W.frozen? ⟨b, o, none⟩) :=
  ⟨fun b o h => hb.cell (p := ⟨b, o, none⟩) h, fun b o h => hb.frozen (p := ⟨b, o, none⟩) h⟩
/-- Table t lies so in memory, all of it from B on. -/
structure TabAt (w : World) (B t : Nat) (T : Tab) (vs vb vc : Value) : Prop where
  box : Box w t 173 #[vs, vb, .int .i64 (T.cnt : Int), vc]
  os : w.ownsRow B 169 9 vs T.sl.length (slFlat T.sl)
  ob : w.ownsRow B 3 1 vb T.nb (bucketC T)
  oc : w.ownsRow B 94 1 vc T.cur.length (curC T.cur)
  cs : ∀ (i : Nat) c, T.cur[i]? = some c → B ≤ c.1 ∧ Box w c.1 199 #[.pointer (some ⟨t, 0, none⟩), .int .i64 (c.2 : Int), .int .i64 (i : Int)]
  bt : B ≤ t
/-- The blocks that are a table's own. -/
def Foot (t : Nat) (T : Tab) (vs vb vc : Value) (k : Nat) : Prop := k = t ∨ vs.ownBlock = some k ∨ vb.ownBlock = some k ∨ vc.ownBlock = some k ∨ ∃ c ∈ T.cur, c.1 = k
theorem TabAt.touch {w w' : World} {B t : Nat} {T : Tab} {vs vb vc : Value} {S : Nat → Prop} (h : TabAt w B t T vs vb vc) (ht : Touch S w w') (hn : ∀ k, Foot t T vs vb vc k → ¬ S k) : TabAt w' B t T vs vb vc :=
  ⟨h.box.touch ht (hn t (.inl rfl)), own_touch h.os ht (fun k hk => hn k (.inr (.inl hk))), own_touch h.ob ht (fun k hk => hn k (.inr (.inr (.inl hk)))), own_touch h.oc ht (fun k hk => hn k (.inr (.inr (.inr (.inl hk))))),
    fun i c hc => ⟨(h.cs i c hc).1, (h.cs i c hc).2.touch ht (hn c.1 (.inr (.inr (.inr (.inr ⟨c, List.mem_of_getElem? hc, rfl⟩)))))⟩, h.bt⟩
theorem TabAt.on {w w' : World} {B t : Nat} {T : Tab} {vs vb vc : Value} (h : TabAt w B t T vs vb vc) (hb : Below w.heap.size w w') : TabAt w' B t T vs vb vc := h.touch (S := fun _ => False) (Touch.of_below hb) (fun _ _ h => h)
theorem and_mask (j : Nat) (hj : j ≤ 30) (n : Int) (h0 : 0 ≤ n) (h1 : n < 4294967296) : bits .and .i64 n (((2 ^ j : Nat) : Int) - 1) = ((n.toNat % 2 ^ j : Nat) : Int) := by
  have := bits_mask .i64 62 (by decide) (fun n h0 h1 => IntWalk.i64_in _ (by omega)) j (by omega) n h0 (by omega)
  rw [show ((2 ^ j : Nat) : Int) = (2 : Int) ^ j by simp, this]
  obtain ⟨a, rfl⟩ := Int.eq_ofNat_of_zero_le h0
  simp

theorem hash_range (x : Vt) : 0 ≤ hashT x ∧ hashT x < 4294967296 := by
  unfold hashT hashR
  generalize hashB _ _ = a
  show 0 ≤ IntKind.u32.wrap _ ∧ IntKind.u32.wrap _ < _
  rw [IntKind.wrap_u32]
  omega
set_option maxHeartbeats 2000000 in
set_option maxRecDepth 100000 in
theorem bucket_any (t nb cap : Nat) (ao : Option Addr) (a b d : Value) (j : Nat) (hj : j ≤ 30) (hnb : nb = 2 ^ j) (k : Vt) (hk : k.2.2.size ≤ 1000) (w : World) (hB : Box w t 173 #[a, .slice ao nb cap, b, d]) :
    Calls Tryz.prog 106 #[.pointer (some ⟨t, 0, none⟩), valV k] w fun e w' => e = .returned (.int .i64 (bucketOf nb k : Int)) ∧ Below w.heap.size w w' := by
  have hlt := hB.lt
  have hbx := Box.new w 30 #[.int .i64 k.1, .int .i64 k.2.1, .string k.2.2]
  have hc1 : (w.alloc (.cells #[.int .i64 k.1, .int .i64 k.2.1, .string k.2.2] 30)).cell? ⟨t, 1, none⟩ = some (.slice ao nb cap) := (hB.more _).at_ 1
  have HH := Veil.mk (fun w => hashT_any k (by omega) w)
  obtain ⟨r1, r2⟩ := hash_range k
  have HM := Veil.mk (and_mask j hj (hashT k) r1 r2)
  have HU : Veil (bucketOf nb k = (hashT k).toNat % 2 ^ j) := ⟨by unfold bucketOf; rw [hnb]⟩
  obtain ⟨h, hh⟩ : ∃ h, h = hashT k := ⟨_, rfl⟩
  rw [← hh] at HH HM HU r1 r2
  have hnb2 : nb ≤ 1073741824 := by rw [hnb]; exact Nat.le_trans (Nat.pow_le_pow_right (by omega) hj) (by decide)
  have hnb3 : 0 < nb := by rw [hnb]; exact Nat.two_pow_pos j
  have s1 : IntKind.i64.wrap h = h := IntWalk.i64_in _ (by omega)
  have s2 : IntKind.i64.wrap ((nb : Int) - 1) = (nb : Int) - 1 := IntWalk.i64_in _ (by omega)
  have hand : bits .and .i64 h ((nb : Int) - 1) = ((bucketOf nb k : Nat) : Int) := by
    rw [HU.out, hnb]; exact HM.out
  obtain ⟨q, hq⟩ : ∃ q, q = bucketOf nb k := ⟨_, rfl⟩
  rw [← hq] at hand ⊢
  clear hh hq hnb HM HU hk hB
  have x0 := hbx.at_ 0
  have x1 := hbx.at_ 1
  have x2 := hbx.at_ 2
  obtain ⟨W, hW⟩ : ∃ W, W = w.alloc (.cells #[.int .i64 k.1, .int .i64 k.2.1, .string k.2.2] 30) := ⟨_, rfl⟩
  have hBW : Below w.heap.size w W := by rw [hW]; exact (Below.refl _ _).alloc (Nat.le_refl _) _
  have hWs : W.heap.size = w.heap.size + 1 := by rw [hW]; simp
  have HW := Veil.mk hW
  go_enter Tryz.func106, Tryz.ntmps106
  go_wp2
  rw [← HW.out] at x0 x1 x2 hc1 ⊢
  have l1 : t < W.heap.size := by omega
  have l2 : w.heap.size < W.heap.size := by omega
  clear hW hWs HW
  go_region_held3 (fun w' => w'.cell? ⟨w.heap.size, 0, none⟩ = some (.int .i64 k.1) ∧ w'.cell? ⟨w.heap.size, 1, none⟩ = some (.int .i64 k.2.1) ∧ w'.cell? ⟨w.heap.size, 2, none⟩ = some (.string k.2.2) ∧ w'.cell? ⟨t, 1, none⟩ = some (.slice ao nb cap)) (go_keep) (((with_reducible refine (HH.out _).mono ?_); rintro e w1 ⟨rfl, hb1⟩; have y0 := (old_cells hb1).1 _ 0 l2; have y1 := (old_cells hb1).1 _ 1 l2; have y2 := (old_cells hb1).1 _ 2 l2; have y3 := (old_cells hb1).1 _ 1 l1))
  all_goals
    go_wp2
    go_ret
    exact ⟨rfl, hBW.trans (((Below.refl W.heap.size W).drew.trans hb1).mono hBW.size)⟩
end Go.Proofs.YtgdkjkfbknbgkaaGreatDoor
