/- TextSigns: the reference's Signs: a row of slices, each in a block of its own. -/
import Derived.Test.YtbkgophgclpijaaSb
import Derived.Deep.AppendLies
import Derived.Deep.RegionLaw
namespace Go.Proofs.Ytbkgophgclpijaa
open Go.RowKit

/-- The slice values xs are, one by one, slices of the numbers in pre, each one whole in a block of its own from B on. -/
def SignsAt (B : Nat) (w : World) (xs : List Value) (pre : List (List Nat)) : Prop :=
  xs.length = pre.length ∧ ∀ (j : Nat) us, pre[j]? = some us → ∃ g fr, xs[j]? = some (.slice (some ⟨g, 0, none⟩) us.length us.length) ∧ B ≤ g ∧ w.heap[g]? = some (.cells (numC us).toArray 3 fr)
theorem SignsAt.nil (B : Nat) (w : World) : SignsAt B w [] [] := ⟨rfl, fun j us h => by simp at h⟩
theorem SignsAt.snoc {B : Nat} {w : World} {xs : List Value} {pre : List (List Nat)} (h : SignsAt B w xs pre) (us : List Nat) (g : Nat) (fr : Nat × Nat) (hg : B ≤ g) (hc : w.heap[g]? = some (.cells (numC us).toArray 3 fr)) :
    SignsAt B w (xs ++ [.slice (some ⟨g, 0, none⟩) us.length us.length]) (pre ++ [us]) := by
  refine ⟨by simp [h.1], fun j vs hj => ?_⟩
  by_cases hlt : j < pre.length
  · rw [List.getElem?_append_left hlt] at hj
    obtain ⟨g', fr', h1, h2, h3⟩ := h.2 j vs hj
    exact ⟨g', fr', by rw [List.getElem?_append_left (by rw [h.1]; exact hlt)]; exact h1, h2, h3⟩
  · have hjl : j = pre.length := by
      have := (List.getElem?_eq_some_iff.1 hj).1
      simp at this; omega
    subst hjl
    rw [List.getElem?_append_right (Nat.le_refl _), Nat.sub_self] at hj
    simp at hj
    subst hj
    exact ⟨g, fr, by rw [List.getElem?_append_right (by rw [h.1]; exact Nat.le_refl _), h.1, Nat.sub_self]; rfl, hg, hc⟩
/-- A growth that writes a row of slices alone leaves the slices' own blocks. -/
theorem SignsAt.grown {B : Nat} {w w' : World} {xs : List Value} {pre : List (List Nat)} (h : SignsAt B w xs pre) {row : Option Nat} (hg : w.grownBy w' row) (hr : ∀ r, row = some r → ∃ cur fr, w.heap[r]? = some (.cells cur 27 fr)) : SignsAt B w' xs pre := by
  refine ⟨h.1, fun j us hj => ?_⟩
  obtain ⟨g, fr, h1, h2, h3⟩ := h.2 j us hj
  refine ⟨g, fr, h1, h2, ?_⟩
  rw [hg.block g (Array.getElem?_eq_some_iff.1 h3).1 (fun e => ?_)]
  · exact h3
  · obtain ⟨cur, fr', hc⟩ := hr g e.symm
    rw [h3] at hc
    injection hc with hc
    injection hc with _ hc _
    exact absurd hc (by decide)
theorem SignsAt.alloc {B : Nat} {w : World} {xs : List Value} {pre : List (List Nat)} (h : SignsAt B w xs pre) (o : Obj) : SignsAt B (w.alloc o) xs pre :=
  h.grown (World.grownBy_alloc w o none) (fun r e => by cases e)
theorem SignsAt.drew {B : Nat} {w : World} {xs : List Value} {pre : List (List Nat)} (h : SignsAt B w xs pre) : SignsAt B w.drew xs pre := h
theorem own_block27 {w : World} {B : Nat} {v : Value} {n : Nat} {xs : List Value} (h : w.ownsRow B 27 1 v n xs) : ∀ r, v.ownBlock = some r → ∃ cur fr, w.heap[r]? = some (.cells cur 27 fr) := fun r hr => by
  rcases h.2 with ⟨rfl, _⟩ | ⟨g, cap, cur, rfl, _, hc, _⟩
  · cases hr
  · cases hr; exact ⟨cur, _, hc⟩
theorem Try.info27 : (Try.prog.info? 27).map (fun i => (i.zero, i.size, i.bytes)) = some (some (.slice none 0 0), 1, 24) := by kernel_rfl

theorem signs_one (l : List Nat) (k : Nat) (hk : k < l.length) (h : (isHi (l[k]?.getD 0) && isLo (l[k + 1]?.getD 0)) = false) : signs (l.drop k) = [l[k]?.getD 0] :: signs (l.drop (k + 1)) := by
  have e : (ptP (l[k]?.getD 0) (l[k + 1]?.getD 0)).2 = 1 := by simp [ptP, h]
  obtain ⟨hs, _⟩ := signs_step l k hk
  rw [e] at hs
  rw [hs, List.drop_eq_getElem_cons hk, List.getElem?_eq_getElem hk]
  rfl
theorem signs_two (l : List Nat) (k : Nat) (hk : k + 1 < l.length) (h : (isHi (l[k]?.getD 0) && isLo (l[k + 1]?.getD 0)) = true) : signs (l.drop k) = [l[k]?.getD 0, l[k + 1]?.getD 0] :: signs (l.drop (k + 2)) := by
  have e : (ptP (l[k]?.getD 0) (l[k + 1]?.getD 0)).2 = 2 := by simp [ptP, h]
  have hk0 : k < l.length := by omega
  obtain ⟨hs, _⟩ := signs_step l k hk0
  rw [e] at hs
  rw [hs, List.drop_eq_getElem_cons hk0, List.drop_eq_getElem_cons hk, List.getElem?_eq_getElem hk, List.getElem?_eq_getElem hk0]
  rfl
theorem isHi_eq (u : Nat) : isHi u = true ↔ 55296 ≤ u ∧ u ≤ 56319 := by simp [isHi]
theorem isLo_eq (u : Nat) : isLo u = true ↔ 56320 ≤ u ∧ u ≤ 57343 := by simp [isLo]

theorem lo_false {u : Nat} (h : u < 56320 ∨ 57343 < u) : isLo u = false := by
  rcases hv : isLo u with _ | _
  · rfl
  · have := (isLo_eq u).1 hv; omega
theorem hi_false {u : Nat} (h : u < 55296 ∨ 56319 < u) : isHi u = false := by
  rcases hv : isHi u with _ | _
  · rfl
  · have := (isHi_eq u).1 hv; omega
theorem cells_new1 (w : World) (o : Obj) (x : Value) (t : TypeId) : ∀ (j : Nat) u, [x][j]? = some u → ((w.alloc o).alloc (.cells #[x] t)).cell? ((⟨w.heap.size + 1, 0, none⟩ : Addr).add j) = some u := by
  have := cells_new (w.alloc o) [x] t
  rwa [World.size_alloc] at this
theorem block_new1 (w : World) (o o' : Obj) : ((w.alloc o).alloc o').heap[w.heap.size]? = some o := by
  rw [(Below.heap_alloc _ _ _ (by simp))]; exact World.alloc_heap_new w o
def SignsPost (B : Nat) (w : World) (l : List Nat) (e : Ending) (w' : World) : Prop := ∃ v xs, e = .returned v ∧ w'.ownsRow B 27 1 v (signs l).length xs ∧ SignsAt B w' xs (signs l) ∧ Below B w w'

set_option maxRecDepth 1000000 in
set_option maxHeartbeats 4000000 in
theorem refSigns_any (a : Option Addr) (n cap : Nat) (l : List Nat) (hn : n ≤ 1000000) (hlt : ∀ u ∈ l, u < 65536) (w : World) (h : Nums .i64 w a n l) :
    Calls Try.prog 7 #[.slice a n cap] w (SignsPost w.heap.size w l) := by
  obtain ⟨i0, hi, hz0, hz1, hz2⟩ := info_parts Try.info27
  have HN := Veil.mk h
  have HLT := Veil.mk hlt
  clear h hlt
  go_enter Try.func7, Try.ntmps7
  go_wp2
  go_loopw [3, 4] (fun v i wr => ∃ (k : Nat) (pre : List (List Nat)) (xs : List Value), k ≤ n ∧ i = .int .i64 (k : Int) ∧ Veil (signs l = pre ++ signs (l.drop k)) ∧ wr.ownsRow w.heap.size 27 1 v pre.length xs ∧ pre.length ≤ k ∧ SignsAt w.heap.size wr xs pre ∧ Below w.heap.size w wr) (fun _ i _ => n - (intOf i).toNat)
  case atStart => exact ⟨0, [], [], by omega, rfl, ⟨rfl⟩, World.ownsRow_nil _ _ _ _, Nat.le_refl _, SignsAt.nil _ _, Below.refl _ _⟩
  case round =>
    obtain ⟨k, pre, xs, hk, rfl, HP, hown, hpl, hsg, hbw⟩ := hrel
    by_cases hp : k < n
    · obtain ⟨b, o, rfl, hbl, hc⟩ := HN.out.2 (by omega)
      have hll := HN.out.1
      have hcell : wr.cell? ⟨b, o + k, none⟩ = some (.int .i64 ((l[k]?.getD 0 : Nat) : Int)) := by rw [hbw.cell (p := ⟨b, o + k, none⟩) hbl]; exact hc k hp
      have hu : l[k]?.getD 0 < 65536 := by rw [List.getElem?_eq_getElem (by omega)]; exact HLT.out _ (List.getElem_mem _)
      have hone := signs_one l k (by omega)
      have htwo : k + 1 < n → _ := fun hh => signs_two l k (by omega)
      have hcell2 : k + 1 < n → wr.cell? ⟨b, o + (k + 1), none⟩ = some (.int .i64 ((l[k + 1]?.getD 0 : Nat) : Int)) := fun hh => by rw [hbw.cell (p := ⟨b, o + (k + 1), none⟩) hbl]; exact hc (k + 1) hh
      have hv0 : ¬ k + 1 < n → l[k + 1]?.getD 0 = 0 := fun hh => by rw [List.getElem?_eq_none (by omega)]; rfl
      obtain ⟨u, hud⟩ : ∃ u, u = l[k]?.getD 0 := ⟨_, rfl⟩
      obtain ⟨v, hvd⟩ : ∃ v, v = l[k + 1]?.getD 0 := ⟨_, rfl⟩
      rw [← hud] at hcell hu hone htwo
      rw [← hvd] at hone htwo hcell2 hv0
      have hlti : (k : Int) < (n : Int) := by omega
      have hk0 : (0 : Int) ≤ (k : Int) := by omega
      have hw := hbw.size
      clear hud hvd hc hll
      have q1 : IntKind.i64.wrap ((k : Int) + 1) = (k : Int) + 1 := IntWalk.i64_in _ (by omega)
      have q2 : (0 : Int) ≤ (k : Int) + 1 := by omega
      have q3 : ((k : Int) + 1).toNat = k + 1 := by omega
      by_cases h1 : 55296 ≤ u
      · by_cases h2 : u ≤ 56319
        · have g1 : (55296 : Int) ≤ (u : Int) := by omega
          have g2 : (u : Int) ≤ 56319 := by omega
          have hH : isHi u = true := (isHi_eq u).2 ⟨h1, h2⟩
          by_cases h3 : k + 1 < n
          · have g3 : (k : Int) + 1 < (n : Int) := by omega
            replace hcell2 := hcell2 h3
            by_cases h4 : 56320 ≤ v
            · by_cases h5 : v ≤ 57343
              · have g4 : (56320 : Int) ≤ (v : Int) := by omega
                have g5 : (v : Int) ≤ 57343 := by omega
                have HS := Veil.mk (htwo h3 (by rw [hH, (isLo_eq v).2 ⟨h4, h5⟩]; rfl))
                clear hone htwo hv0 hH
                go_wp2
                go_region_law (refine step_append_lies _ rfl (.tmp 46) (.tmp 57) 25 rfl w.heap.size 27 i0 (.slice none 0 0) 1 24 Try.underlying25 hi hz0 hz1 hz2 rfl (by decide) u3 pre.length xs (by simp [Act.eval]) (by first | exact (((own_drew hown).alloc _).alloc _) | exact own_drew ((hown.alloc _).alloc _)) ⟨wr.heap.size + 1, 0, none⟩ 1 1 [.slice (some ⟨wr.heap.size, 0, none⟩) 2 2] (by simp [Act.eval]) rfl (by first | exact cells_new1 _ _ _ _ | exact cells_drew (cells_new1 _ _ _ _)) (fun x hx => by simp at hx; rcases hx with rfl; rfl) (by decide) (by unfold maxLen; omega) (by omega) (by simp; omega) _ rfl ?_; intro g cap' w3 hown' hgrow3 hblk hg3)
                all_goals
                  have hsg2 := (hsg.alloc (.cells #[.int .i64 (u : Int), .int .i64 (v : Int)] 3)).alloc (.cells #[.slice (some ⟨wr.heap.size, 0, none⟩) 2 2] 27) |>.snoc [u, v] wr.heap.size (0, 0) hw (block_new1 _ _ _)
                  have hsg3 : SignsAt w.heap.size w3 (xs ++ [.slice (some ⟨wr.heap.size, 0, none⟩) 2 2]) (pre ++ [[u, v]]) := by
                    refine SignsAt.grown (hg := hgrow3) (h := ?_) (hr := ?_)
                    · exact hsg2
                    · exact own_block27 ((hown.alloc _).alloc _)
                  have hbw3 : Below w.heap.size w w3 := Below.grown (by first | exact ((hbw.alloc hw _).alloc (by simp; omega) _) | exact Below.drew ((hbw.alloc hw _).alloc (by simp; omega) _)) hgrow3 (by simp; omega) (fun j hj => (hown.lt _ hj).1)
                  have hown3 : w3.ownsRow w.heap.size 27 1 (.slice (some ⟨g, 0, none⟩) (pre.length + 1) cap') (pre ++ [[u, v]]).length (xs ++ [.slice (some ⟨wr.heap.size, 0, none⟩) 2 2]) := by rw [List.length_append]; exact hown'
                  have HQ : Veil (signs l = (pre ++ [[u, v]]) ++ signs (l.drop (k + 2))) := ⟨by rw [HP.out, HS.out, List.append_assoc]; rfl⟩
                  have hpl3 : (pre ++ [[u, v]]).length ≤ k + 2 := by simp; omega
                  clear hown' hgrow3 hblk hg3
                  go_wp2
                  go_roundw
                  case rel => exact ⟨k + 2, _, _, by omega, by go_num, HQ, hown3, hpl3, hsg3, hbw3⟩
                  case measure => simp [intOf]; omega
              · have g5 : ¬ (v : Int) ≤ 57343 := by omega
                have HS := Veil.mk (hone (by rw [hH, Bool.true_and]; exact lo_false (by omega)))
                clear hone htwo
                have g4 : (56320 : Int) ≤ (v : Int) := by omega
                go_wp2_with (at_builtin; refine wpList_append_own _ rfl _ _ 25 rfl w.heap.size 27 i0 (.slice none 0 0) 1 24 Try.underlying25 hi hz0 hz1 hz2 rfl (by decide) _ _ _ rfl ((hown.alloc _).alloc _) ⟨wr.heap.size + 1, 0, none⟩ 1 1 [.slice (some ⟨wr.heap.size, 0, none⟩) 1 1] rfl rfl (cells_new1 _ _ _ _) (fun x hx => by simp at hx; rcases hx with rfl; rfl) (by unfold maxLen; omega) (by omega) (by simp; omega) ?_; intro v' w3 hown' hgrow3 hnil3; refine Hid.out ?_)
                have hsg3 := ((hsg.alloc _).alloc _ |>.snoc [u] wr.heap.size (0, 0) hw (block_new1 _ _ _)).grown hgrow3 (own_block27 ((hown.alloc _).alloc _))
                have hbw3 : Below w.heap.size w w3 := Below.grown ((hbw.alloc hw _).alloc (by simp; omega) _) hgrow3 (by simp; omega) (fun j hj => (hown.lt _ hj).1)
                have hown3 : w3.ownsRow w.heap.size 27 1 v' (pre ++ [[u]]).length (xs ++ [.slice (some ⟨wr.heap.size, 0, none⟩) 1 1]) := by rw [List.length_append]; exact hown'
                have HQ : Veil (signs l = (pre ++ [[u]]) ++ signs (l.drop (k + 1))) := ⟨by rw [HP.out, HS.out, List.append_assoc]; rfl⟩
                have hpl3 : (pre ++ [[u]]).length ≤ k + 1 := by simp; omega
                clear hown' hgrow3 hnil3 hown hsg
                refine Lib.hid ?_
                go_wp2
                go_roundw
                case rel => exact ⟨k + 1, _, _, by omega, by go_num, HQ, hown3, hpl3, hsg3, hbw3⟩
                case measure => simp [intOf]; omega
            · have g4 : ¬ (56320 : Int) ≤ (v : Int) := by omega
              have HS := Veil.mk (hone (by rw [hH, Bool.true_and]; exact lo_false (by omega)))
              clear hone htwo
              clear hH
              go_wp2_with (at_builtin; refine wpList_append_own _ rfl _ _ 25 rfl w.heap.size 27 i0 (.slice none 0 0) 1 24 Try.underlying25 hi hz0 hz1 hz2 rfl (by decide) _ _ _ rfl ((hown.alloc _).alloc _) ⟨wr.heap.size + 1, 0, none⟩ 1 1 [.slice (some ⟨wr.heap.size, 0, none⟩) 1 1] rfl rfl (cells_new1 _ _ _ _) (fun x hx => by simp at hx; rcases hx with rfl; rfl) (by unfold maxLen; omega) (by omega) (by simp; omega) ?_; intro v' w3 hown' hgrow3 hnil3; refine Hid.out ?_)
              have hsg3 := ((hsg.alloc _).alloc _ |>.snoc [u] wr.heap.size (0, 0) hw (block_new1 _ _ _)).grown hgrow3 (own_block27 ((hown.alloc _).alloc _))
              have hbw3 : Below w.heap.size w w3 := Below.grown ((hbw.alloc hw _).alloc (by simp; omega) _) hgrow3 (by simp; omega) (fun j hj => (hown.lt _ hj).1)
              have hown3 : w3.ownsRow w.heap.size 27 1 v' (pre ++ [[u]]).length (xs ++ [.slice (some ⟨wr.heap.size, 0, none⟩) 1 1]) := by rw [List.length_append]; exact hown'
              have HQ : Veil (signs l = (pre ++ [[u]]) ++ signs (l.drop (k + 1))) := ⟨by rw [HP.out, HS.out, List.append_assoc]; rfl⟩
              have hpl3 : (pre ++ [[u]]).length ≤ k + 1 := by simp; omega
              clear hown' hgrow3 hnil3 hown hsg
              refine Lib.hid ?_
              go_wp2
              go_roundw
              case rel => exact ⟨k + 1, _, _, by omega, by go_num, HQ, hown3, hpl3, hsg3, hbw3⟩
              case measure => simp [intOf]; omega
          · have g3 : ¬ (k : Int) + 1 < (n : Int) := by omega
            have HS := Veil.mk (hone (by rw [hv0 h3, isLo_zero, Bool.and_false]))
            clear hone htwo
            clear hH hcell2
            go_wp2_with (at_builtin; refine wpList_append_own _ rfl _ _ 25 rfl w.heap.size 27 i0 (.slice none 0 0) 1 24 Try.underlying25 hi hz0 hz1 hz2 rfl (by decide) _ _ _ rfl ((hown.alloc _).alloc _) ⟨wr.heap.size + 1, 0, none⟩ 1 1 [.slice (some ⟨wr.heap.size, 0, none⟩) 1 1] rfl rfl (cells_new1 _ _ _ _) (fun x hx => by simp at hx; rcases hx with rfl; rfl) (by unfold maxLen; omega) (by omega) (by simp; omega) ?_; intro v' w3 hown' hgrow3 hnil3; refine Hid.out ?_)
            have hsg3 := ((hsg.alloc _).alloc _ |>.snoc [u] wr.heap.size (0, 0) hw (block_new1 _ _ _)).grown hgrow3 (own_block27 ((hown.alloc _).alloc _))
            have hbw3 : Below w.heap.size w w3 := Below.grown ((hbw.alloc hw _).alloc (by simp; omega) _) hgrow3 (by simp; omega) (fun j hj => (hown.lt _ hj).1)
            have hown3 : w3.ownsRow w.heap.size 27 1 v' (pre ++ [[u]]).length (xs ++ [.slice (some ⟨wr.heap.size, 0, none⟩) 1 1]) := by rw [List.length_append]; exact hown'
            have HQ : Veil (signs l = (pre ++ [[u]]) ++ signs (l.drop (k + 1))) := ⟨by rw [HP.out, HS.out, List.append_assoc]; rfl⟩
            have hpl3 : (pre ++ [[u]]).length ≤ k + 1 := by simp; omega
            clear hown' hgrow3 hnil3 hown hsg
            refine Lib.hid ?_
            go_wp2
            go_roundw
            case rel => exact ⟨k + 1, _, _, by omega, by go_num, HQ, hown3, hpl3, hsg3, hbw3⟩
            case measure => simp [intOf]; omega
        · have g1 : (55296 : Int) ≤ (u : Int) := by omega
          have g2 : ¬ (u : Int) ≤ 56319 := by omega
          have HS := Veil.mk (hone (by rw [hi_false (by omega)]; rfl))
          clear hone htwo
          clear hcell2
          go_wp2_with (at_builtin; refine wpList_append_own _ rfl _ _ 25 rfl w.heap.size 27 i0 (.slice none 0 0) 1 24 Try.underlying25 hi hz0 hz1 hz2 rfl (by decide) _ _ _ rfl ((hown.alloc _).alloc _) ⟨wr.heap.size + 1, 0, none⟩ 1 1 [.slice (some ⟨wr.heap.size, 0, none⟩) 1 1] rfl rfl (cells_new1 _ _ _ _) (fun x hx => by simp at hx; rcases hx with rfl; rfl) (by unfold maxLen; omega) (by omega) (by simp; omega) ?_; intro v' w3 hown' hgrow3 hnil3; refine Hid.out ?_)
          have hsg3 := ((hsg.alloc _).alloc _ |>.snoc [u] wr.heap.size (0, 0) hw (block_new1 _ _ _)).grown hgrow3 (own_block27 ((hown.alloc _).alloc _))
          have hbw3 : Below w.heap.size w w3 := Below.grown ((hbw.alloc hw _).alloc (by simp; omega) _) hgrow3 (by simp; omega) (fun j hj => (hown.lt _ hj).1)
          have hown3 : w3.ownsRow w.heap.size 27 1 v' (pre ++ [[u]]).length (xs ++ [.slice (some ⟨wr.heap.size, 0, none⟩) 1 1]) := by rw [List.length_append]; exact hown'
          have HQ : Veil (signs l = (pre ++ [[u]]) ++ signs (l.drop (k + 1))) := ⟨by rw [HP.out, HS.out, List.append_assoc]; rfl⟩
          have hpl3 : (pre ++ [[u]]).length ≤ k + 1 := by simp; omega
          clear hown' hgrow3 hnil3 hown hsg
          refine Lib.hid ?_
          go_wp2
          go_roundw
          case rel => exact ⟨k + 1, _, _, by omega, by go_num, HQ, hown3, hpl3, hsg3, hbw3⟩
          case measure => simp [intOf]; omega
      · have g1 : ¬ (55296 : Int) ≤ (u : Int) := by omega
        have HS := Veil.mk (hone (by rw [hi_false (by omega)]; rfl))
        clear hone htwo
        clear hcell2
        go_wp2_with (at_builtin; refine wpList_append_own _ rfl _ _ 25 rfl w.heap.size 27 i0 (.slice none 0 0) 1 24 Try.underlying25 hi hz0 hz1 hz2 rfl (by decide) _ _ _ rfl ((hown.alloc _).alloc _) ⟨wr.heap.size + 1, 0, none⟩ 1 1 [.slice (some ⟨wr.heap.size, 0, none⟩) 1 1] rfl rfl (cells_new1 _ _ _ _) (fun x hx => by simp at hx; rcases hx with rfl; rfl) (by unfold maxLen; omega) (by omega) (by simp; omega) ?_; intro v' w3 hown' hgrow3 hnil3; refine Hid.out ?_)
        have hsg3 := ((hsg.alloc _).alloc _ |>.snoc [u] wr.heap.size (0, 0) hw (block_new1 _ _ _)).grown hgrow3 (own_block27 ((hown.alloc _).alloc _))
        have hbw3 : Below w.heap.size w w3 := Below.grown ((hbw.alloc hw _).alloc (by simp; omega) _) hgrow3 (by simp; omega) (fun j hj => (hown.lt _ hj).1)
        have hown3 : w3.ownsRow w.heap.size 27 1 v' (pre ++ [[u]]).length (xs ++ [.slice (some ⟨wr.heap.size, 0, none⟩) 1 1]) := by rw [List.length_append]; exact hown'
        have HQ : Veil (signs l = (pre ++ [[u]]) ++ signs (l.drop (k + 1))) := ⟨by rw [HP.out, HS.out, List.append_assoc]; rfl⟩
        have hpl3 : (pre ++ [[u]]).length ≤ k + 1 := by simp; omega
        clear hown' hgrow3 hnil3 hown hsg
        refine Lib.hid ?_
        go_wp2
        go_roundw
        case rel => exact ⟨k + 1, _, _, by omega, by go_num, HQ, hown3, hpl3, hsg3, hbw3⟩
        case measure => simp [intOf]; omega
    · have hlti : ¬ (k : Int) < (n : Int) := by omega
      have hll := HN.out.1
      have hkl : k = l.length := by omega
      have HE : Veil (signs l = pre) := ⟨by rw [HP.out, hkl, List.drop_length]; simp [signs]⟩
      clear hll hkl
      go_wp2
      go_ret
      exact ⟨_, xs, rfl, by rw [HE.out]; exact hown, by rw [HE.out]; exact hsg, hbw⟩
end Go.Proofs.Ytbkgophgclpijaa
