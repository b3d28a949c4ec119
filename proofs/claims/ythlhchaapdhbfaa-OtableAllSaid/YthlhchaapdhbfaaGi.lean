/- Calls of the law's: how they lie in memory; light. -/
import Derived.Test.YthlhchaapdhbfaaFx
import Derived.Test.YthlhchaapdhbfaaFv
namespace Go.Proofs.Ythlhchaapdhbfaa
open Go.RowKit

/-- A call: its kind, the seed of its key, its value, its number. -/
structure CallD where
  kind : Int
  kk : Int
  kn : Int
  a : Option Addr
  len : Nat
  cap : Nat
  l : List Nat
  val : Int
  n : Int
abbrev callC (c : CallD) : Array Value := #[.int .i64 c.kind, .int .i64 c.kk, .int .i64 c.kn, .slice c.a c.len c.cap, .int .i64 c.val, .int .i64 c.n]
abbrev callV (c : CallD) : Value := .agg (callC c)
/-- The cells of a call, and what its string reads as. -/
structure CallAt (w : World) (b o : Nat) (c : CallD) : Prop where
  c0 : w.cell? ⟨b, o, none⟩ = some (.int .i64 c.kind)
  c1 : w.cell? ⟨b, o + 1, none⟩ = some (.int .i64 c.kk)
  c2 : w.cell? ⟨b, o + 2, none⟩ = some (.int .i64 c.kn)
  c3 : w.cell? ⟨b, o + 3, none⟩ = some (.slice c.a c.len c.cap)
  c4 : w.cell? ⟨b, o + 4, none⟩ = some (.int .i64 c.val)
  c5 : w.cell? ⟨b, o + 5, none⟩ = some (.int .i64 c.n)
  lt : ∀ u ∈ c.l, u < 65536
  nums : W.Nums .u16 w c.a c.len c.l
def CallsAt (w : World) (a : Option Addr) (n : Nat) (L : List CallD) : Prop := L.length = n ∧ (0 < n → ∃ b o, a = some ⟨b, o, none⟩ ∧ b < w.heap.size ∧ ∀ i c, L[i]? = some c → CallAt w b (o + i * 6) c)
theorem CallAt.on {w w1 : World} {b o : Nat} {c : CallD} (h : CallAt w b o c) (hb : Below w.heap.size w w1) (hl : b < w.heap.size) : CallAt w1 b o c :=
  ⟨(hb.cell (p := ⟨b, o, none⟩) hl).trans h.c0, (hb.cell (p := ⟨b, o + 1, none⟩) hl).trans h.c1, (hb.cell (p := ⟨b, o + 2, none⟩) hl).trans h.c2, (hb.cell (p := ⟨b, o + 3, none⟩) hl).trans h.c3, (hb.cell (p := ⟨b, o + 4, none⟩) hl).trans h.c4, (hb.cell (p := ⟨b, o + 5, none⟩) hl).trans h.c5, h.lt, h.nums.on hb⟩
theorem CallsAt.on {w w1 : World} {a : Option Addr} {n : Nat} {L : List CallD} (h : CallsAt w a n L) (hb : Below w.heap.size w w1) : CallsAt w1 a n L :=
  ⟨h.1, fun hn => by
    obtain ⟨b, o, e, hl, hc⟩ := h.2 hn
    exact ⟨b, o, e, by have := hb.size; omega, fun i c hi => (hc i c hi).on hb hl⟩⟩
def Light (L : List CallD) : Prop := L.length ≤ 400 ∧ ∀ c ∈ L, c.len ≤ 100
instance (L : List CallD) : Decidable (Light L) := by unfold Light; exact inferInstance
set_option maxHeartbeats 1000000 in
set_option maxRecDepth 100000 in
theorem light_any (a : Option Addr) (n cap : Nat) (L : List CallD) (w : World) (h : CallsAt w a n L) :
    Calls Try.prog 33 #[.slice a n cap] w fun e w' => e = .returned (.bool (decide (Light L))) ∧ Below w.heap.size w w' := by
  have hn := h.1
  have HC := Veil.mk h
  by_cases hl : 400 < n
  · have hl' : (400 : Int) < (n : Int) := by omega
    have HF : Veil (decide (Light L) = false) := ⟨decide_eq_false (fun h => by have := h.1; omega)⟩
    clear h hn
    rw [HF.out]
    go_enter Try.func33, Try.ntmps33
    go_wp2
    go_ret
    exact ⟨rfl, Below.refl _ _⟩
  · have hl' : ¬ (400 : Int) < (n : Int) := by omega
    have HN := Veil.mk hn
    clear h hn
    obtain ⟨r, hr⟩ : ∃ r, decide (Light L) = r := ⟨_, rfl⟩
    have HR := Veil.mk hr
    rw [hr]
    clear hr
    go_enter Try.func33, Try.ntmps33
    go_wp2
    go_loopw [10] (fun i wr => ∃ p : Nat, p ≤ n ∧ i = .int .i64 (p : Int) ∧ Veil (∀ c ∈ L.take p, c.len ≤ 100) ∧ Below w.heap.size w wr) (fun i _ => n - (intOf i).toNat)
    case atStart => exact ⟨0, Nat.zero_le _, rfl, ⟨by simp⟩, Below.refl _ _⟩
    case round =>
      obtain ⟨p, hp, rfl, hno, hb⟩ := hrel
      by_cases hlt : p < n
      · have hlt' : (p : Int) < (n : Int) := by omega
        have hp0 : (0 : Int) ≤ (p : Int) := by omega
        obtain ⟨b, o, rfl, hbl, hc⟩ := HC.out.2 (by omega)
        obtain ⟨c, hcp⟩ : ∃ c, L[p]? = some c := ⟨_, List.getElem?_eq_getElem (by rw [HN.out]; exact hlt)⟩
        obtain ⟨c0, c1, c2, c3, c4, c5, _, _⟩ := (hc p c hcp).on hb hbl
        have HCP := Veil.mk hcp
        have HB := Veil.mk hb
        clear hc hcp hb
        go_upto_region 6 with (fail)
        have bx := Box.new wr 79 (callC c)
        have lx : Below wr.heap.size wr (wr.alloc (.cells (callC c) 79)) := (Below.refl _ _).alloc (Nat.le_refl _) _
        generalize wr.heap.size = gx at bx ⊢
        have hB := HB.out.trans (lx.mono HB.out.size)
        generalize wr.alloc (.cells (callC c) 79) = A at bx hB ⊢
        have x3 : A.cell? ⟨gx, 3, none⟩ = some (.slice c.a c.len c.cap) := bx.at_ 3
        have HB2 := Veil.mk hB
        clear c0 c1 c2 c3 c4 c5 bx lx hB
        by_cases h100 : 100 < c.len
        · have h100' : (100 : Int) < (c.len : Int) := by omega
          have HF : Veil (r = false) := ⟨by rw [← HR.out]; exact decide_eq_false (fun h => by have := h.2 c (List.mem_of_getElem? HCP.out); omega)⟩
          clear h100
          go_wp2
          go_ret
          exact ⟨by rw [HF.out]; rfl, HB2.out⟩
        · have h100' : ¬ (100 : Int) < (c.len : Int) := by omega
          have HS : Veil (Veil (∀ c ∈ L.take (p + 1), c.len ≤ 100)) := ⟨⟨fun y hy => by
            rw [List.take_add_one, HCP.out] at hy
            rcases List.mem_append.1 hy with h | h
            · exact hno.out y h
            · simp at h
              subst h
              omega⟩⟩
          clear h100 hno
          go_wp2
          go_roundw
          case rel => exact ⟨p + 1, by omega, by go_num, HS.out, HB2.out⟩
          case measure => simp [intOf]; omega
      · have hlt' : ¬ (p : Int) < (n : Int) := by omega
        have HF : Veil (r = true) := ⟨by
          rw [← HR.out]
          refine decide_eq_true ⟨by rw [HN.out]; omega, ?_⟩
          have := hno.out
          rwa [List.take_of_length_le (by rw [HN.out]; omega)] at this⟩
        clear hno
        go_wp2
        go_ret
        exact ⟨by rw [HF.out]; rfl, hb⟩
end Go.Proofs.Ythlhchaapdhbfaa
