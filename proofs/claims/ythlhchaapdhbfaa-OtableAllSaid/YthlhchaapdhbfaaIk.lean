/- Drawn regions where the slots hold whatever they hold. -/
import Derived.Test.YthlhchaapdhbfaaIh
namespace Go.Proofs.Ythlhchaapdhbfaa
open Go Go.RowKit

/-- What the slots hold. -/
def curV' (tmps : Array Value) (ss : List (Option Nat)) : List Value := ss.map fun o => match o with
  | some s => tmps.getD s undef
  | none => undef
theorem setAll_cur : ∀ (ss : List (Option Nat)) (tmps : Array Value), setAll tmps ss (curV' tmps ss) = tmps
  | [], tmps => rfl
  | none :: ss, tmps => by
    show setAll tmps ss (curV' tmps ss) = tmps
    exact setAll_cur ss tmps
  | some s :: ss, tmps => by
    show setAll (tmps.setIfInBounds s (tmps.getD s undef)) ss (curV' tmps ss) = tmps
    have e : tmps.setIfInBounds s (tmps.getD s undef) = tmps := by
      apply Array.ext_getElem?
      intro i
      rw [Array.getElem?_setIfInBounds]
      split
      · rename_i h
        subst h
        split
        · rename_i h2
          simp [h2]
        · simp
          omega
      · rfl
    rw [e]
    exact setAll_cur ss tmps
theorem puts_cur (a : Act) (ss : List (Option Nat)) : a = puts a ss (curV' a.tmps ss) := by
  unfold puts
  rw [setAll_cur]
theorem wp_region_gen2 {P : Program} {Q : Exit → Act → World → Prop} {id : Nat} {a : Act} {w : World} {l : List Oper} (ks : List Kd) (ss : List (Option Nat)) (hm : P.follows .mixedOrders = true) (hl : l.length = ks.length) (hl0 : ss.length = ks.length)
    (hs : Steps P .any l.toArray Q (GInv ks w a ss) 0 l) (hfull : earlierB l = true)
    (hend : ∀ (us : List Value) (w' : World), us.length = ks.length → (∀ d : Nat → Bool, (∀ i, i < ks.length → d i = true) → JI ks w d (uget us) w' → Q .normal (puts a ss us) w')) : (Code.region id l.toArray true).wp P Q a w :=
  wp_region_gen ks ss (curV' a.tmps ss) hm hl (by unfold curV'; rw [List.length_map]; exact hl0) (puts_cur a ss) hs hfull hend
end Go.Proofs.Ythlhchaapdhbfaa
