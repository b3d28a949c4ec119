/- The law's pair: play, whatever the call. -/
import Derived.Test.YthlhchaapdhbfaaHb
import Derived.Test.YthlhchaapdhbfaaGt
import Derived.Test.YthlhchaapdhbfaaGl
import Derived.Test.YthlhchaapdhbfaaGm
import Derived.Test.YthlhchaapdhbfaaGn
namespace Go.Proofs.Ythlhchaapdhbfaa
open Go Go.RowKit

theorem PlayQ.toR {B gb t gm : Nat} {l : List Re} {cl : Int} {vc vd : Value} {cs : List Cu} {w : World} {e : Ending} {w' : World} (hdn : Dn cs) (h : PlayQ B gb t gm l cl vc vd cs w e w') : PlayR B gb t gm l cl cs w e w' := by
  obtain ⟨he, F', O', l', cl', vl', h1, h2, h3, h4, h5⟩ := h
  exact ⟨he, F', O', l', cl', vl', vc, vd, cs, h1, hdn, .inl (Nat.le_refl _), h2, h3, h4, h5⟩
theorem play_any (B gb t gm : Nat) (F : Nat → Prop) (O : Ob) (l : List Re) (cl : Int) (vl vc vd : Value) (cs : List Cu) (hdn : Dn cs) (hl : l.length < 20000) (hcs : cs.length < 900) (hc0 : 0 ≤ cl) (hc1 : cl < 10000) (c : CallD) (hlen : c.len ≤ 100) (hlt : ∀ u ∈ c.l, u < 65536) (w : World) (hnum : W.Nums .u16 w c.a c.len c.l) (h : BS w B gb t gm F O l cl vl vc vd cs) :
    Calls Try.prog 35 #[.pointer (some ⟨gb, 0, none⟩), callV c] w (PlayR B gb t gm l cl cs w) := by
  obtain ⟨r, hr, _, hk, h7, h8⟩ := rem_nat c.kind 7 (by omega)
  rw [show ((7 : Nat) : Int) = 7 from rfl] at hk h7 h8
  rcases (by omega : r = 0 ∨ r = 1 ∨ r = 2 ∨ r = 3 ∨ r = 4 ∨ r = 5 ∨ r = 6) with rfl | rfl | rfl | rfl | rfl | rfl | rfl
  · exact (play_put B gb t gm F O l cl vl vc vd cs hl hcs hc0 hc1 c hk h7 h8 hlen hlt w hnum h).mono fun _ _ => PlayQ.toR hdn
  · exact (play_del B gb t gm F O l cl vl vc vd cs hl hcs hc0 hc1 c hk h7 h8 hlen hlt w hnum h).mono fun _ _ => PlayQ.toR hdn
  · exact (play_get B gb t gm F O l cl vl vc vd cs hl hcs hc0 hc1 c hk h7 h8 hlen hlt w hnum h).mono fun _ _ => PlayQ.toR hdn
  · exact (play_clear B gb t gm F O l cl vl vc vd cs hl hcs hc0 hc1 c hk h7 h8 hlen hlt w hnum h).mono fun _ _ => PlayQ.toR hdn
  · exact play_cursor B gb t gm F O l cl vl vc vd cs hdn hl hcs hc0 hc1 c hk h7 h8 hlen hlt w hnum h
  · exact play_next B gb t gm F O l cl vl vc vd cs hdn hl hcs hc0 hc1 c hk h7 h8 hlen hlt w hnum h
  · exact play_close B gb t gm F O l cl vl vc vd cs hdn hl hcs hc0 hc1 c hk h7 h8 hlen hlt w hnum h
end Go.Proofs.Ythlhchaapdhbfaa
