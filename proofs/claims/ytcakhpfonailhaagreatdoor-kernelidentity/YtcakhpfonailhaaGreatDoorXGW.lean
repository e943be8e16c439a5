/- An executor for closed calls, 14b: what is asked of the world ahead of the call: the library's variable of the error type is laid. -/
import Derived.Test.YtcakhpfonailhaaGreatDoorXA
namespace Go.Proofs.YtcakhpfonailhaaGreatDoor.X
open Go.RowKit
def GW (w:World):Prop:=w.cell? ⟨0,0,none⟩=some (.iface 262 (.agg #[.pointer (some ⟨1,106,none⟩)]))
theorem GW.below {w0 w:World} (h:GW w0) (hB:Below w0.heap.size w0 w):GW w:=by
 have h0:0<w0.heap.size:=by
  rcases Nat.eq_zero_or_pos w0.heap.size with h0 | h0
  ·unfold GW at h; simp [World.cell?,h0] at h
  ·exact h0
 unfold GW World.cell? at h ⊢
 rw [hB.block 0 h0]
 exact h
end Go.Proofs.YtcakhpfonailhaaGreatDoor.X
