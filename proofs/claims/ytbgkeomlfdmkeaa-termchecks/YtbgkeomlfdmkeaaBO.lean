/- Regions that draw their order, with guards and calls that make memory: their worlds grow out of the one at the start. A term in a box. -/
import Derived.Test.YtbgkeomlfdmkeaaON
import Derived.Deep.QuietTactic
import Derived.BigQuiet
namespace Go.Proofs.Ytbgkeomlfdmkeaa
open Go.RowKit Go.Sort

/-- a term in a box -/
structure TBox (w : World) (k : Nat) (v : Array Value) (t : Tm) : Prop where
  box : w.heap[k]? = some (.cells v 25 (0, 0))
  tv : TV w (.agg v) t

theorem TBox.on {w w' : World} {k : Nat} {v : Array Value} {t : Tm} (h : TBox w k v t) (hb : RowKit.Below w.heap.size w w') : TBox w' k v t :=
  ⟨(hb.block k (heap_lt h.box)).trans h.box, h.tv.on hb⟩

/-- a world that grows out of w -/
structure GrownOf (w : World) where
  world : World
  below : RowKit.Below w.heap.size w world

theorem wp_region_grown_of {P : Program} {id : Nat} {Q : Exit → Act → World → Prop} {a : Act} {w : World} {l : List Oper} (hm : P.follows .mixedOrders = true) (hB : Region.lexB .any l.toArray = true)
    (h : wpQuiet P l.toArray (fun w' => ∃ p : GrownOf w, w' = p.world) (fun a' => ∀ w', (∃ p : GrownOf w, w' = p.world) → Q .normal a' w') l a) : (Code.region id l.toArray true).wp P Q a w :=
  wp_region_quiet (C := fun w' => ∃ p : GrownOf w, w' = p.world) hm hB ⟨⟨w.drew, (Below.refl _ _).drew⟩, rfl⟩ (by simpa using h)

theorem grown_of {P : Program} {f : FuncId} {args : Array Value} {w : World} {p : GrownOf w} {v : Value} (h : Calls P f args p.world fun e w' => e = .returned v ∧ RowKit.Below p.world.heap.size p.world w') : Calls P f args p.world fun e w'' => e = .returned v ∧ ∃ q : GrownOf w, w'' = q.world :=
  h.mono fun _ w' ⟨he, hb⟩ => ⟨he, ⟨w', p.below.trans (hb.mono p.below.size)⟩, rfl⟩
end Go.Proofs.Ytbgkeomlfdmkeaa
