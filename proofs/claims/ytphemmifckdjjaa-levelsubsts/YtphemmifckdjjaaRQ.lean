/- Slices of numbers in memory of the call's own; the reference's Eval, whatever the values are. -/
import Derived.Test.YtphemmifckdjjaaRH
import Derived.Test.YtphemmifckdjjaaMW
namespace Go.Proofs.Ytphemmifckdjjaa
open Go.RowKit Go.Sort Go.Shelf Go.Lib

/-- the cells of a list of numbers -/
def flatI (xs : List Int) : List Value := xs.map fun x => .int .i64 x

/-- The slice value v holds the numbers xs, in a block of its own from B on. -/
def OI (B : Nat) (w : World) (v : Value) (xs : List Int) : Prop := w.ownsRow B 3 1 v xs.length (flatI xs)

theorem OI.nil (B : Nat) (w : World) : OI B w (.slice none 0 0) [] := World.ownsRow_nil _ _ _ _

theorem OI.below {B : Nat} {w w' : World} {v : Value} {xs : List Int} (h : OI B w v xs) (hb : RowKit.Below w.heap.size w w') : OI B w' v xs := by
  obtain ⟨h1, h2⟩ := h
  refine ⟨h1, ?_⟩
  rcases h2 with h2 | ⟨g, cap, cur, hv, hg, hh, r⟩
  · exact Or.inl h2
  · exact Or.inr ⟨g, cap, cur, hv, hg, (hb.block g (Array.getElem?_eq_some_iff.1 hh).1).trans hh, r⟩

theorem OI.shape {B : Nat} {w : World} {v : Value} {xs : List Int} (h : OI B w v xs) : ∃ a cap, v = .slice a xs.length cap ∧ IL w a xs := by
  rcases h.2 with ⟨hv, hn⟩ | ⟨g, cap, cur, hv, hg, hh, hc, hm, hs, ht⟩
  · have : xs = [] := List.length_eq_zero_iff.1 hn
    subst this
    exact ⟨none, 0, hv, Or.inl rfl⟩
  · refine ⟨_, cap, hv, Or.inr ⟨g, 0, rfl, (Array.getElem?_eq_some_iff.1 hh).1, fun i hi => ?_⟩⟩
    subst hv
    have := World.ownsRow.cellAt h i (by omega)
    rw [Nat.zero_add, this]
    simp [flatI, hi]

theorem rEval_both (n : Int) (xs : List (Int × Int)) (a : Option Addr) (cap : Nat) (vs : List Int) (va : Option Addr) (vcap : Nat) (w : World) (hS : SL w a xs) (hn : xs.length ≤ 35184372088832) (hV : IL w va vs) (hvn : vs.length ≤ 35184372088832) :
    Calls Try.prog 26 #[.agg #[.int .i64 n, .slice a xs.length cap], .slice va vs.length vcap] w fun e w' => ∃ r : Int, e = .returned (.int .i64 r) ∧ Grew w w' ∧ ((∀ x ∈ vs, x ≤ 1000000) → r = evR vs n xs) := by
  by_cases h : ∀ x ∈ vs, x ≤ 1000000
  · exact (rEval_any n xs a cap vs va vcap w hS hn hV hvn h).mono fun e w' ⟨he, hg⟩ => ⟨_, he, hg, fun _ => rfl⟩
  · exact (rEval_some n xs a cap vs va vcap w hS hn hV hvn).mono fun e w' ⟨r, he, hg⟩ => ⟨r, he, hg, fun h' => absurd h' h⟩
end Go.Proofs.Ytphemmifckdjjaa
