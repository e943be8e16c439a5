/- A level in a box. -/
import Derived.Test.YtphemmifckdjjaaRF
namespace Go.Proofs.Ytphemmifckdjjaa
open Go.RowKit Go.Sort

/-- block b holds the level of n and xs -/
structure LB (W : World) (b : Nat) (n : Int) (a : Option Addr) (c : Nat) (xs : List (Int × Int)) : Prop where
  heap : W.heap[b]? = some (.cells #[.int .i64 n, .slice a xs.length c] 24 (0, 0))
  sl : SL W a xs

theorem LB.lt {W : World} {b : Nat} {n : Int} {a : Option Addr} {c : Nat} {xs : List (Int × Int)} (h : LB W b n a c xs) : b < W.heap.size := by
  have := h.heap; rw [Array.getElem?_eq_some_iff] at this; exact this.1

theorem LB.on {W W' : World} {b : Nat} {n : Int} {a : Option Addr} {c : Nat} {xs : List (Int × Int)} (h : LB W b n a c xs) (hb : RowKit.Below W.heap.size W W') : LB W' b n a c xs :=
  ⟨(hb.block b h.lt).trans h.heap, h.sl.below hb⟩

theorem LB.cells {W : World} {b : Nat} {n : Int} {a : Option Addr} {c : Nat} {xs : List (Int × Int)} (h : LB W b n a c xs) :
    W.cell? ⟨b, 0, none⟩ = some (.int .i64 n) ∧ W.cell? ⟨b, 1, none⟩ = some (.slice a xs.length c) ∧ b < W.heap.size := by
  obtain ⟨p0, p1, -⟩ := cells2 h.heap
  exact ⟨p0, p1, h.lt⟩

/-- what is answered, put into a box -/
theorem LB.new {W : World} {n : Int} {a : Option Addr} {c : Nat} {xs : List (Int × Int)} (h : SL W a xs) : LB (W.alloc (.cells #[.int .i64 n, .slice a xs.length c] 24)) W.heap.size n a c xs :=
  ⟨alloc_new _ _, h.below ((Grew.refl _).alloc _).below⟩
end Go.Proofs.Ytphemmifckdjjaa
