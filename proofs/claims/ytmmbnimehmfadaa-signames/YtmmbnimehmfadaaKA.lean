/- Declarations: plain, and in memory. -/
import Derived.Test.YtmmbnimehmfadaaKP
import Derived.Deep.MidRow
import Derived.Deep.WholeRow
import Derived.Test.YtmmbnimehmfadaaWH
namespace Go.Proofs.Ytmmbnimehmfadaa
open Go.RowKit Go.Sort

/-- a declaration -/
structure Dl where
  kind : Int
  name : ByteArray
  levels : Int
  ty : Tm
  val : Tm
  params : Int
  ctors : List (ByteArray × Tm)

/-- a slice at address a holds the constructors cs -/
def CK (w : World) (a : Option Addr) (cs : List (ByteArray × Tm)) : Prop := cs = [] ∨ ∃ b o, a = some ⟨b, o, none⟩ ∧ b < w.heap.size ∧ ∀ i c, cs[i]? = some c → w.cell? ⟨b, o + i * 7, none⟩ = some (.string c.1) ∧ TC w b (o + i * 7 + 1) c.2

theorem CK.on {w w' : World} {a : Option Addr} {cs : List (ByteArray × Tm)} (h : CK w a cs) (hb : RowKit.Below w.heap.size w w') : CK w' a cs := by
  rcases h with h | ⟨b, o, ha, hlt, h⟩
  · exact Or.inl h
  · exact Or.inr ⟨b, o, ha, Nat.lt_of_lt_of_le hlt hb.size, fun i c hi => ⟨(hb.cell (p := ⟨b, o + i * 7, none⟩) hlt).trans (h i c hi).1, (h i c hi).2.on hb⟩⟩

/-- the value v is the declaration d -/
structure DV (w : World) (v : Value) (d : Dl) : Prop where
  go : ∃ (t0 t1 : Int) (t2 : Bool) (t3 : ByteArray) (t4 : Option Addr) (t5 t6 : Nat) (t7 : Option Addr) (t8 t9 : Nat) (v0 v1 : Int) (v2 : Bool) (v3 : ByteArray) (v4 : Option Addr) (v5 v6 : Nat) (v7 : Option Addr) (v8 v9 : Nat) (ca : Option Addr) (cc : Nat), v = .agg #[.int .i64 d.kind, .string d.name, .int .i64 d.levels, .int .i64 t0, .int .i64 t1, .bool t2, .string t3, .slice t4 t5 t6, .slice t7 t8 t9, .int .i64 v0, .int .i64 v1, .bool v2, .string v3, .slice v4 v5 v6, .slice v7 v8 v9, .int .i64 d.params, .slice ca d.ctors.length cc] ∧ TV w (.agg #[.int .i64 t0, .int .i64 t1, .bool t2, .string t3, .slice t4 t5 t6, .slice t7 t8 t9]) d.ty ∧ TV w (.agg #[.int .i64 v0, .int .i64 v1, .bool v2, .string v3, .slice v4 v5 v6, .slice v7 v8 v9]) d.val ∧ CK w ca d.ctors

theorem DV.on {w w' : World} {v : Value} {d : Dl} (h : DV w v d) (hb : RowKit.Below w.heap.size w w') : DV w' v d := by
  obtain ⟨t0, t1, t2, t3, t4, t5, t6, t7, t8, t9, v0, v1, v2, v3, v4, v5, v6, v7, v8, v9, ca, cc, h1, h2, h3, h4⟩ := h.go
  exact ⟨t0, t1, t2, t3, t4, t5, t6, t7, t8, t9, v0, v1, v2, v3, v4, v5, v6, v7, v8, v9, ca, cc, h1, h2.on hb, h3.on hb, h4.on hb⟩

/-- the cells from o on of block b are the declaration d -/
structure DCl (w : World) (b o : Nat) (d : Dl) : Prop where
  go : ∃ cs : List Value, cs.length = 17 ∧ w.rangeAt b o cs ∧ (∀ v ∈ cs, v.oneCell' = true) ∧ DV w (.agg cs.toArray) d

theorem DCl.on {w w' : World} {b o : Nat} {d : Dl} (h : DCl w b o d) (hb : RowKit.Below w.heap.size w w') (hlt : b < w.heap.size) : DCl w' b o d := by
  obtain ⟨cs, h1, h2, h3, h4⟩ := h.go
  exact ⟨cs, h1, fun j v hj => (hb.cell (p := ⟨b, o + j, none⟩) hlt).trans (h2 j v hj), h3, h4.on hb⟩

/-- a slice at address a holds the declarations ds -/
def DL (w : World) (a : Option Addr) (ds : List Dl) : Prop := ds = [] ∨ ∃ b o, a = some ⟨b, o, none⟩ ∧ b < w.heap.size ∧ ∀ i d, ds[i]? = some d → DCl w b (o + i * 17) d

theorem cells7 {w : World} {b : Nat} {u0 u1 u2 u3 u4 u5 u6 : Value} {t : TypeId} (h : w.heap[b]? = some (.cells #[u0, u1, u2, u3, u4, u5, u6] t (0, 0))) : w.cell? ⟨b, 0, none⟩ = some u0 ∧ w.cell? ⟨b, 1, none⟩ = some u1 ∧ w.cell? ⟨b, 2, none⟩ = some u2 ∧ w.cell? ⟨b, 3, none⟩ = some u3 ∧ w.cell? ⟨b, 4, none⟩ = some u4 ∧ w.cell? ⟨b, 5, none⟩ = some u5 ∧ w.cell? ⟨b, 6, none⟩ = some u6 ∧ b < w.heap.size :=
  ⟨by rw [cell_of_row _ b 0 _ _ _ h]; rfl, by rw [cell_of_row _ b 1 _ _ _ h]; rfl, by rw [cell_of_row _ b 2 _ _ _ h]; rfl, by rw [cell_of_row _ b 3 _ _ _ h]; rfl, by rw [cell_of_row _ b 4 _ _ _ h]; rfl, by rw [cell_of_row _ b 5 _ _ _ h]; rfl, by rw [cell_of_row _ b 6 _ _ _ h]; rfl, (Array.getElem?_eq_some_iff.1 h).1⟩

theorem cells17 {w : World} {b : Nat} {u0 u1 u2 u3 u4 u5 u6 u7 u8 u9 u10 u11 u12 u13 u14 u15 u16 : Value} {t : TypeId} (h : w.heap[b]? = some (.cells #[u0, u1, u2, u3, u4, u5, u6, u7, u8, u9, u10, u11, u12, u13, u14, u15, u16] t (0, 0))) : w.cell? ⟨b, 0, none⟩ = some u0 ∧ w.cell? ⟨b, 1, none⟩ = some u1 ∧ w.cell? ⟨b, 2, none⟩ = some u2 ∧ w.cell? ⟨b, 3, none⟩ = some u3 ∧ w.cell? ⟨b, 4, none⟩ = some u4 ∧ w.cell? ⟨b, 5, none⟩ = some u5 ∧ w.cell? ⟨b, 6, none⟩ = some u6 ∧ w.cell? ⟨b, 7, none⟩ = some u7 ∧ w.cell? ⟨b, 8, none⟩ = some u8 ∧ w.cell? ⟨b, 9, none⟩ = some u9 ∧ w.cell? ⟨b, 10, none⟩ = some u10 ∧ w.cell? ⟨b, 11, none⟩ = some u11 ∧ w.cell? ⟨b, 12, none⟩ = some u12 ∧ w.cell? ⟨b, 13, none⟩ = some u13 ∧ w.cell? ⟨b, 14, none⟩ = some u14 ∧ w.cell? ⟨b, 15, none⟩ = some u15 ∧ w.cell? ⟨b, 16, none⟩ = some u16 ∧ b < w.heap.size :=
  ⟨by rw [cell_of_row _ b 0 _ _ _ h]; rfl, by rw [cell_of_row _ b 1 _ _ _ h]; rfl, by rw [cell_of_row _ b 2 _ _ _ h]; rfl, by rw [cell_of_row _ b 3 _ _ _ h]; rfl, by rw [cell_of_row _ b 4 _ _ _ h]; rfl, by rw [cell_of_row _ b 5 _ _ _ h]; rfl, by rw [cell_of_row _ b 6 _ _ _ h]; rfl, by rw [cell_of_row _ b 7 _ _ _ h]; rfl, by rw [cell_of_row _ b 8 _ _ _ h]; rfl, by rw [cell_of_row _ b 9 _ _ _ h]; rfl, by rw [cell_of_row _ b 10 _ _ _ h]; rfl, by rw [cell_of_row _ b 11 _ _ _ h]; rfl, by rw [cell_of_row _ b 12 _ _ _ h]; rfl, by rw [cell_of_row _ b 13 _ _ _ h]; rfl, by rw [cell_of_row _ b 14 _ _ _ h]; rfl, by rw [cell_of_row _ b 15 _ _ _ h]; rfl, by rw [cell_of_row _ b 16 _ _ _ h]; rfl, (Array.getElem?_eq_some_iff.1 h).1⟩

/-- what a declaration must be that is written -/
structure okD (d : Dl) : Prop where
  kind : 1 ≤ d.kind ∧ d.kind ≤ 3
  name : 0 < d.name.size ∧ d.name.size ≤ 60
  levels : 0 ≤ d.levels ∧ d.levels ≤ 8
  ty : smT 1000000 d.ty ∧ formedB d.ty = true
  val : d.kind = 2 → smT 1000000 d.val ∧ formedB d.val = true
  fam : d.kind = 3 → 0 ≤ d.params ∧ d.params ≤ 60 ∧ d.ctors.length ≤ 40 ∧ ∀ c ∈ d.ctors, 0 < c.1.size ∧ c.1.size ≤ 60 ∧ smT 1000000 c.2 ∧ formedB c.2 = true
end Go.Proofs.Ytmmbnimehmfadaa
