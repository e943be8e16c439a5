/- Slices of bytes in memory; numbers as bytes; a writer in memory. -/
import Derived.Test.YtmmbnimehmfadaaKP
import Derived.Test.YtmmbnimehmfadaaWC
import Derived.Laws.IdiomStrings
import Derived.Deep.AppendLies
namespace Go.Proofs.Ytmmbnimehmfadaa
open Go.RowKit Go.Sort

/-- the cells of a list of bytes -/
def flatB (bs : List UInt8) : List Value := bs.map fun b => .int .u8 (b.toNat : Int)

theorem flatB_length (bs : List UInt8) : (flatB bs).length = bs.length := by simp [flatB]
theorem flatB_append (xs ys : List UInt8) : flatB (xs ++ ys) = flatB xs ++ flatB ys := by simp [flatB]
theorem flatB_one (bs : List UInt8) : ∀ u ∈ flatB bs, u.oneCell' = true := by
  intro u hu
  simp [flatB] at hu
  obtain ⟨b, -, rfl⟩ := hu
  rfl

/-- A slice at address a holds the bytes bs in world w. -/
def BL (w : World) (a : Option Addr) (bs : List UInt8) : Prop :=
  bs = [] ∨ ∃ b off, a = some ⟨b, off, none⟩ ∧ b < w.heap.size ∧ ∀ i (h : i < bs.length), w.cell? ⟨b, off + i, none⟩ = some (.int .u8 (bs[i].toNat : Int))

theorem BL.move {w w' : World} {a : Option Addr} {bs : List UInt8} (h : BL w a bs) (hs : w.heap.size ≤ w'.heap.size) (hk : ∀ b off, a = some ⟨b, off, none⟩ → b < w.heap.size → w'.heap[b]? = w.heap[b]?) : BL w' a bs := by
  rcases h with h | ⟨b, off, ha, hlt, hc⟩
  · exact Or.inl h
  · exact Or.inr ⟨b, off, ha, by omega, fun i hi => (World.cell?_of_block (a := ⟨b, off + i, none⟩) (hk b off ha hlt)).trans (hc i hi)⟩

theorem BL.flat {w : World} {ad : Addr} {bs : List UInt8} (h : BL w (some ad) bs) : ∀ j u, (flatB bs)[j]? = some u → w.cell? (ad.add j) = some u := by
  intro j u hu
  have hj : j < bs.length := by
    have := (List.getElem?_eq_some_iff.1 hu).1; simpa [flatB] using this
  rcases h with h | ⟨b, off, ha, hlt, hc⟩
  · subst h; simp at hj
  · simp only [Option.some.injEq] at ha
    subst ha
    have e : (⟨b, off, none⟩ : Addr).add j = ⟨b, off + j, none⟩ := by unfold Addr.add; split <;> simp_all
    rw [e, hc j hj]
    simp [flatB, hj] at hu
    rw [← hu]

theorem BL.of_block {w : World} {b : Nat} {cs : Array Value} {t : TypeId} {fr : Nat × Nat} {bs : List UInt8} (h : w.heap[b]? = some (.cells cs t fr)) (hc : ∀ i (hi : i < bs.length), cs[i]? = some (.int .u8 (bs[i].toNat : Int))) : BL w (some ⟨b, 0, none⟩) bs := by
  refine Or.inr ⟨b, 0, rfl, (Array.getElem?_eq_some_iff.1 h).1, fun i hi => ?_⟩
  rw [cell_of_row w b (0 + i) cs t fr h, Nat.zero_add]
  exact hc i hi

/-- The slice value v holds the bytes bs, in a block of its own from B on. -/
def OY (B : Nat) (w : World) (v : Value) (bs : List UInt8) : Prop := w.ownsRow B 5 1 v bs.length (flatB bs)

theorem OY.nil (B : Nat) (w : World) : OY B w (.slice none 0 0) [] := World.ownsRow_nil _ _ _ _

theorem OY.move {B : Nat} {w w' : World} {v : Value} {bs : List UInt8} (h : OY B w v bs) (hk : ∀ k, v.ownBlock = some k → w'.heap[k]? = w.heap[k]?) : OY B w' v bs := by
  refine ⟨h.1, ?_⟩
  rcases h.2 with h2 | ⟨g, cap, cur, hv, hg, hh, r⟩
  · exact Or.inl h2
  · exact Or.inr ⟨g, cap, cur, hv, hg, (hk g (by rw [hv]; rfl)).trans hh, r⟩

theorem OY.lt {B : Nat} {w : World} {v : Value} {bs : List UInt8} (h : OY B w v bs) {k : Nat} (hk : v.ownBlock = some k) : B ≤ k ∧ k < w.heap.size := World.ownsRow.lt h k hk

theorem OY.shape {B : Nat} {w : World} {v : Value} {bs : List UInt8} (h : OY B w v bs) : ∃ a cap, v = .slice a bs.length cap ∧ BL w a bs ∧ bs.length ≤ cap ∧ cap ≤ 9223372036854775807 ∧ (a = none → cap = 0) ∧ ∀ ad, a = some ad → ∃ g, ad = ⟨g, 0, none⟩ := by
  rcases h.2 with ⟨hv, hn⟩ | ⟨g, cap, cur, hv, hg, hh, hc, hm, hs, ht⟩
  · have : bs = [] := List.length_eq_zero_iff.1 hn
    subst this
    exact ⟨none, 0, hv, Or.inl rfl, Nat.le_refl _, by omega, fun _ => rfl, fun ad h => by cases h⟩
  · refine ⟨_, cap, hv, ?_, hc, by unfold maxLen at hm; omega, fun h => (by cases h), fun ad h => ⟨g, (by simpa using h.symm)⟩⟩
    refine BL.of_block hh fun i hi => ?_
    have h1 : (flatB bs)[i]? = some (.int .u8 (bs[i].toNat : Int)) := by simp [flatB, hi]
    rw [← ht, List.getElem?_take] at h1
    split at h1
    · simpa using h1
    · cases h1

theorem infoU8 : (Try.prog.info? 5).map (fun i => (i.zero, i.size, i.bytes)) = some (some (.int .u8 0), 1, 1) := by kernel_rfl

theorem info_parts8 {i : Option TypeInfo} {z : Option Value} {a b : Nat} (h : i.map (fun i => (i.zero, i.size, i.bytes)) = some (z, a, b)) : ∃ j, i = some j ∧ j.zero = z ∧ j.size = a ∧ j.bytes = b := by
  cases i with
  | none => cases h
  | some j => simp only [Option.map_some, Option.some.injEq, Prod.mk.injEq] at h; exact ⟨j, rfl, h.1, h.2.1, h.2.2⟩

/-- append(v, x...), v a slice of the call's own, x a slice of bytes -/
theorem wpList_appB {w : World} {ops : Array Oper} {rest : List Oper} {o : Oper} {a : Act} {Q : Exit → Act → World → Prop} (hgd : o.guard = none) (s x : Operand) (ho : o.op = .call { callee := .builtin .append, args := #[s, x], argTypes := #[65, 65] })
    (B : Nat) (v : Value) (bs news : List UInt8) (ad : Addr) (c1 m : Nat) (hs : a.eval s = v) (hx : a.eval x = .slice (some ad) m c1) (hm : m = news.length) (hO : OY B w v bs) (hS : BL w (some ad) news) (hne : news ≠ []) (hl : bs.length + news.length ≤ 70368744177664) (hB : B ≤ w.heap.size)
    (h : ∀ g cap w', OY B w' (.slice (some ⟨g, 0, none⟩) (bs ++ news).length cap) (bs ++ news) → w.grownBy w' v.ownBlock → (v.ownBlock = some g ∨ g = w.heap.size) → wpList Try.prog ops Q rest (a.put o.dst (.slice (some ⟨g, 0, none⟩) (bs ++ news).length cap)) w') : wpList Try.prog ops Q (o :: rest) a w := by
  obtain ⟨i0, hi, hz0, hz1, hz2⟩ := info_parts8 infoU8
  subst hm
  have hpos : 0 < news.length := by cases news with
    | nil => exact absurd rfl hne
    | cons b l => simp
  refine wpList_append_lies _ hgd s x 65 ho B 5 i0 _ 1 1 Try.underlying65 hi hz0 hz1 hz2 rfl (by decide) v bs.length (flatB bs) hs hO ad news.length c1 (flatB news) hx (by rw [flatB_length]; omega) hS.flat (flatB_one news) hpos (by unfold maxLen; omega) (by omega) hB _ rfl ?_
  intro g cap w' hown hgr hat _
  have e : bs.length + news.length = (bs ++ news).length := by simp
  rw [e] at hown ⊢
  exact h g cap w' (by unfold OY; rw [flatB_append]; exact hown) hgr hat

/-- the bytes of a number: seven bits a byte, the lowest first -/
def numB (n : Nat) : List UInt8 := if n < 128 then [UInt8.ofNat n] else UInt8.ofNat (n % 128 + 128) :: numB (n / 128)
termination_by n
decreasing_by omega

theorem numB_small {n : Nat} (h : n < 128) : numB n = [UInt8.ofNat n] := by rw [numB, if_pos h]
theorem numB_big {n : Nat} (h : 128 ≤ n) : numB n = UInt8.ofNat (n % 128 + 128) :: numB (n / 128) := by rw [numB, if_neg (by omega)]
/-- block wb is a writer's; what was written so far is tot, if there was room for it -/
def WR (w : World) (B wb : Nat) (tot : List UInt8) : Prop := B ≤ wb ∧ ∃ out tm bs, w.heap[wb]? = some (.cells #[out, .bool tm] 78 (0, 0)) ∧ OY B w out bs ∧ out.ownBlock ≠ some wb ∧ ((tm = false ∧ bs = tot ∧ tot.length ≤ 1000000) ∨ (tm = true ∧ 1000000 < tot.length ∧ bs.length ≤ 1000000))

/-- k is the block of what a writer has written -/
def RowIs (w : World) (wb k : Nat) : Prop := ∃ out tm, w.heap[wb]? = some (.cells #[out, tm] 78 (0, 0)) ∧ out.ownBlock = some k

/-- w' is w with more written -/
structure Wrote (wb : Nat) (w w' : World) : Prop where
  kept : Kept (fun k => k = wb ∨ RowIs w wb k) w w'
  row : ∀ k, RowIs w' wb k → RowIs w wb k ∨ w.heap.size ≤ k

theorem Wrote.refl (wb : Nat) (w : World) : Wrote wb w w := ⟨Kept.refl _ _, fun _ h => Or.inl h⟩

theorem Wrote.trans {wb : Nat} {a b c : World} (h : Wrote wb a b) (k : Wrote wb b c) : Wrote wb a c := by
  refine ⟨⟨k.kept.os.trans h.kept.os, k.kept.tape.trans h.kept.tape, k.kept.output.trans h.kept.output, Nat.le_trans h.kept.size k.kept.size, fun i hi hp => ?_⟩, fun i hi => ?_⟩
  · refine (k.kept.block i (Nat.lt_of_lt_of_le hi h.kept.size) fun hq => ?_).trans (h.kept.block i hi hp)
    rcases hq with rfl | hq
    · exact hp (Or.inl rfl)
    · rcases h.row i hq with hq | hq
      · exact hp (Or.inr hq)
      · omega
  · rcases k.row i hi with hq | hq
    · exact h.row i hq
    · have := h.kept.size; exact Or.inr (by omega)

theorem RowIs.back {w w' : World} {wb k : Nat} (h : RowIs w' wb k) (he : w'.heap[wb]? = w.heap[wb]?) : RowIs w wb k := by
  obtain ⟨out, tm, h1, h2⟩ := h
  exact ⟨out, tm, he ▸ h1, h2⟩

theorem Wrote.below {wb : Nat} {w w' : World} (h : RowKit.Below w.heap.size w w') (hwb : wb < w.heap.size) : Wrote wb w w' :=
  ⟨Kept.of_below h, fun _ hk => Or.inl (hk.back (h.block wb hwb))⟩

theorem WR.lt {w : World} {B wb : Nat} {tot : List UInt8} (h : WR w B wb tot) : wb < w.heap.size := by
  obtain ⟨-, out, tm, bs, hh, -⟩ := h
  exact (Array.getElem?_eq_some_iff.1 hh).1

theorem WR.row {w : World} {B wb k : Nat} {tot : List UInt8} (h : WR w B wb tot) (hk : RowIs w wb k) : B ≤ k ∧ k < w.heap.size ∧ k ≠ wb := by
  obtain ⟨-, out, tm, bs, hh, hO, hne, -⟩ := h
  obtain ⟨out', tm', hh', ho⟩ := hk
  rw [hh] at hh'
  simp only [Option.some.injEq, Obj.cells.injEq, Array.mk.injEq, List.cons.injEq, and_true] at hh'
  obtain ⟨⟨rfl, -⟩, -⟩ := hh'
  exact ⟨(hO.lt ho).1, (hO.lt ho).2, fun e => hne (by rw [ho, e])⟩

/-- a later world in which the writer's blocks are as they were -/
theorem WR.on {w w' : World} {B wb : Nat} {tot : List UInt8} (h : WR w B wb tot) (hb : RowKit.Below w.heap.size w w') : WR w' B wb tot := by
  obtain ⟨hB, out, tm, bs, hh, hO, r⟩ := h
  exact ⟨hB, out, tm, bs, (hb.block wb (Array.getElem?_eq_some_iff.1 hh).1).trans hh, hO.move fun k hk => hb.block k (hO.lt hk).2, r⟩

/-- what lies ahead of B stays -/
theorem Wrote.toBelow {wb B : Nat} {w w' : World} {tot : List UInt8} (h : Wrote wb w w') (hW : WR w B wb tot) (hB : B ≤ w.heap.size) : RowKit.Below B w w' :=
  h.kept.below hB fun k hk => by
    rcases hk with rfl | hk
    · exact hW.1
    · exact (hW.row hk).1

/-- a block of the call's own stays -/
theorem Wrote.box {wb B k : Nat} {w w1 w' : World} {tot : List UInt8} {o : Obj} (h : Wrote wb w1 w') (hW : WR w B wb tot) (hg : RowKit.Below w.heap.size w w1) (hk : w1.heap[k]? = some o) (hkw : w.heap.size ≤ k) : w'.heap[k]? = some o := by
  refine (h.kept.block k (Array.getElem?_eq_some_iff.1 hk).1 fun hp => ?_).trans hk
  rcases hp with rfl | hp
  · have := hW.lt; omega
  · have := (hW.row (hp.back (hg.block wb hW.lt))).2.1; omega
end Go.Proofs.Ytmmbnimehmfadaa
