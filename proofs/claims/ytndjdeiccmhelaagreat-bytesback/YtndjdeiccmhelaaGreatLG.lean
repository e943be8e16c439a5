/- Declarations that the reference reads, as plain data; rows of them whose elements may be of any length. -/
import Derived.Test.YtndjdeiccmhelaaGreatLF
namespace Go.Proofs.YtndjdeiccmhelaaGreat
open Go.RowKit Go.Sort Go.Lib

/-- cells that are a constructor, of any length -/
def EC0 (w : World) (P : Nat → Bool) (xs : List Value) (c : ByteArray × Tm) : Prop := ∃ (u0 u1 : Int) (u2 : Bool) (u3 : ByteArray) (r1 : Option Addr) (r2 r3 : Nat) (s1 : Option Addr) (s2 s3 : Nat), xs = [.string c.1, .int .i64 u0, .int .i64 u1, .bool u2, .string u3, .slice r1 r2 r3, .slice s1 s2 s3] ∧ TF w P (.agg #[.int .i64 u0, .int .i64 u1, .bool u2, .string u3, .slice r1 r2 r3, .slice s1 s2 s3]) c.2

theorem EC0.moves : Moves EC0 := by
  rintro w w' P Q xs t ⟨u0, u1, u2, u3, r1, r2, r3, s1, s2, s3, h1, h2⟩ hs hk
  exact ⟨u0, u1, u2, u3, r1, r2, r3, s1, s2, s3, h1, h2.move hs hk⟩

theorem RowX.ck0 {w : World} {B cap : Nat} {P : Nat → Bool} {a : Option Addr} {cs : List (ByteArray × Tm)} (h : RowX 57 7 EC0 w B P a cap cs) (hB : ∀ k, B ≤ k → P k = false) : CK (maskB P w) a cs := by
  cases hcs : cs with
  | nil => exact Or.inl rfl
  | cons c0 cr =>
    obtain ⟨g, xs0, ha, hg1, hg2, -, -, -⟩ := h.at EC0.moves hB (j := 0) (t := c0) (by rw [hcs]; rfl)
    rw [← hcs]
    refine Or.inr ⟨g, 0, ha, by rw [maskB_size]; exact hg2, fun i c hi => ?_⟩
    obtain ⟨g', xs, ha', -, -, hl, hr, u0, u1, u2, u3, r1, r2, r3, s1, s2, s3, rfl, htf⟩ := h.at EC0.moves hB hi
    rw [ha] at ha'
    simp only [Option.some.injEq, Addr.mk.injEq, and_true] at ha'
    subst ha'
    rw [Nat.zero_add]
    refine ⟨hr 0 _ rfl, ?_⟩
    exact CellsAt.tc ⟨u0, u1, u2, u3, r1, r2, r3, s1, s2, s3, rfl, hr 1 _ rfl, hr 2 _ rfl, hr 3 _ rfl, hr 4 _ rfl, hr 5 _ rfl, hr 6 _ rfl⟩ htf

/-- cells that are a declaration, of any length, that does not look into the blocks of P -/
structure ED0 (w : World) (P : Nat → Bool) (xs : List Value) (d : Dl) : Prop where
  len : xs.length = 17
  cell : ∀ v ∈ xs, v.oneCell' = true
  dv : DV (maskB P w) (.agg xs.toArray) d

theorem ED0.moves : Moves ED0 := fun _ _ _ _ _ _ h hs hk => ⟨h.len, h.cell, h.dv.subF (by rw [maskB_size, maskB_size]; exact hs) (maskB_keeps hk)⟩

theorem RowX.small {w : World} {B cap : Nat} {P : Nat → Bool} {a : Option Addr} {ds : List Dl} (h : RowX 41 17 ED0 w B P a cap ds) (hs : ∀ d ∈ ds, smD d) : RowX 41 17 ED w B P a cap ds := by
  obtain ⟨xss, h1, h2, h3, h4⟩ := h.go
  exact ⟨xss, h1, h2, h3, fun j t xs hj hx => ⟨(h4 j t xs hj hx).len, (h4 j t xs hj hx).cell, (h4 j t xs hj hx).dv, hs t (List.mem_of_getElem? hj)⟩⟩

/-- a declaration read -/
def ROne (d : Dl) (r r' : List UInt8) (bad' : Bool) : Prop := (bad' = false → smD d ∧ (encD d).length + r'.length ≤ r.length) ∧ ∀ y rest, okR y → r = encD y ++ rest → bad' = false ∧ d = cleanD y ∧ r' = rest

/-- declarations read so far -/
def PDs (bs r1 : List UInt8) (ds : List Dl) (r : List UInt8) (bad : Bool) : Prop :=
  (bad = false → (∀ d ∈ ds, smD d) ∧ (ds.flatMap encD).length + r.length ≤ r1.length) ∧ (∀ ys, HasD bs ys → bad = false ∧ ds = (ys.take ds.length).map cleanD ∧ r = (ys.drop ds.length).flatMap encD)

theorem PDs.step {bs r1 r r' : List UInt8} {ds : List Dl} {d : Dl} {bad' : Bool} (h : PDs bs r1 ds r false) (hn : ∀ ys, HasD bs ys → ds.length < ys.length) (h1 : ROne d r r' bad') : PDs bs r1 (ds ++ [d]) r' bad' := by
  refine ⟨fun hb => ?_, fun ys hy => ?_⟩
  · obtain ⟨h2, h3⟩ := h.1 rfl
    obtain ⟨h4, h5⟩ := h1.1 hb
    refine ⟨fun x hx => ?_, ?_⟩
    · rcases List.mem_append.1 hx with hx | hx
      · exact h2 x hx
      · rw [List.mem_singleton.1 hx]; exact h4
    · rw [List.flatMap_append, List.length_append]
      simp only [List.flatMap_cons, List.flatMap_nil, List.append_nil]
      omega
  · obtain ⟨-, h3, h4⟩ := h.2 ys hy
    have hlt := hn ys hy
    rw [List.drop_eq_getElem_cons hlt, List.flatMap_cons] at h4
    obtain ⟨h5, h6, h7⟩ := h1.2 _ _ (hy.1.2 _ (List.getElem_mem hlt)) h4
    rw [List.length_append]
    refine ⟨h5, ?_, h7⟩
    show ds ++ [d] = (ys.take (ds.length + 1)).map cleanD
    rw [List.take_succ_eq_append_getElem hlt, List.map_append, ← h3, h6]
    rfl

theorem PDs.start {bs r1 : List UInt8} {n : Nat} {bad : Bool} (h : RdB (fun n => n ≤ 1073741824) numB id bs false n r1 bad) : PDs bs r1 [] r1 bad ∧ (∀ ys, HasD bs ys → n = ys.length) ∧ (bad = false → (numB n).length + r1.length ≤ bs.length) := by
  have key : ∀ ys, HasD bs ys → bad = false ∧ n = ys.length ∧ r1 = ys.flatMap encD := fun ys hy => by
    have hb := hy.2
    have hl := hy.1.1
    exact h.2 rfl ys.length (ys.flatMap encD) (by omega) (by rw [← hb]; rfl)
  refine ⟨⟨fun hb => ⟨by simp, by simp⟩, fun ys hy => ?_⟩, fun ys hy => (key ys hy).2.1, fun hb => (h.1 hb).2⟩
  exact ⟨(key ys hy).1, rfl, (key ys hy).2.2⟩

/-- the head of a declaration read: kind, name, levels, type -/
def RHead (r : List UInt8) (kd : Int) (nm : ByteArray) (lv : Int) (t : Tm) (r4 : List UInt8) (b4 : Bool) : Prop :=
  (b4 = false → smT 1000000 t ∧ 0 ≤ kd ∧ 0 ≤ lv ∧ (numB kd.toNat).length + ((nameB nm).length + ((numB lv.toNat).length + ((encT t).length + r4.length))) ≤ r.length) ∧ ∀ y rest, RightD y → r = encD y ++ rest → b4 = false ∧ y.kind = kd ∧ nm = y.name ∧ y.levels = lv ∧ t = cleanT y.ty ∧ r4 = encF y ++ rest

theorem RHead.of {r r1 r2 r3 r4 : List UInt8} {kd lv : Nat} {nm : ByteArray} {t : Tm} {b1 b2 b3 b4 : Bool} (h1 : RdB (fun n => n ≤ 1073741824) numB id r false kd r1 b1) (h2 : RdB (fun n => 0 < n.size ∧ n.size ≤ 60) nameB id r1 b1 nm r2 b2) (h3 : RdB (fun n => n ≤ 1073741824) numB id r2 b2 lv r3 b3) (h4 : RdB okTm encT cleanT r3 b3 t r4 b4) (hs : b4 = false → smT 1000000 t) : RHead r (kd : Int) nm (lv : Int) t r4 b4 := by
  refine ⟨fun hb => ?_, fun y rest hy he => ?_⟩
  · obtain ⟨e3, l4⟩ := h4.1 hb
    obtain ⟨e2, l3⟩ := h3.1 e3
    obtain ⟨e1, l2⟩ := h2.1 e2
    obtain ⟨-, l1⟩ := h1.1 e1
    refine ⟨hs hb, by omega, by omega, ?_⟩
    rw [show (kd : Int).toNat = kd by omega, show (lv : Int).toNat = lv by omega]
    omega
  · rw [encD_app] at he
    have k1 := hy.kind
    have k2 := hy.levels
    obtain ⟨e1, q1, p1⟩ := h1.2 rfl y.kind.toNat _ (by omega) he
    obtain ⟨e2, q2, p2⟩ := h2.2 e1 y.name _ hy.name p1
    obtain ⟨e3, q3, p3⟩ := h3.2 e2 y.levels.toNat _ (by omega) p2
    obtain ⟨e4, q4, p4⟩ := h4.2 e3 y.ty _ hy.ty p3
    simp only [id] at q1 q2 q3
    exact ⟨e4, by omega, q2, by omega, q4, p4⟩

theorem zeroT_sm : smT 1000000 (.mk 0 0 false { data := #[] } [] []) := (smT_mk _ _ _ _ _ _ _).2 ⟨by decide, by simp, by simp, by simp, by simp⟩

/-- nothing more is read: the kind asks for nothing, or the reader is bad -/
theorem RHead.plain {r r4 : List UInt8} {kd lv : Int} {nm : ByteArray} {t : Tm} {b4 : Bool} (h : RHead r kd nm lv t r4 b4) (hn : nm.size ≤ 60) (hk : b4 = true ∨ (kd ≠ 2 ∧ kd ≠ 3)) : ROne ⟨kd, nm, lv, t, .mk 0 0 false { data := #[] } [] [], 0, []⟩ r r4 b4 := by
  refine ⟨fun hb => ?_, fun y rest hy he => ?_⟩
  · obtain ⟨k1, k2⟩ : kd ≠ 2 ∧ kd ≠ 3 := hk.resolve_left (by rw [hb]; decide)
    obtain ⟨h1, -, -, h2⟩ := h.1 hb
    refine ⟨⟨by simp only; omega, h1, zeroT_sm, by simp, by simp⟩, ?_⟩
    unfold encD encF
    simp only [List.length_append]
    rw [if_neg k1, if_neg k2, List.length_nil]
    omega
  · obtain ⟨e1, e2, e3, e4, e5, e6⟩ := h.2 y rest hy.right he
    obtain ⟨k1, k2⟩ : kd ≠ 2 ∧ kd ≠ 3 := hk.resolve_left (by rw [e1]; decide)
    have n2 : ¬ y.kind = 2 := by rw [e2]; exact k1
    have n3 : ¬ y.kind = 3 := by rw [e2]; exact k2
    rw [encF, if_neg n2, if_neg n3, List.nil_append] at e6
    refine ⟨e1, ?_, e6⟩
    unfold cleanD
    rw [if_neg n2, if_neg n3, if_neg n3, e2, ← e3, e4, ← e5]

theorem RHead.value {r r4 r5 : List UInt8} {lv : Int} {nm : ByteArray} {t tv : Tm} {b5 : Bool} (h : RHead r 2 nm lv t r4 false) (hn : nm.size ≤ 60) (h5 : RdB okTm encT cleanT r4 false tv r5 b5) (hs : b5 = false → smT 1000000 tv) : ROne ⟨2, nm, lv, t, tv, 0, []⟩ r r5 b5 := by
  refine ⟨fun hb => ?_, fun y rest hy he => ?_⟩
  · obtain ⟨h1, -, -, h2⟩ := h.1 rfl
    obtain ⟨-, h3⟩ := h5.1 hb
    refine ⟨⟨by simp only; omega, h1, hs hb, by simp, by simp⟩, ?_⟩
    unfold encD encF
    simp only [List.length_append]
    rw [if_pos trivial]
    omega
  · obtain ⟨-, e2, e3, e4, e5, e6⟩ := h.2 y rest hy.right he
    have n3 : ¬ y.kind = 3 := by omega
    rw [encF, if_pos e2] at e6
    obtain ⟨q1, q2, q3⟩ := h5.2 rfl _ _ (hy.right.val e2) e6
    refine ⟨q1, ?_, q3⟩
    unfold cleanD
    rw [if_pos e2, if_neg n3, if_neg n3, e2, ← e3, e4, ← e5, ← q2]

/-- constructors read so far: m of them are to be read from r6 -/
def PCs (m : Nat) (r6 : List UInt8) (b6 : Bool) (cs : List (ByteArray × Tm)) (r : List UInt8) (bad : Bool) : Prop :=
  (bad = false → b6 = false ∧ (∀ c ∈ cs, c.1.size ≤ 140737488351232 ∧ smT 1000000 c.2) ∧ (cs.flatMap encC).length + r.length ≤ r6.length) ∧ (b6 = false → ∀ (ys : List (ByteArray × Tm)) (rest : List UInt8), (ys.length = m ∧ ∀ y ∈ ys, okC y) → r6 = ys.flatMap encC ++ rest → bad = false ∧ cs = (ys.take cs.length).map cleanC ∧ r = (ys.drop cs.length).flatMap encC ++ rest)

theorem PCs.start (m : Nat) (r6 : List UInt8) (b6 : Bool) : PCs m r6 b6 [] r6 b6 := ⟨fun hb => ⟨hb, by simp, by simp⟩, fun hb ys rest _ he => ⟨hb, rfl, he⟩⟩

theorem PCs.step {m : Nat} {r6 r r1 r2 : List UInt8} {b6 b1 b2 : Bool} {cs : List (ByteArray × Tm)} {nm : ByteArray} {t : Tm} (h : PCs m r6 b6 cs r false) (hlt : cs.length < m) (hn : nm.size ≤ 60) (h1 : RdB (fun n => 0 < n.size ∧ n.size ≤ 60) nameB id r false nm r1 b1) (h2 : RdB okTm encT cleanT r1 b1 t r2 b2) (hs : b2 = false → smT 1000000 t) : PCs m r6 b6 (cs ++ [(nm, t)]) r2 b2 := by
  refine ⟨fun hb => ?_, fun hb ys rest hy he => ?_⟩
  · obtain ⟨e1, l2⟩ := h2.1 hb
    obtain ⟨-, l1⟩ := h1.1 e1
    obtain ⟨e6, s1, l0⟩ := h.1 rfl
    refine ⟨e6, fun c hc => ?_, ?_⟩
    · rcases List.mem_append.1 hc with hc | hc
      · exact s1 c hc
      · rw [List.mem_singleton.1 hc]; exact ⟨by simp only; omega, hs hb⟩
    · rw [List.flatMap_append, List.length_append]
      simp only [List.flatMap_cons, List.flatMap_nil, List.append_nil, encC, List.length_append]
      omega
  · obtain ⟨-, h3, h4⟩ := h.2 hb ys rest hy he
    have hly : cs.length < ys.length := by rw [hy.1]; exact hlt
    rw [List.drop_eq_getElem_cons hly, List.flatMap_cons, encC, List.append_assoc, List.append_assoc] at h4
    have hok := hy.2 _ (List.getElem_mem hly)
    obtain ⟨e1, q1, p1⟩ := h1.2 rfl _ _ hok.1 h4
    obtain ⟨e2, q2, p2⟩ := h2.2 e1 _ _ hok.2 p1
    rw [List.length_append]
    refine ⟨e2, ?_, p2⟩
    show cs ++ [(nm, t)] = (ys.take (cs.length + 1)).map cleanC
    rw [List.take_succ_eq_append_getElem hly, List.map_append, ← h3, q1, q2]
    rfl

theorem flatC_len : ∀ cs : List (ByteArray × Tm), cs.length ≤ (cs.flatMap encC).length
  | [] => Nat.le_refl _
  | c :: cs => by
    have h1 := flatC_len cs
    have h2 := nameB_len c.1
    rw [List.flatMap_cons, List.length_append, encC, List.length_append, List.length_cons]
    omega

theorem RHead.family {r r4 r5 r6 r7 : List UInt8} {lv : Int} {pr m : Nat} {nm : ByteArray} {t : Tm} {b5 b6 b7 : Bool} {cs : List (ByteArray × Tm)} (h : RHead r 3 nm lv t r4 false) (hn : nm.size ≤ 60) (hr : r4.length ≤ 1000000) (h5 : RdB (fun n => n ≤ 1073741824) numB id r4 false pr r5 b5) (h6 : RdB (fun n => n ≤ 1073741824) numB id r5 b5 m r6 b6) (h7 : PCs m r6 b6 cs r7 b7) (hd : b7 = true ∨ cs.length = m) : ROne ⟨3, nm, lv, t, .mk 0 0 false { data := #[] } [] [], (pr : Int), cs⟩ r r7 b7 := by
  refine ⟨fun hb => ?_, fun y rest hy he => ?_⟩
  · have hm : cs.length = m := by
      rcases hd with h | h
      · rw [h] at hb; cases hb
      · exact h
    obtain ⟨h1, -, -, h2⟩ := h.1 rfl
    obtain ⟨e6, s7, l7⟩ := h7.1 hb
    obtain ⟨e5, l6⟩ := h6.1 e6
    obtain ⟨-, l5⟩ := h5.1 e5
    have hcl := flatC_len cs
    refine ⟨⟨by simp only; omega, h1, zeroT_sm, by simp only; omega, s7⟩, ?_⟩
    unfold encD encF
    simp only [List.length_append]
    rw [if_neg (by decide), if_pos trivial]
    simp only [List.length_append]
    rw [hm, show ((pr : Int)).toNat = pr by omega]
    omega
  · obtain ⟨-, e2, e3, e4, e5, e6⟩ := h.2 y rest hy.right he
    have n2 : ¬ y.kind = 2 := by omega
    rw [encF, if_neg n2, if_pos e2, List.append_assoc, List.append_assoc] at e6
    have hp := hy.right.params e2
    have hl := hy.right.len e2
    obtain ⟨q5, x5, p5⟩ := h5.2 rfl y.params.toNat _ (by omega) e6
    obtain ⟨q6, x6, p6⟩ := h6.2 q5 y.ctors.length _ (by omega) p5
    simp only [id] at x5 x6
    obtain ⟨q7, x7, p7⟩ := h7.2 q6 y.ctors rest ⟨x6.symm, hy.right.ctors e2⟩ p6
    have hm : cs.length = m := by
      rcases hd with h | h
      · rw [h] at q7; cases q7
      · exact h
    rw [hm, x6, List.take_length] at x7
    rw [hm, x6, List.drop_length] at p7
    refine ⟨q7, ?_, p7⟩
    unfold cleanD
    rw [if_neg n2, if_pos e2, if_pos e2, e2, ← e3, e4, ← e5, ← x7, show ((pr : Int)) = y.params by omega]

/-- one element more behind a row of the call's own -/
theorem RowX.push {α : Type} {e : TypeId} {m : Nat} {E : World → (Nat → Bool) → List Value → α → Prop} (hE : Moves E) {w1 : World} {B cap : Nat} {P Q : Nat → Bool} {a : Option Addr} {ts : List α} {zs : List Value} {t : α} (h : RowX e m E w1 B P a cap ts) (hB : ∀ k, B ≤ k → P k = false) (hzl : zs.length = m) (hnew : E w1 Q zs t) (hQ : ∀ k, k < w1.heap.size → Q k = false → P k = false ∧ ownB a k = false) :
    ∃ xs : List Value, (w1.alloc (.cells zs.toArray e)).ownsRow B e m (.slice a ts.length cap) ts.length xs ∧ ∀ (g cap' : Nat) (w' : World), w'.ownsRow B e m (.slice (some ⟨g, 0, none⟩) (ts.length + 1) cap') (ts.length + 1) (xs ++ zs) → (w1.alloc (.cells zs.toArray e)).grownBy w' (Value.slice a ts.length cap).ownBlock → ((Value.slice a ts.length cap).ownBlock = some g ∨ g = (w1.alloc (.cells zs.toArray e)).heap.size) →
      RowX e m E w' B P (some ⟨g, 0, none⟩) cap' (ts ++ [t]) ∧ Kept (fun k => ownB a k = true) w1 w' := by
  have h1 : RowX e m E (w1.alloc (.cells zs.toArray e)) B P a cap ts := h.move hE hB (by simp) fun k hk _ => Below.heap_alloc _ _ _ hk
  obtain ⟨xss, hx1, hx2, hown, hkv⟩ := h1.go
  refine ⟨xss.flatten, hown, fun g cap' w' hown' hgr hat => ⟨?_, ?_⟩⟩
  · refine RowX.snoc hE (cap := cap) hx1 hx2 hkv hzl hown' hgr hat (hE _ _ _ _ _ _ hnew (by simp) fun k hk hq => ⟨?_, Below.heap_alloc _ _ _ hk⟩)
    obtain ⟨h2, h3⟩ := hQ k hk hq
    rw [h2, h3]; rfl
  · refine ⟨hgr.os, hgr.tape, hgr.output, by have := hgr.size; simp at this; omega, fun k hk hn => ?_⟩
    have ho : ownB a k = false := by
      cases ho : ownB a k
      · rfl
      · exact absurd ho hn
    exact (hgr.block k (by simp; omega) (ownB_none ho)).trans (Below.heap_alloc _ _ _ hk)

/-- what the reference's ReadDecls answers -/
def DsAnsU (w : World) (bs : List UInt8) (e : Ending) (w' : World) : Prop := (∃ (ds : List Dl) (a : Option Addr) (cap : Nat), HasD bs ds ∧ (∀ ys, HasD bs ys → ds = ys.map cleanD) ∧ e = .returned (.tuple #[.slice a ds.length cap, .int .i64 0]) ∧ RowX 41 17 ED w' w.heap.size (oldB w) a cap ds) ∨ ((∀ ds, ¬ HasD bs ds) ∧ e = .returned (.tuple #[.slice none 0 0, .int .i64 30]))

theorem frz17 {w : World} {b : Nat} {c : Array Value} {t : TypeId} (h : w.heap[b]? = some (.cells c t (0, 0))) : ∀ o, w.frozen? ⟨b, o, none⟩ = false := fun o => by simp [World.frozen?, h]

def setA (c : Array Value) (o : Nat) : List Value → Array Value
  | [] => c
  | v :: vs => setA (c.setIfInBounds o v) (o + 1) vs

theorem sets_block {b : Nat} {t : TypeId} : ∀ (vs : List Value) (o : Nat) (c : Array Value) (w : World), w.heap[b]? = some (.cells c t (0, 0)) → (w.setCells b o vs).heap[b]? = some (.cells (setA c o vs) t (0, 0))
  | [], _, _, _, h => h
  | v :: vs, o, c, w, h => sets_block vs (o + 1) (c.setIfInBounds o v) (w.setCell ⟨b, o, none⟩ v) (by
    rw [setCell_eq]; show (w.heap.modify b _)[b]? = _
    rw [Array.getElem?_modify, if_pos rfl, h]; rfl)

theorem RR.sets {w : World} {N rb b o : Nat} {a : Option Addr} {cap : Nat} {all bs : List UInt8} {bad : Bool} {n : Nat} (h : RR w N rb a cap all bs bad n) (hb : N ≤ b) (vs : List Value) : RR (w.setCells b o vs) N rb a cap all bs bad n := h.move (by rw [(sets_heap b vs o w).1]; exact Nat.le_refl _) fun k hk => (sets_heap b vs o w).2 k (by omega)
end Go.Proofs.YtndjdeiccmhelaaGreat
