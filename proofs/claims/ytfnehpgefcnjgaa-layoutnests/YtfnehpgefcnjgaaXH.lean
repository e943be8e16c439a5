/- An executor for closed calls, 5: an operation of the executor gives what the operation that it stands for gives (slots, blocks, parts). -/
import Derived.Test.YtfnehpgefcnjgaaXD
namespace Go.Proofs.Ytfnehpgefcnjgaa.X
open Go.RowKit

section
variable {P : Program} {w : World}

theorem run_typeInfo {t : TypeId} {i : TypeInfo} (h : P.info? t = some i) : (typeInfo t).run P w = .ok i w := by
  show Sem.run P (Sem.program fun p => _) w = _
  simp only [Sem.run, Sem.bind]
  rw [h]; rfl

theorem run_underlying {t : TypeId} {d : TypeDesc} (h : P.underlying t = some d) : (underlying t).run P w = .ok d w := by
  show Sem.run P (Sem.program fun p => _) w = _
  simp only [Sem.run, Sem.bind]
  rw [h]; rfl

theorem run_sizeOf {t : TypeId} {i : TypeInfo} (h : P.info? t = some i) : (sizeOf t).run P w = .ok i.size w := by
  unfold sizeOf; rw [run_ok_bind (run_typeInfo h)]; rfl

theorem run_zeroValue {t : TypeId} {i : TypeInfo} {z : Value} (h : P.info? t = some i) (hz : i.zero = some z) : (zeroValue t).run P w = .ok z w := by
  unfold zeroValue; rw [run_ok_bind (run_typeInfo h), hz]; rfl

def aggD : TypeDesc → Bool
  | .struct _ | .array _ _ => true
  | _ => false

theorem run_isAgg {t : TypeId} {d : TypeDesc} (h : P.underlying t = some d) : (isAgg t).run P w = .ok (aggD d) w := by
  unfold isAgg; rw [run_ok_bind (run_underlying h)]
  cases d <;> rfl

end

/-- the parts of a literal: where each is laid, and how long it is -/
def Cps (place : Nat → Option (Nat × Nat)) : List (Nat × Operand) → List (Nat × Nat × AX) → Prop
  | [], [] => True
  | p :: ps, q :: qs => place p.1 = some (q.1, q.2.1) ∧ Cx p.2 q.2.2 ∧ Cps place ps qs
  | _, _ => False

def Cxo : Option Operand → Option AX → Prop
  | none, none => True
  | some o, some x => Cx o x
  | _, _ => False

def isConst : Operand → Prop
  | .const _ => True
  | _ => False

/-- a type at which eqK tells -/
def EqT (P : Program) (x y : Operand) : EK → TypeDesc → Prop
  | .b, .bool => True
  | .p, .pointer e => ∃ j, P.info? e = some j ∧ j.size ≠ 0
  | .s, .slice _ => True
  | .m, .map _ _ => True
  | .f, .func _ _ _ => True
  | .i, .interface _ => isConst x ∨ isConst y
  | _, _ => False

/-- a type of what may be appended -/
def NoInt (P : Program) (u : TypeId) : Prop := P.underlying u = some .string ∨ ∃ e, P.underlying u = some (.slice e)

/-- which operation of the executor stands for which -/
inductive Co (P : Program) : Op → AOp → Prop
  | mv {x : Operand} {x' : AX} : Cx x x' → Co P (.move x) (.mv x')
  | asg {x : Operand} {x' : AX} : Cx x x' → Co P (.assign x) (.mv x')
  | pick {c a b : Operand} {c' a' b' : AX} : Cx c c' → Cx a a' → Cx b b' → Co P (.pick c a b) (.pick c' a' b')
  | new {e : TypeId} {i : TypeInfo} {z : Value} {v : AV} : P.info? e = some i → i.zero = some z → Lone v z → Co P (.alloc e) (.new (cellsA v) e)
  | box {e : TypeId} {x : Operand} {x' : AX} : Cx x x' → Co P (.box e x) (.box e x')
  | build {t : TypeId} {i : TypeInfo} {z : Value} {v : AV} {fields : Array Field} {places : Array (Nat × Nat)} {ps : Array (Nat × Operand)} {qs : List (Nat × Nat × AX)} :
      P.info? t = some i → i.zero = some z → Lone v z → P.underlying t = some (.struct fields) →
      (∀ w, (fields.mapM (fun f => do pure (f.offset, ← sizeOf f.type)) : Sem (Array (Nat × Nat))).run P w = .ok places w) → Cps (places[·]?) ps.toList qs → Co P (.build t ps) (.build (cellsA v) qs)
  | buildA {t : TypeId} {i : TypeInfo} {z : Value} {v : AV} {n : Nat} {elem : TypeId} {j : TypeInfo} {ps : Array (Nat × Operand)} {qs : List (Nat × Nat × AX)} :
      P.info? t = some i → i.zero = some z → Lone v z → P.underlying t = some (.array n elem) → P.info? elem = some j →
      Cps (fun i => some (i * j.size, j.size)) ps.toList qs → Co P (.build t ps) (.build (cellsA v) qs)
  | buildS {t : TypeId} {n : Nat} {elem : TypeId} {j : TypeInfo} {z : Value} {v : AV} {zs : List AV} {ps : Array (Nat × Operand)} {qs : List (Nat × Nat × AX)} :
      P.underlying t = some (.slice elem) → P.info? elem = some j → j.zero = some z → n * j.size ≤ 2 ^ 24 → 0 < n * j.size → (∀ n, okL n zs) →
      (∀ r, (concL r zs).toArray = (Array.range (n * j.size)).map (z.cells[· % z.cells.size]!)) → Lone v z →
      Cps (fun i => some (i * j.size, j.size)) ps.toList qs → Co P (.buildSlice t n ps) (.buildS elem n zs qs)
  | buildE {t : TypeId} {elem : TypeId} {j : TypeInfo} : P.underlying t = some (.slice elem) → P.info? elem = some j → Co P (.buildSlice t 0 #[]) (.buildS elem 0 [] [])
  | ld1 {t : TypeId} {d : TypeDesc} {x : Operand} {x' : AX} : P.underlying t = some d → aggD d = false → Cx x x' → Co P (.load t x) (.ld1 x')
  | ldN {t : TypeId} {d : TypeDesc} {i : TypeInfo} {x : Operand} {x' : AX} : P.underlying t = some d → aggD d = true → P.info? t = some i → Cx x x' → Co P (.load t x) (.ldN i.size x')
  | st {t : TypeId} {i : TypeInfo} {a x : Operand} {a' x' : AX} : P.info? t = some i → Cx a a' → Cx x x' → Co P (.store t a x) (.st i.size a' x')
  | nchk {x : Operand} {x' : AX} : Cx x x' → Co P (.nilCheck x) (.nchk x')
  | fa {s : TypeId} {fields : Array Field} {i : Nat} {f : Field} {j : TypeInfo} {x : Operand} {x' : AX} : P.underlying s = some (.struct fields) → fields[i]? = some f → P.info? f.type = some j → j.size ≠ 0 → Cx x x' → Co P (.fieldAddr s x i) (.fa f.offset x')
  | fld {s : TypeId} {fields : Array Field} {i : Nat} {f : Field} {d : TypeDesc} {j : TypeInfo} {x : Operand} {x' : AX} : P.underlying s = some (.struct fields) → fields[i]? = some f → P.underlying f.type = some d → aggD d = true → P.info? f.type = some j → Cx x x' → Co P (.field s x i) (.fld j.size f.offset x')
  | fld1 {s : TypeId} {fields : Array Field} {i : Nat} {f : Field} {d : TypeDesc} {x : Operand} {x' : AX} : P.underlying s = some (.struct fields) → fields[i]? = some f → P.underlying f.type = some d → aggD d = false → Cx x x' → Co P (.field s x i) (.fld1 f.offset x')
  | ia {t elem : TypeId} {j : TypeInfo} {x i : Operand} {x' i' : AX} : P.underlying t = some (.slice elem) → P.info? elem = some j → Cx x x' → Cx i i' → Co P (.indexAddr t x i) (.ia j.size x' i')
  | iaA {t elem : TypeId} {len : Nat} {j : TypeInfo} {x i : Operand} {x' i' : AX} : P.underlying t = some (.array len elem) → P.info? elem = some j → Cx x x' → Cx i i' → Co P (.indexAddr t x i) (.iaA len j.size x' i')
  | ext {x : Operand} {x' : AX} {i : Nat} : Cx x x' → Co P (.extract x i) (.ext x' i)
  | mkf {f : FuncId} {a b : Array Operand} {a' b' : List AX} : Cxs a.toList a' → Cxs b.toList b' → Co P (.makeFunc (.func f) a b) (.mkf f a' b')
  | mki {t : TypeId} {d : TypeDesc} {x : Operand} {x' : AX} : P.underlying t = some d → (∀ m, d ≠ .interface m) → Cx x x' → Co P (.makeInterface t x) (.mki t x')
  | ar {op : BinOp} {t u : TypeId} {x y : Operand} {x' y' : AX} : Cx x x' → Cx y y' → Co P (.binOp op t x y u) (.ar op x' y')
  | eq {op : BinOp} {ek : EK} {neg : Bool} {t u : TypeId} {d : TypeDesc} {x y : Operand} {x' y' : AX} : (op = .eql ∧ neg = false ∨ op = .neq ∧ neg = true) → P.underlying t = some d → EqT P x y ek d → Cx x x' → Cx y y' → Co P (.binOp op t x y u) (.eq ek neg x' y')
  | un {op : UnOp} {t : TypeId} {x : Operand} {x' : AX} : Cx x x' → Co P (.unOp op t x) (.un op x')
  | cvI {src dst : TypeId} {d : TypeDesc} {k : IntKind} {x : Operand} {x' : AX} : P.underlying src = some d → P.underlying dst = some (.int k) → Cx x x' → Co P (.convert src dst x) (.cvI k x')
  | cvS {src dst : TypeId} {d : TypeDesc} {x : Operand} {x' : AX} : P.underlying src = some d → P.underlying dst = some .string → Cx x x' → Co P (.convert src dst x) (.cvS x')
  | lenS {t : TypeId} {x : Operand} {x' : AX} : P.underlying t = some .string → Cx x x' → Co P (.call ⟨.builtin .len, #[x], #[t]⟩) (.lenS x')
  | len {t e : TypeId} {x : Operand} {x' : AX} : P.underlying t = some (.slice e) → Cx x x' → Co P (.call ⟨.builtin .len, #[x], #[t]⟩) (.len x')
  | lenM {t : TypeId} {k e : TypeId} {x : Operand} {x' : AX} : P.underlying t = some (.map k e) → Cx x x' → Co P (.call ⟨.builtin .len, #[x], #[t]⟩) (.lenM x')
  | ix1 {t elem : TypeId} {l : Nat} {d : TypeDesc} {j : TypeInfo} {x i : Operand} {x' i' : AX} : P.underlying t = some (.array l elem) → P.underlying elem = some d → aggD d = false → P.info? elem = some j → j.size = 1 → Cx x x' → Cx i i' → Co P (.index t x i) (.ix1 l x' i')
  | lk {t key elem : TypeId} {j : TypeInfo} {z : Value} {v : AV} {ok : Bool} {x k : Operand} {x' k' : AX} : P.underlying t = some (.map key elem) → P.underlying key = some .string → P.info? elem = some j → j.zero = some z → Lone v z → Cx x x' → Cx k k' → Co P (.lookup t x k ok) (.lk v ok x' k')
  | up {t key elem : TypeId} {x k v : Operand} {x' k' v' : AX} : P.underlying t = some (.map key elem) → P.underlying key = some .string → Cx x x' → Cx k k' → Cx v v' → Co P (.mapUpdate t x k v) (.up x' k' v')
  | cvB {src dst e : TypeId} {d : TypeDesc} {j : TypeInfo} {x : Operand} {x' : AX} : P.underlying src = some d → P.underlying dst = some (.slice e) → P.underlying e = some (.int .u8) → P.info? e = some j → j.size = 1 → Cx x x' → Co P (.convert src dst x) (.cvB e x')
  | cvT {src dst e : TypeId} {x : Operand} {x' : AX} : P.underlying src = some (.slice e) → P.underlying e = some (.int .u8) → P.underlying dst = some .string → Cx x x' → Co P (.convert src dst x) (.cvT x')
  | clr {t e : TypeId} {j : TypeInfo} {z : Value} {v : AV} {x : Operand} {x' : AX} : P.underlying t = some (.slice e) → P.info? e = some j → j.zero = some z → Lone v z → 0 < (cellsA v).length → Cx x x' → Co P (.call ⟨.builtin .clear, #[x], #[t]⟩) (.clr (cellsA v) x')
  | ixS {t : TypeId} {x i : Operand} {x' i' : AX} : P.underlying t = some .string → Cx x x' → Cx i i' → Co P (.index t x i) (.ixS x' i')
  | mkS {t e : TypeId} {j : TypeInfo} {z : Value} {v : AV} {l c : Operand} {l' c' : AX} : P.underlying t = some (.slice e) → P.info? e = some j → j.zero = some z → Lone v z → (cellsA v).length = j.size → 0 < j.size → j.bytes ≤ 1048576 → Cx l l' → Cx c c' → Co P (.makeSlice t l c) (.mkS e j.size (cellsA v) l' c')
  | sl {t e : TypeId} {j : TypeInfo} {x : Operand} {lo hi mx : Option Operand} {x' : AX} {lo' hi' mx' : Option AX} : P.underlying t = some (.slice e) → P.info? e = some j → Cx x x' → Cxo lo lo' → Cxo hi hi' → Cxo mx mx' → (mx ≠ none → hi ≠ none) → Co P (.slice t x lo hi mx) (.sl j.size x' lo' hi' mx')
  | slS {t : TypeId} {x : Operand} {lo hi : Option Operand} {x' : AX} {lo' hi' : Option AX} : P.underlying t = some .string → Cx x x' → Cxo lo lo' → Cxo hi hi' → Co P (.slice t x lo hi none) (.slS x' lo' hi')
  | app {t u e : TypeId} {j : TypeInfo} {z : Value} {v : AV} {x y : Operand} {x' y' : AX} : P.underlying t = some (.slice e) → NoInt P u → P.info? e = some j → j.zero = some z → Lone v z → (cellsA v).length = j.size → 0 < j.size → j.bytes ≤ 1048576 → Cx x x' → Cx y y' → Co P (.call ⟨.builtin .append, #[x, y], #[t, u]⟩) (.app e j.size x' y')
  | max {ts : Array TypeId} {xs : Array Operand} {xs' : List AX} : Cxs xs.toList xs' → Co P (.call ⟨.builtin .max, xs, ts⟩) (.mm true xs')
  | min {ts : Array TypeId} {xs : Array Operand} {xs' : List AX} : Cxs xs.toList xs' → Co P (.call ⟨.builtin .min, xs, ts⟩) (.mm false xs')
  | lenC {t : TypeId} {d : ChanDir} {e : TypeId} {x : Operand} {x' : AX} : P.underlying t = some (.chan d e) → Cx x x' → Co P (.call ⟨.builtin .len, #[x], #[t]⟩) (.lenC x')
  | mkC {t : TypeId} {d : ChanDir} {e : TypeId} {j : TypeInfo} {x : Operand} {x' : AX} : P.underlying t = some (.chan d e) → P.info? e = some j → j.bytes ≤ 1048576 → Cx x x' → Co P (.makeChan t x) (.mkC x')
  | mkM {t : TypeId} : Co P (.makeMap t none) .mkM

section
variable {P : Program} {w0 : World} {r : Rho} {h : T AO} {nx : Pt} {w : World} {K : AV → T AO → Pt → Prop} {tm : T AV} {a : Act}

theorem Yields.ptr (H : WR P w0 r h nx w) {vs : List AV} {e : TypeId} {s : Sem Next} (hv : okL r.has vs) (hK : K (.ptr nx 0) (h.set (.cells vs e) nx) nx.succ)
    (hs : ∀ x w', (newRow e (concL r vs).toArray).run P w = .ok x w' → s.run P w = .ok (.value (.pointer (some x))) w') : Yields P w0 r h w s K := by
  obtain ⟨w', h1, h2, h3⟩ := H.newRow vs e hv
  refine ⟨_, _, _, w', .ptr nx 0, _, hK, hs _ _ h1, .inl (by simp [conc]), h2, h3, ?_⟩
  exact Or.inl rfl

theorem setK_forceP {o : AO} {nx : Pt} {K : AV → T AO → Pt → Prop} {v : AV} (hk : h.setK o nx fun h' => forceP nx.succ fun n' => K v h' n') : K v (h.set o nx) nx.succ := by
  rw [T.setK_iff, forceP_iff] at hk; exact hk

theorem fill_put (place : Nat → Option (Nat × Nat)) {off size : Nat} {i : Nat} {v : Value} {cs : List Value} {rest : List (Nat × Value)} {vl : List Value} (hv : v.cells = vl.toArray) (hp : place i = some (off, size)) (hs : vl.length = size) (hl : off + size ≤ cs.length) :
    Instr.fill place cs.toArray ((i, v) :: rest) = Instr.fill place (putL cs off vl).toArray rest := by
  have key : ∀ (l : List Value) (o n : Nat) (c : Array Value), (l.toArray.zipIdx n).foldl (fun cs (x : Value × Nat) => cs.setIfInBounds (o + x.2) x.1) c = (putL c.toList (o + n) l).toArray := by
    intro l
    induction l with
    | nil => intro o n c; simp [putL]; rfl
    | cons x l ih =>
      intro o n c
      have e : ((x :: l).toArray.zipIdx n) = #[(x, n)] ++ (l.toArray.zipIdx (n + 1)) := by
        apply Array.ext'
        simp [List.zipIdx_cons]
      rw [e, Array.foldl_append]
      have := ih o (n + 1) (c.setIfInBounds (o + n) x)
      simp only [List.foldl_toArray', List.foldl_cons, List.foldl_nil] at this ⊢
      rw [this]
      simp [putL, Nat.add_assoc]
  rw [Instr.fill, hp]
  simp only [hv]
  rw [if_neg (by simp [hs]; omega)]
  rw [key vl off 0 cs.toArray]
  rfl

theorem fillK_spec (ht : TR r tm a.tmps) {place : Nat → Option (Nat × Nat)} : ∀ {ps : List (Nat × Operand)} {qs : List (Nat × Nat × AX)} {z : List AV} {c : List AV → Prop}, Cps place ps qs → okL r.has z → fillK tm qs z c →
    ∃ vs, c vs ∧ okL r.has vs ∧ Instr.fill place (concL r z).toArray (ps.map fun p => (p.1, a.eval p.2)) = some (concL r vs).toArray
  | [], [], z, c, _, hz, hk => ⟨z, hk, hz, by simp [Instr.fill]⟩
  | _ :: _, [], _, _, hc, _, _ => hc.elim
  | [], _ :: _, _, _, hc, _, _ => hc.elim
  | p :: ps, q :: qs, z, c, hc, hz, hk => by
    obtain ⟨h1, h2, h3⟩ := hc
    obtain ⟨v, g1, g2, g3⟩ := evK_spec h2 ht hk
    rw [forceB_iff] at g1
    cases hb : (Nat.beq (cellsA v).length q.2.1 && Nat.ble (q.1 + q.2.1) z.length) with
    | false => rw [hb] at g1; exact g1.elim
    | true =>
      rw [hb] at g1
      simp only [Bool.and_eq_true, Nat.ble_eq] at hb
      obtain ⟨vs, e1, e2, e3⟩ := fillK_spec ht (z := putL z q.1 (cellsA v)) h3 (okL_put hz (okL_cells g3)) g1
      refine ⟨vs, e1, e2, ?_⟩
      rw [List.map_cons, fill_put place (vl := concL r (cellsA v)) (by rw [g2, conc_cells]) h1 (by rw [concL_length]; exact Nat.eq_of_beq_eq_true hb.1) (by rw [concL_length]; exact hb.2), ← concL_put]
      exact e3

end
end Go.Proofs.Ytfnehpgefcnjgaa.X

/- An executor for closed calls, 6: the operations of slots, blocks and parts are right. -/
namespace Go.Proofs.Ytfnehpgefcnjgaa.X
open Go.RowKit

section
variable {P : Program} {w0 : World} {r : Rho} {h : T AO} {nx : Pt} {w : World} {K : AV → T AO → Pt → Prop} {tm : T AV} {a : Act} {o : Oper}

theorem brec {b : Bool} {p : Prop} (h : Bool.rec (motive := fun _ => Prop) False p b) : b = true ∧ p := by
  cases b with
  | false => exact h.elim
  | true => exact ⟨rfl, h⟩

theorem run_sureAddr (b i : Nat) : (Instr.sureAddr (.pointer (some ⟨b, i, none⟩))).run P w = .ok ⟨b, i, none⟩ w := rfl


theorem s_ld1 (H : WR P w0 r h nx w) (ht : TR r tm a.tmps) {t : TypeId} {d : TypeDesc} {x : Operand} {x' : AX} (hu : P.underlying t = some d) (hd : aggD d = false) (hx : Cx x x') (hop : o.op = .load t x) (hk : stepV (.ld1 x') tm h nx K) : Yields P w0 r h w (execOp a.eval o) K := by
  simp only [stepV, oLd1] at hk
  obtain ⟨v, h1, h2, h3⟩ := evK_spec hx ht hk
  split at h1
  · rename_i k i
    obtain ⟨b, hb, h1⟩ := (T.getK_iff _ _ _).1 h1
    split at h1
    · rename_i vs e
      split at h1
      · rename_i u hu'
        simp only [execOp, hop]
        refine Yields.pureV H h1 ?_ (((H.has k _ hb).2.2.1 : okL r.has vs).get hu')
        rw [h2]
        simp only [conc, Instr.loadAt]
        rw [run_ok_bind (run_sureAddr _ _), loadVar, run_ok_bind (run_isAgg hu), hd]
        simp only [Bool.false_eq_true, if_false]
        exact H.loadOne hb hu'
      · exact h1.elim
    · exact h1.elim
  · exact h1.elim

theorem s_ldN (H : WR P w0 r h nx w) (ht : TR r tm a.tmps) {t : TypeId} {d : TypeDesc} {i : TypeInfo} {x : Operand} {x' : AX} (hu : P.underlying t = some d) (hd : aggD d = true) (hi : P.info? t = some i) (hx : Cx x x') (hop : o.op = .load t x) (hk : stepV (.ldN i.size x') tm h nx K) : Yields P w0 r h w (execOp a.eval o) K := by
  simp only [stepV, oLdN] at hk
  obtain ⟨v, h1, h2, h3⟩ := evK_spec hx ht hk
  split at h1
  · rename_i k q
    obtain ⟨b, hb, h1⟩ := (T.getK_iff _ _ _).1 h1
    split at h1
    · rename_i vs e
      obtain ⟨hle, h1⟩ := brec h1
      rw [forceL_iff] at h1
      simp only [execOp, hop]
      refine Yields.pureV H h1 ?_ ?_
      · rw [h2]
        simp only [conc, Instr.loadAt]
        rw [run_ok_bind (run_sureAddr _ _), loadVar, run_ok_bind (run_isAgg hu), hd]
        simp only [if_true]
        rw [run_ok_bind (run_sizeOf hi), run_ok_bind (H.loadCells hb _ _ (Nat.le_of_ble_eq_true hle))]
        rfl
      · simp only [okV]
        exact okL_take (okL_drop ((H.has k _ hb).2.2.1 : okL r.has vs) _) _
    · exact h1.elim
  · exact h1.elim

theorem s_st (H : WR P w0 r h nx w) (ht : TR r tm a.tmps) {t : TypeId} {i : TypeInfo} {x y : Operand} {x' y' : AX} (hi : P.info? t = some i) (hx : Cx x x') (hy : Cx y y') (hop : o.op = .store t x y) (hk : stepV (.st i.size x' y') tm h nx K) : Yields P w0 r h w (execOp a.eval o) K := by
  simp only [stepV, oSt] at hk
  obtain ⟨v, h1, h2, h3⟩ := evK_spec hx ht hk
  split at h1
  · rename_i k q
    obtain ⟨u, h1, h4, h5⟩ := evK_spec hy ht h1
    obtain ⟨b, hb, h1⟩ := (T.getK_iff _ _ _).1 h1
    split at h1
    · rename_i vs e
      obtain ⟨hle, h1⟩ := brec h1
      rw [forceL_iff, T.setK_iff] at h1
      simp only [Bool.and_eq_true] at hle
      obtain ⟨⟨hl1, hl2⟩, hl3⟩ := hle
      have hl1 := Nat.eq_of_beq_eq_true hl1
      obtain ⟨w', e1, e2, e3⟩ := H.storeCells hb q (cellsA u) (flatB_spec hl3) (okL_cells h5) (by have := Nat.le_of_ble_eq_true hl2; omega)
      simp only [execOp, hop]
      refine ⟨r, _, nx, w', .tup [], .skip, h1, run_skip ?_, .inr ⟨rfl, by simp [conc, concL, undef]⟩, e2, e3, by simp [okV, okL]⟩
      rw [h2, h4]
      simp only [conc, Instr.storeAt]
      rw [run_ok_bind (run_sureAddr _ _), storeVar, run_ok_bind (run_sizeOf hi), conc_cells]
      rw [if_neg (by simp [concL_length, hl1])]
      exact e1
    · exact h1.elim
  · exact h1.elim

theorem s_fa (H : WR P w0 r h nx w) (ht : TR r tm a.tmps) {s : TypeId} {fields : Array Field} {i : Nat} {f : Field} {j : TypeInfo} {x : Operand} {x' : AX} (hu : P.underlying s = some (.struct fields)) (hf : fields[i]? = some f) (hj : P.info? f.type = some j) (hz : j.size ≠ 0) (hx : Cx x x') (hop : o.op = .fieldAddr s x i) (hk : stepV (.fa f.offset x') tm h nx K) : Yields P w0 r h w (execOp a.eval o) K := by
  simp only [stepV, oFa] at hk
  obtain ⟨v, h1, h2, h3⟩ := evK_spec hx ht hk
  split at h1
  · rename_i k q
    rw [forceN_iff] at h1
    simp only [execOp, hop]
    refine Yields.pureV H h1 ?_ (by simp only [okV] at h3 ⊢; exact h3)
    rw [h2]
    simp only [conc, Instr.fieldAt]
    rw [run_ok_bind (run_underlying hu)]
    simp only [hf]
    rw [run_ok_bind (run_sureAddr _ _), fieldPlace]
    rw [run_bind, run_ok_bind (run_sizeOf hj), if_neg hz]
    simp only [run_pure, add_none]
  · exact h1.elim

theorem run_part1 {t : TypeId} {d : TypeDesc} {cs : List AV} {q : Nat} {v : AV} (hu : P.underlying t = some d) (hd : aggD d = false) (hv : cs[q]? = some v) : (part t (concL r cs).toArray q).run P w = .ok (conc r v) w := by
  unfold part
  rw [run_ok_bind (run_isAgg hu), hd]
  simp [concL_get, hv]

theorem run_partN {t : TypeId} {d : TypeDesc} {i : TypeInfo} {cs : List AV} {q : Nat} (hu : P.underlying t = some d) (hd : aggD d = true) (hi : P.info? t = some i) : (part t (concL r cs).toArray q).run P w = .ok (conc r (.agg ((cs.drop q).take i.size))) w := by
  unfold part
  rw [run_ok_bind (run_isAgg hu), hd]
  simp only [if_true]
  rw [run_ok_bind (run_sizeOf hi)]
  simp only [run_pure, conc]
  congr 2
  simp [concL_map, List.map_take, List.map_drop, List.extract_eq_take_drop]

theorem s_fld (H : WR P w0 r h nx w) (ht : TR r tm a.tmps) {s : TypeId} {fields : Array Field} {i : Nat} {f : Field} {d : TypeDesc} {j : TypeInfo} {x : Operand} {x' : AX} (hu : P.underlying s = some (.struct fields)) (hf : fields[i]? = some f) (hd : P.underlying f.type = some d) (ha : aggD d = true) (hj : P.info? f.type = some j) (hx : Cx x x') (hop : o.op = .field s x i) (hk : stepV (.fld j.size f.offset x') tm h nx K) : Yields P w0 r h w (execOp a.eval o) K := by
  simp only [stepV, oFld] at hk
  obtain ⟨v, h1, h2, h3⟩ := evK_spec hx ht hk
  split at h1
  · rename_i vs
    rw [forceL_iff] at h1
    simp only [okV] at h3
    simp only [execOp, hop]
    refine Yields.pureV H h1 ?_ (by simp only [okV]; exact okL_take (okL_drop h3 _) _)
    rw [h2]
    simp only [conc, Instr.field]
    rw [run_ok_bind (run_underlying hu)]
    simp only [hf]
    exact run_partN hd ha hj
  · exact h1.elim

theorem s_fld1 (H : WR P w0 r h nx w) (ht : TR r tm a.tmps) {s : TypeId} {fields : Array Field} {i : Nat} {f : Field} {d : TypeDesc} {x : Operand} {x' : AX} (hu : P.underlying s = some (.struct fields)) (hf : fields[i]? = some f) (hd : P.underlying f.type = some d) (ha : aggD d = false) (hx : Cx x x') (hop : o.op = .field s x i) (hk : stepV (.fld1 f.offset x') tm h nx K) : Yields P w0 r h w (execOp a.eval o) K := by
  simp only [stepV, oFld1] at hk
  obtain ⟨v, h1, h2, h3⟩ := evK_spec hx ht hk
  split at h1
  · rename_i vs
    split at h1
    · rename_i u hu'
      simp only [okV] at h3
      simp only [execOp, hop]
      refine Yields.pureV H h1 ?_ (h3.get hu')
      rw [h2]
      simp only [conc, Instr.field]
      rw [run_ok_bind (run_underlying hu)]
      simp only [hf]
      exact run_part1 hd ha hu'
    · exact h1.elim
  · exact h1.elim

theorem s_ia (H : WR P w0 r h nx w) (ht : TR r tm a.tmps) {t elem : TypeId} {j : TypeInfo} {x i : Operand} {x' i' : AX} (hu : P.underlying t = some (.slice elem)) (hj : P.info? elem = some j) (hx : Cx x x') (hi : Cx i i') (hop : o.op = .indexAddr t x i) (hk : stepV (.ia j.size x' i') tm h nx K) : Yields P w0 r h w (execOp a.eval o) K := by
  simp only [stepV, oIa] at hk
  obtain ⟨v, h1, h2, h3⟩ := evK_spec hx ht hk
  split at h1
  · rename_i k q l c op
    obtain ⟨u, h1, h4, h5⟩ := evK_spec hi ht h1
    obtain ⟨kd, m, rfl, hm, h1⟩ := atK_spec h1
    rw [forceN_iff] at h1
    simp only [execOp, hop]
    refine Yields.pureV H h1 ?_ (by simp only [okV] at h3 ⊢; exact h3)
    rw [h2, h4]
    simp only [conc, Instr.indexAt, asIntOf]
    rw [run_ok_bind (run_pure P _ w), run_ok_bind (run_underlying hu)]
    simp only []
    rw [run_ok_bind (run_pure P _ w), run_ok_bind (run_underlying hu)]
    simp only []
    rw [if_pos (by constructor <;> simp <;> omega), run_ok_bind (run_sizeOf hj)]
    simp [add_none]
  · exact h1.elim

theorem s_iaA (H : WR P w0 r h nx w) (ht : TR r tm a.tmps) {t elem : TypeId} {len : Nat} {j : TypeInfo} {x i : Operand} {x' i' : AX} (hu : P.underlying t = some (.array len elem)) (hj : P.info? elem = some j) (hx : Cx x x') (hi : Cx i i') (hop : o.op = .indexAddr t x i) (hk : stepV (.iaA len j.size x' i') tm h nx K) : Yields P w0 r h w (execOp a.eval o) K := by
  simp only [stepV, oIaA] at hk
  obtain ⟨v, h1, h2, h3⟩ := evK_spec hx ht hk
  split at h1
  · rename_i k q
    obtain ⟨u, h1, h4, h5⟩ := evK_spec hi ht h1
    obtain ⟨kd, m, rfl, hm, h1⟩ := atK_spec h1
    rw [forceN_iff] at h1
    simp only [execOp, hop]
    refine Yields.pureV H h1 ?_ (by simp only [okV] at h3 ⊢; exact h3)
    rw [h2, h4]
    simp only [conc, Instr.indexAt, asIntOf]
    rw [run_ok_bind (run_pure P _ w), run_ok_bind (run_underlying hu)]
    simp only []
    rw [run_ok_bind (run_sureAddr _ _), run_ok_bind (run_pure P _ w), run_ok_bind (run_underlying hu)]
    simp only []
    rw [if_pos (by constructor <;> simp <;> omega), run_ok_bind (run_sizeOf hj)]
    simp [add_none]
  · exact h1.elim

end
end Go.Proofs.Ytfnehpgefcnjgaa.X

/- An executor for closed calls, 7: the operations of slots, literals, functions and numbers are right. -/
namespace Go.Proofs.Ytfnehpgefcnjgaa.X
open Go.RowKit

section
variable {P : Program} {w0 : World} {r : Rho} {h : T AO} {nx : Pt} {w : World} {K : AV → T AO → Pt → Prop} {tm : T AV} {a : Act} {o : Oper}

theorem s_mv (H : WR P w0 r h nx w) (ht : TR r tm a.tmps) {x : Operand} {x' : AX} (hx : Cx x x') (hop : o.op = .move x ∨ o.op = .assign x) (hk : stepV (.mv x') tm h nx K) : Yields P w0 r h w (execOp a.eval o) K := by
  simp only [stepV, oMv] at hk
  obtain ⟨v, h1, h2, h3⟩ := evK_spec hx ht hk
  refine Yields.pure H h1 ?_ h3
  rcases hop with hop | hop <;> simp only [execOp, hop, h2] <;> rfl

theorem s_pick (H : WR P w0 r h nx w) (ht : TR r tm a.tmps) {c x y : Operand} {c' x' y' : AX} (hc : Cx c c') (hx : Cx x x') (hy : Cx y y') (hop : o.op = .pick c x y) (hk : stepV (.pick c' x' y') tm h nx K) : Yields P w0 r h w (execOp a.eval o) K := by
  simp only [stepV, oPick] at hk
  obtain ⟨v, h1, h2, h3⟩ := evK_spec hc ht hk
  split at h1
  · obtain ⟨u, g1, g2, g3⟩ := evK_spec hx ht h1
    refine Yields.pure H g1 ?_ g3
    simp only [execOp, hop, h2, conc, g2]; rfl
  · obtain ⟨u, g1, g2, g3⟩ := evK_spec hy ht h1
    refine Yields.pure H g1 ?_ g3
    simp only [execOp, hop, h2, conc, g2]; rfl
  · exact h1.elim

theorem s_new (H : WR P w0 r h nx w) {e : TypeId} {i : TypeInfo} {z : Value} {v : AV} (hi : P.info? e = some i) (hz : i.zero = some z) (hv : Lone v z) (hop : o.op = .alloc e) (hk : stepV (.new (cellsA v) e) tm h nx K) : Yields P w0 r h w (execOp a.eval o) K := by
  simp only [stepV, oNew] at hk
  refine Yields.ptr H (okL_cells (hv.2 _)) (setK_forceP hk) fun x w' hx => ?_
  simp only [execOp, hop]
  refine run_value ?_
  unfold Instr.alloc
  rw [run_ok_bind (run_zeroValue hi hz)]
  simp only []
  have : (newVar e z).run P w = .ok x w' := by rw [newVar, ← hv.1 r, conc_cells]; exact hx
  rw [run_ok_bind this]; rfl

theorem s_box (H : WR P w0 r h nx w) (ht : TR r tm a.tmps) {e : TypeId} {x : Operand} {x' : AX} (hx : Cx x x') (hop : o.op = .box e x) (hk : stepV (.box e x') tm h nx K) : Yields P w0 r h w (execOp a.eval o) K := by
  simp only [stepV, oBox] at hk
  obtain ⟨v, h1, h2, h3⟩ := evK_spec hx ht hk
  refine Yields.ptr H (okL_cells h3) (setK_forceP h1) fun x w' hx => ?_
  simp only [execOp, hop, h2]
  refine run_value ?_
  have : (newVar e (conc r v)).run P w = .ok x w' := by rw [newVar, conc_cells]; exact hx
  unfold Instr.box
  rw [run_ok_bind this]; rfl

theorem toList_parts (ps : Array (Nat × Operand)) : (ps.map fun (i, x) => (i, a.eval x)).toList = ps.toList.map fun p => (p.1, a.eval p.2) := by
  simp

theorem s_build (H : WR P w0 r h nx w) (ht : TR r tm a.tmps) {t : TypeId} {i : TypeInfo} {z : Value} {v : AV} {fields : Array Field} {places : Array (Nat × Nat)} {ps : Array (Nat × Operand)} {qs : List (Nat × Nat × AX)}
    (hi : P.info? t = some i) (hz : i.zero = some z) (hv : Lone v z) (hu : P.underlying t = some (.struct fields))
    (hpl : ∀ w, (fields.mapM (fun f => do pure (f.offset, ← sizeOf f.type)) : Sem (Array (Nat × Nat))).run P w = .ok places w) (hps : Cps (places[·]?) ps.toList qs) (hop : o.op = .build t ps) (hk : stepV (.build (cellsA v) qs) tm h nx K) : Yields P w0 r h w (execOp a.eval o) K := by
  simp only [stepV, oBuild] at hk
  obtain ⟨vs, h1, h2, h3⟩ := fillK_spec ht hps (okL_cells (hv.2 _)) hk
  rw [forceL_iff] at h1
  simp only [execOp, hop]
  refine Yields.pureV H h1 ?_ (by simp only [okV]; exact h2)
  unfold Instr.build
  rw [run_ok_bind (run_zeroValue hi hz), run_ok_bind (run_underlying hu)]
  simp only []
  rw [run_ok_bind (hpl w), toList_parts, ← hv.1 r, conc_cells, h3]
  simp only [conc]; rfl

theorem s_buildA (H : WR P w0 r h nx w) (ht : TR r tm a.tmps) {t : TypeId} {i : TypeInfo} {z : Value} {v : AV} {n : Nat} {elem : TypeId} {j : TypeInfo} {ps : Array (Nat × Operand)} {qs : List (Nat × Nat × AX)}
    (hi : P.info? t = some i) (hz : i.zero = some z) (hv : Lone v z) (hu : P.underlying t = some (.array n elem)) (hj : P.info? elem = some j)
    (hps : Cps (fun i => some (i * j.size, j.size)) ps.toList qs) (hop : o.op = .build t ps) (hk : stepV (.build (cellsA v) qs) tm h nx K) : Yields P w0 r h w (execOp a.eval o) K := by
  simp only [stepV, oBuild] at hk
  obtain ⟨vs, h1, h2, h3⟩ := fillK_spec ht hps (okL_cells (hv.2 _)) hk
  rw [forceL_iff] at h1
  simp only [execOp, hop]
  refine Yields.pureV H h1 ?_ (by simp only [okV]; exact h2)
  unfold Instr.build
  rw [run_ok_bind (run_zeroValue hi hz), run_ok_bind (run_underlying hu)]
  simp only []
  rw [run_ok_bind (run_sizeOf hj), toList_parts, ← hv.1 r, conc_cells, h3]
  simp only [conc]; rfl

theorem Yields.slice (H : WR P w0 r h nx w) {vs : List AV} {e : TypeId} {n m : Nat} {s : Sem Next} (hv : okL r.has vs) (hK : K (.sl nx 0 n m false) (h.set (.cells vs e) nx) nx.succ)
    (hs : ∀ x w', (newRow e (concL r vs).toArray).run P w = .ok x w' → s.run P w = .ok (.value (.slice (some x) n m)) w') : Yields P w0 r h w s K := by
  obtain ⟨w', h1, h2, h3⟩ := H.newRow vs e hv
  refine ⟨_, _, _, w', .sl nx 0 n m false, _, hK, hs _ _ h1, .inl (by simp [conc]), h2, h3, ?_⟩
  exact Or.inl rfl

theorem s_buildS (H : WR P w0 r h nx w) (ht : TR r tm a.tmps) {t : TypeId} {n : Nat} {elem : TypeId} {j : TypeInfo} {z : Value} {zs : List AV} {ps : Array (Nat × Operand)} {qs : List (Nat × Nat × AX)}
    (hu : P.underlying t = some (.slice elem)) (hj : P.info? elem = some j) (hz : j.zero = some z) (hn : n * j.size ≤ 2 ^ 24) (h0 : 0 < n * j.size) (hok : ∀ n, okL n zs)
    (hzs : ∀ r, (concL r zs).toArray = (Array.range (n * j.size)).map (z.cells[· % z.cells.size]!))
    (hps : Cps (fun i => some (i * j.size, j.size)) ps.toList qs) (hop : o.op = .buildSlice t n ps) (hk : stepV (.buildS elem n zs qs) tm h nx K) : Yields P w0 r h w (execOp a.eval o) K := by
  simp only [stepV, oBuildS] at hk
  obtain ⟨vs, h1, h2, h3⟩ := fillK_spec ht hps (hok _) hk
  rw [forceL_iff] at h1
  refine Yields.slice H h2 (setK_forceP h1) fun x w' hx => ?_
  simp only [execOp, hop]
  refine run_value ?_
  unfold Instr.buildSlice
  rw [run_ok_bind (run_underlying hu)]
  simp only []
  rw [run_ok_bind (run_sizeOf hj), if_neg (by omega)]
  rw [if_neg (by omega), run_ok_bind (run_zeroValue hj hz), run_ok_bind (run_pure P _ w)]
  rw [← hzs r, toList_parts, h3]
  simp only []
  rw [run_ok_bind hx]; rfl

theorem s_buildE (H : WR P w0 r h nx w) {t : TypeId} {elem : TypeId} {j : TypeInfo} (hu : P.underlying t = some (.slice elem)) (hj : P.info? elem = some j) (hop : o.op = .buildSlice t 0 #[]) (hk : stepV (.buildS elem 0 [] []) tm h nx K) : Yields P w0 r h w (execOp a.eval o) K := by
  simp only [stepV, oBuildS] at hk
  have h1 : h.setK (.cells [] elem) nx fun h' => forceP nx.succ fun n' => K (.sl nx 0 0 0 false) h' n' := hk
  refine Yields.slice (vs := []) H (by simp [okL]) (setK_forceP h1) fun x w' hx => ?_
  simp only [execOp, hop]
  refine run_value ?_
  unfold Instr.buildSlice
  rw [run_ok_bind (run_underlying hu)]
  simp only []
  rw [run_ok_bind (run_sizeOf hj), if_neg (by omega)]
  rw [if_pos (by omega), run_ok_bind (run_pure P _ w)]
  simp only [Nat.zero_mul]
  simp only [concL] at hx
  have : (newRow elem #[]).run P w = .ok x w' := hx
  rw [show (Array.map (fun x : Nat × Operand => (x.fst, a.eval x.snd)) #[]).toList = [] by simp, show ∀ f : Nat → Value, (Array.range 0).map f = #[] from fun f => by rw [show (Array.range 0) = #[] from rfl]; exact Array.map_empty]
  simp only [Instr.fill]
  rw [run_ok_bind this]; rfl

theorem s_nchk (H : WR P w0 r h nx w) (ht : TR r tm a.tmps) {x : Operand} {x' : AX} (hx : Cx x x') (hop : o.op = .nilCheck x) (hk : stepV (.nchk x') tm h nx K) : Yields P w0 r h w (execOp a.eval o) K := by
  simp only [stepV, oNchk] at hk
  obtain ⟨v, h1, h2, h3⟩ := evK_spec hx ht hk
  have key : K v h nx ∧ (execOp a.eval o).run P w = .ok (.value (conc r v)) w := by
    simp only [execOp, hop, h2]
    cases v with
    | nilp => exact h1.elim
    | nili => exact h1.elim
    | nilf => exact h1.elim
    | fn f x y =>
      cases f <;> first | exact ⟨h1, by simp only [conc]; rfl⟩ | exact h1.elim
    | _ => exact ⟨h1, by simp only [conc]; rfl⟩
  exact Yields.pure H key.1 key.2 h3

theorem s_ext (H : WR P w0 r h nx w) (ht : TR r tm a.tmps) {x : Operand} {x' : AX} {i : Nat} (hx : Cx x x') (hop : o.op = .extract x i) (hk : stepV (.ext x' i) tm h nx K) : Yields P w0 r h w (execOp a.eval o) K := by
  simp only [stepV, oExt] at hk
  obtain ⟨v, h1, h2, h3⟩ := evK_spec hx ht hk
  split at h1
  · rename_i vs
    split at h1
    · rename_i u hu
      simp only [okV] at h3
      simp only [execOp, hop]
      refine Yields.pureV H h1 ?_ (h3.get hu)
      rw [h2]
      simp [conc, Instr.extract, concL_get, hu]
    · exact h1.elim
  · exact h1.elim

theorem s_mkf (H : WR P w0 r h nx w) (ht : TR r tm a.tmps) {f : FuncId} {x y : Array Operand} {x' y' : List AX} (hx : Cxs x.toList x') (hy : Cxs y.toList y') (hop : o.op = .makeFunc (.func f) x y) (hk : stepV (.mkf f x' y') tm h nx K) : Yields P w0 r h w (execOp a.eval o) K := by
  simp only [stepV, oMkf] at hk
  obtain ⟨vs, h1, h2, h3⟩ := evsK_spec ht hx hk
  obtain ⟨us, h4, h5, h6⟩ := evsK_spec ht hy h1
  simp only [execOp, hop]
  refine Yields.pureV H h4 ?_ (by simp only [okV]; exact ⟨h3, h6⟩)
  have e1 : x.map a.eval = (concL r vs).toArray := by rw [← h2]; apply Array.ext'; simp
  have e2 : y.map a.eval = (concL r us).toArray := by rw [← h5]; apply Array.ext'; simp
  simp only [Instr.makeFunc, conc, e1, e2]; rfl

theorem s_mki (H : WR P w0 r h nx w) (ht : TR r tm a.tmps) {t : TypeId} {d : TypeDesc} {x : Operand} {x' : AX} (hu : P.underlying t = some d) (hd : ∀ m, d ≠ .interface m) (hx : Cx x x') (hop : o.op = .makeInterface t x) (hk : stepV (.mki t x') tm h nx K) : Yields P w0 r h w (execOp a.eval o) K := by
  simp only [stepV, oMki] at hk
  obtain ⟨v, h1, h2, h3⟩ := evK_spec hx ht hk
  simp only [execOp, hop]
  refine Yields.pureV H h1 ?_ (by simp only [okV]; exact h3)
  unfold Instr.makeInterface
  rw [run_ok_bind (run_underlying hu), h2]
  cases d <;> first | exact absurd rfl (hd _) | (simp only [conc]; rfl)

end
end Go.Proofs.Ytfnehpgefcnjgaa.X

/- An executor for closed calls, 8: the operations of numbers, truths and texts are right. -/
namespace Go.Proofs.Ytfnehpgefcnjgaa.X
open Go.RowKit

theorem eqI_spec (a b : Int) : eqI a b = (a == b) := by
  rw [Bool.eq_iff_iff]
  cases a with
  | ofNat x =>
    cases b with
    | ofNat y => simp only [eqI, Nat.beq_eq, beq_iff_eq]; exact ⟨fun e => e ▸ rfl, fun e => Int.ofNat.inj e⟩
    | negSucc y => simp only [eqI, beq_iff_eq]; exact ⟨fun e => (by cases e), fun e => (by cases e)⟩
  | negSucc x =>
    cases b with
    | ofNat y => simp only [eqI, beq_iff_eq]; exact ⟨fun e => (by cases e), fun e => (by cases e)⟩
    | negSucc y => simp only [eqI, Nat.beq_eq, beq_iff_eq]; exact ⟨fun e => e ▸ rfl, fun e => Int.negSucc.inj e⟩

theorem ltI_spec (a b : Int) : ltI a b = decide (a < b) := by
  rw [Bool.eq_iff_iff]
  cases a with
  | ofNat x =>
    cases b with
    | ofNat y => simp only [ltI, Nat.blt_eq, decide_eq_true_eq, Int.ofNat_eq_natCast]; omega
    | negSucc y => simp only [ltI, decide_eq_true_eq, Int.ofNat_eq_natCast]; constructor <;> intro e <;> first | cases e | omega
  | negSucc x =>
    cases b with
    | ofNat y => simp only [ltI, decide_eq_true_eq, Int.ofNat_eq_natCast, true_iff]; omega
    | negSucc y => simp only [ltI, Nat.blt_eq, decide_eq_true_eq]; omega

theorem wrapK_spec {k : IntKind} {n : Int} {c : AV → Prop} (h : wrapK k n c) : c (.int k (k.wrap n)) := by
  unfold wrapK at h
  split at h
  · rename_i m
    cases hb : Nat.blt m 9223372036854775808 with
    | false => rw [hb] at h; exact (forceI_iff _ (fun n => c (.int .i64 n))).1 h
    | true =>
      rw [hb] at h
      have hl : m < 9223372036854775808 := by simpa [Nat.blt_eq] using hb
      have e : IntKind.i64.wrap (Int.ofNat m) = Int.ofNat m := by
        have e1 : (Int.ofNat m) % (2 ^ 64 : Int) = Int.ofNat m := Int.emod_eq_of_lt (by simp) (by simp; omega)
        have e2 : ¬ ((Int.ofNat m : Int) ≥ (2 ^ 63 : Int)) := by simp; omega
        show (if (IntKind.i64.signed && decide ((Int.ofNat m) % (2 ^ 64 : Int) ≥ (2 ^ 63 : Int))) = true then (Int.ofNat m) % (2 ^ 64 : Int) - (2 ^ 64 : Int) else (Int.ofNat m) % (2 ^ 64 : Int)) = _
        rw [e1]
        simp only [e2, decide_false, Bool.and_false, Bool.false_eq_true, if_false]
      rw [e]
      exact (forceN_iff m (fun m => c (.int .i64 (.ofNat m)))).1 h
  · exact (forceI_iff _ (fun n => c (.int _ n))).1 h

theorem semV_spec {s : Sem Value} {c : AV → Prop} (h : semV s c) : ∃ v, c v ∧ (∀ r, s = .pure (conc r v)) ∧ ∀ n, okV n v := by
  unfold semV at h
  split at h
  · rename_i k n
    exact ⟨_, (forceI_iff n (fun n => c (.int k n))).1 h, fun r => by simp only [conc], fun _ => by simp [okV]⟩
  · rename_i b
    exact ⟨_, (forceB_iff b (fun b => c (.bool b))).1 h, fun r => by simp only [conc], fun _ => by simp [okV]⟩
  · exact h.elim

theorem drec {k k' : IntKind} {p : Prop} (h : Bool.rec (motive := fun _ => Prop) False p (decide (k = k'))) : k = k' ∧ p := by
  cases hb : decide (k = k') with
  | false => rw [hb] at h; exact h.elim
  | true => rw [hb] at h; exact ⟨of_decide_eq_true hb, h⟩

theorem arI_spec {op : BinOp} {t : TypeId} {k k' : IntKind} {a b : Int} {c : AV → Prop} (h : arI op k k' a b c) : ∃ v, c v ∧ (∀ r, binOp op t (.int k a) (.int k' b) = .pure (conc r v)) ∧ ∀ n, okV n v := by
  cases op <;> simp only [arI] at h
  case shl => obtain ⟨v, h1, h2, h3⟩ := semV_spec h; exact ⟨v, h1, h2, h3⟩
  case shr => obtain ⟨v, h1, h2, h3⟩ := semV_spec h; exact ⟨v, h1, h2, h3⟩
  all_goals
    obtain ⟨hk, h2⟩ := drec h
    subst hk
    clear h
    have h := h2
    clear h2
  case add => exact ⟨_, wrapK_spec h, fun r => by simp only [binOp, conc]; rw [if_neg (by simp)]; rfl, fun _ => by simp [okV]⟩
  case sub => exact ⟨_, wrapK_spec h, fun r => by simp only [binOp, conc]; rw [if_neg (by simp)]; rfl, fun _ => by simp [okV]⟩
  case mul => exact ⟨_, wrapK_spec h, fun r => by simp only [binOp, conc]; rw [if_neg (by simp)]; rfl, fun _ => by simp [okV]⟩
  case eql =>
    rw [forceB_iff] at h
    exact ⟨_, h, fun r => by simp only [binOp, conc]; rw [if_neg (by simp)]; simp only [Op.intCmp, eqI_spec]; rfl, fun _ => by simp [okV]⟩
  case neq =>
    rw [forceB_iff] at h
    exact ⟨_, h, fun r => by simp only [binOp, conc]; rw [if_neg (by simp)]; simp only [Op.intCmp, eqI_spec, bne]; rfl, fun _ => by simp [okV]⟩
  case lss =>
    rw [forceB_iff] at h
    exact ⟨_, h, fun r => by simp only [binOp, conc]; rw [if_neg (by simp)]; simp only [Op.intCmp, ltI_spec]; rfl, fun _ => by simp [okV]⟩
  case leq =>
    rw [forceB_iff] at h
    exact ⟨_, h, fun r => by simp only [binOp, conc]; rw [if_neg (by simp)]; simp only [Op.intCmp, ltI_spec, ← decide_not, Int.not_lt]; rfl, fun _ => by simp [okV]⟩
  case gtr =>
    rw [forceB_iff] at h
    exact ⟨_, h, fun r => by simp only [binOp, conc]; rw [if_neg (by simp)]; simp only [Op.intCmp, ltI_spec]; rfl, fun _ => by simp [okV]⟩
  case geq =>
    rw [forceB_iff] at h
    exact ⟨_, h, fun r => by simp only [binOp, conc]; rw [if_neg (by simp)]; simp only [Op.intCmp, ltI_spec, ← decide_not, Int.not_lt]; rfl, fun _ => by simp [okV]⟩
  all_goals
    obtain ⟨v, h1, h2, h3⟩ := semV_spec h
    exact ⟨v, h1, fun r => by simp only [binOp]; rw [if_neg (by simp)]; exact h2 r, h3⟩

theorem toList_loop (b : ByteArray) : ∀ (k i : Nat) (r : List UInt8), b.size - i = k → ByteArray.toList.loop b i r = r.reverse ++ b.data.toList.drop i
  | 0, i, r, h => by
    rw [ByteArray.toList.loop, if_neg (by omega), List.drop_eq_nil_of_le (by rw [Array.length_toList]; show b.size ≤ i; omega), List.append_nil]
  | k + 1, i, r, h => by
    have hi : i < b.size := by omega
    have hi' : i < b.data.toList.length := by rw [Array.length_toList]; exact hi
    rw [ByteArray.toList.loop, if_pos hi, toList_loop b k (i + 1) _ (by omega), List.reverse_cons, List.append_assoc, List.drop_eq_getElem_cons hi']
    have e : b.get! i = b.data.toList[i] := by
      cases b with
      | mk d => simp only [ByteArray.get!]; rw [Array.getElem_toList]; exact getElem!_pos d i hi
    rw [e]
    rfl

theorem toList_data (b : ByteArray) : b.toList = b.data.toList := by
  rw [ByteArray.toList, toList_loop b _ 0 [] rfl]
  rfl

theorem bytes_toList (s : List Nat) : (bytesOf s).toList = s.map UInt8.ofNat := by
  rw [toList_data]; simp [bytesOf]

theorem bytes_size (s : List Nat) : (bytesOf s).size = s.length := by
  show (bytesOf s).data.size = _
  simp [bytesOf]

theorem u8_inj {a b : Nat} (ha : a < 256) (hb : b < 256) (h : UInt8.ofNat a = UInt8.ofNat b) : a = b := by
  have := congrArg UInt8.toNat h
  simp [UInt8.toNat_ofNat'] at this
  omega

theorem eqN_spec : ∀ {a b : List Nat}, (∀ x ∈ a, x < 256) → (∀ x ∈ b, x < 256) → eqN a b = (a.map UInt8.ofNat == b.map UInt8.ofNat)
  | [], [], _, _ => rfl
  | [], _ :: _, _, _ => rfl
  | _ :: _, [], _, _ => rfl
  | x :: a, y :: b, ha, hb => by
    rw [eqN, eqN_spec (fun z hz => ha z (List.mem_cons_of_mem _ hz)) (fun z hz => hb z (List.mem_cons_of_mem _ hz))]
    show _ = ((UInt8.ofNat x == UInt8.ofNat y) && (a.map UInt8.ofNat == b.map UInt8.ofNat))
    congr 1
    rw [Bool.eq_iff_iff, Nat.beq_eq, beq_iff_eq]
    exact ⟨fun e => e ▸ rfl, u8_inj (ha x (List.mem_cons_self ..)) (hb y (List.mem_cons_self ..))⟩

theorem ltN_spec : ∀ {a b : List Nat}, (∀ x ∈ a, x < 256) → (∀ x ∈ b, x < 256) → ltN a b = Op.bytesLess (a.map UInt8.ofNat) (b.map UInt8.ofNat)
  | [], [], _, _ => rfl
  | [], _ :: _, _, _ => rfl
  | _ :: _, [], _, _ => rfl
  | x :: a, y :: b, ha, hb => by
    have hx := ha x (List.mem_cons_self ..)
    have hy := hb y (List.mem_cons_self ..)
    rw [ltN, ltN_spec (fun z hz => ha z (List.mem_cons_of_mem _ hz)) (fun z hz => hb z (List.mem_cons_of_mem _ hz)), List.map_cons, List.map_cons, Op.bytesLess]
    congr 1
    · rw [Bool.eq_iff_iff, Nat.blt_eq, decide_eq_true_eq, UInt8.lt_iff_toNat_lt]
      simp [UInt8.toNat_ofNat']; omega
    · congr 1
      rw [Bool.eq_iff_iff, Nat.beq_eq, beq_iff_eq]
      exact ⟨fun e => e ▸ rfl, u8_inj hx hy⟩

theorem bytes_append (a b : List Nat) : bytesOf a ++ bytesOf b = bytesOf (a ++ b) := by
  apply ByteArray.ext
  rw [ByteArray.data_append]
  simp [bytesOf]

theorem arS_spec {op : BinOp} {t : TypeId} {a b : List Nat} {c : AV → Prop} (ha : ∀ x ∈ a, x < 256) (hb : ∀ x ∈ b, x < 256) (h : arS op a b c) : ∃ v, c v ∧ (∀ r, binOp op t (.string (bytesOf a)) (.string (bytesOf b)) = .pure (conc r v)) ∧ ∀ n, okV n v := by
  cases op <;> simp only [arS] at h
  case add =>
    obtain ⟨hl, h⟩ := brec h
    rw [forceL_iff] at h
    have hl := Nat.le_of_ble_eq_true hl
    refine ⟨_, h, fun r => ?_, fun n => ?_⟩
    · simp only [binOp, Op.stringOp, conc, bytes_size]
      rw [if_neg (by have : IntKind.i64.max = 9223372036854775807 := rfl; rw [this]; omega), bytes_append]; rfl
    · simp only [okV, List.mem_append]
      exact fun x hx => hx.elim (ha x) (hb x)
  case eql =>
    rw [forceB_iff] at h
    exact ⟨_, h, fun r => by simp only [binOp, Op.stringOp, conc, bytes_toList, eqN_spec ha hb]; rfl, fun _ => by simp [okV]⟩
  case neq =>
    rw [forceB_iff] at h
    exact ⟨_, h, fun r => by simp only [binOp, Op.stringOp, conc, bytes_toList, eqN_spec ha hb]; rfl, fun _ => by simp [okV]⟩
  case lss =>
    rw [forceB_iff] at h
    exact ⟨_, h, fun r => by simp only [binOp, Op.stringOp, conc, bytes_toList, ltN_spec ha hb]; rfl, fun _ => by simp [okV]⟩

section
variable {P : Program} {w0 : World} {r : Rho} {h : T AO} {nx : Pt} {w : World} {K : AV → T AO → Pt → Prop} {tm : T AV} {a : Act} {o : Oper}

theorem run_eqGuard {op : BinOp} {t : TypeId} {x y : Operand} {u v : Value} (h1 : ∀ cs, u ≠ .agg cs) (h2 : u ≠ .nilIface ∨ isConst x ∨ isConst y) : (eqGuard op t x y u v).run P w = .ok () w := by
  unfold eqGuard
  have key : ∀ (b : Bool) (s : Sem Unit), s.run P w = .ok () w → (if b = true then (pure () : Sem Unit) else s).run P w = .ok () w := by
    intro b s hs; split
    · rfl
    · exact hs
  refine key _ _ ?_
  cases u <;> first
    | rfl
    | exact absurd rfl (h1 _)
    | (cases v <;> first
        | rfl
        | (rcases h2 with h2 | h2 | h2
           · exact absurd rfl h2
           · cases x <;> first | exact h2.elim | rfl
           · cases y <;> first | exact h2.elim | (cases x <;> rfl)))

theorem s_ar (H : WR P w0 r h nx w) (ht : TR r tm a.tmps) {op : BinOp} {t u : TypeId} {x y : Operand} {x' y' : AX} (hx : Cx x x') (hy : Cx y y') (hop : o.op = .binOp op t x y u) (hk : stepV (.ar op x' y') tm h nx K) : Yields P w0 r h w (execOp a.eval o) K := by
  simp only [stepV, oAr] at hk
  obtain ⟨v, h1, h2, h3⟩ := evK_spec hx ht hk
  obtain ⟨v', h1, h4, h5⟩ := evK_spec hy ht h1
  simp only [execOp, hop]
  split at h1
  · obtain ⟨z, g1, g2, g3⟩ := arI_spec (t := t) h1
    refine Yields.pureV H g1 ?_ (g3 _)
    rw [h2, h4]
    simp only [conc]
    rw [run_ok_bind (run_eqGuard (by simp) (.inl (by simp))), g2 r]; rfl
  · simp only [okV] at h3 h5
    obtain ⟨z, g1, g2, g3⟩ := arS_spec (t := t) h3 h5 h1
    refine Yields.pureV H g1 ?_ (g3 _)
    rw [h2, h4]
    simp only [conc]
    rw [run_ok_bind (run_eqGuard (by simp) (.inl (by simp))), g2 r]; rfl
  · exact h1.elim

theorem s_un (H : WR P w0 r h nx w) (ht : TR r tm a.tmps) {op : UnOp} {t : TypeId} {x : Operand} {x' : AX} (hx : Cx x x') (hop : o.op = .unOp op t x) (hk : stepV (.un op x') tm h nx K) : Yields P w0 r h w (execOp a.eval o) K := by
  simp only [stepV, oUn] at hk
  obtain ⟨v, h1, h2, h3⟩ := evK_spec hx ht hk
  simp only [execOp, hop]
  split at h1
  · rw [forceB_iff] at h1
    refine Yields.pureV H h1 ?_ (by simp [okV])
    rw [h2]; simp only [conc, Op.unary]; rfl
  · have := wrapK_spec h1
    refine Yields.pureV H this ?_ (by simp [okV])
    rw [h2]; simp only [conc, Op.unary, Op.intArith]; rfl
  · obtain ⟨z, g1, g2, g3⟩ := semV_spec h1
    refine Yields.pureV H g1 ?_ (g3 _)
    rw [h2]; simp only [conc, Op.unary]; rw [g2 r]; rfl
  · exact h1.elim

theorem s_cvI (H : WR P w0 r h nx w) (ht : TR r tm a.tmps) {src dst : TypeId} {d : TypeDesc} {k : IntKind} {x : Operand} {x' : AX} (hs : P.underlying src = some d) (hd : P.underlying dst = some (.int k)) (hx : Cx x x') (hop : o.op = .convert src dst x) (hk : stepV (.cvI k x') tm h nx K) : Yields P w0 r h w (execOp a.eval o) K := by
  simp only [stepV, oCvI] at hk
  obtain ⟨v, h1, h2, h3⟩ := evK_spec hx ht hk
  simp only [execOp, hop]
  split at h1
  · have := wrapK_spec h1
    refine Yields.pureV H this ?_ (by simp [okV])
    unfold convert
    rw [run_ok_bind (run_underlying hs), run_ok_bind (run_underlying hd), h2]
    simp only [conc, Conv.intToInt]; rfl
  · exact h1.elim

theorem s_cvS (H : WR P w0 r h nx w) (ht : TR r tm a.tmps) {src dst : TypeId} {d : TypeDesc} {x : Operand} {x' : AX} (hs : P.underlying src = some d) (hd : P.underlying dst = some .string) (hx : Cx x x') (hop : o.op = .convert src dst x) (hk : stepV (.cvS x') tm h nx K) : Yields P w0 r h w (execOp a.eval o) K := by
  simp only [stepV, oCvS] at hk
  obtain ⟨v, h1, h2, h3⟩ := evK_spec hx ht hk
  simp only [execOp, hop]
  split at h1
  · refine Yields.pureV H h1 ?_ h3
    unfold convert
    rw [run_ok_bind (run_underlying hs), run_ok_bind (run_underlying hd), h2]
    simp only [conc]; rfl
  · exact h1.elim

/-- a call of a built-in function -/
theorem run_builtin {b : Builtin} {xs : Array Operand} {ts : Array TypeId} {w' : World} {n : Next} (hop : o.op = .call ⟨.builtin b, xs, ts⟩) (hr : (builtin b ts o.type (xs.map fun | .const _ => true | _ => false) (xs.map a.eval)).run P w = .ok n w') : (execOp a.eval o).run P w = .ok n w' := by
  simp only [execOp, hop]
  exact hr

theorem map_one (x : Operand) : (#[x]).map a.eval = #[a.eval x] := by simp

theorem len_key {x : Operand} {t : TypeId} {v : AV} (H : WR P w0 r h nx w) (hop : o.op = .call ⟨.builtin .len, #[x], #[t]⟩) (h2 : a.eval x = conc r v) (n : Nat) (hr : (Builtin.len_ #[t] o.type #[conc r v]).run P w = .ok (.int .i64 n) w) (hK : K (.int .i64 (.ofNat n)) h nx) : Yields P w0 r h w (execOp a.eval o) K := by
  refine Yields.pure H hK (run_builtin hop ?_) (by simp [okV])
  rw [map_one, h2]
  simp only [builtin, conc]
  exact run_value hr

theorem s_lenS (H : WR P w0 r h nx w) (ht : TR r tm a.tmps) {t : TypeId} {x : Operand} {x' : AX} (hu : P.underlying t = some .string) (hx : Cx x x') (hop : o.op = .call ⟨.builtin .len, #[x], #[t]⟩) (hk : stepV (.lenS x') tm h nx K) : Yields P w0 r h w (execOp a.eval o) K := by
  simp only [stepV, oLenS] at hk
  obtain ⟨v, h1, h2, h3⟩ := evK_spec hx ht hk
  split at h1
  · rename_i s
    rw [forceN_iff] at h1
    refine len_key H hop h2 _ ?_ h1
    show Sem.run P (do match ← underlying t, conc r (AV.str s) with | _, _ => _) w = _
    rw [run_ok_bind (run_underlying hu)]
    simp only [conc]
    show Result.ok (Value.int .i64 ((bytesOf s).size : Int)) w = _
    rw [bytes_size]
  · exact h1.elim

theorem s_len (H : WR P w0 r h nx w) (ht : TR r tm a.tmps) {t e : TypeId} {x : Operand} {x' : AX} (hu : P.underlying t = some (.slice e)) (hx : Cx x x') (hop : o.op = .call ⟨.builtin .len, #[x], #[t]⟩) (hk : stepV (.len x') tm h nx K) : Yields P w0 r h w (execOp a.eval o) K := by
  simp only [stepV, oLen] at hk
  obtain ⟨v, h1, h2, h3⟩ := evK_spec hx ht hk
  split at h1
  · refine len_key H hop h2 _ ?_ h1
    show Sem.run P (do match ← underlying t, conc r AV.nils with | _, _ => _) w = _
    rw [run_ok_bind (run_underlying hu)]
    simp only [conc]; rfl
  · rename_i k q l c op
    refine len_key H hop h2 _ ?_ h1
    show Sem.run P (do match ← underlying t, conc r (AV.sl k q l c op) with | _, _ => _) w = _
    rw [run_ok_bind (run_underlying hu)]
    simp only [conc]; rfl
  · rename_i k q q'
    refine len_key H hop h2 _ ?_ h1
    show Sem.run P (do match ← underlying t, conc r (AV.slz k q q') with | _, _ => _) w = _
    rw [run_ok_bind (run_underlying hu)]
    simp only [conc]; rfl
  · exact h1.elim

theorem run_getObj {α : Type} {b : Nat} {x : Obj} {f : Obj → Sem α} (hb : w.heap[b]? = some x) (hx : ∀ c e z, x ≠ .cells c e z) : (getObj b >>= f).run P w = (f x).run P w := by
  show Sem.run P (Sem.getObj b fun o => f o) w = _
  cases x with
  | cells c e z => exact absurd rfl (hx _ _ _)
  | _ => simp only [Sem.run, hb]

theorem s_lenM (H : WR P w0 r h nx w) (ht : TR r tm a.tmps) {t k e : TypeId} {x : Operand} {x' : AX} (hu : P.underlying t = some (.map k e)) (hx : Cx x x') (hop : o.op = .call ⟨.builtin .len, #[x], #[t]⟩) (hk : stepV (.lenM x') tm h nx K) : Yields P w0 r h w (execOp a.eval o) K := by
  simp only [stepV, oLenM] at hk
  obtain ⟨v, h1, h2, h3⟩ := evK_spec hx ht hk
  split at h1
  · refine len_key H hop h2 _ ?_ h1
    show Sem.run P (do match ← underlying t, conc r AV.nilm with | _, _ => _) w = _
    rw [run_ok_bind (run_underlying hu)]
    simp only [conc]; rfl
  · rename_i m
    obtain ⟨b, hb, h1⟩ := (T.getK_iff _ _ _).1 h1
    split at h1
    · rename_i es clock
      rw [forceN_iff] at h1
      refine len_key H hop h2 _ ?_ h1
      show Sem.run P (do match ← underlying t, conc r (AV.map m) with | _, _ => _) w = _
      rw [run_ok_bind (run_underlying hu)]
      simp only [conc]
      show Sem.run P (getObj (r.blk m) >>= _) w = _
      obtain ⟨es', c', hb', M, -⟩ := (H.has m _ hb).2.2.2
      have hlen : es'.length = es.length := by have := M.perm.length_eq; simpa using this.symm
      rw [run_getObj hb' (by simp)]
      simp only []
      show Result.ok (Value.int .i64 ((es'.map (concE r)).toArray.size : Int)) w = _
      simp [hlen]
    · exact h1.elim
  · exact h1.elim

theorem s_ixS (H : WR P w0 r h nx w) (ht : TR r tm a.tmps) {t : TypeId} {x i : Operand} {x' i' : AX} (hu : P.underlying t = some .string) (hx : Cx x x') (hi : Cx i i') (hop : o.op = .index t x i) (hk : stepV (.ixS x' i') tm h nx K) : Yields P w0 r h w (execOp a.eval o) K := by
  simp only [stepV, oIxS] at hk
  obtain ⟨v, h1, h2, h3⟩ := evK_spec hx ht hk
  split at h1
  · rename_i s
    obtain ⟨u, h1, h4, h5⟩ := evK_spec hi ht h1
    obtain ⟨kd, m, rfl, hm, h1⟩ := atK_spec h1
    split at h1
    · rename_i b hb
      rw [forceN_iff] at h1
      simp only [execOp, hop]
      refine Yields.pureV H h1 ?_ (by simp [okV])
      unfold Instr.index
      rw [h4, h2]
      simp only [conc, asIntOf]
      rw [run_ok_bind (run_pure P _ w), run_ok_bind (run_underlying hu)]
      simp only []
      have e : (bytesOf s)[m]? = some (UInt8.ofNat b) := by
        have hm' : m < (bytesOf s).size := by rw [bytes_size]; exact hm
        rw [getElem?_pos (bytesOf s) m hm']
        congr 1
        show (bytesOf s).data[m] = _
        have hb' : s[m] = b := (List.getElem?_eq_some_iff.1 hb).2
        simp [bytesOf, hb']
      rw [if_pos (by simp)]
      show Sem.run P (match (bytesOf s)[m]? with | some b => _ | none => _) w = _
      rw [e]
      show Result.ok (Value.int .u8 ((UInt8.ofNat b).toNat : Int)) w = _
      rw [UInt8.toNat_ofNat']; rfl
    · exact h1.elim
  · exact h1.elim

theorem mmK_spec {mx : Bool} {k : IntKind} : ∀ {l : List AV} {n : Int} {c : AV → Prop}, mmK mx k l n c → ∃ m, c (.int k m) ∧ ((concL r l).foldlM (if mx then Builtin.max2 else Builtin.min2) (.int k n) : Sem Value) = pure (.int k m)
  | [], n, c, h => ⟨n, h, by simp [concL]⟩
  | v :: l, n, c, h => by
    cases v with
    | int k' m =>
      simp only [mmK] at h
      rw [forceB_iff] at h
      cases mx with
      | true =>
        simp only [cond_true, ltI_spec] at h
        by_cases e : n < m
        · simp only [e, decide_true] at h
          obtain ⟨z, h1, h2⟩ := mmK_spec h
          refine ⟨z, h1, ?_⟩
          simp only [concL, conc, List.foldlM_cons]
          show Sem.bind (Sem.pure (Value.int k (if m > n then m else n))) _ = _
          rw [if_pos e]; exact h2
        · simp only [e, decide_false] at h
          obtain ⟨z, h1, h2⟩ := mmK_spec h
          refine ⟨z, h1, ?_⟩
          simp only [concL, conc, List.foldlM_cons]
          show Sem.bind (Sem.pure (Value.int k (if m > n then m else n))) _ = _
          rw [if_neg e]; exact h2
      | false =>
        simp only [cond_false, ltI_spec] at h
        by_cases e : m < n
        · simp only [e, decide_true] at h
          obtain ⟨z, h1, h2⟩ := mmK_spec h
          refine ⟨z, h1, ?_⟩
          simp only [concL, conc, List.foldlM_cons]
          show Sem.bind (Sem.pure (Value.int k (if m < n then m else n))) _ = _
          rw [if_pos e]; exact h2
        · simp only [e, decide_false] at h
          obtain ⟨z, h1, h2⟩ := mmK_spec h
          refine ⟨z, h1, ?_⟩
          simp only [concL, conc, List.foldlM_cons]
          show Sem.bind (Sem.pure (Value.int k (if m < n then m else n))) _ = _
          rw [if_neg e]; exact h2
    | _ => exact h.elim

theorem s_mm (H : WR P w0 r h nx w) (ht : TR r tm a.tmps) {mx : Bool} {ts : Array TypeId} {xs : Array Operand} {xs' : List AX} (hx : Cxs xs.toList xs') (hop : o.op = .call ⟨.builtin (if mx then .max else .min), xs, ts⟩) (hk : stepV (.mm mx xs') tm h nx K) : Yields P w0 r h w (execOp a.eval o) K := by
  simp only [stepV, oMm] at hk
  obtain ⟨vs, h1, h2, h3⟩ := evsK_spec ht hx hk
  split at h1
  · rename_i k n l
    obtain ⟨m, g1, g2⟩ := mmK_spec (r := r) h1
    refine Yields.pure H g1 (run_builtin hop ?_) (by simp [okV])
    have e1 : (xs.map a.eval).toList = concL r (.int k n :: l) := by rw [← h2]; simp
    cases mx with
    | true =>
      simp only [if_true, builtin]
      refine run_value ?_
      rw [Builtin.max_, e1]
      simp only [concL, conc]
      rw [show (concL r l).foldlM Builtin.max2 (.int k n) = (pure (.int k m) : Sem Value) from g2]; rfl
    | false =>
      simp only [Bool.false_eq_true, if_false, builtin]
      refine run_value ?_
      rw [Builtin.min_, e1]
      simp only [concL, conc]
      rw [show (concL r l).foldlM Builtin.min2 (.int k n) = (pure (.int k m) : Sem Value) from g2]; rfl
  · exact h1.elim

end
end Go.Proofs.Ytfnehpgefcnjgaa.X
