/- An executor for closed calls, 12b: parts of arrays; maps by strings. -/
import Derived.Test.YtfnehpgefcnjgaaXL
namespace Go.Proofs.Ytfnehpgefcnjgaa.X
open Go.RowKit

section
variable {P : Program} {w0 : World} {r : Rho} {h : T AO} {nx : Pt} {w : World} {tm : T AV} {a : Act} {o : Oper} {K : AV → T AO → Pt → Prop}

theorem s_ix1 (H : WR P w0 r h nx w) (ht : TR r tm a.tmps) {t elem : TypeId} {l : Nat} {d : TypeDesc} {j : TypeInfo} {x i : Operand} {x' i' : AX} (hu : P.underlying t = some (.array l elem)) (hd : P.underlying elem = some d) (ha : aggD d = false) (hj : P.info? elem = some j) (h1j : j.size = 1) (hx : Cx x x') (hi : Cx i i') (hop : o.op = .index t x i) (hk : stepV (.ix1 l x' i') tm h nx K) : Yields P w0 r h w (execOp a.eval o) K := by
  simp only [stepV, oIx1] at hk
  obtain ⟨v, h1, h2, h3⟩ := evK_spec hx ht hk
  split at h1
  · rename_i vs
    obtain ⟨u, h1, h4, h5⟩ := evK_spec hi ht h1
    obtain ⟨kd, m, rfl, hm, h1⟩ := atK_spec h1
    split at h1
    · rename_i y hy
      simp only [okV] at h3
      simp only [execOp, hop]
      refine Yields.pureV H h1 ?_ (h3.get hy)
      unfold Instr.index
      rw [h4, h2]
      simp only [conc, asIntOf]
      rw [run_ok_bind (run_pure P _ w), run_ok_bind (run_underlying hu)]
      simp only []
      rw [if_pos (by constructor <;> simp; omega), run_ok_bind (run_sizeOf hj), h1j]
      refine run_part1 hd ha ?_
      simpa using hy
    · exact h1.elim
  · exact h1.elim

theorem bytes_eqN {s s' : List Nat} (hs : ∀ x ∈ s, x < 256) (hs' : ∀ x ∈ s', x < 256) : (bytesOf s == bytesOf s') = eqN s s' := by
  have e : (bytesOf s == bytesOf s') = ((bytesOf s).data == (bytesOf s').data) := rfl
  rw [eqN_spec hs hs', e, Bool.eq_iff_iff, beq_iff_eq, beq_iff_eq]
  constructor
  · intro e
    have := congrArg Array.toList e
    simpa [bytesOf] using this
  · intro e
    unfold bytesOf
    rw [e]

def keyOk (es : List (AV × AV × Nat)) : Prop := ∀ e ∈ es, ∀ s, e.1 = .str s → ∀ x ∈ s, x < 256

theorem lkE_spec {s : List Nat} (hs : ∀ x ∈ s, x < 256) : ∀ {es : List (AV × AV × Nat)} {c : Option AV → Prop} (i : Nat), keyOk es → lkE s es c →
    ∃ q : Option (Nat × AV), c (q.map Prod.snd) ∧ Instr.findNow .string (.string (bytesOf s)) (es.map (concE r)) i = some (q.map fun q => (q.1, conc r q.2)) ∧ ∀ y, q = some y → ∃ e ∈ es, e.2.1 = y.2
  | [], c, i, _, hk => ⟨none, hk, rfl, fun y e => by cases e⟩
  | e :: es, c, i, ho, hk => by
    have hk : (match e.1 with
      | .str s' => Bool.rec (motive := fun _ => Prop) (lkE s es c) (c (some e.2.1)) (eqN s s')
      | _ => False) := hk
    split at hk
    · rename_i s' hs'
      have hsm : Instr.sameNow .string (.string (bytesOf s)) (concE r e).key = some (eqN s s') := by
        simp only [concE, hs', conc, Instr.sameNow, bytes_eqN hs (ho e (List.mem_cons_self ..) s' hs')]
      cases hb : eqN s s' with
      | true =>
        rw [hb] at hk hsm
        refine ⟨some (i, e.2.1), hk, ?_, fun y hy => ⟨e, List.mem_cons_self .., by cases hy; rfl⟩⟩
        rw [List.map_cons, Instr.findNow, hsm]; rfl
      | false =>
        rw [hb] at hk hsm
        obtain ⟨q, h1, h2, h3⟩ := lkE_spec hs (i + 1) (fun e he => ho e (List.mem_cons_of_mem _ he)) hk
        refine ⟨q, h1, ?_, fun y hy => ?_⟩
        · rw [List.map_cons, Instr.findNow, hsm]; exact h2
        · obtain ⟨e', he, h4⟩ := h3 y hy
          exact ⟨e', List.mem_cons_of_mem _ he, h4⟩
    · exact hk.elim

theorem run_checkKey {b : Bool} {key : TypeId} {s : ByteArray} (hk : P.underlying key = some .string) : (Instr.checkKey b 10000 key (.string s)).run P w = .ok () w := by
  have : (10000 : Nat) = 9999 + 1 := rfl
  rw [this, Instr.checkKey, run_ok_bind (run_underlying hk)]
  rfl

theorem run_findKey {key : TypeId} {k : Value} {es : List MapEntry} {q : Option (Nat × Value)} (hk : P.underlying key = some .string) (hf : Instr.findNow .string k es 0 = some q) : (Instr.findKey key k es).run P w = .ok q w := by
  rw [Instr.findKey, run_ok_bind (run_underlying hk), hf]; rfl

theorem eqN_eqL : ∀ {a b : List Nat}, eqN a b = true → a = b
  | [], [], _ => rfl
  | [], _ :: _, h => by cases h
  | _ :: _, [], h => by cases h
  | x :: a, y :: b, h => by
    simp only [eqN, Bool.and_eq_true] at h
    rw [Nat.eq_of_beq_eq_true h.1, eqN_eqL h.2]

theorem eqN_self : ∀ a : List Nat, eqN a a = true
  | [] => rfl
  | x :: a => by simp [eqN, eqN_self a]

/-- a key's value -/
def look (s : List Nat) : List (AV × AV × Nat) → Option AV
  | [] => none
  | e :: l => match e.1 with
    | .str s' => bif eqN s s' then some e.2.1 else look s l
    | _ => none

theorem lkE_iff {s : List Nat} {c : Option AV → Prop} : ∀ {es : List (AV × AV × Nat)}, (∀ e ∈ es, ∃ s, e.1 = .str s) → (lkE s es c ↔ c (look s es))
  | [], _ => Iff.rfl
  | e :: l, h => by
    obtain ⟨s', hs'⟩ := h e (List.mem_cons_self ..)
    have ih := lkE_iff (s := s) (c := c) (es := l) fun e he => h e (List.mem_cons_of_mem _ he)
    show (match e.1 with
      | .str s' => Bool.rec (motive := fun _ => Prop) (lkE s l c) (c (some e.2.1)) (eqN s s')
      | _ => False) ↔ _
    simp only [look, hs']
    cases eqN s s' with
    | true => exact Iff.rfl
    | false => exact ih

theorem look_mem {s : List Nat} {v : AV} : ∀ {es : List (AV × AV × Nat)}, (∀ e ∈ es, ∃ s, e.1 = .str s) → (es.map Prod.fst).Nodup → (look s es = some v ↔ (.str s, v) ∈ es.map KV)
  | [], _, _ => by simp [look]
  | e :: l, h, hn => by
    obtain ⟨s', hs'⟩ := h e (List.mem_cons_self ..)
    simp only [List.map_cons, List.nodup_cons] at hn
    have ih := look_mem (s := s) (v := v) (es := l) (fun e he => h e (List.mem_cons_of_mem _ he)) hn.2
    simp only [look, hs', List.map_cons, List.mem_cons]
    cases hb : eqN s s' with
    | true =>
      have hss := eqN_eqL hb
      subst hss
      simp only [cond_true, Option.some.injEq]
      constructor
      · rintro rfl; exact .inl (by simp [KV, hs'])
      · rintro (h1 | h1)
        · simp only [KV, Prod.mk.injEq] at h1; exact h1.2.symm
        · obtain ⟨e', he', h2⟩ := List.mem_map.1 h1
          simp only [KV, Prod.mk.injEq] at h2
          exact absurd (List.mem_map.2 ⟨e', he', by rw [h2.1, hs']⟩) hn.1
    | false =>
      simp only [cond_false, ih]
      constructor
      · exact .inr
      · rintro (h1 | h1)
        · simp only [KV, Prod.mk.injEq, hs', AV.str.injEq] at h1
          rw [h1.1, eqN_self] at hb; cases hb
        · exact h1

theorem MapS.keys {es es' : List (AV × AV × Nat)} (M : MapS es es') : (es'.map Prod.fst).Nodup ∧ ∀ e ∈ es', ∃ s, e.1 = .str s := by
  refine ⟨?_, fun e he => ?_⟩
  · have h1 : (es.map KV).map Prod.fst = es.map Prod.fst := by simp [KV, Function.comp_def]
    have h2 : (es'.map KV).map Prod.fst = es'.map Prod.fst := by simp [KV, Function.comp_def]
    rw [← h2]
    refine (M.perm.map Prod.fst).nodup ?_
    rw [h1]; exact M.nodup
  · obtain ⟨e', he', h1, -⟩ := M.mem he
    obtain ⟨s, hs⟩ := M.str e' he'
    exact ⟨s, by rw [← h1]; exact hs⟩

theorem MapS.look {es es' : List (AV × AV × Nat)} (M : MapS es es') (s : List Nat) : look s es' = look s es := by
  obtain ⟨k1, k2⟩ := M.keys
  apply Option.ext
  intro v
  rw [look_mem k2 k1, look_mem M.str M.nodup, M.perm.mem_iff]

/-- with a key's value put in -/
def upd (s : List Nat) (v : AV) : List (AV × AV × Nat) → Option (List (AV × AV × Nat))
  | [] => none
  | e :: l => match e.1 with
    | .str s' => bif eqN s s' then some ((.str s, v, e.2.2) :: l) else match upd s v l with
      | some r => some (e :: r)
      | none => none
    | _ => none

theorem upE_iff {s : List Nat} {v : AV} : ∀ {es : List (AV × AV × Nat)} {c : Option (List (AV × AV × Nat)) → Prop}, (∀ e ∈ es, ∃ s, e.1 = .str s) → (upE s v es c ↔ c (upd s v es))
  | [], _, _ => Iff.rfl
  | e :: l, c, h => by
    obtain ⟨s', hs'⟩ := h e (List.mem_cons_self ..)
    have ih := upE_iff (s := s) (v := v) (es := l) (c := fun r => match r with
        | some r => c (some (e :: r))
        | none => c none) fun e he => h e (List.mem_cons_of_mem _ he)
    show (match e.1 with
      | .str s' => Bool.rec (motive := fun _ => Prop) (upE s v l fun r => match r with
        | some r => c (some (e :: r))
        | none => c none) (c (some ((.str s, v, e.2.2) :: l))) (eqN s s')
      | _ => False) ↔ _
    simp only [upd, hs']
    cases eqN s s' with
    | true => exact Iff.rfl
    | false =>
      refine ih.trans ?_
      simp only [cond_false]
      cases upd s v l <;> exact Iff.rfl

theorem upd_none {s : List Nat} {v : AV} : ∀ {es : List (AV × AV × Nat)}, (∀ e ∈ es, ∃ s, e.1 = .str s) → (upd s v es = none ↔ look s es = none)
  | [], _ => by simp [upd, look]
  | e :: l, h => by
    obtain ⟨s', hs'⟩ := h e (List.mem_cons_self ..)
    have ih := upd_none (s := s) (v := v) (es := l) fun e he => h e (List.mem_cons_of_mem _ he)
    simp only [upd, look, hs']
    cases eqN s s' with
    | true => simp
    | false =>
      simp only [cond_false]
      rw [← ih]
      cases upd s v l <;> simp

def subS (s : List Nat) (v : AV) (x : AV × AV) : AV × AV := match x.1 with
  | .str s' => bif eqN s s' then (.str s, v) else x
  | _ => x

theorem upd_births {s : List Nat} {v : AV} : ∀ {es es1 : List (AV × AV × Nat)}, upd s v es = some es1 → es1.map (·.2.2) = es.map (·.2.2)
  | [], es1, h => by simp [upd] at h
  | e :: l, es1, h => by
    simp only [upd] at h
    split at h
    · rename_i s' hs'
      cases hb : eqN s s' with
      | true =>
        rw [hb] at h
        simp only [cond_true, Option.some.injEq] at h
        subst h
        simp
      | false =>
        rw [hb] at h
        simp only [cond_false] at h
        split at h
        · rename_i r hr
          simp only [Option.some.injEq] at h
          subst h
          simp [upd_births hr]
        · cases h
    · cases h

theorem upd_some {s : List Nat} {v : AV} : ∀ {es es1 : List (AV × AV × Nat)}, (∀ e ∈ es, ∃ s, e.1 = .str s) → (es.map Prod.fst).Nodup → upd s v es = some es1 → es1.map KV = (es.map KV).map (subS s v) ∧ es1.map Prod.fst = es.map Prod.fst
  | [], es1, _, _, h => by simp [upd] at h
  | e :: l, es1, h, hn, hu => by
    obtain ⟨s', hs'⟩ := h e (List.mem_cons_self ..)
    simp only [List.map_cons, List.nodup_cons] at hn
    simp only [upd, hs'] at hu
    cases hb : eqN s s' with
    | true =>
      rw [hb] at hu
      simp only [cond_true, Option.some.injEq] at hu
      have hss := eqN_eqL hb
      subst hss
      subst hu
      refine ⟨?_, by simp [hs']⟩
      simp only [List.map_cons, KV, subS, hs', eqN_self, cond_true, List.cons.injEq, true_and]
      have : ∀ x ∈ l.map KV, subS s v x = x := fun x hx => by
        obtain ⟨e', he', rfl⟩ := List.mem_map.1 hx
        obtain ⟨s1, hs1⟩ := h e' (List.mem_cons_of_mem _ he')
        simp only [subS, KV, hs1]
        cases hb' : eqN s s1 with
        | false => rfl
        | true => exact absurd (List.mem_map.2 ⟨e', he', by rw [hs1, hs', eqN_eqL hb']⟩) hn.1
      have h2 := List.map_congr_left this
      simp only [List.map_id'] at h2
      exact h2.symm
    | false =>
      rw [hb] at hu
      simp only [cond_false] at hu
      split at hu
      · rename_i r hr
        simp only [Option.some.injEq] at hu
        subst hu
        obtain ⟨g1, g2⟩ := upd_some (fun e he => h e (List.mem_cons_of_mem _ he)) hn.2 hr
        refine ⟨?_, by simp [g2]⟩
        simp only [List.map_cons, g1, List.cons.injEq, and_true]
        simp only [subS, KV, hs', hb, cond_false]
      · cases hu

theorem s_lk (H : WR P w0 r h nx w) (ht : TR r tm a.tmps) {t key elem : TypeId} {j : TypeInfo} {z : Value} {zv : AV} {ok : Bool} {x k : Operand} {x' k' : AX} (hu : P.underlying t = some (.map key elem)) (hkey : P.underlying key = some .string) (hj : P.info? elem = some j) (hz : j.zero = some z) (hl : Lone zv z) (hx : Cx x x') (hi : Cx k k') (hop : o.op = .lookup t x k ok) (hk : stepV (.lk zv ok x' k') tm h nx K) : Yields P w0 r h w (execOp a.eval o) K := by
  simp only [stepV, oLk] at hk
  obtain ⟨kv, h1, g2, g3⟩ := evK_spec hi ht hk
  split at h1
  · rename_i s
    simp only [okV] at g3
    obtain ⟨v, h1, h2, h3⟩ := evK_spec hx ht h1
    have tail : ∀ {q : Option (Nat × AV)} (M : Sem Value), (lkR zv ok (q.map Prod.snd) fun v => K v h nx) → (∀ y, q = some y → okV r.has y.2) → M.run P w = (.ok (if ok then .tuple #[conc r ((q.map Prod.snd).getD zv), .bool q.isSome] else conc r ((q.map Prod.snd).getD zv)) w) → o.op = .lookup t x k ok → Instr.lookup t (a.eval x) (a.eval k) ok = M → Yields P w0 r h w (execOp a.eval o) K := by
      intro q M hR hq hM _ hE
      simp only [execOp, hop]
      cases q with
      | none =>
        cases ok with
        | true => exact Yields.pureV (v := .tup [zv, .bool false]) H hR (by rw [hE, hM]; simp [conc, concL]) (by simp only [okV, okL]; exact ⟨hl.2 _, trivial, trivial⟩)
        | false => exact Yields.pureV (v := zv) H hR (by rw [hE, hM]; simp) (hl.2 _)
      | some y =>
        cases ok with
        | true => exact Yields.pureV (v := .tup [y.2, .bool true]) H hR (by rw [hE, hM]; simp [conc, concL]) (by simp only [okV, okL]; exact ⟨hq y rfl, trivial, trivial⟩)
        | false => exact Yields.pureV (v := y.2) H hR (by rw [hE, hM]; simp) (hq y rfl)
    split at h1
    · refine tail (q := none) _ h1 (fun y e => by cases e) ?_ hop rfl
      unfold Instr.lookup
      rw [g2, h2, run_ok_bind (run_underlying hu)]
      simp only [conc]
      rw [run_ok_bind (run_pure P _ w), run_ok_bind (run_checkKey hkey), run_ok_bind (run_findKey hkey (q := none) rfl)]
      simp only []
      rw [run_ok_bind (run_zeroValue hj hz), run_ok_bind (run_pure P _ w)]
      simp [hl.1]
    · rename_i m
      obtain ⟨b, hb, h1⟩ := (T.getK_iff _ _ _).1 h1
      split at h1
      · rename_i es clock
        obtain ⟨-, -, ho, hb'⟩ := H.has m _ hb
        have ho : ∀ e ∈ es, okV r.has e.1 ∧ okV r.has e.2.1 := ho
        obtain ⟨es', c', hb', M, -⟩ := hb'
        have ho : ∀ e ∈ es', okV r.has e.1 ∧ okV r.has e.2.1 := fun e he => by
          obtain ⟨e', he', q1, q2⟩ := M.mem he
          rw [← q1, ← q2]; exact ho e' he'
        have h1 := (lkE_iff M.str).1 h1
        rw [← M.look s] at h1
        have h1 := (lkE_iff (c := fun v => lkR zv ok v fun v => K v h nx) M.keys.2).2 h1
        obtain ⟨q, c1, c2, c3⟩ := lkE_spec (r := r) g3 0 (fun e he s' hs' => by have := (ho e he).1; rw [hs'] at this; simpa only [okV] using this) h1
        refine tail (q := q) _ c1 (fun y hy => ?_) ?_ hop rfl
        · obtain ⟨e, he, e2⟩ := c3 y hy
          rw [← e2]; exact (ho e he).2
        · unfold Instr.lookup
          rw [g2, h2, run_ok_bind (run_underlying hu)]
          simp only [conc]
          show Sem.run P (getObj (r.blk m) >>= _) w = _
          rw [run_getObj hb' (by simp)]
          simp only []
          rw [run_ok_bind (run_pure P _ w), run_ok_bind (run_checkKey hkey), run_ok_bind (run_findKey hkey c2)]
          cases q with
          | none =>
            simp only [Option.map_none]
            rw [run_ok_bind (run_zeroValue hj hz), run_ok_bind (run_pure P _ w)]
            simp [hl.1]
          | some y =>
            simp only [Option.map_some]
            rw [run_ok_bind (run_pure P _ w)]
            simp
      · exact h1.elim
    · exact h1.elim
  · exact h1.elim

theorem upE_spec {s : List Nat} {v : AV} (hs : ∀ x ∈ s, x < 256) : ∀ {es : List (AV × AV × Nat)} {c : Option (List (AV × AV × Nat)) → Prop} (i : Nat), keyOk es → upE s v es c →
    (c none ∧ Instr.findNow .string (.string (bytesOf s)) (es.map (concE r)) i = some none) ∨
    ∃ es' n u, c (some es') ∧ Instr.findNow .string (.string (bytesOf s)) (es.map (concE r)) i = some (some (i + n, u)) ∧ n < es.length ∧ ((es.map (concE r))[n]?.map (·.key)) = some (.string (bytesOf s)) ∧
      es'.map (concE r) = (es.map (concE r)).modify n (fun e => { e with key := .string (bytesOf s), val := conc r v }) ∧ ∀ e ∈ es', e ∈ es ∨ e.1 = .str s ∧ e.2.1 = v
  | [], c, i, _, hk => .inl ⟨hk, rfl⟩
  | e :: es, c, i, ho, hk => by
    have hk : (match e.1 with
      | .str s' => Bool.rec (motive := fun _ => Prop) (upE s v es fun r => match r with
        | some r => c (some (e :: r))
        | none => c none) (c (some ((.str s, v, e.2.2) :: es))) (eqN s s')
      | _ => False) := hk
    split at hk
    · rename_i s' hs'
      have hbe := bytes_eqN hs (ho e (List.mem_cons_self ..) s' hs')
      have hsm : Instr.sameNow .string (.string (bytesOf s)) (concE r e).key = some (eqN s s') := by
        simp only [concE, hs', conc, Instr.sameNow, hbe]
      cases hb : eqN s s' with
      | true =>
        rw [hb] at hk hsm
        have hss : bytesOf s = bytesOf s' := by
          rw [eqN_spec hs (ho e (List.mem_cons_self ..) s' hs'), beq_iff_eq] at hb
          unfold bytesOf; rw [hb]
        refine .inr ⟨_, 0, conc r e.2.1, hk, ?_, by simp, ?_, ?_, fun y hy => ?_⟩
        · rw [List.map_cons, Instr.findNow, hsm]; rfl
        · simp [concE, hs', conc, hss]
        · simp [concE, conc]
        · rcases List.mem_cons.1 hy with rfl | hy
          · exact .inr ⟨rfl, rfl⟩
          · exact .inl (List.mem_cons_of_mem _ hy)
      | false =>
        rw [hb] at hk hsm
        rcases upE_spec hs (i + 1) (fun e he => ho e (List.mem_cons_of_mem _ he)) hk with ⟨h1, h2⟩ | ⟨es', n, u, h1, h2, h3, h4, h5, h6⟩
        · refine .inl ⟨h1, ?_⟩
          rw [List.map_cons, Instr.findNow, hsm]; exact h2
        · refine .inr ⟨e :: es', n + 1, u, h1, ?_, by simp; omega, ?_, ?_, fun y hy => ?_⟩
          · rw [List.map_cons, Instr.findNow, hsm, show i + (n + 1) = i + 1 + n by omega]; exact h2
          · simpa using h4
          · simp [h5]
          · rcases List.mem_cons.1 hy with rfl | hy
            · exact .inl (List.mem_cons_self ..)
            · exact (h6 y hy).imp (List.mem_cons_of_mem _) id
    · exact hk.elim

theorem run_setMap {b : Nat} {es : Array MapEntry} {n : Nat} {x : Obj} (hb : w.heap[b]? = some (.map es n)) : (setObj b x).run P w = .ok () { w with heap := w.heap.setIfInBounds b x } := by
  unfold setObj
  simp only [Sem.run, hb]

theorem run_stays {s : ByteArray} : (Instr.keyThatStays (.string s) (.string s)).run P w = .ok (.string s) w := by
  unfold Instr.keyThatStays
  have : Instr.sameBits 10000 (.string s) (.string s) = true := by
    have : (10000 : Nat) = 9999 + 1 := rfl
    rw [this, Instr.sameBits]
    show (s.data == s.data) = true
    simp
  rw [if_pos this]; rfl

theorem s_up (H : WR P w0 r h nx w) (ht : TR r tm a.tmps) {t key elem : TypeId} {x k v : Operand} {x' k' v' : AX} (hu : P.underlying t = some (.map key elem)) (hkey : P.underlying key = some .string) (hx : Cx x x') (hi : Cx k k') (hv : Cx v v') (hop : o.op = .mapUpdate t x k v) (hk : stepV (.up x' k' v') tm h nx K) : Yields P w0 r h w (execOp a.eval o) K := by
  simp only [stepV, oUp] at hk
  obtain ⟨kv, h1, g2, g3⟩ := evK_spec hi ht hk
  split at h1
  · rename_i s
    have g3' := g3
    simp only [okV] at g3
    obtain ⟨xv, h1, h2, h3⟩ := evK_spec hx ht h1
    split at h1
    · rename_i m
      obtain ⟨vv, h1, e2, e3⟩ := evK_spec hv ht h1
      obtain ⟨b, hb, h1⟩ := (T.getK_iff _ _ _).1 h1
      split at h1
      · rename_i es clock
        obtain ⟨-, -, ho, hb'⟩ := H.has m _ hb
        have ho : ∀ e ∈ es, okV r.has e.1 ∧ okV r.has e.2.1 := ho
        obtain ⟨es', c', hb', M, Bi⟩ := hb'
        have ho' : ∀ e ∈ es', okV r.has e.1 ∧ okV r.has e.2.1 := fun e he => by
          obtain ⟨e', he', q1, q2⟩ := M.mem he
          rw [← q1, ← q2]; exact ho e' he'
        have hko : keyOk es' := fun e he s' hs' => by have := (ho' e he).1; rw [hs'] at this; simpa only [okV] using this
        simp only [execOp, hop]
        rw [upE_iff M.str] at h1
        cases hu1 : upd s vv es with
        | none =>
          rw [hu1] at h1
          have hl := (upd_none M.str).1 hu1
          have hu2 : upd s vv es' = none := (upd_none M.keys.2).2 ((M.look s).trans hl)
          rcases upE_spec (r := r) g3 0 hko ((upE_iff M.keys.2 (c := fun r => r = none)).2 hu2) with ⟨-, c2⟩ | ⟨es1, n, u, c1, -⟩
          · simp only [forceL_iff, forceN_iff, T.setK_iff] at h1
            have hnm : AV.str s ∉ es.map Prod.fst := fun hm => by
              obtain ⟨e, he, q⟩ := List.mem_map.1 hm
              have := (look_mem M.str M.nodup (s := s) (v := e.2.1)).2 (List.mem_map.2 ⟨e, he, by simp [KV, q]⟩)
              rw [hl] at this; cases this
            obtain ⟨W, E⟩ := H.write hb (.map (es ++ [(AV.str s, vv, clock)]) (clock + 1)) (.map ((es' ++ [(AV.str s, vv, c')]).map (concE r)).toArray (c' + 1)) (fun e he => by
              rcases List.mem_append.1 he with he | he
              · exact ho e he
              · rw [List.mem_singleton.1 he]; exact ⟨g3', e3⟩) ⟨_, _, rfl, ⟨by rw [List.map_append, List.map_append]; exact M.perm.append_right _, by
                rw [List.map_append, List.nodup_append]
                exact ⟨M.nodup, by simp, fun x hx y hy e => hnm (by simp at hy; rw [← hy, ← e]; exact hx)⟩, fun e he => by
                rcases List.mem_append.1 he with he | he
                · exact M.str e he
                · rw [List.mem_singleton.1 he]; exact ⟨s, rfl⟩⟩, by
                rw [List.map_append, List.nodup_append]
                refine ⟨Bi.1, by simp, fun x hx y hy e => ?_⟩
                obtain ⟨e1, he1, q⟩ := List.mem_map.1 hx
                have := Bi.2 e1 he1
                simp at hy
                omega, fun e he => by
                rcases List.mem_append.1 he with he | he
                · exact Nat.lt_succ_of_lt (Bi.2 e he)
                · rw [List.mem_singleton.1 he]; exact Nat.lt_succ_self _⟩
            refine ⟨r, _, nx, _, .tup [], .skip, h1, run_skip ?_, .inr ⟨rfl, by simp [conc, concL, undef]⟩, W, E, by simp [okV, okL]⟩
            unfold Instr.mapUpdate
            rw [g2, h2, e2, run_ok_bind (run_underlying hu)]
            simp only [conc]
            show Sem.run P (getObj (r.blk m) >>= _) w = _
            rw [run_getObj hb' (by simp)]
            simp only []
            rw [run_ok_bind (run_checkKey hkey), run_ok_bind (run_findKey hkey c2)]
            simp only []
            rw [run_setMap hb']
            simp [concE, conc]
          · cases c1
        | some es1 =>
          rw [hu1] at h1
          obtain ⟨q1, q2⟩ := upd_some M.str M.nodup hu1
          have hl : upd s vv es' ≠ none := fun e => by
            have := (upd_none (v := vv) M.str).2 ((M.look s).symm.trans ((upd_none M.keys.2).1 e))
            rw [hu1] at this; cases this
          obtain ⟨es2, hu2⟩ : ∃ es2, upd s vv es' = some es2 := by
            cases hh : upd s vv es' with
            | none => exact absurd hh hl
            | some x => exact ⟨x, rfl⟩
          obtain ⟨q3, q4⟩ := upd_some M.keys.2 M.keys.1 hu2
          rcases upE_spec (r := r) g3 0 hko ((upE_iff M.keys.2 (c := fun r => r = some es2)).2 hu2) with ⟨c1, -⟩ | ⟨es3, n, u, c1, c2, c3, c4, c5, c6⟩
          · cases c1
          cases c1
          simp only [T.setK_iff] at h1
          have M' : MapS es1 es2 := ⟨by rw [q1, q3]; exact M.perm.map _, by rw [q2]; exact M.nodup, fun e he => by
            have : e.1 ∈ es.map Prod.fst := by rw [← q2]; exact List.mem_map.2 ⟨e, he, rfl⟩
            obtain ⟨e', he', q⟩ := List.mem_map.1 this
            obtain ⟨s1, hs1⟩ := M.str e' he'
            exact ⟨s1, by rw [← q]; exact hs1⟩⟩
          obtain ⟨W, E⟩ := H.write hb (.map es1 clock) (.map (es2.map (concE r)).toArray c') (fun e he => by
            have : KV e ∈ es2.map KV := M'.perm.mem_iff.1 (List.mem_map.2 ⟨e, he, rfl⟩)
            obtain ⟨e', he', q⟩ := List.mem_map.1 this
            simp only [KV, Prod.mk.injEq] at q
            rw [← q.1, ← q.2]
            rcases c6 e' he' with he | ⟨w1, w2⟩
            · exact ho' e' he
            · rw [w1, w2]; exact ⟨g3', e3⟩) ⟨_, _, rfl, M', by rw [upd_births hu2]; exact Bi.1, fun e he => by
            have : e.2.2 ∈ es'.map (·.2.2) := by rw [← upd_births hu2]; exact List.mem_map.2 ⟨e, he, rfl⟩
            obtain ⟨e', he', q⟩ := List.mem_map.1 this
            rw [← q]; exact Bi.2 e' he'⟩
          refine ⟨r, _, nx, _, .tup [], .skip, h1, run_skip ?_, .inr ⟨rfl, by simp [conc, concL, undef]⟩, W, E, by simp [okV, okL]⟩
          unfold Instr.mapUpdate
          rw [g2, h2, e2, run_ok_bind (run_underlying hu)]
          simp only [conc]
          show Sem.run P (getObj (r.blk m) >>= _) w = _
          rw [run_getObj hb' (by simp)]
          simp only []
          rw [run_ok_bind (run_checkKey hkey), run_ok_bind (run_findKey hkey c2)]
          simp only [Nat.zero_add]
          have hkk : (((es'.map (concE r)).toArray[n]?.map (·.key)).getD (.string (bytesOf s))) = .string (bytesOf s) := by
            rw [List.getElem?_toArray, c4]; rfl
          rw [hkk, run_ok_bind run_stays, run_setMap hb']
          rw [c5]
          simp
      · exact h1.elim
    · exact h1.elim
  · exact h1.elim

theorem s_cvB (H : WR P w0 r h nx w) (ht : TR r tm a.tmps) {src dst e : TypeId} {d : TypeDesc} {j : TypeInfo} {x : Operand} {x' : AX} (hs : P.underlying src = some d) (hd : P.underlying dst = some (.slice e)) (he : P.underlying e = some (.int .u8)) (hj : P.info? e = some j) (h1j : j.size = 1) (hx : Cx x x') (hop : o.op = .convert src dst x) (hk : stepV (.cvB e x') tm h nx K) : Yields P w0 r h w (execOp a.eval o) K := by
  simp only [stepV, oCvB] at hk
  obtain ⟨v, h1, h2, h3⟩ := evK_spec hx ht hk
  split at h1
  · rename_i s
    simp only [okV] at h3
    rw [forceL_iff, T.setK_iff, forceP_iff, forceN_iff] at h1
    let ex := w.tape w.drawn (.appendCap (bytesOf s).size 0 e) % (2 ^ 63 - (bytesOf s).size)
    have hle := Rho.le_more H.fresh w.heap.size ex
    have hu8 : ((bytesOf s).data.map fun b => Value.int .u8 b.toNat).toList = concL r (s.map fun b => AV.int .u8 (.ofNat b)) := by
      simp only [concL_map, List.map_map, bytesOf]
      simp only [List.map_toArray, List.map_map]
      refine List.map_congr_left fun b hb => ?_
      simp only [Function.comp, conc, UInt8.toNat_ofNat']
      rw [Nat.mod_eq_of_lt (by have := h3 b hb; simpa using this)]
      rfl
    let c := concL r (s.map fun b => AV.int .u8 (.ofNat b)) ++ List.replicate ex (Value.int .u8 0)
    have hok : okL r.has (s.map fun b => AV.int .u8 (.ofNat b)) := okL_u8 s
    obtain ⟨g1, g2⟩ := (H.drew (w.drawn + 1)).alloc (.frz (s.map fun b => AV.int .u8 (.ofNat b)) e) ex (.cells c.toArray e (c.length, c.length + 1)) (okL.mono hle.has hok)
      ⟨List.replicate ex (Value.int .u8 0), (c.length, c.length + 1), by rw [concL_le hle hok], by
        show _ = (r.more nx w.heap.size ex).ext nx * _
        rw [r.more_ext, sizeT_of hj, h1j]; simp⟩
    simp only [execOp, hop]
    refine ⟨_, _, _, _, .sl nx 0 s.length s.length true, _, h1, run_value ?_, .inl rfl, g1, (Ev.drew _).trans g2, Or.inl rfl⟩
    unfold convert
    rw [run_ok_bind (run_underlying hs), run_ok_bind (run_underlying hd), h2]
    simp only [conc]
    show Sem.run P (underlying e >>= _) w = _
    rw [run_ok_bind (run_underlying he)]
    simp only []
    unfold Conv.stringToBytes
    show Sem.run P (Sem.choose (.appendCap (bytesOf s).size 0 e) fun n => _) w = _
    rw [show ∀ (k : Nat → Sem Value), Sem.run P (Sem.choose (.appendCap (bytesOf s).size 0 e) k) w = (k ((bytesOf s).size + ex)).run P { w with drawn := w.drawn + 1 } from fun _ => rfl]
    have hc : (bytesOf s).data.map (fun b => Value.int .u8 b.toNat) ++ Array.replicate ex (Value.int .u8 0) = c.toArray := by
      apply Array.ext'
      rw [Array.toList_append, hu8]
      simp [c]
    show Sem.run P (newRow e ((bytesOf s).data.map (fun b => Value.int .u8 b.toNat) ++ Array.replicate ((bytesOf s).size + ex - (bytesOf s).size) (Value.int .u8 0)) >>= fun a => _) _ = _
    rw [Nat.add_sub_cancel_left, hc, run_ok_bind (show (newRow e c.toArray).run P { w with drawn := w.drawn + 1 } = .ok ⟨w.heap.size, 0, none⟩ { w with drawn := w.drawn + 1, heap := w.heap.push (.cells c.toArray e (0, 0)) } from rfl)]
    have hm : (markStringish ⟨w.heap.size, 0, none⟩).run P { w with drawn := w.drawn + 1, heap := w.heap.push (.cells c.toArray e (0, 0)) } = .ok () { w with drawn := w.drawn + 1, heap := w.heap.push (.cells c.toArray e (c.length, c.length + 1)) } := by
      unfold markStringish
      have S : ∀ {α : Type} (w : World) (x : Nat) (f : Option (TypeId × Nat) → Sem α), (shape x >>= f).run P w = (f (w.shape? x)).run P w := fun _ _ _ => rfl
      rw [S]
      simp only [World.shape?, Array.getElem?_push_size]
      show Result.ok () (World.freeze _ _ 1) = _
      congr 1
      unfold World.freeze
      rw [if_neg (by decide)]
      congr 1
      apply Array.ext_getElem?
      intro i
      rw [Array.getElem?_modify]
      by_cases hi : w.heap.size = i
      · subst hi; simp
      · rw [if_neg hi]
        rw [Array.getElem?_push, Array.getElem?_push, if_neg (fun e => hi e.symm), if_neg (fun e => hi e.symm)]
    rw [run_ok_bind hm]
    simp only [run_pure, bytes_size, r.more_blk, r.more_ext, if_true]
  · exact h1.elim

theorem bsK_spec : ∀ {l : List AV} {c : List Nat → Prop}, bsK l c → ∃ ns, c ns ∧ l = ns.map (fun b => AV.int .u8 (.ofNat b)) ∧ ∀ b ∈ ns, b < 256
  | [], c, hk => ⟨[], hk, rfl, fun b hb => by cases hb⟩
  | v :: l, c, hk0 => by
    have hk : (match (generalizing := false) v with
      | .int .u8 (.ofNat b) => Bool.rec (motive := fun _ => Prop) False (bsK l fun s => c (b :: s)) (Nat.blt b 256)
      | _ => False) := hk0
    clear hk0
    split at hk
    · rename_i b
      obtain ⟨hb, hk⟩ := brec hk
      obtain ⟨ns, h1, h2, h3⟩ := bsK_spec hk
      refine ⟨b :: ns, h1, by rw [h2]; rfl, fun x hx => ?_⟩
      rcases List.mem_cons.1 hx with rfl | hx
      · simpa using hb
      · exact h3 x hx
    · exact hk.elim

theorem run_forIn {f : Value → ByteArray → Sem (ForInStep ByteArray)} (hf : ∀ (b : Nat) (s : ByteArray), f (.int .u8 (Int.ofNat b)) s = pure (.yield (s.push (UInt8.ofNat b)))) : ∀ (ns : List Nat) (acc : ByteArray), (forIn (ns.map fun b => Value.int .u8 (Int.ofNat b)) acc f).run P w = .ok ⟨acc.data ++ (ns.map UInt8.ofNat).toArray⟩ w
  | [], acc => by
    simp
  | b :: ns, acc => by
    rw [List.map_cons, List.forIn_cons, hf, run_ok_bind (run_pure P _ w)]
    simp only []
    rw [run_forIn hf ns]
    congr 1
    apply ByteArray.ext
    simp [ByteArray.push]

theorem s_cvT (H : WR P w0 r h nx w) (ht : TR r tm a.tmps) {src dst e : TypeId} {x : Operand} {x' : AX} (hs : P.underlying src = some (.slice e)) (he : P.underlying e = some (.int .u8)) (hd : P.underlying dst = some .string) (hx : Cx x x') (hop : o.op = .convert src dst x) (hk : stepV (.cvT x') tm h nx K) : Yields P w0 r h w (execOp a.eval o) K := by
  simp only [stepV, oCvT] at hk
  obtain ⟨v, h1, h2, h3⟩ := evK_spec hx ht hk
  simp only [execOp, hop]
  split at h1
  · refine Yields.pureV H h1 ?_ (by simp [okV])
    unfold convert
    rw [run_ok_bind (run_underlying hs), run_ok_bind (run_underlying hd), h2]
    simp only [conc]
    rw [run_ok_bind (run_underlying he)]
    rfl
  · rename_i k q l c op
    obtain ⟨b, hb, h1⟩ := (T.getK_iff _ _ _).1 h1
    split at h1
    · rename_i vs e1
      obtain ⟨hle, h1⟩ := brec h1
      have hle := Nat.le_of_ble_eq_true hle
      obtain ⟨ns, g1, g2, g3⟩ := bsK_spec h1
      refine Yields.pureV H g1 ?_ (by simp only [okV]; exact g3)
      unfold convert
      rw [run_ok_bind (run_underlying hs), run_ok_bind (run_underlying hd), h2]
      simp only [conc]
      rw [run_ok_bind (run_underlying he)]
      simp only [Conv.bytesToString]
      rw [run_ok_bind (H.loadCells hb q l hle), g2]
      have hl : concL r (ns.map fun b => AV.int .u8 (.ofNat b)) = ns.map fun b => Value.int .u8 (Int.ofNat b) := by
        simp only [concL_map, List.map_map]
        refine List.map_congr_left fun b _ => ?_
        simp only [Function.comp, conc]
      rw [hl, List.forIn_toArray, run_ok_bind (run_forIn (fun b s => rfl) ns ByteArray.empty)]
      simp only [run_pure]
      congr 2
      apply ByteArray.ext
      simp [bytesOf]
    · exact h1.elim
  · exact h1.elim

theorem s_clr (H : WR P w0 r h nx w) (ht : TR r tm a.tmps) {t e : TypeId} {j : TypeInfo} {z : Value} {v : AV} {x : Operand} {x' : AX} (hu : P.underlying t = some (.slice e)) (hj : P.info? e = some j) (hz : j.zero = some z) (hv : Lone v z) (h0 : 0 < (cellsA v).length) (hx : Cx x x') (hop : o.op = .call ⟨.builtin .clear, #[x], #[t]⟩) (hk : stepV (.clr (cellsA v) x') tm h nx K) : Yields P w0 r h w (execOp a.eval o) K := by
  simp only [stepV, oClr] at hk
  obtain ⟨y, h1, h2, h3⟩ := evK_spec hx ht hk
  have run : ∀ {w' : World}, (Builtin.clear_ #[t] o.type #[a.eval x]).run P w = .ok (.tuple #[]) w' → (execOp a.eval o).run P w = .ok (.value (.tuple #[])) w' := fun hr => by
    refine run_builtin hop ?_
    rw [map_one]
    simp only [builtin]
    exact run_value hr
  have nothing : (Builtin.clear_ #[t] o.type #[a.eval x]).run P w = .ok (.tuple #[]) w → K (.tup []) h nx → Yields P w0 r h w (execOp a.eval o) K := fun hr hK =>
    Yields.pure (v := .tup []) H hK (by rw [run hr]; simp [conc, concL]) (by simp [okV, okL])
  split at h1
  · refine nothing ?_ h1
    rw [h2]
    show Sem.run P (underlying t >>= _) w = _
    rw [run_ok_bind (run_underlying hu)]
    simp only [conc]; rfl
  · refine nothing ?_ h1
    rw [h2]
    show Sem.run P (underlying t >>= _) w = _
    rw [run_ok_bind (run_underlying hu)]
    simp only [conc]; rfl
  · rename_i k q l c op
    split at h1
    · refine nothing ?_ h1
      rw [h2]
      show Sem.run P (underlying t >>= _) w = _
      rw [run_ok_bind (run_underlying hu)]
      simp only [conc]; rfl
    · rename_i l
      obtain ⟨b, hb, h1⟩ := (T.getK_iff _ _ _).1 h1
      split at h1
      · rename_i vs e1
        obtain ⟨hc, h1⟩ := brec h1
        simp only [Bool.and_eq_true, Nat.ble_eq] at hc
        rw [forceL_iff, T.setK_iff] at h1
        obtain ⟨w', g1, g2, g3⟩ := H.storeCells hb q (zerosL (cellsA v) (l + 1)) (flatB_spec hc.2) (okL_zeros (okL_cells (hv.2 _)) _) hc.1
        refine ⟨r, _, nx, w', .tup [], _, h1, run (w' := w') ?_, .inl (by simp [conc, concL]), g2, g3, by simp [okV, okL]⟩
        rw [h2]
        show Sem.run P (underlying t >>= _) w = _
        rw [run_ok_bind (run_underlying hu)]
        simp only [conc]
        show Sem.run P (zeroValue e >>= _) w = _
        rw [run_ok_bind (run_zeroValue hj hz)]
        have hzs : z.cells.size = (cellsA v).length := by rw [← hv.1 r, conc_cells]; simp [concL_length]
        have hzr : (Builtin.zeroCells z.cells (l + 1)).toList = concL r (zerosL (cellsA v) (l + 1)) := by
          unfold Builtin.zeroCells
          rw [hzs]
          have := congrArg Array.toList (zeros_real (r := r) hv h0 (l + 1))
          rw [hzs] at this
          exact this.symm
        show Sem.run P (storeCells ⟨r.blk k, q, none⟩ (Builtin.zeroCells z.cells (l + 1)).toList >>= _) w = _
        rw [hzr, run_ok_bind g1]
        rfl
      · exact h1.elim
  · exact h1.elim

theorem s_lenC (H : WR P w0 r h nx w) (ht : TR r tm a.tmps) {t : TypeId} {d : ChanDir} {e : TypeId} {x : Operand} {x' : AX} (hu : P.underlying t = some (.chan d e)) (hx : Cx x x') (hop : o.op = .call ⟨.builtin .len, #[x], #[t]⟩) (hk : stepV (.lenC x') tm h nx K) : Yields P w0 r h w (execOp a.eval o) K := by
  simp only [stepV, oLenC] at hk
  obtain ⟨v, h1, h2, h3⟩ := evK_spec hx ht hk
  split at h1
  · refine len_key H hop h2 _ ?_ h1
    show Sem.run P (do match ← underlying t, conc r AV.nilc with | _, _ => _) w = _
    rw [run_ok_bind (run_underlying hu)]
    simp only [conc]; rfl
  · rename_i m
    obtain ⟨b, hb, h1⟩ := (T.getK_iff _ _ _).1 h1
    split at h1
    · rename_i cap buf
      rw [forceN_iff] at h1
      refine len_key H hop h2 _ ?_ h1
      show Sem.run P (do match ← underlying t, conc r (AV.chan m) with | _, _ => _) w = _
      rw [run_ok_bind (run_underlying hu)]
      simp only [conc]
      show Sem.run P (getObj (r.blk m) >>= _) w = _
      obtain ⟨sent, rcvd, hb'⟩ := (H.has m _ hb).2.2.2
      rw [run_getObj hb' (by simp)]
      simp [concL_length, go_sem]
    · exact h1.elim
  · exact h1.elim

theorem s_mkC (H : WR P w0 r h nx w) (ht : TR r tm a.tmps) {t : TypeId} {d : ChanDir} {e : TypeId} {j : TypeInfo} {x : Operand} {x' : AX} (hu : P.underlying t = some (.chan d e)) (hj : P.info? e = some j) (hjb : j.bytes ≤ 1048576) (hx : Cx x x') (hop : o.op = .makeChan t x) (hk : stepV (.mkC x') tm h nx K) : Yields P w0 r h w (execOp a.eval o) K := by
  simp only [stepV, oMkC] at hk
  obtain ⟨v, h1, h2, h3⟩ := evK_spec hx ht hk
  split at h1
  · rename_i kd n
    obtain ⟨hn, h1⟩ := brec h1
    have hn := Nat.le_of_ble_eq_true hn
    obtain ⟨g1, g2⟩ := H.alloc (.chan n []) 0 (.chan n #[] false 0 0 false) (by simp [okO, okL]) ⟨0, 0, by simp [concL]⟩
    refine ⟨_, _, _, _, .chan nx, _, setK_forceP h1, ?_, .inl rfl, g1, g2, by simp only [okV]; exact Or.inl rfl⟩
    simp only [execOp, hop, h2]
    refine run_value ?_
    unfold Instr.makeChan
    have hi : (asInt (conc r (.int kd (Int.ofNat n)))).run P w = .ok (Int.ofNat n) w := by simp only [conc]; rfl
    rw [run_ok_bind hi, run_ok_bind (run_underlying hu)]
    simp only []
    rw [run_ok_bind (run_typeInfo hj), if_neg]
    · show Result.ok (Value.chan (some w.heap.size)) _ = _
      simp only [conc, r.more_blk]
      rfl
    · have h4 : ((j.bytes : Int) * (n : Int)) ≤ 1048576 * 100000 := by
        have := Nat.mul_le_mul hjb hn
        have h5 : ((j.bytes * n : Nat) : Int) ≤ ((1048576 * 100000 : Nat) : Int) := Int.ofNat_le.2 this
        rw [Int.natCast_mul] at h5
        exact h5
      have h6 : IntKind.i64.max = 9223372036854775807 := by decide
      have h7 : (Int.ofNat n : Int) = (n : Int) := rfl
      rw [h7]
      rintro (h5 | h5 | h5)
      · omega
      · rw [h6] at h5; omega
      · have : (2 ^ 48 - 112 : Int) = 281474976710544 := by decide
        rw [this] at h5; omega
  · exact h1.elim

end
end Go.Proofs.Ytfnehpgefcnjgaa.X

/- An executor for closed calls, 13: every operation is right; regions, control, calls. -/
namespace Go.Proofs.Ytfnehpgefcnjgaa.X
open Go.RowKit

section
variable {P : Program} {w0 : World} {r : Rho} {h : T AO} {nx : Pt} {w : World} {K : AV → T AO → Pt → Prop} {tm : T AV} {a : Act} {o : Oper}

theorem step_sound (H : WR P w0 r h nx w) (ht : TR r tm a.tmps) {op : Op} {op' : AOp} (hop : o.op = op) (hc : Co P op op') (hk : stepV op' tm h nx K) : Yields P w0 r h w (execOp a.eval o) K := by
  cases hc with
  | mv hx => exact s_mv H ht hx (.inl hop) hk
  | asg hx => exact s_mv H ht hx (.inr hop) hk
  | pick hx hy hz => exact s_pick H ht hx hy hz hop hk
  | new h1 h2 h3 => exact s_new H h1 h2 h3 hop hk
  | box hx => exact s_box H ht hx hop hk
  | build h1 h2 h3 h4 h5 h6 => exact s_build H ht h1 h2 h3 h4 h5 h6 hop hk
  | buildA h1 h2 h3 h4 h5 h6 => exact s_buildA H ht h1 h2 h3 h4 h5 h6 hop hk
  | buildS h1 h2 h3 h4 h5 h6 h7 h8 h9 => exact s_buildS H ht h1 h2 h3 h4 h5 h6 h7 h9 hop hk
  | buildE h1 h2 => exact s_buildE H h1 h2 hop hk
  | ld1 h1 h2 hx => exact s_ld1 H ht h1 h2 hx hop hk
  | ldN h1 h2 h3 hx => exact s_ldN H ht h1 h2 h3 hx hop hk
  | st h1 hx hy => exact s_st H ht h1 hx hy hop hk
  | nchk hx => exact s_nchk H ht hx hop hk
  | fa h1 h2 h3 h4 hx => exact s_fa H ht h1 h2 h3 h4 hx hop hk
  | fld h1 h2 h3 h4 h5 hx => exact s_fld H ht h1 h2 h3 h4 h5 hx hop hk
  | fld1 h1 h2 h3 h4 hx => exact s_fld1 H ht h1 h2 h3 h4 hx hop hk
  | ia h1 h2 hx hi => exact s_ia H ht h1 h2 hx hi hop hk
  | iaA h1 h2 hx hi => exact s_iaA H ht h1 h2 hx hi hop hk
  | ext hx => exact s_ext H ht hx hop hk
  | mkf hx hy => exact s_mkf H ht hx hy hop hk
  | mki h1 h2 hx => exact s_mki H ht h1 h2 hx hop hk
  | ar hx hy => exact s_ar H ht hx hy hop hk
  | eq h1 h2 h3 hx hy => exact s_eq H ht h1 h2 h3 hx hy hop hk
  | un hx => exact s_un H ht hx hop hk
  | cvI h1 h2 hx => exact s_cvI H ht h1 h2 hx hop hk
  | cvS h1 h2 hx => exact s_cvS H ht h1 h2 hx hop hk
  | lenS h1 hx => exact s_lenS H ht h1 hx hop hk
  | len h1 hx => exact s_len H ht h1 hx hop hk
  | lenM h1 hx => exact s_lenM H ht h1 hx hop hk
  | ixS h1 hx hi => exact s_ixS H ht h1 hx hi hop hk
  | cvB h1 h2 h3 h4 h5 hx => exact s_cvB H ht h1 h2 h3 h4 h5 hx hop hk
  | cvT h1 h2 h3 hx => exact s_cvT H ht h1 h2 h3 hx hop hk
  | clr h1 h2 h3 h4 h5 hx => exact s_clr H ht h1 h2 h3 h4 h5 hx hop hk
  | ix1 h1 h2 h3 h4 h5 hx hi => exact s_ix1 H ht h1 h2 h3 h4 h5 hx hi hop hk
  | lk h1 h2 h3 h4 h5 hx hi => exact s_lk H ht h1 h2 h3 h4 h5 hx hi hop hk
  | up h1 h2 hx hi hv => exact s_up H ht h1 h2 hx hi hv hop hk
  | mkS h1 h2 h3 h4 h5 h6 h7 hx hy => exact s_mkS H ht h1 h2 h3 h4 h5 h6 h7 hx hy hop hk
  | sl h1 h2 hx h3 h4 h5 h6 => exact s_sl H ht h1 h2 hx h3 h4 h5 h6 hop hk
  | slS h1 hx h3 h4 => exact s_slS H ht h1 hx h3 h4 hop hk
  | app h1 h2 h3 h4 h5 h6 h7 h8 hx hy => exact s_app H ht h1 h2 h3 h4 h5 h6 h8 hx hy hop hk
  | max hx => exact s_mm (mx := true) H ht hx hop hk
  | min hx => exact s_mm (mx := false) H ht hx hop hk
  | lenC h1 hx => exact s_lenC H ht h1 hx hop hk
  | mkC h1 h2 h3 hx => exact s_mkC H ht h1 h2 h3 hx hop hk
  | mkM => exact s_mkM H hop hk

end

/-- what an operation of a region does -/
inductive AK where
  | v (o : AOp)
  | call (f : Pt) (args : List AX)
  | callv (x : AX) (args : List AX)
  | snd (x v : AX)
  | sel (x : AX) (z : AV)

structure AOper where
  dst : Option Pt
  op : AK
  guard : Option (Pt × Bool)

/-- a block that has been made, and that nothing has acted on yet -/
structure Fl where
  i : Nat
  n : Pt
  ob : AO

/-- a step of a script -/
inductive It where
  | n (i : Nat) (p : Pt) (x : AOper)
  | a (i : Nat) (p : Pt) (op : AOp)
  | e (i : Nat) (ab : List Nat) (rc : List (Pt × AOper)) (x : AOper)

/-- the executor's code -/
inductive AC where
  | skip
  | ops (l : List AOper)
  | comm (l : List AOper)
  | draw (l : List It)
  | draw2 (l : List It) (pq : Pt) (nq : Nat) (xq iq : AX) (n1 : Nat) (x1 : AX) (p2 : Pt) (n2 : Nat) (x2 : AX)
  | seq (a b : AC)
  | cond (c : AX) (a b : AC)
  | block (id : Nat) (b : AC)
  | loop (b : AC)
  | exit (id : Nat)
  | ret
  | no
  | range (g : AX) (ps : List Pt) (a b : AC)

/-- a result: a slot, or a variable of that many cells (0: one cell that is no row) behind a slot -/
inductive AR where
  | t (p : Pt)
  | c1 (p : Pt)
  | cN (p : Pt) (n : Nat)

abbrev EK4 := AE → T AV → T AO → Pt → Prop
/-- what a round of a range over a function comes to -/
abbrev RS := List AV → T AO → Pt → (AV → T AO → Pt → Prop) → Prop
/-- what calls, with the loops that are under way -/
abbrev CF := T RS → Pt → List AV → T AO → Pt → (AV → T AO → Pt → Prop) → Prop
/-- where code is run: what calls, the loop of whose round it is, the loops that are under way -/
structure CH where
  call : CF
  cur : Option Pt
  loops : T RS

def CH.go (ch : CH) (p : Pt) (args : List AV) (h : T AO) (nx : Pt) (K : AV → T AO → Pt → Prop) : Prop := ch.call ch.loops p args h nx K
/-- what code comes to -/
abbrev D := CH → T AV → T AO → Pt → EK4 → Prop
/-- what operations come to -/
abbrev DO := CH → T AV → T AO → Pt → (T AV → T AO → Pt → Prop) → Prop
/-- what an operation gives -/
abbrev VO := T AV → T AO → Pt → (AV → T AO → Pt → Prop) → Prop

structure AF where
  code : D
  res : List AR

def resK (tm : T AV) (h : T AO) : List AR → (List AV → Prop) → Prop :=
  fun l => List.rec (motive := fun _ => (List AV → Prop) → Prop) (fun c => c [])
    (fun x _ ih c => match x with
      | .t p => tm.getK p fun v => ih fun vs => c (v :: vs)
      | .c1 p => tm.getK p fun v => match v with
        | .ptr k o => h.getK k fun b => match b with
          | .cells us _ => match us[o]? with
            | some u => ih fun vs => c (u :: vs)
            | none => False
          | _ => False
        | _ => False
      | .cN p n => tm.getK p fun v => match v with
        | .ptr k o => h.getK k fun b => match b with
          | .cells us _ => Bool.rec (motive := fun _ => Prop) False (forceL ((us.drop o).take n) fun us => ih fun vs => c (.agg us :: vs)) (Nat.ble (o + n) us.length)
          | _ => False
        | _ => False) l

def argsK : List AV → Pt → T AV → (T AV → Prop) → Prop :=
  fun l => List.rec (motive := fun _ => Pt → T AV → (T AV → Prop) → Prop) (fun _ tm c => c tm) (fun v _ ih p tm c => tm.setK v p fun tm => forceP p.succ fun p => ih p tm c) l

def oneV : List AV → AV
  | [v] => v
  | vs => .tup vs

/-- behind a function's body -/
def retK (res : List AR) (K : AV → T AO → Pt → Prop) (e : AE) (tm : T AV) (h : T AO) (nx : Pt) : Prop :=
  match e with
  | .exit _ => False
  | _ => resK tm h res fun vs => K (oneV vs) h nx

/-- calls, so deep -/
def callN (funs : T AF) (n : Nat) : CF :=
  Nat.rec (motive := fun _ => CF) (fun _ _ _ _ _ _ => False)
    (fun _ ih loops f args h nx K => funs.getK f fun af => argsK args .e .l fun tm => af.code ⟨ih, none, loops⟩ tm h nx (retK af.res K)) n

def Pt.ofB : Nat → Nat → Pt
  | 0, _ => .e
  | f + 1, k => match k with
    | 0 => .e
    | k + 1 => bif Nat.beq (k % 2) 0 then .z (Pt.ofB f (k / 2)) else .o (Pt.ofB f (k / 2))

/-- what is to be called through a value -/
def fnK (y : AV) (args : List AV) (c : Pt → List AV → Prop) : Prop :=
  match y with
  | .fn (.func f) first caps => forceP (Pt.ofB 20 f) fun p => Bool.rec (motive := fun _ => Prop) False (forceL (first ++ args ++ caps) fun args => c p args) (Nat.beq p.toNat f)
  | _ => False

/-- a value is called -/
def cvK (ch : CH) (y : AV) (args : List AV) (h : T AO) (nx : Pt) (c : AV → T AO → Pt → Prop) : Prop :=
  match y with
  | .yld k => ch.loops.getK k fun rs => rs args h nx c
  | y => fnK y args fun p args => ch.go p args h nx c

/-- the slot of a result -/
def putD (d : Option Pt) (v : AV) (tm : T AV) (K : T AV → Prop) : Prop :=
  match d with
  | none => K tm
  | some p => tm.setK v p K

/-- is a guarded operation wanted? -/
def wantK (g : Pt) (want : Bool) (tm : T AV) (yes no : Prop) : Prop :=
  tm.getK g fun v => match v with
    | .bool b => Bool.rec (motive := fun _ => Prop) no yes (b == want)
    | _ => no

def dE : DO := fun _ tm h nx K => K tm h nx
def dV (p : Pt) (f : VO) (rest : DO) : DO := fun ch tm h nx K => f tm h nx fun v h nx => tm.setK v p fun tm => rest ch tm h nx K
def dU (f : VO) (rest : DO) : DO := fun ch tm h nx K => f tm h nx fun _ h nx => rest ch tm h nx K
def dC (d : Option Pt) (f : Pt) (xs : List AX) (rest : DO) : DO := fun ch tm h nx K => evsK tm xs fun args => ch.go f args h nx fun v h nx => putD d v tm fun tm => rest ch tm h nx K
def dCv (d : Option Pt) (x : AX) (xs : List AX) (rest : DO) : DO := fun ch tm h nx K => evK tm x fun y => evsK tm xs fun args => cvK ch y args h nx fun v h nx => putD d v tm fun tm => rest ch tm h nx K
def dG (g : Pt) (want : Bool) (d : Option Pt) (x : DO → DO) (rest : DO) : DO := fun ch tm h nx K =>
  wantK g want tm (x rest ch tm h nx K) (putD d (.tup []) tm fun tm => rest ch tm h nx K)

def denV (o : AOp) : VO := stepV o

/-- something is sent where there is room -/
def sndK (x v : AX) (tm : T AV) (h : T AO) (nx : Pt) (c : AV → T AO → Pt → Prop) : Prop :=
  evK tm x fun a => evK tm v fun u => match a with
    | .chan k => h.getK k fun b => match b with
      | .chan cap buf => Bool.rec (motive := fun _ => Prop) False (forceL (buf ++ [u]) fun buf => h.setK (.chan cap buf) k fun h => c (.tup []) h nx) (Nat.blt buf.length cap)
      | _ => False
    | _ => False

/-- what waits is taken; z, if nothing does -/
def selK (x : AX) (z : AV) (tm : T AV) (h : T AO) (nx : Pt) (c : AV → T AO → Pt → Prop) : Prop :=
  evK tm x fun a => match a with
    | .chan k => h.getK k fun b => match b with
      | .chan cap buf => match buf with
        | [] => c (.tup [.int .i64 (.negSucc 0), .bool false, z]) h nx
        | u :: buf => h.setK (.chan cap buf) k fun h => c (.tup [.int .i64 (.ofNat 0), .bool true, u]) h nx
      | _ => False
    | _ => False

def dSnd (d : Option Pt) (x v : AX) (rest : DO) : DO := fun ch tm h nx K => sndK x v tm h nx fun u h nx => putD d u tm fun tm => rest ch tm h nx K
def dSel (d : Option Pt) (x : AX) (z : AV) (rest : DO) : DO := fun ch tm h nx K => selK x z tm h nx fun u h nx => putD d u tm fun tm => rest ch tm h nx K

def commK : AK → Bool
  | .snd _ _ => true
  | .sel _ _ => true
  | _ => false

def plainK : AK → Bool
  | .call _ _ => false
  | .callv _ _ => false
  | _ => true

def anyC : List AOper → Bool
  | [] => false
  | x :: l => commK x.op || anyC l

def allP : List AOper → Bool
  | [] => true
  | x :: l => plainK x.op && allP l

def denK (d : Option Pt) (k : AK) (rest : DO) : DO :=
  match k, d with
  | .v o, some p => dV p (denV o) rest
  | .v o, none => dU (denV o) rest
  | .call f xs, d => dC d f xs rest
  | .callv x xs, d => dCv d x xs rest
  | .snd x v, d => dSnd d x v rest
  | .sel x z, d => dSel d x z rest

def denO (x : AOper) (rest : DO) : DO :=
  match x.guard with
  | none => denK x.dst x.op rest
  | some (g, b) => dG g b x.dst (denK x.dst x.op) rest

def denL : List AOper → DO
  | [] => dE
  | x :: l => denO x (denL l)

def dSkip : D := fun _ tm h nx K => K .nrm tm h nx
def dOps (x : DO) : D := fun ch tm h nx K => x ch tm h nx (K .nrm)
def seqK (b : D) (ch : CH) (K : EK4) (e : AE) (tm : T AV) (h : T AO) (nx : Pt) : Prop :=
  match e with
  | .nrm => b ch tm h nx K
  | e => K e tm h nx
def dSeq (a b : D) : D := fun ch tm h nx K => a ch tm h nx (seqK b ch K)
def dCond (c : AX) (a b : D) : D := fun ch tm h nx K => evK tm c fun v => match v with
  | .bool x => Bool.rec (motive := fun _ => Prop) (b ch tm h nx K) (a ch tm h nx K) x
  | _ => False
def blockK (id : Nat) (K : EK4) (e : AE) (tm : T AV) (h : T AO) (nx : Pt) : Prop :=
  match e with
  | .exit i => Bool.rec (motive := fun _ => Prop) (K (.exit i) tm h nx) (K .nrm tm h nx) (Nat.beq i id)
  | e => K e tm h nx
def dBlock (id : Nat) (b : D) : D := fun ch tm h nx K => b ch tm h nx (blockK id K)
def loopN (b : D) (ch : CH) (n : Nat) : T AV → T AO → Pt → EK4 → Prop :=
  Nat.rec (motive := fun _ => T AV → T AO → Pt → EK4 → Prop) (fun _ _ _ _ => False)
    (fun _ ih tm h nx K => b ch tm h nx fun e tm h nx => match e with
      | .nrm => ih tm h nx K
      | e => K e tm h nx) n
def dLoop (b : D) : D := fun ch => loopN b ch 1000000
def dExit (id : Nat) : D := fun _ tm h nx K => K (.exit id) tm h nx
/-- code that is not run: a jump -/
def dNo : D := fun _ _ _ _ _ => False
def dRet : D := fun _ tm h nx K => K .ret tm h nx

/-- the parameters of a round -/
def parK : List Pt → List AV → T AV → (T AV → Prop) → Prop :=
  fun l => List.rec (motive := fun _ => List AV → T AV → (T AV → Prop) → Prop) (fun vs tm c => match vs with | [] => c tm | _ => False)
    (fun p _ ih vs tm c => match vs with | [] => False | v :: vs => tm.setK v p fun tm => ih vs tm c) l

/-- a loop's record, in that state and with nothing pending, is turned into another one -/
def turnK (k : Pt) (st st' : LoopState) (pe : Option AE) (h : T AO) (c : T AO → Prop) : Prop :=
  h.getK k fun o => match o with
    | .loop s none => Bool.rec (motive := fun _ => Prop) False (h.setK (.loop st' pe) k c) (match s, st with | .ready, .ready => true | .busy, .busy => true | _, _ => false)
    | _ => False

/-- behind a round's body -/
def endK (k : Pt) (c : AV → T AO → Pt → Prop) (e : AE) (_ : T AV) (h : T AO) (nx : Pt) : Prop :=
  match e with
  | .nrm => turnK k .busy .ready none h fun h => c (.bool true) h nx
  | .ret => turnK k .busy .done (some .ret) h fun h => c (.bool false) h nx
  | .exit id => turnK k .busy .done (some (.exit id)) h fun h => c (.bool false) h nx

/-- is there the record of the loop in whose round this is? -/
def curK (c : Option Pt) (h : T AO) (k : Prop) : Prop :=
  match c with
  | none => k
  | some p => h.getK p fun o => match o with
    | .loop _ _ => k
    | _ => False

/-- a round -/
def roundK (k : Pt) (ps : List Pt) (a b : D) (ch : CH) (tm : T AV) : RS := fun args h nx c =>
  curK (some k) h (parK ps args tm fun tm => a ⟨ch.call, some k, ch.loops⟩ tm h nx fun e tm h nx => match e with
    | .nrm => turnK k .ready .busy none h fun h => b ⟨ch.call, some k, ch.loops⟩ tm h nx (endK k c)
    | _ => False)

/-- behind the function that is ranged over -/
def behindK (k : Pt) (tm : T AV) (K : EK4) (h : T AO) (nx : Pt) : Prop :=
  h.getK k fun o => match o with
    | .loop .ready none => h.setK (.loop .exhausted none) k fun h => K .nrm tm h nx
    | .loop .done (some .ret) => h.setK (.loop .exhausted (some .ret)) k fun h => K .ret tm h nx
    | .loop .done (some (.exit id)) => h.setK (.loop .exhausted (some (.exit id))) k fun h => K (.exit id) tm h nx
    | _ => False

/-- a range over a function -/
def dRange (g : AX) (ps : List Pt) (a b : D) : D := fun ch tm h nx K => evK tm g fun gv => curK ch.cur h (h.setK (.loop .ready none) nx fun h => forceP nx.succ fun nx' =>
  ch.loops.setK (roundK nx ps a b ch tm) nx fun loops => fnK gv [.yld nx] fun p args => ch.call loops p args h nx' fun _ h nx'' => behindK nx tm K h nx'')

/-- the operands -/
def opX : AOp → List AX
  | .mv x => [x]
  | .pick c a b => [c, a, b]
  | .new _ _ => []
  | .box _ x => [x]
  | .build _ ps => ps.map (·.2.2)
  | .buildS _ _ _ ps => ps.map (·.2.2)
  | .ld1 x => [x]
  | .ldN _ x => [x]
  | .st _ a x => [a, x]
  | .nchk x => [x]
  | .fa _ x => [x]
  | .fld _ _ x => [x]
  | .fld1 _ x => [x]
  | .ia _ x i => [x, i]
  | .iaA _ _ x i => [x, i]
  | .ext x _ => [x]
  | .mkf _ a b => a ++ b
  | .mki _ x => [x]
  | .ar _ x y => [x, y]
  | .eq _ _ x y => [x, y]
  | .un _ x => [x]
  | .cvI _ x => [x]
  | .cvS x => [x]
  | .lenS x => [x]
  | .len x => [x]
  | .lenM x => [x]
  | .lenC x => [x]
  | .mkC x => [x]
  | .ixS x i => [x, i]
  | .cvB _ x => [x]
  | .cvT x => [x]
  | .clr _ x => [x]
  | .ix1 _ x i => [x, i]
  | .lk _ _ x k => [k, x]
  | .up x k v => [k, x, v]
  | .mkS _ _ _ l c => [l, c]
  | .sl _ x a b c => x :: (a.toList ++ b.toList ++ c.toList)
  | .slS x a b => x :: (a.toList ++ b.toList)
  | .app _ _ x y => [x, y]
  | .mm _ xs => xs
  | .mkM => []

/-- operations that look at slots, or at memory, and change nothing -/
def quietB : AOp → Bool
  | .new _ _ | .box _ _ | .buildS _ _ _ _ | .st _ _ _ | .mkS _ _ _ _ _ | .app _ _ _ _ | .up _ _ _ | .cvB _ _ | .clr _ _ | .mkC _ | .mkM => false
  | _ => true

/-- an operation that makes a block of the name n: its value, and the block -/
def floatK (op : AOp) (tm : T AV) (n : Pt) (c : AV → AO → Prop) : Prop :=
  match op with
  | .new vs e => c (.ptr n 0) (.cells vs e)
  | .box e x => evK tm x fun v => c (.ptr n 0) (.cells (cellsA v) e)
  | .buildS e k z ps => fillK tm ps z fun vs => forceL vs fun vs => c (.sl n 0 k k false) (.cells vs e)
  | .mkM => c (.map n) (.map [] 0)
  | .cvB e x => evK tm x fun v => match v with
    | .str s => forceL (s.map fun b => AV.int .u8 (.ofNat b)) fun us => forceN s.length fun m => c (.sl n 0 m m true) (.frz us e)
    | _ => False
  | _ => False

/-- an operation that acts, guarded or not -/
def eK0 (k : AK) (ch : CH) (tm : T AV) (h : T AO) (nx : Pt) (c : AV → T AO → Pt → Prop) : Prop :=
  match k with
  | .v o => stepV o tm h nx c
  | .call f xs => evsK tm xs fun args => ch.go f args h nx c
  | .callv x xs => evK tm x fun y => evsK tm xs fun args => cvK ch y args h nx c
  | .snd _ _ => False
  | .sel _ _ => False

def eK (x : AOper) (ch : CH) (tm : T AV) (h : T AO) (nx : Pt) (c : AV → T AO → Pt → Prop) : Prop :=
  match x.guard with
  | none => eK0 x.op ch tm h nx c
  | some (g, b) => wantK g b tm (eK0 x.op ch tm h nx c) (c (.tup []) h nx)

def It.i : It → Nat
  | .n i _ _ => i
  | .a i _ _ => i
  | .e i _ _ _ => i

def It.dst : It → Option Pt
  | .n _ p _ => some p
  | .a _ p _ => some p
  | .e _ _ _ x => x.dst

def It.isE : It → Bool
  | .e _ _ _ _ => true
  | _ => false

def axP : AX → List Pt
  | .t p => [p]
  | .c _ => []

def kX : AK → List AX
  | .v o => opX o
  | .call _ xs => xs
  | .callv x xs => x :: xs
  | .snd x v => [x, v]
  | .sel x _ => [x]

def rdX (x : AOper) : List Pt := (match x.guard with | some (g, _) => [g] | none => []) ++ (kX x.op).flatMap axP

def It.rd : It → List Pt
  | .n _ _ x => rdX x
  | .a _ _ op => (opX op).flatMap axP
  | .e _ _ _ x => rdX x

/-- an operation that looks, guarded or not -/
def nK (x : AOper) (tm : T AV) (h : T AO) (nx : Pt) (c : AV → Prop) : Prop :=
  match x.op with
  | .v o => match x.guard with
    | none => stepV o tm h nx fun v _ _ => c v
    | some (g, b) => wantK g b tm (stepV o tm h nx fun v _ _ => c v) (c (.tup []))
  | _ => False

def quietX (x : AOper) : Bool := match x.op with | .v o => quietB o | _ => false

mutual
/-- the same value -/
def eqV : AV → AV → Bool
  | .bool a, .bool b => a == b
  | .int k a, .int k' b => decide (k = k') && eqI a b
  | .str a, .str b => eqN a b
  | .nilp, .nilp => true
  | .ptr k o, .ptr k' o' => eqP k k' && Nat.beq o o'
  | .nils, .nils => true
  | .sl k o l c op, .sl k' o' l' c' op' => eqP k k' && Nat.beq o o' && Nat.beq l l' && Nat.beq c c' && (op == op')
  | .nilm, .nilm => true
  | .map k, .map k' => eqP k k'
  | .fn (.func f) a b, .fn (.func g) a' b' => Nat.beq f g && eqVs a a' && eqVs b b'
  | .nilf, .nilf => true
  | .yld k, .yld k' => eqP k k'
  | .chan k, .chan k' => eqP k k'
  | .nilc, .nilc => true
  | .iface t v, .iface t' v' => Nat.beq t t' && eqV v v'
  | .nili, .nili => true
  | .agg a, .agg b => eqVs a b
  | .tup a, .tup b => eqVs a b
  | _, _ => false
def eqVs : List AV → List AV → Bool
  | [], [] => true
  | a :: l, b :: m => eqV a b && eqVs l m
  | _, _ => false
end

/-- blocks are laid into memory: those that pr names -/
def absK (pr : Nat → Bool) : List Fl → T AO → List Fl → (List Fl → T AO → Prop) → Prop :=
  fun l => List.rec (motive := fun _ => T AO → List Fl → (List Fl → T AO → Prop) → Prop) (fun h acc c => c acc h)
    (fun f _ ih h acc c => Bool.rec (motive := fun _ => Prop) (ih h (f :: acc) c) (h.setK f.ob f.n fun h => ih h acc c) (pr f.i)) l

/-- what was looked at is still so -/
def rcK (rc : List (Pt × AOper)) (tm : T AV) (h : T AO) (nx : Pt) (k : Prop) : Prop :=
  List.rec (motive := fun _ => Prop) k (fun q _ ih => nK q.2 tm h nx fun v => tm.getK q.1 fun u => Bool.rec (motive := fun _ => Prop) False ih (eqV v u)) rc

def inB : List Nat → Nat → Bool
  | [], _ => false
  | j :: l, i => Nat.beq i j || inB l i

/-- what a script comes to -/
abbrev DS := List Fl → CH → T AV → T AO → Pt → (T AV → T AO → Pt → Prop) → Prop

def sEnd : DS := fun F _ tm h nx K => absK (fun _ => true) F h [] fun _ h => K tm h nx
def sN (p : Pt) (x : AOper) (rest : DS) : DS := fun F ch tm h nx K => nK x tm h nx fun v => tm.setK v p fun tm => rest F ch tm h nx K
def sA (i : Nat) (p : Pt) (op : AOp) (rest : DS) : DS := fun F ch tm h nx K => floatK op tm nx fun v ob => tm.setK v p fun tm => forceP nx.succ fun nx' => rest (⟨i, nx, ob⟩ :: F) ch tm h nx' K
def sE (ab : List Nat) (rc : List (Pt × AOper)) (x : AOper) (rest : DS) : DS := fun F ch tm h nx K =>
  absK (inB ab) F h [] fun F h => eK x ch tm h nx fun v h nx => rcK rc tm h nx (putD x.dst v tm fun tm => rest F ch tm h nx K)

def denS : List It → DS
  | [] => sEnd
  | .n _ p x :: l => sN p x (denS l)
  | .a i p op :: l => sA i p op (denS l)
  | .e _ ab rc x :: l => sE ab rc x (denS l)

/-- a look, then two writes into two blocks, in whatever order -/
def tailK (pq : Pt) (nq : Nat) (xq iq : AX) (n1 : Nat) (x1 : AX) (p2 : Pt) (n2 : Nat) (x2 : AX) (tm : T AV) (h : T AO) (nx : Pt) (K : T AV → T AO → Pt → Prop) : Prop :=
  oIa nq xq iq tm h nx fun v _ _ => tm.setK v pq fun tm => match v with
    | .ptr k1 _ => tm.getK p2 fun v2 => match v2 with
      | .ptr k2 _ => Bool.rec (motive := fun _ => Prop) (oSt n1 (.t pq) x1 tm h nx fun _ h nx => oSt n2 (.t p2) x2 tm h nx fun _ h nx => K tm h nx) False (eqP k1 k2)
      | _ => False
    | _ => False

def dDraw2 (s : DS) (pq : Pt) (nq : Nat) (xq iq : AX) (n1 : Nat) (x1 : AX) (p2 : Pt) (n2 : Nat) (x2 : AX) : D := fun ch tm h nx K => s [] ch tm h nx fun tm h nx => tailK pq nq xq iq n1 x1 p2 n2 x2 tm h nx (K .nrm)

def dDraw (s : DS) : D := fun ch tm h nx K => s [] ch tm h nx (K .nrm)

def den : AC → D
  | .skip => dSkip
  | .ops l => dOps (denL l)
  | .comm l => dOps (denL l)
  | .draw l => dDraw (denS l)
  | .draw2 l pq nq xq iq n1 x1 p2 n2 x2 => dDraw2 (denS l) pq nq xq iq n1 x1 p2 n2 x2
  | .seq a b => dSeq (den a) (den b)
  | .cond c a b => dCond c (den a) (den b)
  | .block id b => dBlock id (den b)
  | .loop b => dLoop (den b)
  | .exit id => dExit id
  | .ret => dRet
  | .no => dNo
  | .range g ps a b => dRange g ps (den a) (den b)

end Go.Proofs.Ytfnehpgefcnjgaa.X

/- An executor for closed calls, 14: the executor's operations made out of the program's. -/
namespace Go.Proofs.Ytfnehpgefcnjgaa.X
open Go.RowKit

def mapO {α β : Type} (f : α → Option β) : List α → Option (List β)
  | [] => some []
  | x :: l => match f x with
    | some y => match mapO f l with
      | some ys => some (y :: ys)
      | none => none
    | none => none

theorem mapO_cons {α β : Type} {f : α → Option β} {x : α} {l : List α} {r : List β} (h : mapO f (x :: l) = some r) : ∃ y ys, f x = some y ∧ mapO f l = some ys ∧ r = y :: ys := by
  unfold mapO at h
  split at h
  · rename_i y hy
    split at h
    · rename_i ys hys
      cases h; exact ⟨y, ys, hy, hys, rfl⟩
    · cases h
  · cases h

/-- a value without addresses -/
def ofV : Nat → Value → Option AV
  | _, .bool b => some (.bool b)
  | _, .int k n => some (.int k n)
  | _, .string s => some (.str (s.data.toList.map UInt8.toNat))
  | _, .pointer none => some .nilp
  | _, .slice none 0 0 => some .nils
  | _, .map none => some .nilm
  | _, .chan none => some .nilc
  | _, .nilFunc => some .nilf
  | _, .nilIface => some .nili
  | n + 1, .agg cs => match mapO (ofV n) cs.toList with
    | some vs => some (.agg vs)
    | none => none
  | n + 1, .tuple cs => match mapO (ofV n) cs.toList with
    | some vs => some (.tup vs)
    | none => none
  | _, _ => none

theorem ofL_spec {n : Nat} (ih : ∀ x v, ofV n x = some v → Lone v x) : ∀ {l : List Value} {vs : List AV}, mapO (ofV n) l = some vs → (∀ r, concL r vs = l) ∧ ∀ n, okL n vs
  | [], vs, h => by cases h; exact ⟨fun r => by simp [concL], fun n => by simp [okL]⟩
  | x :: l, vs, h => by
    obtain ⟨y, ys, h1, h2, rfl⟩ := mapO_cons h
    obtain ⟨g1, g2⟩ := ih x y h1
    obtain ⟨g3, g4⟩ := ofL_spec ih h2
    exact ⟨fun r => by simp only [concL, g1 r, g3 r], fun n => by simp only [okL]; exact ⟨g2 n, g4 n⟩⟩

theorem lone_str (s : ByteArray) : Lone (.str (s.data.toList.map UInt8.toNat)) (.string s) := by
  refine ⟨fun r => ?_, fun n => ?_⟩
  · simp only [conc, bytesOf]
    congr 1
    apply ByteArray.ext
    have : (UInt8.ofNat ∘ UInt8.toNat) = id := by funext x; simp
    simp [this]
  · simp only [okV, List.mem_map]
    rintro b ⟨x, -, rfl⟩
    exact x.toNat_lt

theorem ofV_flat {n : Nat} {x : Value} {v : AV} (hx : (∀ cs, x ≠ .agg cs) ∧ ∀ cs, x ≠ .tuple cs) (h : ofV n x = some v) : Lone v x := by
  cases x with
  | bool b => simp only [ofV] at h; cases h; exact ⟨fun r => by simp only [conc], fun n => by simp only [okV]⟩
  | int k m => simp only [ofV] at h; cases h; exact ⟨fun r => by simp only [conc], fun n => by simp only [okV]⟩
  | string s => simp only [ofV] at h; cases h; exact lone_str s
  | pointer a =>
    cases a with
    | none => simp only [ofV] at h; cases h; exact ⟨fun r => by simp only [conc], fun n => by simp only [okV]⟩
    | some a => simp [ofV] at h
  | slice a l c =>
    cases a with
    | none =>
      cases l with
      | zero =>
        cases c with
        | zero => simp only [ofV] at h; cases h; exact ⟨fun r => by simp only [conc], fun n => by simp only [okV]⟩
        | succ c => simp [ofV] at h
      | succ l => simp [ofV] at h
    | some a => simp [ofV] at h
  | map m =>
    cases m with
    | none => simp only [ofV] at h; cases h; exact ⟨fun r => by simp only [conc], fun n => by simp only [okV]⟩
    | some a => simp [ofV] at h
  | chan m =>
    cases m with
    | none => simp only [ofV] at h; cases h; exact ⟨fun r => by simp only [conc], fun n => by simp only [okV]⟩
    | some a => simp [ofV] at h
  | nilFunc => simp only [ofV] at h; cases h; exact ⟨fun r => by simp only [conc], fun n => by simp only [okV]⟩
  | nilIface => simp only [ofV] at h; cases h; exact ⟨fun r => by simp only [conc], fun n => by simp only [okV]⟩
  | agg cs => exact absurd rfl (hx.1 cs)
  | tuple cs => exact absurd rfl (hx.2 cs)
  | _ => simp [ofV] at h

theorem ofV_spec : ∀ (n : Nat) (x : Value) (v : AV), ofV n x = some v → Lone v x := by
  intro n
  induction n with
  | zero =>
    intro x v h
    cases x with
    | agg cs => simp [ofV] at h
    | tuple cs => simp [ofV] at h
    | _ => exact ofV_flat ⟨by simp, by simp⟩ h
  | succ n ih =>
    intro x v h
    cases x with
    | agg cs =>
      simp only [ofV] at h
      split at h
      · rename_i vs hvs
        cases h
        obtain ⟨g1, g2⟩ := ofL_spec ih hvs
        exact ⟨fun r => by simp only [conc, g1 r], fun n => by simp only [okV]; exact g2 n⟩
      · cases h
    | tuple cs =>
      simp only [ofV] at h
      split at h
      · rename_i vs hvs
        cases h
        obtain ⟨g1, g2⟩ := ofL_spec ih hvs
        exact ⟨fun r => by simp only [conc, g1 r], fun n => by simp only [okV]; exact g2 n⟩
      · cases h
    | _ => exact ofV_flat ⟨by simp, by simp⟩ h

def cx : Operand → Option AX
  | .tmp t => some (.t (Pt.ofNat t))
  | .const y => match ofV 4 y with
    | some v => some (.c v)
    | none => none
  | .func f => some (.c (.fn (.func f) [] []))
  | .global _ => none

theorem cx_spec {o : Operand} {x : AX} (h : cx o = some x) : Cx o x := by
  cases o with
  | tmp t => cases h; exact ⟨_, rfl, Pt.toNat_ofNat t⟩
  | const y =>
    simp only [cx] at h
    split at h
    · rename_i v hv
      cases h; exact ⟨v, rfl, ofV_spec 4 y v hv⟩
    · cases h
  | func f => cases h; rfl
  | global g => cases h

theorem cxs_spec : ∀ {os : List Operand} {xs : List AX}, mapO cx os = some xs → Cxs os xs
  | [], xs, h => by cases h; trivial
  | o :: os, xs, h => by
    obtain ⟨y, ys, h1, h2, rfl⟩ := mapO_cons h
    exact ⟨cx_spec h1, cxs_spec h2⟩

def cxo : Option Operand → Option (Option AX)
  | none => some none
  | some o => match cx o with
    | some x => some (some x)
    | none => none

theorem cxo_spec {o : Option Operand} {x : Option AX} (h : cxo o = some x) : Cxo o x := by
  cases o with
  | none => cases h; trivial
  | some o =>
    simp only [cxo] at h
    split at h
    · rename_i y hy
      cases h; exact cx_spec hy
    · cases h

def cps (place : Nat → Option (Nat × Nat)) (ps : List (Nat × Operand)) : Option (List (Nat × Nat × AX)) :=
  mapO (fun p => match place p.1, cx p.2 with
    | some (a, b), some x => some (a, b, x)
    | _, _ => none) ps

theorem cps_spec {place : Nat → Option (Nat × Nat)} : ∀ {ps : List (Nat × Operand)} {qs : List (Nat × Nat × AX)}, cps place ps = some qs → Cps place ps qs
  | [], qs, h => by cases h; trivial
  | p :: ps, qs, h => by
    obtain ⟨y, ys, h1, h2, rfl⟩ := mapO_cons h
    split at h1
    · rename_i a b x ha hx
      cases h1
      exact ⟨ha, cx_spec hx, cps_spec h2⟩
    · cases h1

/-- a type's zero -/
def zeroA (P : Program) (t : TypeId) : Option (TypeInfo × Value × AV) :=
  match P.info? t with
  | some i => match i.zero with
    | some z => match ofV 4 z with
      | some v => some (i, z, v)
      | none => none
    | none => none
  | none => none

theorem zeroA_spec {P : Program} {t : TypeId} {i : TypeInfo} {z : Value} {v : AV} (h : zeroA P t = some (i, z, v)) : P.info? t = some i ∧ i.zero = some z ∧ Lone v z := by
  unfold zeroA at h
  split at h
  · rename_i i' hi
    split at h
    · rename_i z' hz
      split at h
      · rename_i v' hv
        cases h; exact ⟨hi, hz, ofV_spec 4 _ _ hv⟩
      · cases h
    · cases h
  · cases h

/-- where a struct's fields lie -/
def placesA (P : Program) (fs : List Field) : Option (List (Nat × Nat)) :=
  mapO (fun f => match P.info? f.type with
    | some j => some (f.offset, j.size)
    | none => none) fs

theorem placesA_spec {P : Program} {fs : Array Field} {l : List (Nat × Nat)} (h : placesA P fs.toList = some l) (w : World) : (fs.mapM (fun f => do pure (f.offset, ← sizeOf f.type)) : Sem (Array (Nat × Nat))).run P w = .ok l.toArray w := by
  have key : ∀ (fs : List Field) (l : List (Nat × Nat)), placesA P fs = some l → (fs.mapM (fun f => do pure (f.offset, ← sizeOf f.type)) : Sem (List (Nat × Nat))).run P w = .ok l w := by
    intro fs
    induction fs with
    | nil => intro l h; cases h; rfl
    | cons f fs ih =>
      intro l h
      obtain ⟨y, ys, h1, h2, rfl⟩ := mapO_cons h
      split at h1
      · rename_i j hj
        cases h1
        rw [List.mapM_cons]
        have e1 : ((do pure (f.offset, ← sizeOf f.type)) : Sem (Nat × Nat)).run P w = .ok (f.offset, j.size) w := by rw [run_ok_bind (run_sizeOf hj)]; rfl
        rw [run_ok_bind e1, run_ok_bind (ih ys h2)]; rfl
      · cases h1
  rw [Array.mapM_eq_mapM_toList]
  show Sem.run P (List.toArray <$> _) w = _
  rw [map_eq_pure_bind, run_ok_bind (key _ _ h)]; rfl

def isConstB : Operand → Bool
  | .const _ => true
  | _ => false

theorem isConstB_spec {o : Operand} (h : isConstB o = true) : isConst o := by
  cases o <;> first | trivial | cases h

/-- at which types eqK tells -/
def eqT (P : Program) (x y : Operand) : TypeDesc → Option EK
  | .bool => some .b
  | .pointer e => match P.info? e with
    | some j => if j.size = 0 then none else some .p
    | none => none
  | .slice _ => some .s
  | .map _ _ => some .m
  | .func _ _ _ => some .f
  | .interface _ => if isConstB x || isConstB y then some .i else none
  | _ => none

theorem eqT_spec {P : Program} {x y : Operand} {d : TypeDesc} {ek : EK} (h : eqT P x y d = some ek) : EqT P x y ek d := by
  cases d with
  | pointer e =>
    simp only [eqT] at h
    split at h
    · rename_i j hj
      split at h
      · cases h
      · rename_i hz
        cases h; exact ⟨j, hj, hz⟩
    · cases h
  | interface m =>
    simp only [eqT] at h
    split at h
    · rename_i hc
      cases h
      simp only [Bool.or_eq_true] at hc
      exact hc.imp isConstB_spec isConstB_spec
    · cases h
  | _ => first | (cases h; trivial) | cases h

def compOp (P : Program) : Op → Option AOp
  | .move x => match cx x with
    | some x => some (.mv x)
    | none => none
  | .assign x => match cx x with
    | some x => some (.mv x)
    | none => none
  | .pick c a b => match cx c, cx a, cx b with
    | some c, some a, some b => some (.pick c a b)
    | _, _, _ => none
  | .alloc e => match zeroA P e with
    | some (_, _, v) => some (.new (cellsA v) e)
    | none => none
  | .box e x => match cx x with
    | some x => some (.box e x)
    | none => none
  | .build t ps => match zeroA P t, P.underlying t with
    | some (_, _, v), some (.struct fields) => match placesA P fields.toList with
      | some pl => match cps (fun i => pl.toArray[i]?) ps.toList with
        | some qs => some (.build (cellsA v) qs)
        | none => none
      | none => none
    | some (_, _, v), some (.array _ e) => match P.info? e with
      | some j => match cps (fun i => some (i * j.size, j.size)) ps.toList with
        | some qs => some (.build (cellsA v) qs)
        | none => none
      | none => none
    | _, _ => none
  | .buildSlice t n ps => match P.underlying t with
    | some (.slice e) => match zeroA P e with
      | some (j, _, v) => if n = 0 then (match ps with
          | ⟨[]⟩ => some (.buildS e 0 [] [])
          | _ => none)
        else if (cellsA v).length = j.size ∧ 0 < j.size ∧ n * j.size ≤ 2 ^ 24 then
          match cps (fun i => some (i * j.size, j.size)) ps.toList with
          | some qs => some (.buildS e n (zerosL (cellsA v) n) qs)
          | none => none
        else none
      | none => none
    | _ => none
  | .load t x => match P.underlying t, P.info? t, cx x with
    | some d, some i, some x => if aggD d = true then some (.ldN i.size x) else some (.ld1 x)
    | _, _, _ => none
  | .store t a x => match P.info? t, cx a, cx x with
    | some i, some a, some x => some (.st i.size a x)
    | _, _, _ => none
  | .nilCheck x => match cx x with
    | some x => some (.nchk x)
    | none => none
  | .fieldAddr s x i => match P.underlying s with
    | some (.struct fields) => match fields[i]? with
      | some f => match P.info? f.type, cx x with
        | some j, some x => if j.size = 0 then none else some (.fa f.offset x)
        | _, _ => none
      | none => none
    | _ => none
  | .field s x i => match P.underlying s with
    | some (.struct fields) => match fields[i]? with
      | some f => match P.underlying f.type, P.info? f.type, cx x with
        | some d, some j, some x => if aggD d = true then some (.fld j.size f.offset x) else some (.fld1 f.offset x)
        | _, _, _ => none
      | none => none
    | _ => none
  | .indexAddr t x i => match P.underlying t with
    | some (.slice e) => match P.info? e, cx x, cx i with
      | some j, some x, some i => some (.ia j.size x i)
      | _, _, _ => none
    | some (.array len e) => match P.info? e, cx x, cx i with
      | some j, some x, some i => some (.iaA len j.size x i)
      | _, _, _ => none
    | _ => none
  | .extract x i => match cx x with
    | some x => some (.ext x i)
    | none => none
  | .makeFunc (.func f) a b => match mapO cx a.toList, mapO cx b.toList with
    | some a, some b => some (.mkf f a b)
    | _, _ => none
  | .makeInterface t x => match P.underlying t, cx x with
    | some (.interface _), _ => none
    | some _, some x => some (.mki t x)
    | _, _ => none
  | .binOp op t x y _ => match cx x, cx y, P.underlying t with
    | some x', some y', some d => match op with
      | .eql => match eqT P x y d with
        | some ek => some (.eq ek false x' y')
        | none => some (.ar .eql x' y')
      | .neq => match eqT P x y d with
        | some ek => some (.eq ek true x' y')
        | none => some (.ar .neq x' y')
      | op => some (.ar op x' y')
    | _, _, _ => none
  | .unOp op _ x => match cx x with
    | some x => some (.un op x)
    | none => none
  | .convert src dst x => match P.underlying src, P.underlying dst, cx x with
    | some _, some (.int k), some x => some (.cvI k x)
    | some (.slice e), some .string, some x => match P.underlying e with
      | some (.int .u8) => some (.cvT x)
      | _ => none
    | some _, some .string, some x => some (.cvS x)
    | some _, some (.slice e), some x => match P.underlying e, P.info? e with
      | some (.int .u8), some j => if j.size = 1 then some (.cvB e x) else none
      | _, _ => none
    | _, _, _ => none
  | .makeChan t x => match P.underlying t, cx x with
    | some (.chan _ e), some x => match P.info? e with
      | some j => if j.bytes ≤ 1048576 then some (.mkC x) else none
      | none => none
    | _, _ => none
  | .call ⟨.builtin .len, ⟨[x]⟩, ⟨[t]⟩⟩ => match P.underlying t, cx x with
    | some .string, some x => some (.lenS x)
    | some (.slice _), some x => some (.len x)
    | some (.map _ _), some x => some (.lenM x)
    | some (.chan _ _), some x => some (.lenC x)
    | _, _ => none
  | .call ⟨.builtin .append, ⟨[x, y]⟩, ⟨[t, u]⟩⟩ => match P.underlying t, P.underlying u, cx x, cx y with
    | some (.slice e), some (.slice _), some x, some y => match zeroA P e with
      | some (j, _, v) => if (cellsA v).length = j.size ∧ 0 < j.size ∧ j.bytes ≤ 1048576 then some (.app e j.size x y) else none
      | none => none
    | some (.slice e), some .string, some x, some y => match zeroA P e with
      | some (j, _, v) => if (cellsA v).length = j.size ∧ 0 < j.size ∧ j.bytes ≤ 1048576 then some (.app e j.size x y) else none
      | none => none
    | _, _, _, _ => none
  | .call ⟨.builtin .clear, ⟨[x]⟩, ⟨[t]⟩⟩ => match P.underlying t, cx x with
    | some (.slice e), some x => match zeroA P e with
      | some (_, _, v) => if 0 < (cellsA v).length then some (.clr (cellsA v) x) else none
      | none => none
    | _, _ => none
  | .call ⟨.builtin .max, xs, _⟩ => match mapO cx xs.toList with
    | some xs => some (.mm true xs)
    | none => none
  | .call ⟨.builtin .min, xs, _⟩ => match mapO cx xs.toList with
    | some xs => some (.mm false xs)
    | none => none
  | .index t x i => match P.underlying t, cx x, cx i with
    | some .string, some x, some i => some (.ixS x i)
    | some (.array l elem), some x, some i => match P.underlying elem, P.info? elem with
      | some d, some j => if aggD d = false ∧ j.size = 1 then some (.ix1 l x i) else none
      | _, _ => none
    | _, _, _ => none
  | .lookup t x k ok => match P.underlying t, cx x, cx k with
    | some (.map key elem), some x, some k => match P.underlying key, zeroA P elem with
      | some .string, some (_, _, v) => some (.lk v ok x k)
      | _, _ => none
    | _, _, _ => none
  | .mapUpdate t x k v => match P.underlying t, cx x, cx k, cx v with
    | some (.map key _), some x, some k, some v => match P.underlying key with
      | some .string => some (.up x k v)
      | _ => none
    | _, _, _, _ => none
  | .makeSlice t l c => match P.underlying t, cx l, cx c with
    | some (.slice e), some l, some c => match zeroA P e with
      | some (j, _, v) => if (cellsA v).length = j.size ∧ 0 < j.size ∧ j.bytes ≤ 1048576 then some (.mkS e j.size (cellsA v) l c) else none
      | none => none
    | _, _, _ => none
  | .slice t x lo hi mx => match P.underlying t, cx x, cxo lo, cxo hi with
    | some (.slice e), some x, some lo', some hi' => match P.info? e, cxo mx with
      | some j, some mx' => if mx.isNone || hi.isSome then some (.sl j.size x lo' hi' mx') else none
      | _, _ => none
    | some .string, some x, some lo', some hi' => match mx with
      | none => some (.slS x lo' hi')
      | some _ => none
    | _, _, _, _ => none
  | .makeMap _ none => some .mkM
  | _ => none

end Go.Proofs.Ytfnehpgefcnjgaa.X
