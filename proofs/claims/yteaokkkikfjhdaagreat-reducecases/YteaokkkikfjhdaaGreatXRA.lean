/- An executor for closed calls, 35: the tables' join and meets, told. -/
import Derived.Test.YteaokkkikfjhdaaGreatXJC
namespace Go.Proofs.YteaokkkikfjhdaaGreat.X
open Go.RowKit

section
variable {P : Program} {w0 : World} {r : Rho} {h : T AO} {nx : Pt} {w w' : World}

/-- some known blocks have turned -/
theorem WR.turn (H : WR P w0 r h nx w) {h' : T AO} (hB : Below w0.heap.size w0 w') (h1 : ∀ k o, h'.find k = some o → (h.find k = some o ∧ w'.heap[r.blk k]? = w.heap[r.blk k]?) ∨ ((∃ o0, h.find k = some o0) ∧ okO r.has o ∧ BR P r k o (w'.heap[r.blk k]?))) : WR P w0 r h' nx w' := by
  have key : ∀ k o, h'.find k = some o → ∃ o0, h.find k = some o0 := fun k o hk => by
    rcases h1 k o hk with ⟨g, -⟩ | ⟨g, -⟩
    · exact ⟨o, g⟩
    · exact g
  refine ⟨H.dom, H.dis, hB, fun k o hk => ?_, fun i j oi oj hi hj e => ?_⟩
  · rcases h1 k o hk with ⟨g, e⟩ | ⟨⟨o0, g⟩, g2, g3⟩
    · obtain ⟨a1, a2, a3, a4⟩ := H.has k o g
      exact ⟨a1, a2, a3, by rw [e]; exact a4⟩
    · obtain ⟨a1, a2, -, -⟩ := H.has k o0 g
      exact ⟨a1, a2, g2, g3⟩
  · obtain ⟨x, hx⟩ := key i oi hi
    obtain ⟨y, hy⟩ := key j oj hj
    exact H.apart i j x y hx hy e

/-- no key of the second is one of the first -/
def disB (es1 : List (AV × AV × Nat)) : List (AV × AV × Nat) → Bool
  | [] => true
  | e :: l => (match e.1 with | .str s => (look s es1).isNone | _ => false) && disB es1 l

theorem disB_spec {es1 : List (AV × AV × Nat)} : ∀ {es2 : List (AV × AV × Nat)}, disB es1 es2 = true → ∀ e ∈ es2, ∀ s, e.1 = .str s → look s es1 = none
  | [], _, e, he => by cases he
  | x :: l, h, e, he => by
    simp only [disB, Bool.and_eq_true] at h
    rcases List.mem_cons.1 he with rfl | he
    · intro s hs
      have := h.1
      rw [hs] at this
      simpa using this
    · exact disB_spec h.2 e he

theorem look_app {s : List Nat} : ∀ {es1 es2 : List (AV × AV × Nat)}, (∀ e ∈ es1, ∃ s, e.1 = .str s) → look s (es1 ++ es2) = (match look s es1 with | some v => some v | none => look s es2)
  | [], es2, _ => rfl
  | e :: l, es2, h => by
    obtain ⟨s', hs'⟩ := h e (List.mem_cons_self ..)
    simp only [List.cons_append, look, hs']
    cases eqN s s' with
    | true => rfl
    | false => exact look_app fun e he => h e (List.mem_cons_of_mem _ he)

theorem okEs_app : ∀ {a b : List (AV × AV × Nat)}, okEs a = true → okEs b = true → okEs (a ++ b) = true
  | [], _, _, hb => hb
  | e :: l, b, ha, hb => by
    simp only [okEs, Bool.and_eq_true, List.cons_append] at ha ⊢
    exact ⟨ha.1, okEs_app ha.2 hb⟩

/-- there are two arguments, no more -/
def twoK (tm : T AV) (c : Prop) : Prop := match tm.find (.o .e) with
  | none => c
  | some _ => False

/-- what join does -/
def joinD : D := fun _ tm h nx K => twoK tm <| tm.getK .e fun a0 => tm.getK (.z .e) fun a1 => match a0, a1 with
  | .ptr kt ot, .agg [.map m2] => h.getK kt fun b => match b with
    | .cells cs e => h.getK m2 fun b2 => match b2 with
      | .map es2 _ => match cs[ot]? with
        | some (.map m1) => h.getK m1 fun b1 => match b1 with
          | .map es1 _ => Bool.rec (motive := fun _ => Prop) False (forceL (es1 ++ es2) fun es => h.setK (.map es 0) m1 fun h => K .nrm tm h nx)
              (okEs es1 && okEs es2 && disB es1 es2 && !(eqP m1 kt) && !(eqP m2 m1) && !(eqP m2 kt) && Nat.ble es1.length 1000 && Nat.ble es2.length 1000)
          | _ => False
        | some .nilm => Bool.rec (motive := fun _ => Prop) False (h.setK (.map es2 0) nx fun h => forceL (putL cs ot [.map nx]) fun cs' => h.setK (.cells cs' e) kt fun h => forceP nx.succ fun nx' => K .nrm tm h nx')
            (okEs es2 && !(eqP m2 kt) && Nat.ble es2.length 1000 && Nat.ble 1 es2.length)
        | _ => False
      | _ => False
    | _ => False
  | _, _ => False

/-- the slot of the answer of meets -/
def meetP : Pt := .o (.z .e)

/-- what meets does -/
def meetsD : D := fun _ tm h nx K => twoK tm <| tm.getK .e fun a0 => tm.getK (.z .e) fun a1 => match a0, a1 with
  | .ptr kt ot, .agg [.map m2] => h.getK kt fun b => match b with
    | .cells cs _ => h.getK m2 fun b2 => match b2 with
      | .map es2 _ => match cs[ot]? with
        | some (.map m1) => h.getK m1 fun b1 => match b1 with
          | .map es1 _ => Bool.rec (motive := fun _ => Prop) False (Bool.rec (motive := fun _ => Prop) (tm.setK (.bool true) meetP fun tm => K .ret tm h nx) (tm.setK (.bool false) meetP fun tm => K .ret tm h nx) (disB es1 es2))
              (okEs es1 && okEs es2 && Nat.ble es1.length 1000 && Nat.ble es2.length 1000)
          | _ => False
        | some .nilm => Bool.rec (motive := fun _ => Prop) False (tm.setK (.bool false) meetP fun tm => K .ret tm h nx) (okEs es2 && Nat.ble es2.length 1000)
        | _ => False
      | _ => False
    | _ => False
  | _, _ => False

def joinAF : AF := ⟨joinD, []⟩
def meetsAF : AF := ⟨meetsD, [.t meetP]⟩

/-- a variable that holds a table -/
theorem cell_of_BR {k : Pt} {cs : List AV} {e : TypeId} {b o : Nat} {v : AV} (hbr : BR P r k (.cells cs e) (w.heap[b]?)) (hv : cs[o]? = some v) : w.cell? ⟨b, o, none⟩ = some (conc r v) ∧ ∀ o, w.frozen? ⟨b, o, none⟩ = false := by
  obtain ⟨rest, hb, -⟩ := hbr
  refine ⟨?_, fun o => by simp [World.frozen?, hb]⟩
  rw [cell_of_row _ _ _ _ _ _ hb]
  have ho : o < (concL r cs).length := by rw [concL_length]; exact (List.getElem?_eq_some_iff.1 hv).1
  rw [List.getElem?_toArray, List.getElem?_append_left ho, concL_get, hv]
  rfl

theorem argsK_full : ∀ {args : List AV} {p : Pt} {tm : T AV} {c : T AV → Prop}, argsK args p tm c → ∃ tm', c tm' ∧ (∀ q : Pt, q.toNat < p.toNat → tm'.find q = tm.find q) ∧ (∀ (q : Pt) i v, q.toNat = p.toNat + i → args[i]? = some v → tm'.find q = some v) ∧
    ∀ (q : Pt), p.toNat + args.length ≤ q.toNat → tm'.find q = tm.find q
  | [], p, tm, c, hk => ⟨tm, hk, fun _ _ => rfl, fun q i v _ h => by simp at h, fun _ _ => rfl⟩
  | x :: l, p, tm, c, hk => by
    have hk : tm.setK x p fun tm => forceP p.succ fun p => argsK l p tm c := hk
    rw [T.setK_iff, forceP_iff] at hk
    obtain ⟨tm', h1, h2, h3, h4⟩ := argsK_full hk
    refine ⟨tm', h1, fun q hq => ?_, fun q i v hq hv => ?_, fun q hq => ?_⟩
    · rw [h2 q (by rw [Pt.toNat_succ]; omega), T.find_set_ne _ _ _ _ (fun e => by rw [e] at hq; omega)]
    · cases i with
      | zero =>
        have : q = p := Pt.inj (by omega)
        subst this
        simp only [List.getElem?_cons_zero, Option.some.injEq] at hv
        rw [h2 q (by rw [Pt.toNat_succ]; omega), T.find_set, hv]
      | succ i => exact h3 q i v (by rw [Pt.toNat_succ]; omega) (by simpa using hv)
    · simp only [List.length_cons] at hq
      rw [h4 q (by rw [Pt.toNat_succ]; omega), T.find_set_ne _ _ _ _ (fun e => by rw [e] at hq; omega)]

theorem args_two {args : List AV} {tm : T AV} {c : AV → AV → Prop} (hf : ∀ (q : Pt) v, args[q.toNat]? = some v → tm.find q = some v) (hb : ∀ q v, tm.find q = some v → args[q.toNat]? = some v) (hk : twoK tm (tm.getK .e fun a0 => tm.getK (.z .e) fun a1 => c a0 a1)) : ∃ a0 a1, args = [a0, a1] ∧ c a0 a1 := by
  unfold twoK at hk
  split at hk
  · rename_i hn
    obtain ⟨a0, h0, hk⟩ := (T.getK_iff _ _ _).1 hk
    obtain ⟨a1, h1, hk⟩ := (T.getK_iff _ _ _).1 hk
    have e0 := hb _ _ h0
    have e1 := hb _ _ h1
    simp only [Pt.toNat] at e0 e1
    match args, e0, e1 with
    | [x, y], e0, e1 =>
      simp at e0 e1
      exact ⟨a0, a1, by rw [e0, e1], hk⟩
    | x :: y :: z :: l, e0, e1 =>
      have := hf (.o .e) z (by simp [Pt.toNat])
      rw [hn] at this; cases this
  · exact hk.elim

/-- two arguments -/
theorem two_args {args : List AV} {c : AV → AV → T AV → Prop} (hk : argsK args .e .l fun tm => twoK tm (tm.getK .e fun a0 => tm.getK (.z .e) fun a1 => c a0 a1 tm)) : ∃ a0 a1 tm, args = [a0, a1] ∧ c a0 a1 tm := by
  obtain ⟨tm, h1, h2, h3, h4⟩ := argsK_full hk
  have hb : ∀ q v, tm.find q = some v → args[q.toNat]? = some v := by
    intro q v hv
    rcases Nat.lt_or_ge q.toNat args.length with hlt | hge
    · have := h3 q q.toNat args[q.toNat] (by simp [Pt.toNat]) (by simp [hlt])
      rw [this] at hv; cases hv; simp [hlt]
    · rw [h4 q (by simp [Pt.toNat]; exact hge), T.find_l] at hv
      cases hv
  obtain ⟨a0, a1, e, hk⟩ := args_two (c := fun a0 a1 => c a0 a1 tm) (fun q v hv => h3 q q.toNat v (by simp [Pt.toNat]) hv) hb h1
  exact ⟨a0, a1, tm, e, hk⟩

end
end Go.Proofs.YteaokkkikfjhdaaGreat.X

/- An executor for closed calls, 38: a function without arguments that answers true, told. -/
namespace Go.Proofs.YteaokkkikfjhdaaGreat.X
open Go.RowKit

/-- the answer is true -/
def isT : AV → T AO → Pt → Prop := fun v _ _ => match v with
  | .bool b => Bool.rec (motive := fun _ => Prop) False True b
  | _ => False

theorem isT_spec {v : AV} {h : T AO} {nx : Pt} (hv : isT v h nx) : v = .bool true := by
  unfold isT at hv
  split at hv
  · rename_i b
    cases b with
    | false => exact hv.elim
    | true => rfl
  · exact hv.elim

theorem true_of_run {P : Program} {funs : T AF} (hf : FunsOk P funs) {n : Nat} {p : Pt} {args : List AV} (w : World) (xs : Array Value) (hx : (∀ r, concL r args = xs.toList) ∧ ∀ n, okL n args) (hk : callN funs n .l p args .l .e isT = True) :
    Calls P p.toNat xs w fun e w' => e = .returned (.bool true) ∧ Below w.heap.size w w' := by
  refine run_sound hf w xs hx (hk ▸ trivial : callN funs n .l p args .l .e isT) fun v h nx r w' hK H hv => ?_
  rw [isT_spec hK]
  exact ⟨by simp [conc], H.below⟩

def liveAF : AF := ⟨fun _ tm h nx K => match tm.find .e with
  | none => tm.setK (.bool true) .e fun tm => K .ret tm h nx
  | some _ => False, [.t .e]⟩

theorem live_sem {P : Program} {f : Nat} (hf : ∃ fn c, P.funcs[f]? = some fn ∧ (fn.name == "runtime.NumGoroutine") = false ∧ fn.body = some c) (hc : ∀ w, Calls P f #[] w fun e w' => e = .returned (.bool true) ∧ Below w.heap.size w w') : FunSem P f liveAF := by
  intro w0 ch hcur hch args h nx K r w R hk hE H ha hR
  obtain ⟨tm, h1, h2, h3, h4⟩ := argsK_full hk
  have h1 : (match tm.find .e with
    | none => tm.setK (.bool true) .e fun tm => retK liveAF.res K .ret tm h nx
    | some _ => False) := h1
  split at h1
  · rename_i hn
    have hargs : args = [] := by
      match args, h3 with
      | [], _ => rfl
      | a :: l, h3 =>
        have := h3 .e 0 a (by simp [Pt.toNat]) (by simp)
        rw [hn] at this; cases this
    subst hargs
    refine ⟨hf, ?_⟩
    have e0 : (concL r []).toArray = #[] := by simp [concL]
    rw [e0]
    refine (hc w).mono fun e w' he => ?_
    obtain ⟨rfl, hB⟩ := he
    rw [T.setK_iff] at h1
    have h1 : (tm.set (.bool true) .e).getK .e fun v => K v h nx := h1
    rw [T.getK_iff, T.find_set] at h1
    obtain ⟨v, hv, h1⟩ := h1
    cases hv
    have hWR : WR P w0 r h nx w' := H.turn (H.below.trans (hB.mono H.below.size)) fun k o hko => .inl ⟨hko, hB.block _ (H.lt hko)⟩
    have := hR (.bool true) h nx r w' h1 hWR ⟨.refl r, hB.size, fun b hb _ => hB.block b hb, fun k o hko => .inr ⟨k, o, hko, rfl⟩⟩ (by simp [okV])
    simpa [conc] using this
  · exact h1.elim

end Go.Proofs.YteaokkkikfjhdaaGreat.X
