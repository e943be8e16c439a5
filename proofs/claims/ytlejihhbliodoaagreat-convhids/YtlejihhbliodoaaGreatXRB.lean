/- An executor for closed calls, 38 (in a seat without tables): a function without arguments that answers true, told. -/
import Derived.Test.YtlejihhbliodoaaGreatXQB
namespace Go.Proofs.YtlejihhbliodoaaGreat.X
open Go.RowKit

section
variable {P : Program} {w0 : World} {r : Rho} {h : T AO} {nx : Pt} {w w' : World}

/-- some known blocks have turned -/
theorem WR.turn (H : WR P w0 r h nx w) {h' : T AO} (hB : Below w0.heap.size w0 w') (h1 : ∀ k o, h'.find k = some o → (h.find k = some o ∧ w'.heap[r.blk k]? = w.heap[r.blk k]?) ∨ ((∃ o0, h.find k = some o0) ∧ okO r.has o ∧ BR P r k o (w'.heap[r.blk k]?))) : WR P w0 r h' nx w' := by
  have key : ∀ k o, h'.find k = some o → ∃ o0, h.find k = some o0 := fun k o hk => by
    rcases h1 k o hk with ⟨g, -⟩ | ⟨g, -⟩
    · exact ⟨o, g⟩
    · exact g
  refine ⟨H.dom, H.dis, hB, fun k o hk => ?_, fun i j oi oj hi hj e => ?_⟩
  · rcases h1 k o hk with ⟨g, e⟩ | ⟨⟨o0, g⟩, g2, g3⟩
    · obtain ⟨a1, a2, a3, a4⟩ := H.has k o g
      exact ⟨a1, a2, a3, by rw [e]; exact a4⟩
    · obtain ⟨a1, a2, -, -⟩ := H.has k o0 g
      exact ⟨a1, a2, g2, g3⟩
  · obtain ⟨x, hx⟩ := key i oi hi
    obtain ⟨y, hy⟩ := key j oj hj
    exact H.apart i j x y hx hy e

end

theorem argsK_full : ∀ {args : List AV} {p : Pt} {tm : T AV} {c : T AV → Prop}, argsK args p tm c → ∃ tm', c tm' ∧ (∀ q : Pt, q.toNat < p.toNat → tm'.find q = tm.find q) ∧ (∀ (q : Pt) i v, q.toNat = p.toNat + i → args[i]? = some v → tm'.find q = some v) ∧
    ∀ (q : Pt), p.toNat + args.length ≤ q.toNat → tm'.find q = tm.find q
  | [], p, tm, c, hk => ⟨tm, hk, fun _ _ => rfl, fun q i v _ h => by simp at h, fun _ _ => rfl⟩
  | x :: l, p, tm, c, hk => by
    have hk : tm.setK x p fun tm => forceP p.succ fun p => argsK l p tm c := hk
    rw [T.setK_iff, forceP_iff] at hk
    obtain ⟨tm', h1, h2, h3, h4⟩ := argsK_full hk
    refine ⟨tm', h1, fun q hq => ?_, fun q i v hq hv => ?_, fun q hq => ?_⟩
    · rw [h2 q (by rw [Pt.toNat_succ]; omega), T.find_set_ne _ _ _ _ (fun e => by rw [e] at hq; omega)]
    · cases i with
      | zero =>
        have : q = p := Pt.inj (by omega)
        subst this
        simp only [List.getElem?_cons_zero, Option.some.injEq] at hv
        rw [h2 q (by rw [Pt.toNat_succ]; omega), T.find_set, hv]
      | succ i => exact h3 q i v (by rw [Pt.toNat_succ]; omega) (by simpa using hv)
    · simp only [List.length_cons] at hq
      rw [h4 q (by rw [Pt.toNat_succ]; omega), T.find_set_ne _ _ _ _ (fun e => by rw [e] at hq; omega)]

/-- the answer is true -/
def isT : AV → T AO → Pt → Prop := fun v _ _ => match v with
  | .bool b => Bool.rec (motive := fun _ => Prop) False True b
  | _ => False

theorem isT_spec {v : AV} {h : T AO} {nx : Pt} (hv : isT v h nx) : v = .bool true := by
  unfold isT at hv
  split at hv
  · rename_i b
    cases b with
    | false => exact hv.elim
    | true => rfl
  · exact hv.elim

theorem true_of_run {P : Program} {funs : T AF} (hf : FunsOk P funs) {n : Nat} {p : Pt} {args : List AV} (w : World) (xs : Array Value) (hx : (∀ r, concL r args = xs.toList) ∧ ∀ n, okL n args) (hk : callN funs n .l p args .l .e isT = True) :
    Calls P p.toNat xs w fun e w' => e = .returned (.bool true) ∧ Below w.heap.size w w' := by
  refine run_sound hf w xs hx (hk ▸ trivial : callN funs n .l p args .l .e isT) fun v h nx r w' hK H hv => ?_
  rw [isT_spec hK]
  exact ⟨by simp [conc], H.below⟩

def liveAF : AF := ⟨fun _ tm h nx K => match tm.find .e with
  | none => tm.setK (.bool true) .e fun tm => K .ret tm h nx
  | some _ => False, [.t .e]⟩

theorem live_sem {P : Program} {f : Nat} (hf : ∃ fn c, P.funcs[f]? = some fn ∧ (fn.name == "runtime.NumGoroutine") = false ∧ fn.body = some c) (hc : ∀ w, Calls P f #[] w fun e w' => e = .returned (.bool true) ∧ Below w.heap.size w w') : FunSem P f liveAF := by
  intro w0 ch hcur hch args h nx K r w R hk hE H ha hR
  obtain ⟨tm, h1, h2, h3, h4⟩ := argsK_full hk
  have h1 : (match tm.find .e with
    | none => tm.setK (.bool true) .e fun tm => retK liveAF.res K .ret tm h nx
    | some _ => False) := h1
  split at h1
  · rename_i hn
    have hargs : args = [] := by
      match args, h3 with
      | [], _ => rfl
      | a :: l, h3 =>
        have := h3 .e 0 a (by simp [Pt.toNat]) (by simp)
        rw [hn] at this; cases this
    subst hargs
    refine ⟨hf, ?_⟩
    have e0 : (concL r []).toArray = #[] := by simp [concL]
    rw [e0]
    refine (hc w).mono fun e w' he => ?_
    obtain ⟨rfl, hB⟩ := he
    rw [T.setK_iff] at h1
    have h1 : (tm.set (.bool true) .e).getK .e fun v => K v h nx := h1
    rw [T.getK_iff, T.find_set] at h1
    obtain ⟨v, hv, h1⟩ := h1
    cases hv
    have hWR : WR P w0 r h nx w' := H.turn (H.below.trans (hB.mono H.below.size)) fun k o hko => .inl ⟨hko, hB.block _ (H.lt hko)⟩
    have := hR (.bool true) h nx r w' h1 hWR ⟨.refl r, hB.size, fun b hb _ => hB.block b hb, fun k o hko => .inr ⟨k, o, hko, rfl⟩⟩ (by simp [okV])
    simpa [conc] using this
  · exact h1.elim

end Go.Proofs.YtlejihhbliodoaaGreat.X
