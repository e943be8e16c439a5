/- An executor for closed calls, 38: a function without arguments that answers true, told. -/
import Derived.Test.YtkcpnbfhoamlfaaGreatDoorXJD
namespace Go.Proofs.YtkcpnbfhoamlfaaGreatDoor.X
open Go.RowKit

/-- the answer is true -/
def isT : AV → T AO → Pt → Prop := fun v _ _ => match v with
  | .bool b => Bool.rec (motive := fun _ => Prop) False True b
  | _ => False

theorem isT_spec {v : AV} {h : T AO} {nx : Pt} (hv : isT v h nx) : v = .bool true := by
  unfold isT at hv
  split at hv
  · rename_i b
    cases b with
    | false => exact hv.elim
    | true => rfl
  · exact hv.elim

theorem true_of_run {P : Program} {funs : T AF} (hf : FunsOk P funs) {n : Nat} {p : Pt} {args : List AV} (w : World) (xs : Array Value) (hx : (∀ r, concL r args = xs.toList) ∧ ∀ n, okL n args) (hk : callN funs n .l p args .l .e isT = True) (hG : GW w := by trivial) :
    Calls P p.toNat xs w fun e w' => e = .returned (.bool true) ∧ Below w.heap.size w w' := by
  refine run_sound hf w xs hx (hk ▸ trivial : callN funs n .l p args .l .e isT) (fun v h nx r w' hK H hv => ?_) hG
  rw [isT_spec hK]
  exact ⟨by simp [conc], H.below⟩

def liveAF : AF := ⟨fun _ tm h nx K => match tm.find .e with
  | none => tm.setK (.bool true) .e fun tm => K .ret tm h nx
  | some _ => False, [.t .e]⟩

theorem live_sem {P : Program} {f : Nat} (hf : ∃ fn c, P.funcs[f]? = some fn ∧ (fn.name == "runtime.NumGoroutine") = false ∧ fn.body = some c) (hc : ∀ w, GW w → Calls P f #[] w fun e w' => e = .returned (.bool true) ∧ Below w.heap.size w w') : FunSem P f liveAF := by
  intro w0 ch hcur hch args h nx K r w R hk hE H ha hR _
  obtain ⟨tm, h1, h2, h3, h4⟩ := argsK_full hk
  have h1 : (match tm.find .e with
    | none => tm.setK (.bool true) .e fun tm => retK liveAF.res K .ret tm h nx
    | some _ => False) := h1
  split at h1
  · rename_i hn
    have hargs : args = [] := by
      match args, h3 with
      | [], _ => rfl
      | a :: l, h3 =>
        have := h3 .e 0 a (by simp [Pt.toNat]) (by simp)
        rw [hn] at this; cases this
    subst hargs
    refine ⟨hf, ?_⟩
    have e0 : (concL r []).toArray = #[] := by simp [concL]
    rw [e0]
    refine (hc w (hE.1.below H.below)).mono fun e w' he => ?_
    obtain ⟨rfl, hB⟩ := he
    rw [T.setK_iff] at h1
    have h1 : (tm.set (.bool true) .e).getK .e fun v => K v h nx := h1
    rw [T.getK_iff, T.find_set] at h1
    obtain ⟨v, hv, h1⟩ := h1
    cases hv
    have hWR : WR P w0 r h nx w' := H.turn (H.below.trans (hB.mono H.below.size)) fun k o hko => .inl ⟨hko, hB.block _ (H.lt hko)⟩
    have := hR (.bool true) h nx r w' h1 hWR ⟨.refl r, hB.size, fun b hb _ => hB.block b hb, fun k o hko => .inr ⟨k, o, hko, rfl⟩⟩ (by simp [okV])
    simpa [conc] using this
  · exact h1.elim

end Go.Proofs.YtkcpnbfhoamlfaaGreatDoor.X
