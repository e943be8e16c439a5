/- An executor for closed calls, 39: errors.As told, where the target is a struct of one integer. -/
import Derived.Test.YtkcpnbfhoamlfaaGreatDoorXRA
import Derived.Test.YtkcpnbfhoamlfaaGreatDoorEAT
namespace Go.Proofs.YtkcpnbfhoamlfaaGreatDoor.X
open Go.RowKit

/-- what an error is: what it holds within others, and what holds it -/
def errF : Nat → AV → Option (List Int × Int)
  | 0, _ => none
  | n + 1, .iface t (.agg [.int .i64 f, u]) => bif Nat.beq t 304 then (match errF n u with
    | some (fs, e) => some (f :: fs, e)
    | none => none) else none
  | _ + 1, .iface t (.agg [.int .i64 e]) => bif Nat.beq t 209 then some ([], e) else none
  | _, _ => none

theorem errF_spec (r : Rho) : ∀ (n : Nat) (x : AV) (fs : List Int) (e : Int), errF n x = some (fs, e) → conc r x = errV fs e := by
  intro n
  induction n with
  | zero => intro x fs e h; simp [errF] at h
  | succ n ih =>
    intro x fs e h
    unfold errF at h
    split at h
    · rename_i h0; exact (Nat.succ_ne_zero _ h0).elim
    · rename_i n' t f u hn
      obtain rfl : n' = n := Nat.succ.inj hn.symm
      cases hb : Nat.beq t 304 with
      | false => rw [hb] at h; cases h
      | true =>
        rw [hb] at h
        obtain rfl := Nat.eq_of_beq_eq_true hb
        simp only [cond_true] at h
        split at h
        · rename_i fs' e' hu
          simp only [Option.some.injEq, Prod.mk.injEq] at h
          obtain ⟨rfl, rfl⟩ := h
          simp [conc, concL, errV, ih u fs' e' hu]
        · cases h
    · rename_i n' t e0 hn
      cases hb : Nat.beq t 209 with
      | false => rw [hb] at h; cases h
      | true =>
        rw [hb] at h
        obtain rfl := Nat.eq_of_beq_eq_true hb
        simp only [cond_true, Option.some.injEq, Prod.mk.injEq] at h
        obtain ⟨rfl, rfl⟩ := h
        simp [conc, concL, errV]
    · cases h

def asAF : AF := ⟨fun _ tm h nx K => match tm.find (.o .e) with
  | none => tm.getK .e fun x => tm.getK (.z .e) fun y => match y with
    | .iface t (.ptr k 0) => Bool.rec (motive := fun _ => Prop) False (match errF 100 x with
      | some (_, e) => h.getK k fun o => match o with
        | .cells (.int .i64 _ :: rest) ty => h.setK (.cells (.int .i64 e :: rest) ty) k fun h => tm.setK (.bool true) .e fun tm => K .ret tm h nx
        | _ => False
      | none => False) (Nat.beq t 211)
    | _ => False
  | some _ => False, [.t .e]⟩

theorem as_sem : FunSem Tryz.prog 116 asAF := by
  intro w0 ch hcur hch args h nx K r w R hk hE H ha hR _
  obtain ⟨tm, h1, h2, h3, h4⟩ := argsK_full hk
  refine ⟨⟨_, _, Tryz.func116, by kernel_rfl, rfl⟩, ?_⟩
  have h1 : (match tm.find (.o .e) with
    | none => tm.getK .e fun x => tm.getK (.z .e) fun y => match y with
      | .iface t (.ptr k 0) => Bool.rec (motive := fun _ => Prop) False (match errF 100 x with
        | some (_, e) => h.getK k fun o => match o with
          | .cells (.int .i64 _ :: rest) ty => h.setK (.cells (.int .i64 e :: rest) ty) k fun h => tm.setK (.bool true) .e fun tm => retK asAF.res K .ret tm h nx
          | _ => False
        | none => False) (Nat.beq t 211)
      | _ => False
    | some _ => False) := h1
  split at h1
  · rename_i hn
    rw [T.getK_iff] at h1
    obtain ⟨x, hx, h1⟩ := h1
    rw [T.getK_iff] at h1
    obtain ⟨y, hy, h1⟩ := h1
    have hargs : args = [x, y] := by
      match args, h3, h4 with
      | [], _, h4 => have := h4 .e (by simp [Pt.toNat]); rw [hx, T.find_l] at this; cases this
      | [a], _, h4 => have := h4 (.z .e) (by simp [Pt.toNat]); rw [hy, T.find_l] at this; cases this
      | [a, b], h3, _ =>
        have h5 := h3 .e 0 a rfl rfl
        have h6 := h3 (.z .e) 1 b rfl rfl
        rw [hx] at h5; rw [hy] at h6; cases h5; cases h6; rfl
      | a :: b :: c :: l, h3, _ => have := h3 (.o .e) 2 c rfl rfl; rw [hn] at this; cases this
    subst hargs
    split at h1
    · rename_i t k
      obtain ⟨ht, h1⟩ := brec h1
      obtain rfl := Nat.eq_of_beq_eq_true ht
      split at h1
      · rename_i fs e he
        rw [T.getK_iff] at h1
        obtain ⟨o, ho, h1⟩ := h1
        split at h1
        · rename_i old rest ty
          rw [T.setK_iff, T.setK_iff] at h1
          have h1 : ((tm.set (.bool true) .e).getK .e fun v => K v (h.set (.cells (.int .i64 e :: rest) ty) k) nx) := h1
          rw [T.getK_iff, T.find_set] at h1
          obtain ⟨v, hv, h1⟩ := h1
          cases hv
          obtain ⟨g1, g2, g3, rest', g4, g5⟩ := H.has k _ ho
          have g4' : w.heap[r.blk k]? = some (.cells (.int .i64 old :: (concL r rest ++ rest')).toArray ty (0, 0)) := by rw [g4]; simp [concL, conc]
          have hG : GW w := hE.1.below H.below
          have hcall := as_any fs e old (r.blk k) w (concL r rest ++ rest') ty hG g4'
          have ea : (concL r [x, .iface 211 (.ptr k 0)]).toArray = #[errV fs e, .iface 211 (.pointer (some ⟨r.blk k, 0, none⟩))] := by
            simp [concL, conc, errF_spec r _ _ _ _ he]
          rw [ea]
          refine hcall.mono fun en w' hw' => ?_
          obtain ⟨rfl, W2, hB, rfl⟩ := hw'
          have hlt := H.lt ho
          have hsz : (asPut W2 (r.blk k) e (concL r rest ++ rest') ty).heap.size = W2.heap.size := by simp [asPut]
          have hother : ∀ b, b < w.heap.size → b ≠ r.blk k → (asPut W2 (r.blk k) e (concL r rest ++ rest') ty).heap[b]? = w.heap[b]? := fun b hb hne => by
            show (W2.heap.setIfInBounds _ _)[b]? = _
            rw [Array.getElem?_setIfInBounds_ne (fun e => hne e.symm)]
            exact hB.block b hb
          have hself : (asPut W2 (r.blk k) e (concL r rest ++ rest') ty).heap[r.blk k]? = some (.cells (.int .i64 e :: (concL r rest ++ rest')).toArray ty (0, 0)) := by
            show (W2.heap.setIfInBounds _ _)[r.blk k]? = _
            exact Array.getElem?_setIfInBounds_self_of_lt (Nat.lt_of_lt_of_le hlt hB.size)
          have hBel : Below w0.heap.size w0 (asPut W2 (r.blk k) e (concL r rest ++ rest') ty) := by
            refine ⟨hB.os.trans H.below.os, hB.tape.trans H.below.tape, hB.output.trans H.below.output, ?_, fun b hb => ?_⟩
            · rw [hsz]; exact Nat.le_trans H.below.size hB.size
            · rw [hother b (Nat.lt_of_lt_of_le hb H.below.size) (by omega)]; exact H.below.block b hb
          have hok : okO r.has (.cells (.int .i64 e :: rest) ty) := by
            have g3 : okL r.has (.int .i64 old :: rest) := g3
            show okL r.has (.int .i64 e :: rest)
            simp only [okL, okV, true_and] at g3 ⊢
            exact g3
          have hWR : WR Tryz.prog w0 r (h.set (.cells (.int .i64 e :: rest) ty) k) nx (asPut W2 (r.blk k) e (concL r rest ++ rest') ty) := H.turn hBel fun k' o' hko => by
            by_cases q : k' = k
            · subst q
              rw [T.find_set] at hko; cases hko
              exact .inr ⟨⟨_, ho⟩, hok, rest', by rw [hself]; simp [concL, conc], g5⟩
            · rw [T.find_set_ne _ _ _ _ q] at hko
              exact .inl ⟨hko, hother _ (H.lt hko) fun e => q (H.apart k' k o' _ hko ho e)⟩
          have hEv : Ev r h w r (h.set (.cells (.int .i64 e :: rest) ty) k) (asPut W2 (r.blk k) e (concL r rest ++ rest') ty) := ⟨.refl r, by rw [hsz]; exact hB.size, fun b hb hn => hother b hb fun e => hn k _ ho e.symm, fun k' o' hko => by
            by_cases q : k' = k
            · subst q; exact .inr ⟨k', _, ho, rfl⟩
            · rw [T.find_set_ne _ _ _ _ q] at hko; exact .inr ⟨k', o', hko, rfl⟩⟩
          have := hR (.bool true) _ nx r _ h1 hWR hEv (by simp [okV])
          simpa [conc] using this
        · exact h1.elim
      · exact h1.elim
    · exact h1.elim
  · exact h1.elim

end Go.Proofs.YtkcpnbfhoamlfaaGreatDoor.X
