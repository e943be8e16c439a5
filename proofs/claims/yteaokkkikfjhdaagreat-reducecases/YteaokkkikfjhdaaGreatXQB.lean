/- An executor for closed calls, 17: what the executor comes to, the program comes to. -/
import Derived.Test.YteaokkkikfjhdaaGreatXQA
namespace Go.Proofs.YteaokkkikfjhdaaGreat.X
open Go.RowKit

section
variable {P : Program} {w0 : World} {F : FR}

theorem ops_sound {ch : CH} (hch : CHok P w0 ch.call) {ops : Array Oper} {Q : Exit → Act → World → Prop} : ∀ (n i : Nat) (l : List AOper) (r : Rho) (tm : T AV) (h : T AO) (nx : Pt) (a : Act) (w : World) (K : T AV → T AO → Pt → Prop),
    i + n = ops.size → mapO (compOper P F.m ops) (ops.toList.drop i) = some l → St P w0 F ch r tm h nx a w → denL l ch tm h nx K →
    (∀ tm' h' nx' r' a' w', K tm' h' nx' → St P w0 F ch r' tm' h' nx' a' w' → Ev r h w r' h' w' → Q .normal a' w') → wpOpsIn (Wr F.ro) 0 P ops Q (List.range' i n) a w
  | 0, i, l, r, tm, h, nx, a, w, K, hn, hl, hs, hk, hq => by
    rw [List.drop_eq_nil_of_le (by simp; omega)] at hl
    cases hl
    exact hq tm h nx r a w hk hs (.refl r h w)
  | n + 1, i, l, r, tm, h, nx, a, w, K, hn, hl, hs, hk, hq => by
    have hi : i < ops.toList.length := by simp; omega
    rw [List.drop_eq_getElem_cons hi] at hl
    obtain ⟨x, l', h1, h2, rfl⟩ := mapO_cons hl
    rw [List.range'_succ, wpOpsIn_cons]
    have hoi : ops[i]? = some ops.toList[i] := by
      have : i < ops.size := by simpa using hi
      simp [this]
    refine op_sound hch hoi h1 hs hk fun tm' h' nx' r' a' w' k1 k2 k3 => ?_
    exact ops_sound hch n (i + 1) l' r' tm' h' nx' a' w' K (by omega) h2 k2 k1 fun tm'' h'' nx'' r'' a'' w'' g1 g2 g3 => hq tm'' h'' nx'' r'' a'' w'' g1 g2 (k3.trans g3)

/-- a loop from its next round on -/
def LoopWp (P : Program) (ro : Option Nat) (c : Code) (Q : Exit → Act → World → Prop) (a : Act) (w : World) : Prop :=
  ∀ (b : Frame) (k : List Item) (cs : List Frame), b.roundOf = ro → ∃ e a' w', Q e a' w' ∧ ArrivesIn (Machine.fenced P (Wr ro)) P (lone (b.atR a (.code c :: .inLoop c :: k)) cs w) b k cs e a' w'

theorem wr_calm {ro : Option Nat} {m : Machine} : m.fenced P (Wr ro) := fenced_wide P m

theorem wr_room {ro : Option Nat} (n : Nat) : (Wr ro).room n := fun d hd => by simp [Wr, Fence.wide] at hd

theorem wp_of_loop {ro : Option Nat} {c : Code} {Q : Exit → Act → World → Prop} {a : Act} {w : World} (h : LoopWp P ro c Q a w) : (Code.loop c).wpIn (Wr ro) 0 P Q a w := fun b k cs hb _ _ => by
  obtain ⟨e, a', w', hq, harr⟩ := h b k cs hb
  exact ⟨e, a', w', hq, .of_steps (.one wr_calm stepR_loop) harr⟩

theorem loop_round {ro : Option Nat} {c : Code} {Q : Exit → Act → World → Prop} {a : Act} {w : World} (h : c.wpIn (Wr ro) 0 P (Exit.then (LoopWp P ro c Q) Q) a w) : LoopWp P ro c Q a w := fun b k cs hb => by
  obtain ⟨e, a₁, w₁, hq, harr⟩ := h b (.inLoop c :: k) cs hb trivial (wr_room _)
  cases e with
  | normal =>
    obtain ⟨e₂, a₂, w₂, hq₂, harr₂⟩ := hq b k cs hb
    exact ⟨e₂, a₂, w₂, hq₂, .of_steps (StepsIn.trans harr (.one wr_calm stepR_inLoop)) harr₂⟩
  | exit id => exact ⟨_, a₁, w₁, hq, .pass (x := .inLoop c) rfl (fun _ _ => .inl (by simp)) harr⟩
  | goto l => exact ⟨_, a₁, w₁, hq, .pass (x := .inLoop c) rfl (fun _ _ => .inl (by simp)) harr⟩
  | ret => exact ⟨_, a₁, w₁, hq, .pass (x := .inLoop c) rfl (fun _ _ => .inl (by simp)) harr⟩
  | panic ch => exact ⟨_, a₁, w₁, hq, .pass (x := .inLoop c) rfl (fun _ _ => .inl (by simp)) harr⟩
  | outgrown => exact ⟨_, a₁, w₁, hq, .pass (x := .inLoop c) rfl (fun _ _ => .inl (by simp)) harr⟩

def noGoto (Q : Exit → Act → World → Prop) : Exit → Act → World → Prop
  | .goto _, _, _ => False
  | e, a, w => Q e a w

theorem wp_scope {ro : Option Nat} {c : Code} {Q : Exit → Act → World → Prop} {a : Act} {w : World} (h : c.wpIn (Wr ro) 0 P (noGoto Q) a w) : (Code.scope c).wpIn (Wr ro) 0 P Q a w := by
  intro b k cs hb _ _
  have s1 : ∀ {a : Act} {w : World}, step P (lone (b.atR a (.code (.scope c) :: k)) cs w) = .next (lone (b.atR a (.code c :: .inScope c :: k)) cs w) := fun {a w} => step_lone_go (by simp [stepG, stepG.exec, Frame.atR])
  have s2 : ∀ {a : Act} {w : World}, step P (lone (b.atR a (.inScope c :: k)) cs w) = .next (lone (b.atR a k) cs w) := fun {a w} => step_lone_go (by simp [stepG, stepG.exec, Frame.atR])
  obtain ⟨e, a₁, w₁, hq, harr⟩ := h b (.inScope c :: k) cs hb trivial (wr_room _)
  cases e with
  | normal => exact ⟨.normal, a₁, w₁, hq, .head wr_calm s1 (StepsIn.trans harr (.one wr_calm s2))⟩
  | exit id => exact ⟨.exit id, a₁, w₁, hq, fun k' hk => .head wr_calm s1 (harr.1 k' (by simp [exitTo, hk])), fun hr hk => let ⟨k₁, h1, h2⟩ := harr.2 hr (by simp [exitTo, hk]); ⟨k₁, h1, .head wr_calm s1 h2⟩⟩
  | goto l => exact hq.elim
  | ret => exact ⟨_, a₁, w₁, hq, .of_steps (.one wr_calm s1) harr⟩
  | panic ch => exact ⟨_, a₁, w₁, hq, .of_steps (.one wr_calm s1) harr⟩
  | outgrown => exact ⟨_, a₁, w₁, hq, .of_steps (.one wr_calm s1) harr⟩

theorem loop_sound {ch : CH} {c : Code} {d : D} (hd : Dok P w0 F ch c d) : ∀ (n : Nat) (tm : T AV) (h : T AO) (nx : Pt) (K : EK4) (a : Act) (w : World) (r : Rho) (Q : Exit → Act → World → Prop),
    loopN d ch n tm h nx K → St P w0 F ch r tm h nx a w → Good P w0 F ch r h w K Q → LoopWp P F.ro c Q a w
  | 0, _, _, _, _, _, _, _, _, hk, _, _ => hk.elim
  | n + 1, tm, h, nx, K, a, w, r, Q, hk, hs, hg => by
    refine loop_round (hd tm h nx _ a w r _ hk hs fun e tm' h' nx' r' a' w' k1 k2 k3 => ?_)
    cases e with
    | nrm => exact loop_sound hd n tm' h' nx' K a' w' r' Q k1 k2 (hg.ev k3)
    | exit id => exact hg _ _ _ _ _ _ _ k1 k2 k3
    | ret => exact hg _ _ _ _ _ _ _ k1 k2 k3

theorem den_sound (hm : P.follows .mixedOrders = true) (m : Nat) : ∀ (c : Code) (ac : AC), compC P m c = some ac → ∀ (F : FR) (ch : CH), F.m = m → CHok P w0 ch.call → Dok P w0 F ch c (den ac) := by
  intro c
  induction c with
  | skip =>
    intro ac hc F ch hF hch tm h nx K a w r Q hk hs hg
    simp only [compC] at hc; cases hc
    exact wpIn_skip (hg .nrm tm h nx r a w hk hs (.refl r h w))
  | region id ops draw =>
    intro ac hc F ch hF hch tm h nx K a w r Q hk hs hg
    cases draw with
    | true =>
      simp only [compC] at hc
      split at hc
      · rename_i l hl
        cases hc
        exact draw_sound hch hm (plan_ok (hF ▸ hl)) id tm h nx K a w r Q hk hs hg
      · exact draw2_sound hch hm (hF ▸ hc) id tm h nx K a w r Q hk hs hg
    | false =>
      simp only [compC] at hc
      split at hc
      · rename_i l hl
        cases hc
        refine wpIn_region ?_
        rw [List.range_eq_range']
        exact ops_sound hch ops.size 0 l r tm h nx a w _ (by omega) (by rw [hF]; simpa using hl) hs hk fun tm' h' nx' r' a' w' k1 k2 k3 => hg .nrm tm' h' nx' r' a' w' k1 k2 k3
      · cases hc
  | seq x y ihx ihy =>
    intro ac hc F ch hF hch tm h nx K a w r Q hk hs hg
    simp only [compC] at hc
    split at hc
    · rename_i x' y' hx hy
      cases hc
      refine wpIn_seq (ihx x' hx F ch hF hch tm h nx _ a w r _ hk hs fun e tm' h' nx' r' a' w' k1 k2 k3 => ?_)
      cases e with
      | nrm => exact ihy y' hy F ch hF hch tm' h' nx' K a' w' r' Q k1 k2 (hg.ev k3)
      | exit id => exact hg _ _ _ _ _ _ _ k1 k2 k3
      | ret => exact hg _ _ _ _ _ _ _ k1 k2 k3
    · cases hc
  | cond c x y ihx ihy =>
    intro ac hc F ch hF hch tm h nx K a w r Q hk hs hg
    simp only [compC] at hc
    split at hc
    · rename_i c' x' y' hcx hx hy
      cases hc
      have hk : evK tm c' fun v => match v with
        | .bool x => Bool.rec (motive := fun _ => Prop) (den y' ch tm h nx K) (den x' ch tm h nx K) x
        | _ => False := hk
      obtain ⟨v, k1, k2, k3⟩ := evK_spec (cx_spec hcx) hs.tr hk
      split at k1
      · rename_i b
        cases b with
        | true => exact wpIn_cond (t := true) (by rw [k2]; simp [conc]) (ihx x' hx F ch hF hch tm h nx K a w r Q k1 hs hg)
        | false => exact wpIn_cond (t := false) (by rw [k2]; simp [conc]) (ihy y' hy F ch hF hch tm h nx K a w r Q k1 hs hg)
      · exact k1.elim
    · cases hc
  | block id b ih =>
    intro ac hc F ch hF hch tm h nx K a w r Q hk hs hg
    simp only [compC] at hc
    split at hc
    · rename_i b' hb
      cases hc
      refine wpIn_block (ih b' hb F ch hF hch tm h nx _ a w r _ hk hs fun e tm' h' nx' r' a' w' k1 k2 k3 => ?_)
      cases e with
      | nrm => exact hg .nrm _ _ _ _ _ _ k1 k2 k3
      | ret => exact hg .ret _ _ _ _ _ _ k1 k2 k3
      | exit i =>
        simp only [toExit, Exit.inBlock]
        have k1 : Bool.rec (motive := fun _ => Prop) (K (.exit i) tm' h' nx') (K .nrm tm' h' nx') (Nat.beq i id) := k1
        cases hb : Nat.beq i id with
        | true =>
          rw [hb] at k1
          rw [if_pos (Nat.eq_of_beq_eq_true hb)]
          exact hg .nrm _ _ _ _ _ _ k1 k2 k3
        | false =>
          rw [hb] at k1
          rw [if_neg (fun e => by rw [e, Nat.beq_refl] at hb; cases hb)]
          exact hg (.exit i) _ _ _ _ _ _ k1 k2 k3
    · cases hc
  | loop b ih =>
    intro ac hc F ch hF hch tm h nx K a w r Q hk hs hg
    simp only [compC] at hc
    split at hc
    · rename_i b' hb
      cases hc
      exact wp_of_loop (loop_sound (ih b' hb F ch hF hch) 1000000 tm h nx K a w r Q hk hs hg)
    · cases hc
  | exit id =>
    intro ac hc F ch hF hch tm h nx K a w r Q hk hs hg
    simp only [compC] at hc; cases hc
    exact wpIn_exit (hg (.exit id) tm h nx r a w hk hs (.refl r h w))
  | ret =>
    intro ac hc F ch hF hch tm h nx K a w r Q hk hs hg
    simp only [compC] at hc; cases hc
    exact wpIn_ret (hg .ret tm h nx r a w hk hs (.refl r h w))
  | rangeFunc g ps x y ihx ihy =>
    intro ac hc F ch hF hch tm h nx K a w r Q hk hs hg
    simp only [compC] at hc
    split at hc
    · rename_i g' ps' x' y' hg' hps hx hy
      cases hc
      exact range_sound hF hch (cx_spec hg') hps (ihx x' hx) (ihy y' hy) tm h nx K a w r Q hk hs hg
    · cases hc
  | scope b ih =>
    intro ac hc F ch hF hch tm h nx K a w r Q hk hs hg
    simp only [compC] at hc
    refine wp_scope (ih ac hc F ch hF hch tm h nx K a w r _ hk hs fun e tm' h' nx' r' a' w' k1 k2 k3 => ?_)
    cases e <;> exact hg _ _ _ _ _ _ _ k1 k2 k3
  | label l =>
    intro ac hc F ch hF hch tm h nx K a w r Q hk hs hg
    simp only [compC] at hc; cases hc
    exact wpIn_label (hg .nrm tm h nx r a w hk hs (.refl r h w))
  | goto l =>
    intro ac hc F ch hF hch tm h nx K a w r Q hk hs hg
    simp only [compC] at hc; cases hc
    exact hk.elim
  | refuse => intro ac hc; simp [compC] at hc

theorem FunOk.sem {f : Nat} {af : AF} (hm : P.follows .mixedOrders = true) (hf : FunOk P f af) : FunSem P f af :=
  fun _ ch hcur hch _ _ _ _ _ _ _ hk hE H ha hR => call_sound hcur hf (fun F c ac hc => den_sound hm F.m c ac hc F ch rfl hch) hE H ha hk hR

theorem call_ok {funs : T AF} (hf : FunsOk P funs) : ∀ n, CHok P w0 (callN funs n)
  | 0 => fun _ _ _ _ _ _ _ _ _ hk => hk.elim
  | n + 1 => fun loops p args h nx K r w R hk hE H ha hR => by
    obtain ⟨af, haf, hk⟩ := (T.getK_iff _ _ _).1 hk
    exact hf p af haf w0 ⟨callN funs n, none, loops⟩ rfl (call_ok hf n) args h nx K r w R hk hE H ha hR

/-- a call from outside, of plain arguments -/
theorem run_sound {funs : T AF} (hf : FunsOk P funs) {n : Nat} {p : Pt} {args : List AV} {R : Ending → World → Prop} (w : World) (xs : Array Value) (hx : (∀ r, concL r args = xs.toList) ∧ ∀ n, okL n args) {K : AV → T AO → Pt → Prop}
    (hk : callN funs n .l p args .l .e K) (hR : ∀ v h nx r w', K v h nx → WR P w r h nx w' → okV r.has v → R (.returned (conc r v)) w') : Calls P p.toNat xs w R := by
  have L : Loop := { state := .ready, pending := none, fn := 0, tmps := #[], params := #[], assign := .skip, body := .skip, defers := 0 }
  have H : WR P w ⟨fun _ => False, fun _ => False, fun _ => 0, fun _ => 0, fun _ => L⟩ .l .e w := ⟨fun _ e => e.elim (fun e => e.elim) (fun e => e.elim), fun _ e => e.elim, Below.refl _ _, fun k o hk => (by rw [T.find_l] at hk; cases hk), fun j k oj ok hj => (by rw [T.find_l] at hj; cases hj)⟩
  have := (call_ok hf n .l p args .l .e K ⟨fun _ => False, fun _ => False, fun _ => 0, fun _ => 0, fun _ => L⟩ w R hk (fun k rs hk => (by rw [T.find_l] at hk; cases hk)) H (hx.2 _) fun v h' nx' r' w' c1 c2 c3 c4 => hR v h' nx' r' w' c1 c2 c4).2
  rw [hx.1] at this
  simpa using this

end
end Go.Proofs.YteaokkkikfjhdaaGreat.X

/- An executor for closed calls, 28: a table of functions. -/
namespace Go.Proofs.YteaokkkikfjhdaaGreat.X

def compF (P : Program) (f : Nat) : Option AF := match P.funcs[f]? with
  | none => none
  | some fn => match fn.name == "runtime.NumGoroutine" with
    | true => none
    | false => match fn.body with
      | none => none
      | some c => match compC P fn.ntmps c with
        | none => none
        | some ac => match mapO (compR P) fn.results.toList with
          | none => none
          | some rs => some ⟨den ac, rs⟩

theorem FunOk.of {P : Program} {f : Nat} {af : AF} (h : compF P f = some af) : FunOk P f af := by
  unfold compF at h
  split at h
  · cases h
  · rename_i fn hfn
    split at h
    · cases h
    · rename_i hname
      split at h
      · cases h
      · rename_i c hc
        split at h
        · cases h
        · rename_i ac hac
          split at h
          · cases h
          · rename_i rs hrs
            cases h
            exact ⟨fn, c, hfn, hname, hc, ⟨ac, hac, rfl⟩, hrs⟩

theorem FunSem.of {P : Program} {f : Nat} {af : AF} (hm : P.follows .mixedOrders = true) (h : compF P f = some af) : FunSem P f af := (FunOk.of h).sem hm

def TabOk (P : Program) (s : Pt → Pt) (t : T AF) : Prop := ∀ p af, t.find p = some af → FunSem P (s p).toNat af

theorem TabOk.l {P : Program} {s : Pt → Pt} : TabOk P s .l := fun p af h => by rw [T.find_l] at h; cases h

theorem TabOk.m {P : Program} {s : Pt → Pt} {a b : T AF} (ha : TabOk P (fun p => s (.z p)) a) (hb : TabOk P (fun p => s (.o p)) b) : TabOk P s (.m a b) := fun p af h => by
  cases p with
  | e => cases h
  | z p => exact ha p af h
  | o p => exact hb p af h

theorem TabOk.n {P : Program} {s : Pt → Pt} {a b : T AF} {v : AF} (hv : FunSem P (s .e).toNat v) (ha : TabOk P (fun p => s (.z p)) a) (hb : TabOk P (fun p => s (.o p)) b) : TabOk P s (.n a v b) := fun p af h => by
  cases p with
  | e => cases h; exact hv
  | z p => exact ha p af h
  | o p => exact hb p af h

theorem TabOk.funs {P : Program} {t : T AF} (h : TabOk P (fun p => p) t) : FunsOk P t := h

end Go.Proofs.YteaokkkikfjhdaaGreat.X
