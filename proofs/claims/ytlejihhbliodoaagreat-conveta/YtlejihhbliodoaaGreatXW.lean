/- An executor for closed calls, 23: a script is right for every order that may be drawn. -/
import Derived.Test.YtlejihhbliodoaaGreatXV
namespace Go.Proofs.YtlejihhbliodoaaGreat.X
open Go.RowKit

def It.isA : It → Bool
  | .a _ _ _ => true
  | _ => false

def delL (ps : List Pt) (tm : T AV) : T AV := ps.foldl T.del tm

theorem delL_sub {p : Pt} {v : AV} : ∀ {ps : List Pt} {tm : T AV}, (delL ps tm).find p = some v → tm.find p = some v ∧ p ∉ ps
  | [], tm, h => ⟨h, by simp⟩
  | q :: ps, tm, h => by
    obtain ⟨h1, h2⟩ := delL_sub (ps := ps) (tm := tm.del q) h
    by_cases e : p = q
    · subst e; rw [T.find_del] at h1; cases h1
    · rw [T.find_del_ne _ _ _ e] at h1
      exact ⟨h1, by simp only [List.mem_cons, not_or]; exact ⟨e, h2⟩⟩

theorem delL_out {p : Pt} : ∀ {ps : List Pt} {tm : T AV}, p ∉ ps → (delL ps tm).find p = tm.find p
  | [], _, _ => rfl
  | q :: ps, tm, h => by
    simp only [List.mem_cons, not_or] at h
    show (delL ps (tm.del q)).find p = _
    rw [delL_out h.2, T.find_del_ne _ _ _ h.1]

theorem step_any {o : AOp} (hq : quietB o = true) (hh : heapX ⟨none, .v o, none⟩ = false) {tm : T AV} {h h2 : T AO} {nx nx2 : Pt} {C : AV → Prop} (hk : stepV o tm h nx fun v _ _ => C v) : stepV o tm h2 nx2 fun v _ _ => C v := by
  cases o with
  | new vs e => cases hq
  | box e x => cases hq
  | buildS e n z ps => cases hq
  | st n x y => cases hq
  | mkS e n z l c => cases hq
  | app e n x y => cases hq
  | mkM => cases hq
  | ld1 x => cases hh
  | ldN n x => cases hh
  | lenM x => cases hh
  | lenC x => cases hh
  | mkC x => cases hq
  | lk z ok x k => cases hh
  | up x k v => cases hq
  | lkA n z ok x k => cases hh
  | upA n x k v => cases hq
  | cvB e x => cases hq
  | clr z x => cases hq
  | cvT x => cases hh
  | eq ek neg x y => cases hh
  | _ => exact hk

theorem nK_any {x : AOper} (hq : quietX x = true) (hh : heapX x = false) {tm : T AV} {h h2 : T AO} {nx nx2 : Pt} {c : AV → Prop} (hk : nK x tm h nx c) : nK x tm h2 nx2 c := by
  unfold nK at hk ⊢
  unfold quietX at hq
  unfold heapX at hh
  split
  · rename_i o ho
    simp only [ho] at hk hq hh
    split
    · rename_i hg
      simp only [hg] at hk
      exact step_any hq hh hk
    · rename_i g b hg
      simp only [hg] at hk
      exact wantK_congr rfl (step_any hq hh) id hk
  · rename_i hne
    split at hk
    · rename_i o ho; exact absurd ho (hne o)
    · exact hk

def ItOk (P : Program) (m : Nat) (ops : Array Oper) : It → Prop
  | .n i p x => ∃ o, ops[i]? = some o ∧ compOper P m ops o = some x ∧ x.dst = some p ∧ quietX x = true
  | .a i p op => ∃ o, ops[i]? = some o ∧ compOper P m ops o = some ⟨some p, .v op, none⟩
  | .e i _ rc x => ∃ o, ops[i]? = some o ∧ compOper P m ops o = some x ∧ ∀ q ∈ rc, quietX q.2 = true

/-- a script for a region that draws its order -/
structure Plan (P : Program) (m : Nat) (ops : Array Oper) (l : List It) : Prop where
  item : ∀ it ∈ l, ItOk P m ops it
  len : l.length = ops.size
  nodup : (l.map It.i).Nodup
  cover : ∀ i, i < ops.size → ∃ it ∈ l, it.i = i
  order : ∀ pre it post, l = pre ++ it :: post → ∀ o, ops[it.i]? = some o → ∀ e ∈ o.after, Region.binds .any e = true → ∃ y ∈ pre, y.i = e.on
  chain : ∀ pre it post, l = pre ++ it :: post → it.isE = true → ∀ y ∈ post, Anc ops y.i it.i
  dst : ∀ x ∈ l, ∀ y ∈ l, x.i ≠ y.i → ∀ p, x.dst = some p → y.dst ≠ some p
  self : ∀ x ∈ l, x.isE = false → ∀ p, x.dst = some p → p ∉ x.rd
  rdN : ∀ x ∈ l, ∀ y ∈ l, x.i ≠ y.i → y.isE = false → ∀ p, y.dst = some p → p ∈ x.rd → Anc ops x.i y.i
  rdL : ∀ pre x post, l = pre ++ x :: post → ∀ y ∈ post, y.isE = false → ∀ p, y.dst = some p → p ∉ x.rd
  rdE : ∀ pre x post, l = pre ++ x :: post → x.isE = true → ∀ y ∈ pre, y.isE = false → ∀ p, x.dst = some p → p ∈ y.rd → Anc ops x.i y.i
  abs : ∀ i ab rc x, It.e i ab rc x ∈ l → ∀ j ∈ ab, Anc ops i j
  rck : ∀ pre i ab rc x post, l = pre ++ .e i ab rc x :: post → ∀ j p y, It.n j p y ∈ pre → heapX y = true → Anc ops i j ∨ (p, y) ∈ rc

/-- the script is here, the drawn order there -/
structure Inv (P : Program) (w0 : World) (m : Nat) (ops : Array Oper) (l : List It) (ch : CH) (K : T AV → T AO → Pt → Prop) (r0 : Rho) (h0 : T AO) (wS : World) (ds : List Deferred)
    (fuel : Nat) (listed : Array Bool) (a : Act) (w : World) (pre U rest : List It) (F : List Fl) (tm : T AV) (h hh : T AO) (nx : Pt) (r : Rho) : Prop where
  split : l = pre ++ rest
  usub : ∀ u ∈ U, u ∈ pre ∧ u.isE = false
  und : (U.map It.i).Nodup
  fuel : fuel = U.length + rest.length
  lsz : listed.size = ops.size
  lst : ∀ i, i < ops.size → (listed.getD i true = false ↔ (∃ u ∈ U, u.i = i) ∨ ∃ y ∈ rest, y.i = i)
  clo : Closed ops listed
  wr : WR P w0 r hh nx w
  hhI : ∀ k o, hh.find k = some o ↔ h.find k = some o ∨ ∃ f ∈ F, (∀ u ∈ U, u.i ≠ f.i) ∧ f.n = k ∧ f.ob = o
  fi : ∀ f ∈ F, ∃ y ∈ pre, y.i = f.i ∧ y.isA = true
  fn : ∀ f ∈ F, h.find f.n = none
  fd : ∀ f ∈ F, ∀ g ∈ F, f.n = g.n → f = g
  fj : ∀ f ∈ F, ∀ g ∈ F, f.i = g.i → f = g
  fres : ∀ f ∈ F, ∀ u ∈ U, u.i = f.i → r.res f.n
  f0 : ∀ f ∈ F, ¬ r0.res f.n
  fnx : ∀ f ∈ F, f.n.toNat < nx.toNat
  nx0 : ∀ k, r0.res k → k.toNat < nx.toNat
  tr : ∀ p v, tm.find p = some v → (∀ u ∈ U, u.dst ≠ some p) → a.tmps[p.toNat]? = some (conc r v) ∧ okV r.has v
  factN : ∀ i p x, It.n i p x ∈ U → nK x tm h nx fun v => tm.find p = some v
  factA : ∀ i p op, It.a i p op ∈ U → ∃ f ∈ F, f.i = i ∧ floatK op tm f.n fun v ob => tm.find p = some v ∧ ob = f.ob
  size : m ≤ a.tmps.size
  defers : a.defers = ds
  ev : Ev r0 h0 wS r hh w
  run : denS rest F ch tm h nx K

section
variable {P : Program} {w0 : World} {m : Nat} {ops : Array Oper} {l : List It} {ch : CH} {K : T AV → T AO → Pt → Prop} {r0 : Rho} {h0 : T AO} {wS : World} {ds : List Deferred} {ro : Option Nat}
  {fuel : Nat} {listed : Array Bool} {a : Act} {w : World} {pre U rest : List It} {F : List Fl} {tm : T AV} {h hh : T AO} {nx : Pt} {r : Rho}

theorem idx_inj (hp : Plan P m ops l) {x y : It} (hx : x ∈ l) (hy : y ∈ l) (e : x.i = y.i) : x = y := by
  have hn := hp.nodup
  clear hp
  induction l with
  | nil => cases hx
  | cons z l ih =>
    simp only [List.map_cons, List.nodup_cons, List.mem_map, not_exists, not_and] at hn
    rcases List.mem_cons.1 hx with ex | hx1
    · rcases List.mem_cons.1 hy with ey | hy1
      · rw [ex, ey]
      · exact absurd (e.symm.trans (by rw [ex])) (hn.1 y hy1)
    · rcases List.mem_cons.1 hy with ey | hy1
      · exact absurd (e.trans (by rw [ey])) (hn.1 x hx1)
      · exact ih hx1 hy1 hn.2

theorem lt_of_item (hp : Plan P m ops l) {x : It} (hx : x ∈ l) : x.i < ops.size := by
  have := hp.item x hx
  cases x <;> (obtain ⟨o, ho, -⟩ := this; exact (Array.getElem?_eq_some_iff.1 ho).1)

theorem getD_ne {b : Array Bool} {i : Nat} (h1 : b.getD i true = false) (h2 : b.getD i false = true) : False := by
  rcases Nat.lt_or_ge i b.size with h' | h'
  · simp [h'] at h1 h2; rw [h1] at h2; cases h2
  · simp [Array.getElem?_eq_none h'] at h2

theorem getD_or {b : Array Bool} {i : Nat} (hi : i < b.size) (h1 : ¬ b.getD i true = false) : b.getD i false = true := by
  simp [hi] at h1 ⊢; exact h1

/-- what is ready does not look at what is late -/
theorem Inv.reads (I : Inv P w0 m ops l ch K r0 h0 wS ds fuel listed a w pre U rest F tm h hh nx r) (hp : Plan P m ops l) {x : It} (hx : x ∈ l) {o : Oper} (ho : ops[x.i]? = some o) (hall : ∀ e ∈ o.after, Region.binds .any e = true → listed.getD e.on false = true)
    : ∀ p ∈ x.rd, ∀ u ∈ U, u.dst ≠ some p := by
  intro p hpr u hu hd
  have hul : u ∈ l := by rw [I.split]; exact List.mem_append.2 (.inl (I.usub u hu).1)
  have hun : listed.getD u.i true = false := (I.lst u.i (lt_of_item hp hul)).2 (.inl ⟨u, hu, rfl⟩)
  by_cases e : x.i = u.i
  · have := idx_inj hp hx hul e
    subst this
    exact hp.self x hx (I.usub x hu).2 p hd hpr
  · exact getD_ne hun (Anc.listed I.clo ho hall (hp.rdN x hx u hul e (I.usub u hu).2 p hd hpr))

/-- the slots that are not late -/
def tmU (U : List It) (tm : T AV) : T AV := delL (U.filterMap It.dst) tm

theorem tmU_find {p : Pt} (h : ∀ u ∈ U, u.dst ≠ some p) : (tmU U tm).find p = tm.find p := delL_out fun hm => by
  obtain ⟨u, hu, hd⟩ := List.mem_filterMap.1 hm
  exact h u hu hd

theorem Inv.trU (I : Inv P w0 m ops l ch K r0 h0 wS ds fuel listed a w pre U rest F tm h hh nx r) : TR r (tmU U tm) a.tmps := fun p v hv => by
  obtain ⟨h1, h2⟩ := delL_sub hv
  exact I.tr p v h1 fun u hu hd => h2 (List.mem_filterMap.2 ⟨u, hu, hd⟩)

theorem factN_set {x : AOper} (hq : quietX x = true) {p p' : Pt} {v : AV} (hr : p ∉ rdX x) (hne : p' ≠ p) (hk : nK x tm h nx fun v => tm.find p' = some v) : nK x (tm.set v p) h nx fun u => (tm.set v p).find p' = some u :=
  nK_congr (fun q hq' => T.find_set_ne _ _ _ _ fun e => hr (e ▸ hq')) (nK_imp hq (fun u hu => by rw [T.find_set_ne _ _ _ _ hne]; exact hu) hk)

theorem floatK_imp {op : AOp} {n : Pt} {c c' : AV → AO → Prop} (hc : ∀ v o, c v o → c' v o) (hk : floatK op tm n c) : floatK op tm n c' := by
  cases op with
  | new vs e => exact hc _ _ hk
  | box e x => exact evK_imp (fun v hv => hc _ _ hv) hk
  | buildS e k z ps =>
    obtain ⟨vs, g1, g2⟩ := fillK_val hk
    rw [forceL_iff] at g1
    exact g2 _ ((forceL_iff _ _).2 (hc _ _ g1))
  | mkM => exact hc _ _ hk
  | cvB e x =>
    refine evK_imp (fun v hv => ?_) hk
    split at hv
    · rw [forceL_iff, forceN_iff] at hv
      show forceL _ _
      rw [forceL_iff, forceN_iff]
      exact hc _ _ hv
    · exact hv.elim
  | _ => exact hk.elim

theorem factA_set {op : AOp} {n p p' : Pt} {ob : AO} {v : AV} (hr : p ∉ (opX op).flatMap axP) (hne : p' ≠ p) (hk : floatK op tm n fun v o => tm.find p' = some v ∧ o = ob) : floatK op (tm.set v p) n fun u o => (tm.set v p).find p' = some u ∧ o = ob :=
  floatK_congr (fun y hy => valX_of fun q hq => T.find_set_ne _ _ _ _ fun e => hr (e ▸ List.mem_flatMap.2 ⟨y, hy, hq⟩)) (floatK_imp (fun u o hu => ⟨by rw [T.find_set_ne _ _ _ _ hne]; exact hu.1, hu.2⟩) hk)

theorem Inv.notU (hp : Plan P m ops l) {it : It} {rest : List It} (I : Inv P w0 m ops l ch K r0 h0 wS ds fuel listed a w pre U (it :: rest) F tm h hh nx r) : ∀ y ∈ pre, y.i ≠ it.i := fun u hu e => by
  have hn := hp.nodup
  rw [I.split, List.map_append, List.nodup_append] at hn
  exact hn.2.2 _ (List.mem_map.2 ⟨u, hu, rfl⟩) _ (List.mem_map.2 ⟨it, List.mem_cons_self .., rfl⟩) e

/-- what comes up ahead does not read what a later one that does not act writes -/
theorem Inv.ahead (hp : Plan P m ops l) {it : It} {rest : List It} (I : Inv P w0 m ops l ch K r0 h0 wS ds fuel listed a w pre U (it :: rest) F tm h hh nx r) (hE : it.isE = false) {p : Pt} (hd : it.dst = some p) : ∀ y ∈ pre, p ∉ y.rd := fun y hy => by
  obtain ⟨s, t, rfl⟩ := List.append_of_mem hy
  exact hp.rdL s y (t ++ it :: rest) (by rw [I.split]; simp) it (by simp) hE p hd

theorem Inv.inl (I : Inv P w0 m ops l ch K r0 h0 wS ds fuel listed a w pre U rest F tm h hh nx r) : (∀ y ∈ pre, y ∈ l) ∧ (∀ u ∈ U, u ∈ l) ∧ ∀ y ∈ rest, y ∈ l := by
  refine ⟨fun y hy => ?_, fun u hu => ?_, fun y hy => ?_⟩
  · rw [I.split]; exact List.mem_append.2 (.inl hy)
  · rw [I.split]; exact List.mem_append.2 (.inl (I.usub u hu).1)
  · rw [I.split]; exact List.mem_append.2 (.inr hy)

/-- an operation that looks comes up in the script -/
theorem Inv.lookN (hp : Plan P m ops l) {i : Nat} {p : Pt} {x : AOper} {rest : List It} (I : Inv P w0 m ops l ch K r0 h0 wS ds fuel listed a w pre U (.n i p x :: rest) F tm h hh nx r) :
    ∃ tm', Inv P w0 m ops l ch K r0 h0 wS ds fuel listed a w (pre ++ [.n i p x]) (U ++ [.n i p x]) rest F tm' h hh nx r := by
  have hxl : It.n i p x ∈ l := I.inl.2.2 _ (List.mem_cons_self ..)
  obtain ⟨o, ho, hc, hd, hq⟩ := hp.item _ hxl
  have hrun : nK x tm h nx fun v => tm.setK v p fun tm => denS rest F ch tm h nx K := I.run
  obtain ⟨v, h1, h2⟩ := nK_val hq hrun
  rw [T.setK_iff] at h1
  have hpre := I.notU hp
  have hah := I.ahead hp rfl rfl
  have hUi : ∀ u ∈ U, u.i ≠ i := fun u hu => hpre u (I.usub u hu).1
  have hUd : ∀ u ∈ U, u.dst ≠ some p := fun u hu => hp.dst _ hxl u (I.inl.2.1 u hu) (fun e => hUi u hu e.symm) p rfl
  have hFi : ∀ f ∈ F, f.i ≠ i := fun f hf e => by obtain ⟨y, hy, h, -⟩ := I.fi f hf; exact hpre y hy (h.trans e)
  refine ⟨tm.set v p, ⟨by rw [I.split]; simp, ?_, ?_, ?_, I.lsz, ?_, I.clo, I.wr, ?_, ?_, I.fn, I.fd, I.fj, ?_, I.f0, I.fnx, I.nx0, ?_, ?_, ?_, I.size, I.defers, I.ev, h1⟩⟩
  · intro u hu
    rcases List.mem_append.1 hu with hu | hu
    · exact ⟨List.mem_append.2 (.inl (I.usub u hu).1), (I.usub u hu).2⟩
    · rw [List.mem_singleton.1 hu]; exact ⟨by simp, rfl⟩
  · rw [List.map_append, List.nodup_append]
    refine ⟨I.und, by simp, fun a ha b hb e => ?_⟩
    obtain ⟨u, hu, rfl⟩ := List.mem_map.1 ha
    simp only [List.map_cons, List.map_nil, List.mem_singleton] at hb
    exact hUi u hu (e.trans hb)
  · rw [I.fuel]; simp; omega
  · intro j hj
    rw [I.lst j hj]
    simp only [List.mem_append, List.mem_cons, List.not_mem_nil, or_false]
    constructor
    · rintro (⟨u, hu, e⟩ | ⟨y, rfl | hy, e⟩)
      · exact .inl ⟨u, .inl hu, e⟩
      · exact .inl ⟨_, .inr rfl, e⟩
      · exact .inr ⟨y, hy, e⟩
    · rintro (⟨u, hu | rfl, e⟩ | ⟨y, hy, e⟩)
      · exact .inl ⟨u, hu, e⟩
      · exact .inr ⟨_, .inl rfl, e⟩
      · exact .inr ⟨y, .inr hy, e⟩
  · intro k o
    rw [I.hhI k o]
    refine or_congr Iff.rfl (exists_congr fun f => and_congr_right fun hf => and_congr_left fun _ => ⟨fun hU u hu => ?_, fun hU u hu => hU u (List.mem_append.2 (.inl hu))⟩)
    rcases List.mem_append.1 hu with hu | hu
    · exact hU u hu
    · rw [List.mem_singleton.1 hu]; exact fun e => hFi f hf e.symm
  · intro f hf
    obtain ⟨y, hy, e⟩ := I.fi f hf
    exact ⟨y, List.mem_append.2 (.inl hy), e⟩
  · intro f hf u hu e
    rcases List.mem_append.1 hu with hu | hu
    · exact I.fres f hf u hu e
    · rw [List.mem_singleton.1 hu] at e; exact absurd e.symm (hFi f hf)
  · intro q u hu hn
    have hqp : q ≠ p := fun e => hn (.n i p x) (by simp) (by rw [e]; rfl)
    rw [T.find_set_ne _ _ _ _ hqp] at hu
    exact I.tr q u hu fun y hy => hn y (List.mem_append.2 (.inl hy))
  · intro j q y hy
    rcases List.mem_append.1 hy with hy | hy
    · have hyl := I.inl.2.1 _ hy
      obtain ⟨_, _, _, _, hqy⟩ := hp.item _ hyl
      exact factN_set hqy (hah _ (I.usub _ hy).1) (fun e => hUd _ hy (by rw [← e]; rfl)) (I.factN j q y hy)
    · cases List.mem_singleton.1 hy
      exact nK_congr (fun q hq' => T.find_set_ne _ _ _ _ fun e => hp.self _ hxl rfl p rfl (by rw [← e]; exact hq')) (nK_imp hq (fun u hu => by rw [hu, T.find_set]) h2)
  · intro j q op hy
    rcases List.mem_append.1 hy with hy | hy
    · obtain ⟨f, hf, e, hk⟩ := I.factA j q op hy
      exact ⟨f, hf, e, factA_set (hah _ (I.usub _ hy).1) (fun e => hUd _ hy (by rw [← e]; rfl)) hk⟩
    · cases List.mem_singleton.1 hy

/-- an operation that makes a block comes up in the script -/
theorem Inv.makeA (hp : Plan P m ops l) {i : Nat} {p : Pt} {op : AOp} {rest : List It} (I : Inv P w0 m ops l ch K r0 h0 wS ds fuel listed a w pre U (.a i p op :: rest) F tm h hh nx r) :
    ∃ tm' F' nx' r', Inv P w0 m ops l ch K r0 h0 wS ds fuel listed a w (pre ++ [.a i p op]) (U ++ [.a i p op]) rest F' tm' h hh nx' r' := by
  have hxl : It.a i p op ∈ l := I.inl.2.2 _ (List.mem_cons_self ..)
  obtain ⟨o, ho, hc⟩ := hp.item _ hxl
  have hrun : floatK op tm nx fun v ob => tm.setK v p fun tm => forceP nx.succ fun nx' => denS rest (⟨i, nx, ob⟩ :: F) ch tm h nx' K := I.run
  obtain ⟨v, ob, h1, h2⟩ := floatK_val hrun
  rw [T.setK_iff, forceP_iff] at h1
  have hpre := I.notU hp
  have hah := I.ahead hp rfl rfl
  have hUi : ∀ u ∈ U, u.i ≠ i := fun u hu => hpre u (I.usub u hu).1
  have hUd : ∀ u ∈ U, u.dst ≠ some p := fun u hu => hp.dst _ hxl u (I.inl.2.1 u hu) (fun e => hUi u hu e.symm) p rfl
  have hFi : ∀ f ∈ F, f.i ≠ i := fun f hf e => by obtain ⟨y, hy, h, -⟩ := I.fi f hf; exact hpre y hy (h.trans e)
  have hnone : ∀ k o, h.find k = some o → k ≠ nx := fun k o hk e => by
    have := (I.wr.has k o ((I.hhI k o).2 (.inl hk))).1
    exact I.wr.fresh (e ▸ this)
  have hFn : ∀ f ∈ F, f.n ≠ nx := fun f hf e => by have := I.fnx f hf; rw [e] at this; omega
  refine ⟨tm.set v p, ⟨i, nx, ob⟩ :: F, nx.succ, r.aside nx, ⟨by rw [I.split]; simp, ?_, ?_, ?_, I.lsz, ?_, I.clo, I.wr.aside, ?_, ?_, ?_, ?_, ?_, ?_, ?_, ?_, ?_, ?_, ?_, ?_, I.size, I.defers, ⟨I.ev.le.trans (r.le_aside nx), I.ev.size, I.ev.fr, I.ev.img⟩, h1⟩⟩
  · intro u hu
    rcases List.mem_append.1 hu with hu | hu
    · exact ⟨List.mem_append.2 (.inl (I.usub u hu).1), (I.usub u hu).2⟩
    · rw [List.mem_singleton.1 hu]; exact ⟨by simp, rfl⟩
  · rw [List.map_append, List.nodup_append]
    refine ⟨I.und, by simp, fun a ha b hb e => ?_⟩
    obtain ⟨u, hu, rfl⟩ := List.mem_map.1 ha
    simp only [List.map_cons, List.map_nil, List.mem_singleton] at hb
    exact hUi u hu (e.trans hb)
  · rw [I.fuel]; simp; omega
  · intro j hj
    rw [I.lst j hj]
    simp only [List.mem_append, List.mem_cons, List.not_mem_nil, or_false]
    constructor
    · rintro (⟨u, hu, e⟩ | ⟨y, rfl | hy, e⟩)
      · exact .inl ⟨u, .inl hu, e⟩
      · exact .inl ⟨_, .inr rfl, e⟩
      · exact .inr ⟨y, hy, e⟩
    · rintro (⟨u, hu | rfl, e⟩ | ⟨y, hy, e⟩)
      · exact .inl ⟨u, hu, e⟩
      · exact .inr ⟨_, .inl rfl, e⟩
      · exact .inr ⟨y, .inr hy, e⟩
  · intro k o
    rw [I.hhI k o]
    refine or_congr Iff.rfl ⟨?_, ?_⟩
    · rintro ⟨f, hf, hU, e⟩
      refine ⟨f, List.mem_cons_of_mem _ hf, fun u hu => ?_, e⟩
      rcases List.mem_append.1 hu with hu | hu
      · exact hU u hu
      · rw [List.mem_singleton.1 hu]; exact fun e => hFi f hf e.symm
    · rintro ⟨f, hf, hU, e⟩
      rcases List.mem_cons.1 hf with rfl | hf
      · exact absurd rfl (hU (.a i p op) (by simp))
      · exact ⟨f, hf, fun u hu => hU u (List.mem_append.2 (.inl hu)), e⟩
  · intro f hf
    rcases List.mem_cons.1 hf with rfl | hf
    · exact ⟨.a i p op, by simp, rfl, rfl⟩
    · obtain ⟨y, hy, e⟩ := I.fi f hf
      exact ⟨y, List.mem_append.2 (.inl hy), e⟩
  · intro f hf
    rcases List.mem_cons.1 hf with rfl | hf
    · cases hx : h.find nx with
      | none => rfl
      | some o => exact absurd rfl (hnone nx o hx)
    · exact I.fn f hf
  · intro f hf g hg e
    rcases List.mem_cons.1 hf with rfl | hf
    · rcases List.mem_cons.1 hg with rfl | hg
      · rfl
      · exact absurd e.symm (hFn g hg)
    · rcases List.mem_cons.1 hg with rfl | hg
      · exact absurd e (hFn f hf)
      · exact I.fd f hf g hg e
  · intro f hf g hg e
    rcases List.mem_cons.1 hf with rfl | hf
    · rcases List.mem_cons.1 hg with rfl | hg
      · rfl
      · exact absurd e.symm (hFi g hg)
    · rcases List.mem_cons.1 hg with rfl | hg
      · exact absurd e (hFi f hf)
      · exact I.fj f hf g hg e
  · intro f hf u hu e
    rcases List.mem_cons.1 hf with rfl | hf
    · exact Or.inl rfl
    · rcases List.mem_append.1 hu with hu | hu
      · exact Or.inr (I.fres f hf u hu e)
      · rw [List.mem_singleton.1 hu] at e; exact absurd e.symm (hFi f hf)
  · intro f hf
    rcases List.mem_cons.1 hf with rfl | hf
    · intro hr
      have := I.nx0 _ hr
      exact Nat.lt_irrefl _ this
    · exact I.f0 f hf
  · intro f hf
    rw [Pt.toNat_succ]
    rcases List.mem_cons.1 hf with rfl | hf
    · exact Nat.lt_succ_self _
    · exact Nat.lt_succ_of_lt (I.fnx f hf)
  · intro k hk
    rw [Pt.toNat_succ]
    exact Nat.lt_succ_of_lt (I.nx0 k hk)
  · intro q u hu hn
    have hqp : q ≠ p := fun e => hn (.a i p op) (by simp) (by rw [e]; rfl)
    rw [T.find_set_ne _ _ _ _ hqp] at hu
    rw [conc_aside]
    exact I.tr q u hu fun y hy => hn y (List.mem_append.2 (.inl hy))
  · intro j q y hy
    rcases List.mem_append.1 hy with hy | hy
    · have hyl := I.inl.2.1 _ hy
      obtain ⟨_, _, _, _, hqy⟩ := hp.item _ hyl
      exact nK_heap hqy (fun _ _ h => h) (factN_set hqy (hah _ (I.usub _ hy).1) (fun e => hUd _ hy (by rw [← e]; rfl)) (I.factN j q y hy))
    · cases List.mem_singleton.1 hy
  · intro j q op' hy
    rcases List.mem_append.1 hy with hy | hy
    · obtain ⟨f, hf, e, hk⟩ := I.factA j q op' hy
      exact ⟨f, List.mem_cons_of_mem _ hf, e, factA_set (hah _ (I.usub _ hy).1) (fun e => hUd _ hy (by rw [← e]; rfl)) hk⟩
    · cases List.mem_singleton.1 hy
      refine ⟨⟨i, nx, ob⟩, List.mem_cons_self .., rfl, ?_⟩
      exact floatK_congr (fun y hy => valX_of fun q hq' => T.find_set_ne _ _ _ _ fun e => hp.self _ hxl rfl p rfl (by rw [← e]; exact List.mem_flatMap.2 ⟨y, hy, hq'⟩)) (floatK_imp (fun u o hu => ⟨by rw [hu.1, T.find_set], hu.2⟩) h2)

end
end Go.Proofs.YtlejihhbliodoaaGreat.X
