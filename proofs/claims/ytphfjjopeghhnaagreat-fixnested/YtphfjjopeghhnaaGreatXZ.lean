/- An executor for closed calls, 26: a region that draws its order. -/
import Derived.Test.YtphfjjopeghhnaaGreatXY
namespace Go.Proofs.YtphfjjopeghhnaaGreat.X
open Go.RowKit
section
variable {P:Program} {w0:World} {m:Nat} {ops:Array Oper} {l:List It} {ch:CH} {K:S→T AO→Pt→Prop} {r0:Rho} {h0:T AO} {wS:World} {ds:List Deferred} {ro:Option Nat}
theorem first_of {α:Type} {p:α→Prop}:∀ {l:List α},(∃ x ∈ l,p x)→∃ s x t,l=s ++ x :: t∧p x∧∀ y ∈ s,¬ p y
 | [],h=>by obtain ⟨x,hx,-⟩:=h; cases hx
 | z :: l,h=>by
  by_cases e:p z
  ·exact ⟨[],z,l,rfl,e,fun y hy=>by cases hy⟩
  ·obtain ⟨x,hx,hpx⟩:=h
   rcases List.mem_cons.1 hx with rfl | hx
   ·exact absurd hpx e
   ·obtain ⟨s,x,t,h1,h2,h3⟩:=first_of ⟨x,hx,hpx⟩
    refine ⟨z :: s,x,t,by rw [h1]; rfl,h2,fun y hy=>?_⟩
    rcases List.mem_cons.1 hy with rfl | hy
    ·exact e
    ·exact h3 y hy
theorem draw_real (hch:CHq P w0 ch) (hE:EnvOk P w0 ch.loops r0) (hp:Plan P m ops l) {Q:Exit→Act→World→Prop} (hQ:∀ tm' h' nx' r' a' w',K tm' h' nx'→WR P w0 r' h' nx' w'→TR r' tm' a'.tmps→m≤a'.tmps.size→a'.defers=ds→Ev r0 h0 wS r' h' w'→Q .normal a' w')
  {fuel:Nat} {listed:Array Bool} {a:Act} {w:World} {pre U rest:List It} {F:List Fl} {tm:S} {h hh:T AO} {nx:Pt} {r:Rho} (I:Inv P w0 m ops l ch K r0 h0 wS ds fuel listed a w pre U rest F tm h hh nx r)
  (hr:∀ y rest',rest=y :: rest'→y.isE=true)
  (ih:∀ fuel',fuel=fuel'+1→∀ rest listed a w pre U F tm h hh nx r,Inv P w0 m ops l ch K r0 h0 wS ds fuel' listed a w pre U rest F tm h hh nx r→wpAnyIn (Wr ro) 0 P .any ops Q fuel' listed a w):wpAnyIn (Wr ro) 0 P .any ops Q fuel listed a w:=by
 cases fuel with
 | zero =>
  have hf:=I.fuel
  have hU:U=[]:=List.length_eq_zero_iff.1 (by omega)
  have hR:rest=[]:=List.length_eq_zero_iff.1 (by omega)
  subst hU; subst hR
  refine ⟨?_,?_⟩
  ·refine List.eq_nil_iff_forall_not_mem.2 fun i hi=>?_
   obtain ⟨h1,o,ho,-⟩:=mem_ready.1 hi
   rcases (I.lst i (Array.getElem?_eq_some_iff.1 ho).1).1 h1 with ⟨u,hu,-⟩ | ⟨u,hu,-⟩ <;> cases hu
  ·have hrun:absK (fun _=>true) F h [] fun _ h=>K tm h nx:=I.run
   obtain ⟨F',h',k1,-,k3⟩:=absK_spec hrun
   have hs:∀ k o,h'.find k=some o→hh.find k=some o:=fun k o hk=>by
    refine (I.hhI k o).2 ?_
    rcases k3 k o hk with h1 | ⟨f,hf,-,e⟩
    ·exact .inl h1
    ·exact .inr ⟨f,hf,fun u hu=>(by cases hu),e⟩
   exact hQ tm h' nx r a w k1 (I.wr.sub hs) (fun p v hv=>I.tr p v hv fun u hu=>(by cases hu)) I.size I.defers (I.ev.trans (Ev.sub hs))
 | succ fuel =>
  refine ⟨fun hempty=>?_,fun i hi=>?_⟩
  ·exfalso
   have hex:∃ x ∈ l,listed.getD x.i true=false:=by
    have hf:=I.fuel
    cases U with
    | cons u U=>exact ⟨u,I.inl.2.1 u (List.mem_cons_self ..),(I.lst u.i (lt_of_item hp (I.inl.2.1 u (List.mem_cons_self ..)))).2 (.inl ⟨u,List.mem_cons_self ..,rfl⟩)⟩
    | nil=>cases rest with
     | cons u rest=>exact ⟨u,I.inl.2.2 u (List.mem_cons_self ..),(I.lst u.i (lt_of_item hp (I.inl.2.2 u (List.mem_cons_self ..)))).2 (.inr ⟨u,List.mem_cons_self ..,rfl⟩)⟩
     | nil=>simp at hf
   obtain ⟨s,x,t,e,h1,h2⟩:=first_of hex
   have hxl:x ∈ l:=by rw [e]; simp
   have hlt:=lt_of_item hp hxl
   have hmem:x.i ∈ Region.ready .any ops listed:=by
    refine mem_ready.2 ⟨h1,ops[x.i],by simp [hlt],fun d hd hb=>?_⟩
    obtain ⟨y,hy,ey⟩:=hp.order s x t e ops[x.i] (by simp [hlt]) d hd hb
    have hyl:y ∈ l:=by rw [e]; simp [hy]
    have:=h2 y hy
    rw [← ey]
    exact getD_or (by rw [I.lsz]; exact lt_of_item hp hyl) this
   rw [hempty] at hmem
   cases hmem
  ·obtain ⟨hun,o,ho,hall⟩:=mem_ready.1 hi
   have hi':i<ops.size:=(Array.getElem?_eq_some_iff.1 ho).1
   rcases (I.lst i hi').1 hun with ⟨u,hu,e⟩ | ⟨y,hy,e⟩
   ·subst e
    cases u with
    | n j bs p x=>exact I.catchN hch hE hp hu ho hall fun a' w' r' I'=>ih fuel rfl _ _ _ _ _ _ _ _ _ _ _ _ I'
    | a j p op=>exact I.catchA hp hu ho hall fun a' w' hh' r' I'=>ih fuel rfl _ _ _ _ _ _ _ _ _ _ _ _ I'
    | e j ab rc x=>exact absurd (I.usub _ hu).2 (by simp [It.isE])
   ·cases rest with
    | nil=>cases hy
    | cons z rest' =>
     have hz:=hr z rest' rfl
     cases z with
     | n j bs p x=>cases hz
     | a j p op=>cases hz
     | e j ab rc x =>
      rcases List.mem_cons.1 hy with rfl | hy'
      ·subst e
       exact I.actE hch hE hp ho hall fun a' w' F' tm' h' hh' nx' r' I'=>ih fuel rfl _ _ _ _ _ _ _ _ _ _ _ _ I'
      ·exfalso
       have hj:listed.getD j true=false:=(I.lst j (lt_of_item hp (I.inl.2.2 _ (List.mem_cons_self ..)))).2 (.inr ⟨_,List.mem_cons_self ..,rfl⟩)
       have ha:=hp.chain pre _ rest' I.split rfl y hy'
       rw [e] at ha
       exact getD_ne hj (Anc.listed I.clo ho hall ha)
theorem draw_main (hch:CHq P w0 ch) (hE:EnvOk P w0 ch.loops r0) (hp:Plan P m ops l) {Q:Exit→Act→World→Prop} (hQ:∀ tm' h' nx' r' a' w',K tm' h' nx'→WR P w0 r' h' nx' w'→TR r' tm' a'.tmps→m≤a'.tmps.size→a'.defers=ds→Ev r0 h0 wS r' h' w'→Q .normal a' w') :
  ∀ (fuel:Nat) (rest:List It) (listed:Array Bool) (a:Act) (w:World) (pre U:List It) (F:List Fl) (tm:S) (h hh:T AO) (nx:Pt) (r:Rho),Inv P w0 m ops l ch K r0 h0 wS ds fuel listed a w pre U rest F tm h hh nx r→wpAnyIn (Wr ro) 0 P .any ops Q fuel listed a w:=by
 intro fuel
 induction fuel with
 | zero =>
  intro rest
  induction rest with
  | nil=>intro listed a w pre U F tm h hh nx r I; exact draw_real hch hE hp hQ I (fun y r e=>by cases e) fun f e=>by cases e
  | cons z rest ihr =>
   intro listed a w pre U F tm h hh nx r I
   have:=I.fuel
   simp at this
 | succ fuel ih =>
  intro rest
  induction rest with
  | nil=>intro listed a w pre U F tm h hh nx r I; exact draw_real hch hE hp hQ I (fun y r e=>by cases e) fun f e=>by cases e; exact ih
  | cons z rest ihr =>
   intro listed a w pre U F tm h hh nx r I
   cases z with
   | n i bs p x =>
    obtain ⟨tm',I'⟩:=I.lookN hp
    exact ihr _ _ _ _ _ _ _ _ _ _ _ I'
   | a i p op =>
    obtain ⟨tm',F',nx',r',I'⟩:=I.makeA hp
    exact ihr _ _ _ _ _ _ _ _ _ _ _ I'
   | e i ab rc x=>exact draw_real hch hE hp hQ I (fun y r e=>by cases e; rfl) fun f e=>by cases e; exact ih
theorem draw_sound {F:FR} (hch:CHok P w0 ch.call) (hm:P.follows .mixedOrders=true) (hp:Plan P F.m ops l) (id:Nat):Dok P w0 F ch (.region id ops true) (den (.draw l)):=by
 intro tm h nx K a w r Q hk hs hg _
 refine WpN.of (wpIn_region_any hm ?_)
 have hk:denS l [] ch.calm tm h nx (K .nrm):=hk
 refine draw_main (K:=K .nrm) (r0:=r) (h0:=h) (wS:={ w with drawn:=w.drawn+1 }) (ds:=a.defers) (ch:=ch.calm) (CHq.of hch) hs.env hp (fun tm' h' nx' r' a' w' k1 k2 k3 k4 k5 k6=>hg .nrm tm' h' nx' r' a' w' k1 (hs.on k2 ((Ev.drew _).trans k6) k3 k4 k5) ((Ev.drew _).trans k6)) ops.size l _ a _ [] [] [] tm h h nx r ?_
 refine ⟨rfl,fun u hu=>(by cases hu),by simp,by rw [hp.len]; simp,by simp,fun i hi=>?_,fun i o ho hl=>?_,hs.wr.drew _,fun k o=>?_,fun f hf=>(by cases hf),fun f hf=>(by cases hf),fun f hf=>(by cases hf),fun f hf=>(by cases hf),fun f hf=>(by cases hf),fun f hf=>(by cases hf),fun f hf=>(by cases hf),fun k hk=>hs.wr.dom k (.inr hk),fun p v hv _=>hs.tr p v hv,fun i bs p x hu=>(by cases hu),fun i p x hu=>(by cases hu),hs.size,rfl,.refl _ _ _,hk⟩
 ·constructor
  ·intro _; exact .inr (hp.cover i hi)
  ·intro _; simp [hi]
 ·exfalso
  have hi:i<ops.size:=(Array.getElem?_eq_some_iff.1 ho).1
  simp [hi] at hl
 ·simp
end
end Go.Proofs.YtphfjjopeghhnaaGreat.X
