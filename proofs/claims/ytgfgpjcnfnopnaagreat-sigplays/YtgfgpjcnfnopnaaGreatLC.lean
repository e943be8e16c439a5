/- A region that draws its order and some of whose operations are late: they wait for all others;a condition S holds behind every operation that is not late. -/
import Derived.RangeFuncNested
import Derived.OrdersIn
import Derived.Test.YtgfgpjcnfnopnaaGreatKJ
namespace Go.Proofs.YtgfgpjcnfnopnaaGreat
set_option maxRecDepth 100000
set_option maxHeartbeats 40000000
open Go.RowKit Go.Sort
section
variable {P:Program} {ops:Array Oper} {Q:Exit→Act→World→Prop} {md:Region.Mode} {S:World→Prop} {late:Nat→Bool}
def wpAnyM (P:Program) (md:Region.Mode) (ops:Array Oper) (Q:Exit→Act→World→Prop) (S:World→Prop) (late:Nat→Bool):Nat→Array Bool→Act→World→Prop
 | 0,listed,a,w=>Region.ready md ops listed=[]∧Q .normal a w
 | fuel+1,listed,a,w =>
  (Region.ready md ops listed=[]→Q .normal a w) ∧
  ∀i∈Region.ready md ops listed,wpOp P ops Q i (fun a' w'=>(late i=false→S w')∧wpAnyM P md ops Q S late fuel (listed.setIfInBounds i true) a' w') a w
theorem wpAny_of_late:∀(fuel:Nat) (listed:Array Bool) (a:Act) (w:World),wpAnyM P md ops Q S late fuel listed a w→wpAny P md ops Q fuel listed a w
 | 0,_,_,_,h=>h
 | fuel+1,_,_,_,h=>⟨h.1,fun i hi=>wpOp_mono (fun a' w' h'=>wpAny_of_late fuel _ a' w' h'.2) (h.2 i hi)⟩
def waitsM (md:Region.Mode) (ops:Array Oper) (late:Nat→Bool) (i:Nat):Bool:=(List.range ops.size).all fun j=>!late j||waits md ops j i
theorem waitsM_spec {i:Nat}{listed:Array Bool}(h:waitsM md ops late i=true) (hi:i∈Region.ready md ops listed) {j:Nat}(hj:j∈Region.ready md ops listed):late j=false:=by
 cases hl:late j with
 | false=>rfl
 | true =>
  exfalso
  unfold waitsM at h
  rw [List.all_eq_true] at h
  obtain ⟨-,o,ho,-⟩:=mem_ready.1 hj
  have hlt:j<ops.size:=(Array.getElem?_eq_some_iff.1 ho).1
  have h1:=h j (List.mem_range.2 hlt)
  rw [hl] at h1
  exact waits_spec (by simpa using h1) hi hj
theorem wpAnyM_first {i:Nat}{oi:Oper}{v:Value}(hi:ops[i]?=some oi) (hsel:∀(j:Nat) (o:Oper) cs b,ops[j]?=some o→o.op≠.select cs b)
  (hw:waitsM md ops late i=true) (hQ:∀c a w,Q (.panic c) (a.put oi.dst v) w→Q (.panic c) a w) :
  ∀(fuel:Nat) (listed:Array Bool) (a:Act) (w:World),
   (∀j oj,ops[j]?=some oj→j≠i→listed.getD j true=false→(∀e∈oj.after,Region.binds md e=true→e.on≠i)→oi.apart ops oj=true) →
   i∈Region.ready md ops listed→YieldsIf P ops S oi v a→S w →
   wpAnyM P md ops Q S late fuel (listed.setIfInBounds i true) (a.put oi.dst v) w→wpAnyM P md ops Q S late (fuel+1) listed a w:=by
 intro fuel
 induction fuel with
 | zero =>
  intro listed a w _ hr hy hS H
  refine ⟨fun h=>(by rw [h] at hr;cases hr),fun j hj=>?_⟩
  by_cases hji:j=i
  ·subst hji;exact hy.wpOp hi hS ⟨fun _=>hS,H⟩
  ·have:=ready_mono hj hji
   rw [H.1] at this
   cases this
 | succ fuel ih =>
  intro listed a w hfree hr hy hS H
  refine ⟨fun h=>(by rw [h] at hr;cases hr),fun j hj=>?_⟩
  by_cases hji:j=i
  ·subst hji;exact hy.wpOp hi hS ⟨fun _=>hS,H⟩
  ·have hjl:late j=false:=waitsM_spec hw hr hj
   have h1:=H.2 j (ready_mono hj hji)
   obtain ⟨hjun,oj,hoj,hall⟩:=mem_ready.1 hj
   have hnot:∀e∈oj.after,Region.binds md e=true→e.on≠i:=fun e he hb heq=>by
    have h1:=hall e he hb
    have h0:=(mem_ready.1 hr).1
    rw [heq] at h1
    rcases Nat.lt_or_ge i listed.size with h' | h'
    ·simp [h'] at h0 h1;rw [h0] at h1;cases h1
    ·simp [Array.getElem?_eq_none h'] at h1
   have h2:=wpOp_putIf hoj (hfree j oj hoj hji hjun hnot) (fun cs b=>hsel i oi cs b hi) (fun cs b=>hsel j oj cs b hoj) hQ hy h1
   have hfree':∀k ok,ops[k]?=some ok→k≠i→(listed.setIfInBounds j true).getD k true=false →
     (∀e∈ok.after,Region.binds md e=true→e.on≠i)→oi.apart ops ok=true:=fun k ok hk hki hun hno=>by
    refine hfree k ok hk hki ?_ hno
    by_cases hjk:j=k
    ·subst hjk;exact hjun
    ·rw [getD_set_ne true hjk] at hun;exact hun
   refine wpOp_mono (fun a' w' h3=>⟨h3.2.1,ih (listed.setIfInBounds j true) a' w' hfree' (ready_mono hr (Ne.symm hji)) h3.1 (h3.2.1 hjl) ?_⟩) h2
   rw [Array.setIfInBounds_comm _ _ hji]
   exact h3.2.2
theorem wpAnyM_take {i:Nat}{oi:Oper}{v:Value}{fuel:Nat}{listed:Array Bool}{a:Act}{w:World}(hi:ops[i]?=some oi)
  (hs:Region.noSelect ops=true) (hf:Region.free md ops listed i=true) (hr:(Region.ready md ops listed).contains i=true) (hw:waitsM md ops late i=true)
  (hQ:∀c a w,Q (.panic c) (a.put oi.dst v) w→Q (.panic c) a w) (hy:YieldsIf P ops S oi v a) (hS:S w)
  (h:wpAnyM P md ops Q S late fuel (listed.setIfInBounds i true) (a.put oi.dst v) w):wpAnyM P md ops Q S late (fuel+1) listed a w :=
 wpAnyM_first hi (Region.noSelect_spec hs) hw hQ fuel listed a w (Region.free_spec hi hf) (by simpa using hr) hy hS h
theorem tkM {i:Nat}{oi:Oper}{v:Value}{fuel:Nat}{listed:Array Bool}{a:Act}{w:World}(hi:ops[i]?=some oi) (hs:Region.noSelect ops=true:=by kernel_rfl) (hf:Region.free md ops listed i=true:=by kernel_rfl) (hr:(Region.ready md ops listed).contains i=true:=by kernel_rfl) (hw:waitsM md ops late i=true:=by kernel_rfl)
 (hQ:∀c a w,Q (.panic c) (a.put oi.dst v) w→Q (.panic c) a w:=by exact fun _ _ _ h=>h) (hy:YieldsIf P ops S oi v a) (hS:S w:=by assumption) (h:wpAnyM P md ops Q S late fuel (listed.setIfInBounds i true) (a.put oi.dst v) w):wpAnyM P md ops Q S late (fuel+1) listed a w:=wpAnyM_take hi hs hf hr hw hQ hy hS h
theorem wpAnyM_done {listed:Array Bool}{a:Act}{w:World}(hr:Region.ready md ops listed=[]) (h:Q .normal a w) :
  ∀fuel,wpAnyM P md ops Q S late fuel listed a w
 | 0=>⟨hr,h⟩
 | _+1=>⟨fun _=>h,by rw [hr];simp⟩
def StepM (P:Program) (md:Region.Mode) (ops:Array Oper) (Q:Exit→Act→World→Prop) (S:World→Prop) (late:Nat→Bool) (fuel:Nat) (listed:Array Bool) (a:Act) (w:World) (i:Nat):Prop :=
 ∃o,ops[i]?=some o∧∀K':Act→World→Prop,Shut (∀a w,(late i=false→S w)→((late i=false→S w)→wpAnyM P md ops Q S late fuel (listed.setIfInBounds i true) a w)→K' a w)→if Region.wanted o (yielded ops a.tmps)=true then Oper.wp P o a w K' Q else K' (a.put o.dst undef) w
theorem wpAnyM_one {i:Nat}{fuel:Nat}{listed:Array Bool}{a:Act}{w:World}(hr:Region.ready md ops listed=[i]) (h:StepM P md ops Q S late fuel listed a w i):wpAnyM P md ops Q S late (fuel+1) listed a w:=by
 refine ⟨fun h0=>?_,fun j hj=>?_⟩
 ·rw [hr] at h0;cases h0
 ·rw [hr] at hj
  obtain rfl:j=i:=by simpa using hj
  obtain ⟨o,ho,h⟩:=h
  exact wpOp_step ho (fun K' hK=>h K' (fun a w hS hW=>hK a w ⟨hS,hW hS⟩))
theorem nx1 {i:Nat}{fuel:Nat}{listed:Array Bool}{a:Act}{w:World}(hr:Region.ready md ops listed=[i]:=by kernel_rfl) (h:StepM P md ops Q S late fuel listed a w i):wpAnyM P md ops Q S late (fuel+1) listed a w:=wpAnyM_one hr h
theorem wpAnyM_two {i k:Nat}{fuel:Nat}{listed:Array Bool}{a:Act}{w:World}(hr:Region.ready md ops listed=[i,k]) (h:StepM P md ops Q S late fuel listed a w i) (h':StepM P md ops Q S late fuel listed a w k):wpAnyM P md ops Q S late (fuel+1) listed a w:=by
 refine ⟨fun h0=>?_,fun j hj=>?_⟩
 ·rw [hr] at h0;cases h0
 ·rw [hr] at hj
  rcases List.mem_cons.1 hj with rfl | hj
  ·obtain ⟨o,ho,h⟩:=h
   exact wpOp_step ho (fun K' hK=>h K' (fun a w hS hW=>hK a w ⟨hS,hW hS⟩))
  ·obtain rfl:j=k:=by simpa using hj
   obtain ⟨o,ho,h⟩:=h'
   exact wpOp_step ho (fun K' hK=>h K' (fun a w hS hW=>hK a w ⟨hS,hW hS⟩))
theorem wp_region_late {id:Nat}{a:Act}{w:World}(late:Nat→Bool) (hm:P.follows .mixedOrders=true) (hS:S w.drew)
  (h:S w.drew→wpAnyM P .any ops Q S late ops.size (Array.replicate ops.size false) a w.drew):(Code.region id ops true).wp P Q a w :=
 wp_region_any hm (wpAny_of_late _ _ _ _ (h hS))
end
section
variable {P:Program} {ops:Array Oper} {Q:Exit→Act→World→Prop} {md:Region.Mode} {S:World→Prop} {late:Nat→Bool}
def CallsOnly (P:Program) (ops:Array Oper) (S:World→Prop) (o:Oper) (v:Value) (a:Act):Prop :=
 Region.wanted o (yielded ops a.tmps)=true∧∀w,S w→∃f args,(execOp a.eval o).run P w=.ok (.enter f args) w∧Calls P f args w fun e w'=>e=.returned v∧w'=w
theorem CallsOnly.of_same {o:Oper}{v:Value}{a a':Act}(hy:CallsOnly P ops S o v a) (he:execOp a'.eval o=execOp a.eval o)
  (hw:Region.wanted o (yielded ops a'.tmps)=Region.wanted o (yielded ops a.tmps)):CallsOnly P ops S o v a':=by
 unfold CallsOnly at *
 rw [he,hw]
 exact hy
theorem CallsOnly.wpOp {i:Nat}{o:Oper}{v:Value}{a:Act}(hi:ops[i]?=some o) (hy:CallsOnly P ops S o v a)
  {K:Act→World→Prop} {w:World} (hS:S w) (h:K (a.put o.dst v) w):wpOp P ops Q i K a w:=by
 unfold Go.wpOp
 simp only [hi]
 obtain ⟨hw,hv⟩:=hy
 obtain ⟨f,args,hrun,hc⟩:=hv w hS
 simp only [hw,if_true,Oper.wp,hrun]
 refine .inl ?_
 rw [Oper.upon_enter]
 refine hc.mono ?_
 rintro e w' ⟨rfl,rfl⟩
 exact h
theorem wpOp_putC {j:Nat}{oi oj:Oper}{v:Value}(hj:ops[j]?=some oj) (hap:oi.apart ops oj=true)
  (hsi:∀cs b,oi.op≠.select cs b) (hsj:∀cs b,oj.op≠.select cs b)
  (hQ:∀c a w,Q (.panic c) (a.put oi.dst v) w→Q (.panic c) a w) {K:Act→World→Prop} {a:Act} {w:World}
  (hy:CallsOnly P ops S oi v a) (h:wpOp P ops Q j K (a.put oi.dst v) w) :
  wpOp P ops Q j (fun a' w'=>CallsOnly P ops S oi v a'∧K (a'.put oi.dst v) w') a w:=by
 obtain ⟨h1,h2,h3⟩:=Oper.apart_spec hap
 have keep:∀(a:Act),CallsOnly P ops S oi v a→∀u,CallsOnly P ops S oi v (a.put oj.dst u):=fun a hy u =>
  hy.of_same (execOp_put oi hsi a oj.dst u h3) (wanted_put oi a oj.dst u h3)
 have keepD:∀d,CallsOnly P ops S oi v { a with defers:=d::a.defers }:=fun d=>hy.of_same rfl rfl
 unfold wpOp at *
 simp only [hj] at *
 rw [wanted_put oj a oi.dst v h1] at h
 split
 ·rename_i hw
  simp only [hw,if_true] at h
  rcases h with h | ⟨hasks,hlets⟩
  case inr=>exact .inr ⟨by unfold Oper.asks at *;rw [execOp_put oj hsj a oi.dst v h1] at hasks;exact hasks,hlets⟩
  refine .inl ?_
  unfold Oper.wp at *
  rw [execOp_put oj hsj a oi.dst v h1] at h
  generalize (execOp a.eval oj).run P w=r at *
  cases r with
  | ok n w' =>
   cases n<;>simp only [Oper.upon] at h ⊢
   case value u=>exact ⟨keep a hy u,by rw [←Act.put_comm a v u h2];exact h⟩
   case skip=>exact ⟨keep a hy _,by rw [←Act.put_comm a v undef h2];exact h⟩
   case defer d =>
    refine ⟨keep _ (keepD d) _,?_⟩
    rw [←Act.put_comm _ v undef h2,←Act.put_defers]
    exact h
   case enter f args =>
    refine Calls.mono h fun e w'' he=>?_
    cases e with
    | returned u=>exact ⟨keep a hy u,by rw [←Act.put_comm a v u h2];exact he⟩
    | panicked c=>exact hQ _ _ _ he
    | outgrown=>exact he
   case row row args=>exact Rows.mono h fun u w'' he=>⟨keep a hy u,by rw [←Act.put_comm a v u h2];exact he⟩
  | halt x w' =>
   cases x<;>simp only [Oper.upon] at h ⊢
   case panic u=>exact hQ _ _ _ h
 ·rename_i hw
  simp only [hw,if_false,Bool.false_eq_true] at h
  exact ⟨keep a hy _,by rw [←Act.put_comm a v undef h2];exact h⟩
theorem wpAnyM_call {i:Nat}{oi:Oper}{v:Value}(hi:ops[i]?=some oi) (hsel:∀(j:Nat) (o:Oper) cs b,ops[j]?=some o→o.op≠.select cs b)
  (hw:waitsM md ops late i=true) (hQ:∀c a w,Q (.panic c) (a.put oi.dst v) w→Q (.panic c) a w) :
  ∀(fuel:Nat) (listed:Array Bool) (a:Act) (w:World),
   (∀j oj,ops[j]?=some oj→j≠i→listed.getD j true=false→(∀e∈oj.after,Region.binds md e=true→e.on≠i)→oi.apart ops oj=true) →
   i∈Region.ready md ops listed→CallsOnly P ops S oi v a→S w →
   wpAnyM P md ops Q S late fuel (listed.setIfInBounds i true) (a.put oi.dst v) w→wpAnyM P md ops Q S late (fuel+1) listed a w:=by
 intro fuel
 induction fuel with
 | zero =>
  intro listed a w _ hr hy hS H
  refine ⟨fun h=>(by rw [h] at hr;cases hr),fun j hj=>?_⟩
  by_cases hji:j=i
  ·subst hji;exact hy.wpOp hi hS ⟨fun _=>hS,H⟩
  ·have:=ready_mono hj hji
   rw [H.1] at this
   cases this
 | succ fuel ih =>
  intro listed a w hfree hr hy hS H
  refine ⟨fun h=>(by rw [h] at hr;cases hr),fun j hj=>?_⟩
  by_cases hji:j=i
  ·subst hji;exact hy.wpOp hi hS ⟨fun _=>hS,H⟩
  ·have hjl:late j=false:=waitsM_spec hw hr hj
   have h1:=H.2 j (ready_mono hj hji)
   obtain ⟨hjun,oj,hoj,hall⟩:=mem_ready.1 hj
   have hnot:∀e∈oj.after,Region.binds md e=true→e.on≠i:=fun e he hb heq=>by
    have h1:=hall e he hb
    have h0:=(mem_ready.1 hr).1
    rw [heq] at h1
    rcases Nat.lt_or_ge i listed.size with h' | h'
    ·simp [h'] at h0 h1;rw [h0] at h1;cases h1
    ·simp [Array.getElem?_eq_none h'] at h1
   have h2:=wpOp_putC hoj (hfree j oj hoj hji hjun hnot) (fun cs b=>hsel i oi cs b hi) (fun cs b=>hsel j oj cs b hoj) hQ hy h1
   have hfree':∀k ok,ops[k]?=some ok→k≠i→(listed.setIfInBounds j true).getD k true=false →
     (∀e∈ok.after,Region.binds md e=true→e.on≠i)→oi.apart ops ok=true:=fun k ok hk hki hun hno=>by
    refine hfree k ok hk hki ?_ hno
    by_cases hjk:j=k
    ·subst hjk;exact hjun
    ·rw [getD_set_ne true hjk] at hun;exact hun
   refine wpOp_mono (fun a' w' h3=>⟨h3.2.1,ih (listed.setIfInBounds j true) a' w' hfree' (ready_mono hr (Ne.symm hji)) h3.1 (h3.2.1 hjl) ?_⟩) h2
   rw [Array.setIfInBounds_comm _ _ hji]
   exact h3.2.2
theorem wpAnyM_takeC {i:Nat}{oi:Oper}{v:Value}{d:Option Tmp}{fuel:Nat}{listed:Array Bool}{a:Act}{w:World}(hi:ops[i]?=some oi) (hd:oi.dst=d)
  (hs:Region.noSelect ops=true) (hf:Region.free md ops listed i=true) (hr:(Region.ready md ops listed).contains i=true) (hw:waitsM md ops late i=true)
  (hQ:∀c a w,Q (.panic c) (a.put d v) w→Q (.panic c) a w) (hy:CallsOnly P ops S oi v a) (hS:S w)
  (h:wpAnyM P md ops Q S late fuel (listed.setIfInBounds i true) (a.put d v) w):wpAnyM P md ops Q S late (fuel+1) listed a w:=by
 subst hd
 exact wpAnyM_call hi (Region.noSelect_spec hs) hw hQ fuel listed a w (Region.free_spec hi hf) (by simpa using hr) hy hS h
end
theorem wpAnyM_three {P:Program}{md:Region.Mode}{ops:Array Oper}{Q:Exit→Act→World→Prop}{S:World→Prop}{late:Nat→Bool}{i k l:Nat}{fuel:Nat}{listed:Array Bool}{a:Act}{w:World}(hr:Region.ready md ops listed=[i,k,l]) (h:StepM P md ops Q S late fuel listed a w i) (h':StepM P md ops Q S late fuel listed a w k) (h'':StepM P md ops Q S late fuel listed a w l):wpAnyM P md ops Q S late (fuel+1) listed a w:=by
 refine ⟨fun h0=>?_,fun j hj=>?_⟩
 ·rw [hr] at h0;cases h0
 ·rw [hr] at hj
  rcases List.mem_cons.1 hj with rfl | hj
  ·obtain ⟨o,ho,h⟩:=h
   exact wpOp_step ho (fun K' hK=>h K' (fun a w hS hW=>hK a w ⟨hS,hW hS⟩))
  ·rcases List.mem_cons.1 hj with rfl | hj
   ·obtain ⟨o,ho,h⟩:=h'
    exact wpOp_step ho (fun K' hK=>h K' (fun a w hS hW=>hK a w ⟨hS,hW hS⟩))
   ·obtain rfl:j=l:=by simpa using hj
    obtain ⟨o,ho,h⟩:=h''
    exact wpOp_step ho (fun K' hK=>h K' (fun a w hS hW=>hK a w ⟨hS,hW hS⟩))
open Go.Lib
theorem ExactDecl_yes (d:Dl) (v1 v2:Value) (w:World) (hv1:DV w v1 d) (hv2:DV w v2 d) (hsm:smD d):Calls Tryz.prog 15 #[v1,v2] w fun e w'=>e=.returned (.bool true)∧RowKit.Below w.heap.size w w':=by
 obtain ⟨t0,t1,t2,t3,t4,t5,t6,t7,t8,t9,v0,v1,v2,v3,v4,v5,v6,v7,v8,v9,ca,cc,rfl,htt,htv,hck⟩:=hv1.go
 obtain ⟨x0,x1,x2,x3,x4,x5,x6,x7,x8,x9,y0,y1,y2,y3,y4,y5,y6,y7,y8,y9,cb,cd,rfl,hxt,hxv,hxk⟩:=hv2.go
 have HET:=fun (W:World) (h:RowKit.Below w.heap.size w W)=>Exactly_exa _ _ d.ty W hsm.ty (htt.on h) (hxt.on h)
 have HEV:=fun (W:World) (h:RowKit.Below w.heap.size w W)=>Exactly_exa _ _ d.val W hsm.val (htv.on h) (hxv.on h)
 have hsz:d.ctors.length≤1000000:=hsm.len
 have HSC:=Hid.mk hsm.ctors
 have HCK:=Hid.mk hck
 have HXK:=Hid.mk hxk
 clear htt htv hck hxt hxv hxk hv1 hv2 hsm
 obtain ⟨kd,nm,lv,ty,val,pr,cs⟩:=d
 simp only at HET HEV HCK HXK HSC hsz ⊢
 obtain ⟨W0,hW0⟩:∃W0,(w.alloc (.cells #[.int .i64 kd,.string nm,.int .i64 lv,.int .i64 t0,.int .i64 t1,.bool t2,.string t3,.slice t4 t5 t6,.slice t7 t8 t9,.int .i64 v0,.int .i64 v1,.bool v2,.string v3,.slice v4 v5 v6,.slice v7 v8 v9,.int .i64 pr,.slice ca cs.length cc] 39)).alloc (.cells #[.int .i64 kd,.string nm,.int .i64 lv,.int .i64 x0,.int .i64 x1,.bool x2,.string x3,.slice x4 x5 x6,.slice x7 x8 x9,.int .i64 y0,.int .i64 y1,.bool y2,.string y3,.slice y4 y5 y6,.slice y7 y8 y9,.int .i64 pr,.slice cb cs.length cd] 39)=W0:=⟨_,rfl⟩
 have hb0:RowKit.Below w.heap.size w W0:=by rw [←hW0];exact ((Below.refl _ _).alloc (Nat.le_refl _) _).alloc (by simp) _
 have HX0:Hid (W0.heap[w.heap.size]?=some (.cells #[.int .i64 kd,.string nm,.int .i64 lv,.int .i64 t0,.int .i64 t1,.bool t2,.string t3,.slice t4 t5 t6,.slice t7 t8 t9,.int .i64 v0,.int .i64 v1,.bool v2,.string v3,.slice v4 v5 v6,.slice v7 v8 v9,.int .i64 pr,.slice ca cs.length cc] 39 (0,0))):=by unfold Hid;rw [←hW0];exact box_at
 have HY0:Hid (W0.heap[w.heap.size+1]?=some (.cells #[.int .i64 kd,.string nm,.int .i64 lv,.int .i64 x0,.int .i64 x1,.bool x2,.string x3,.slice x4 x5 x6,.slice x7 x8 x9,.int .i64 y0,.int .i64 y1,.bool y2,.string y3,.slice y4 y5 y6,.slice y7 y8 y9,.int .i64 pr,.slice cb cs.length cd] 39 (0,0))):=by unfold Hid;rw [←hW0];exact box_at1
 have HB0:=Hid.mk hb0
 have HW0:=Hid.mk hW0
 have HC1:=HET W0 hb0
 obtain ⟨q0,q1,q2,q3,q4,q5,q6,q7,q8,q9,q10,q11,q12,q13,q14,q15,q16,q17⟩:=cells17 HX0.out
 obtain ⟨p0,p1,p2,p3,p4,p5,p6,p7,p8,p9,p10,p11,p12,p13,p14,p15,p16,p17⟩:=cells17 HY0.out
 clear hW0 hb0
 go_enter Tryz.func15,Tryz.ntmps15
 go_wp2_with (rw [HW0.out])
 refine HC1.mono ?_
 rintro e w1 ⟨rfl,hb1⟩
 have HB1:Hid (RowKit.Below w.heap.size w w1):=HB0.out.trans (hb1.mono HB0.out.size)
 have HX1:=Hid.mk ((hb1.block _ (heap_lt HX0.out)).trans HX0.out)
 have HY1:=Hid.mk ((hb1.block _ (heap_lt HY0.out)).trans HY0.out)
 have HC2:=HEV w1 HB1.out
 clear hb1 HC1 HET HEV q0 q1 q2 q3 q4 q5 q6 q7 q8 q9 q10 q11 q12 q13 q14 q15 q16 q17 p0 p1 p2 p3 p4 p5 p6 p7 p8 p9 p10 p11 p12 p13 p14 p15 p16 p17 HX0 HY0 HW0
 obtain ⟨q0,q1,q2,q3,q4,q5,q6,q7,q8,q9,q10,q11,q12,q13,q14,q15,q16,q17⟩:=cells17 HX1.out
 obtain ⟨p0,p1,p2,p3,p4,p5,p6,p7,p8,p9,p10,p11,p12,p13,p14,p15,p16,p17⟩:=cells17 HY1.out
 go_wp2_with fail
 refine HC2.mono ?_
 rintro e w2 ⟨rfl,hb2⟩
 have HB2:Hid (RowKit.Below w.heap.size w w2):=HB1.out.trans (hb2.mono HB1.out.size)
 have HX2:=Hid.mk ((hb2.block _ (heap_lt HX1.out)).trans HX1.out)
 have HY2:=Hid.mk ((hb2.block _ (heap_lt HY1.out)).trans HY1.out)
 clear hb2 HC2 q0 q1 q2 q3 q4 q5 q6 q7 q8 q9 q10 q11 q12 q13 q14 q15 q16 q17 p0 p1 p2 p3 p4 p5 p6 p7 p8 p9 p10 p11 p12 p13 p14 p15 p16 p17 HX1 HY1
 obtain ⟨q0,q1,q2,q3,q4,q5,q6,q7,q8,q9,q10,q11,q12,q13,q14,q15,q16,q17⟩:=cells17 HX2.out
 obtain ⟨p0,p1,p2,p3,p4,p5,p6,p7,p8,p9,p10,p11,p12,p13,p14,p15,p16,p17⟩:=cells17 HY2.out
 go_wp2
 go_loopw [7] (fun i wr=>∃k:Nat,k≤cs.length∧i=.int .i64 k∧RowKit.Below w2.heap.size w2 wr) (fun i _=>cs.length - (intOf i).toNat)
 case atStart=>exact ⟨0,Nat.zero_le _,rfl,Below.refl _ _⟩
 case round =>
  obtain ⟨k,hk,rfl,hb⟩:=hrel
  have HBR:=Hid.mk hb
  have HBW:Hid (RowKit.Below w.heap.size w wr):=HB2.out.trans (hb.mono HB2.out.size)
  have HX:=Hid.mk ((hb.block _ (heap_lt HX2.out)).trans HX2.out)
  have HY:=Hid.mk ((hb.block _ (heap_lt HY2.out)).trans HY2.out)
  clear hb q0 q1 q2 q3 q4 q5 q6 q7 q8 q9 q10 q11 q12 q13 q14 q15 q16 q17 p0 p1 p2 p3 p4 p5 p6 p7 p8 p9 p10 p11 p12 p13 p14 p15 p16 p17
  obtain ⟨q0,q1,q2,q3,q4,q5,q6,q7,q8,q9,q10,q11,q12,q13,q14,q15,q16,q17⟩:=cells17 HX.out
  obtain ⟨p0,p1,p2,p3,p4,p5,p6,p7,p8,p9,p10,p11,p12,p13,p14,p15,p16,p17⟩:=cells17 HY.out
  by_cases hlt:k<cs.length
  ·obtain ⟨ab,ao,rfl,-,acs⟩:=(HCK.out.on HBW.out).resolve_left (by intro e;rw [e] at hlt;simp at hlt)
   obtain ⟨bb,bo,rfl,-,bcs⟩:=(HXK.out.on HBW.out).resolve_left (by intro e;rw [e] at hlt;simp at hlt)
   obtain ⟨an,at'⟩:=acs k _ (List.getElem?_eq_getElem hlt)
   obtain ⟨bn,bt'⟩:=bcs k _ (List.getElem?_eq_getElem hlt)
   obtain ⟨hs1,hs2⟩:=HSC.out _ (List.getElem_mem hlt)
   obtain ⟨a0,a1,a2,a3,a4,a5,a6,a7,a8,a9,c0,c1,c2,c3,c4,c5,hta⟩:=at'.valE
   obtain ⟨b0,b1,b2,b3,b4,b5,b6,b7,b8,b9,e0,e1,e2,e3,e4,e5,htb⟩:=bt'.valE
   generalize cs[k]=kk at *
   obtain ⟨cnm,ctm⟩:=kk
   simp only at an bn hs1 hs2 hta htb
   have d0:wr.cell? ⟨ab,ao+k*7+1,none⟩=some _:=c0
   have d1:wr.cell? ⟨ab,ao+k*7+2,none⟩=some _:=c1
   have d2:wr.cell? ⟨ab,ao+k*7+3,none⟩=some _:=c2
   have d3:wr.cell? ⟨ab,ao+k*7+4,none⟩=some _:=c3
   have d4:wr.cell? ⟨ab,ao+k*7+5,none⟩=some _:=c4
   have d5:wr.cell? ⟨ab,ao+k*7+6,none⟩=some _:=c5
   have f0:wr.cell? ⟨bb,bo+k*7+1,none⟩=some _:=e0
   have f1:wr.cell? ⟨bb,bo+k*7+2,none⟩=some _:=e1
   have f2:wr.cell? ⟨bb,bo+k*7+3,none⟩=some _:=e2
   have f3:wr.cell? ⟨bb,bo+k*7+4,none⟩=some _:=e3
   have f4:wr.cell? ⟨bb,bo+k*7+5,none⟩=some _:=e4
   have f5:wr.cell? ⟨bb,bo+k*7+6,none⟩=some _:=e5
   have HC:=Exactly_exa _ _ ctm wr.drew hs2 (hta.on (Below.refl _ _).drew) (htb.on (Below.refl _ _).drew)
   have zk:(k:Int)<(cs.length:Int):=by omega
   have hba:ab<wr.heap.size:=World.block_lt_of_cell? _ _ an
   have hbb:bb<wr.heap.size:=World.block_lt_of_cell? _ _ bn
   have HAN:Hid (∀w',RowKit.Below wr.heap.size wr w'→w'.cell? ⟨ab,ao+k*7,none⟩=some (.string cnm)∧w'.cell? ⟨bb,bo+k*7,none⟩=some (.string cnm)):=fun w' h=>⟨(h.cell (p:=⟨ab,ao+k*7,none⟩) hba).trans an,(h.cell (p:=⟨bb,bo+k*7,none⟩) hbb).trans bn⟩
   clear hta htb at' bt' acs bcs c0 c1 c2 c3 c4 c5 e0 e1 e2 e3 e4 e5 hs1 hs2
   have HCEL:Hid (∀W:World,RowKit.Below wr.heap.size wr W→W.cell? ⟨w.heap.size,16,none⟩=some (.slice (some ⟨ab,ao,none⟩) cs.length cc)∧W.cell? ⟨w.heap.size+1,16,none⟩=some (.slice (some ⟨bb,bo,none⟩) cs.length cd)∧W.cell? ⟨ab,ao+k*7+1,none⟩=some (.int .i64 a0)∧W.cell? ⟨ab,ao+k*7+2,none⟩=some (.int .i64 a1)∧W.cell? ⟨ab,ao+k*7+3,none⟩=some (.bool a2)∧W.cell? ⟨ab,ao+k*7+4,none⟩=some (.string a3)∧W.cell? ⟨ab,ao+k*7+5,none⟩=some (.slice a4 a5 a6)∧W.cell? ⟨ab,ao+k*7+6,none⟩=some (.slice a7 a8 a9)∧W.cell? ⟨bb,bo+k*7+1,none⟩=some (.int .i64 b0)∧W.cell? ⟨bb,bo+k*7+2,none⟩=some (.int .i64 b1)∧W.cell? ⟨bb,bo+k*7+3,none⟩=some (.bool b2)∧W.cell? ⟨bb,bo+k*7+4,none⟩=some (.string b3)∧W.cell? ⟨bb,bo+k*7+5,none⟩=some (.slice b4 b5 b6)∧W.cell? ⟨bb,bo+k*7+6,none⟩=some (.slice b7 b8 b9)):=fun W h=>⟨(h.cell (p:=⟨w.heap.size,16,none⟩) q17).trans q16,(h.cell (p:=⟨w.heap.size+1,16,none⟩) p17).trans p16,(h.cell (p:=⟨ab,ao+k*7+1,none⟩) hba).trans d0,(h.cell (p:=⟨ab,ao+k*7+2,none⟩) hba).trans d1,(h.cell (p:=⟨ab,ao+k*7+3,none⟩) hba).trans d2,(h.cell (p:=⟨ab,ao+k*7+4,none⟩) hba).trans d3,(h.cell (p:=⟨ab,ao+k*7+5,none⟩) hba).trans d4,(h.cell (p:=⟨ab,ao+k*7+6,none⟩) hba).trans d5,(h.cell (p:=⟨bb,bo+k*7+1,none⟩) hbb).trans f0,(h.cell (p:=⟨bb,bo+k*7+2,none⟩) hbb).trans f1,(h.cell (p:=⟨bb,bo+k*7+3,none⟩) hbb).trans f2,(h.cell (p:=⟨bb,bo+k*7+4,none⟩) hbb).trans f3,(h.cell (p:=⟨bb,bo+k*7+5,none⟩) hbb).trans f4,(h.cell (p:=⟨bb,bo+k*7+6,none⟩) hbb).trans f5⟩
   go_wp2_with fail
   go_region_held3 (fun w'=>w'.cell? ⟨w.heap.size,16,none⟩=some (.slice (some ⟨ab,ao,none⟩) cs.length cc)∧w'.cell? ⟨w.heap.size+1,16,none⟩=some (.slice (some ⟨bb,bo,none⟩) cs.length cd)∧w'.cell? ⟨ab,ao+k*7+1,none⟩=some (.int .i64 a0)∧w'.cell? ⟨ab,ao+k*7+2,none⟩=some (.int .i64 a1)∧w'.cell? ⟨ab,ao+k*7+3,none⟩=some (.bool a2)∧w'.cell? ⟨ab,ao+k*7+4,none⟩=some (.string a3)∧w'.cell? ⟨ab,ao+k*7+5,none⟩=some (.slice a4 a5 a6)∧w'.cell? ⟨ab,ao+k*7+6,none⟩=some (.slice a7 a8 a9)∧w'.cell? ⟨bb,bo+k*7+1,none⟩=some (.int .i64 b0)∧w'.cell? ⟨bb,bo+k*7+2,none⟩=some (.int .i64 b1)∧w'.cell? ⟨bb,bo+k*7+3,none⟩=some (.bool b2)∧w'.cell? ⟨bb,bo+k*7+4,none⟩=some (.string b3)∧w'.cell? ⟨bb,bo+k*7+5,none⟩=some (.slice b4 b5 b6)∧w'.cell? ⟨bb,bo+k*7+6,none⟩=some (.slice b7 b8 b9)) (first | exact HCEL.out _ (Below.refl _ _).drew | exact HCEL.out _ hb3)
    (first | (go_at_call 29;refine HC.mono ?_;rintro e w3 ⟨rfl,hg3⟩;have hb3:RowKit.Below wr.heap.size wr w3:=(Below.refl _ _).drew.trans hg3;clear hg3))
   have HB3:Hid (RowKit.Below w2.heap.size w2 w3):=HBR.out.trans (hb3.mono HBR.out.size)
   obtain ⟨an3,bn3⟩:=HAN.out w3 hb3
   have hX3:=(hb3.block _ (heap_lt HX.out)).trans HX.out
   have hY3:=(hb3.block _ (heap_lt HY.out)).trans HY.out
   clear hb3 HC q0 q1 q2 q3 q4 q5 q6 q7 q8 q9 q10 q11 q12 q13 q14 q15 q16 q17 p0 p1 p2 p3 p4 p5 p6 p7 p8 p9 p10 p11 p12 p13 p14 p15 p16 p17 an bn d0 d1 d2 d3 d4 d5 f0 f1 f2 f3 f4 f5
   obtain ⟨q0,q1,q2,q3,q4,q5,q6,q7,q8,q9,q10,q11,q12,q13,q14,q15,q16,q17⟩:=cells17 hX3
   obtain ⟨p0,p1,p2,p3,p4,p5,p6,p7,p8,p9,p10,p11,p12,p13,p14,p15,p16,p17⟩:=cells17 hY3
   clear hX3 hY3
   have hba3:ab<w3.heap.size:=World.block_lt_of_cell? _ _ an3
   have hbb3:bb<w3.heap.size:=World.block_lt_of_cell? _ _ bn3
   have HCE2:Hid (∀W:World,RowKit.Below w3.heap.size w3 W→W.cell? ⟨w.heap.size,16,none⟩=some (.slice (some ⟨ab,ao,none⟩) cs.length cc)∧W.cell? ⟨w.heap.size+1,16,none⟩=some (.slice (some ⟨bb,bo,none⟩) cs.length cd)∧W.cell? ⟨ab,ao+k*7,none⟩=some (.string cnm)∧W.cell? ⟨bb,bo+k*7,none⟩=some (.string cnm)):=fun W h=>⟨(h.cell (p:=⟨w.heap.size,16,none⟩) q17).trans q16,(h.cell (p:=⟨w.heap.size+1,16,none⟩) p17).trans p16,(h.cell (p:=⟨ab,ao+k*7,none⟩) hba3).trans an3,(h.cell (p:=⟨bb,bo+k*7,none⟩) hbb3).trans bn3⟩
   go_wp2_with fail
   go_region_held3 (fun w'=>w'.cell? ⟨w.heap.size,16,none⟩=some (.slice (some ⟨ab,ao,none⟩) cs.length cc)∧w'.cell? ⟨w.heap.size+1,16,none⟩=some (.slice (some ⟨bb,bo,none⟩) cs.length cd)∧w'.cell? ⟨ab,ao+k*7,none⟩=some (.string cnm)∧w'.cell? ⟨bb,bo+k*7,none⟩=some (.string cnm)) (first | exact HCE2.out _ (Below.refl _ _).drew) (fail)
   go_wp2
   exact ⟨⟨k+1,hlt,by go_num,HB3.out.drew⟩,by simp [intOf];omega⟩
  ·go_wp2
   go_ret
   exact ⟨rfl,HBW.out⟩
theorem wpAnyM_takeD {P:Program}{ops:Array Oper}{Q:Exit→Act→World→Prop}{md:Region.Mode}{S:World→Prop}{late:Nat→Bool}{i:Nat}{oi:Oper}{v:Value}{d:Option Tmp}{fuel:Nat}{listed:Array Bool}{a:Act}{w:World}(hi:ops[i]?=some oi) (hd:oi.dst=d)
  (hs:Region.noSelect ops=true) (hf:Region.free md ops listed i=true) (hr:(Region.ready md ops listed).contains i=true) (hw:waitsM md ops late i=true)
  (hQ:∀c a w,Q (.panic c) (a.put d v) w→Q (.panic c) a w) (hy:YieldsIf P ops S oi v a) (hS:S w)
  (h:wpAnyM P md ops Q S late fuel (listed.setIfInBounds i true) (a.put d v) w):wpAnyM P md ops Q S late (fuel+1) listed a w:=by
 subst hd
 exact wpAnyM_take hi hs hf hr hw hQ hy hS h
theorem ExactDecls_yes (ds:List Dl) (a b:Option Addr) (ca cb:Nat) (w:World) (hA:DL w a ds) (hB:DL w b ds) (hn:ds.length≤1000000) (hsm:∀d∈ds,smD d):Calls Tryz.prog 12 #[.slice a ds.length ca,.slice b ds.length cb] w fun e w'=>e=.returned (.bool true)∧RowKit.Below w.heap.size w w':=by
 have HA:=Hid.mk hA
 have HBB:=Hid.mk hB
 have HSM:=Hid.mk hsm
 have mx:=mixed
 clear hA hB hsm
 go_enter Tryz.func12,Tryz.ntmps12
 go_wp2
 go_loopw [5] (fun i wr=>∃k:Nat,k≤ds.length∧i=.int .i64 k∧RowKit.Below w.heap.size w wr) (fun i _=>ds.length - (intOf i).toNat)
 case atStart=>exact ⟨0,Nat.zero_le _,rfl,Below.refl _ _⟩
 case round =>
  obtain ⟨k,hk,rfl,hb⟩:=hrel
  have HBR:=Hid.mk hb
  clear hb
  by_cases hlt:k<ds.length
  ·obtain ⟨ab,ao,rfl,hab0,acs⟩:=(HA.out.on HBR.out).resolve_left (by intro e;rw [e] at hlt;simp at hlt)
   obtain ⟨bb,bo,rfl,hbb0,bcs⟩:=(HBB.out.on HBR.out).resolve_left (by intro e;rw [e] at hlt;simp at hlt)
   have had:=acs k _ (List.getElem?_eq_getElem hlt)
   have hbd:=bcs k _ (List.getElem?_eq_getElem hlt)
   have hsk:=HSM.out _ (List.getElem_mem hlt)
   generalize ds[k]=kk at *
   obtain ⟨vs,hvl,hvr,-,hvd⟩:=had.go
   obtain ⟨us,hul,hur,-,hud⟩:=hbd.go
   have HS1:Hid ((Tryz.prog.info? 39).map (·.size)=some vs.length):=by unfold Hid;rw [hvl];kernel_rfl
   have HS2:Hid ((Tryz.prog.info? 39).map (·.size)=some us.length):=by unfold Hid;rw [hul];kernel_rfl
   have HCALL:=ExactDecl_yes kk _ _ wr.drew (hvd.on (Below.refl _ _).drew) (hud.on (Below.refl _ _).drew) hsk
   have HCEL:Hid (∀W:World,RowKit.Below wr.heap.size wr W→W.rangeAt ab (ao+k*17) vs∧W.rangeAt bb (bo+k*17) us):=fun W h=>⟨range_keep hvr (h.block _ hab0),range_keep hur (h.block _ hbb0)⟩
   have zk:(k:Int)<(ds.length:Int):=by omega
   clear had hbd acs bcs hvr hur hvd hud hsk
   go_wp2_with fail
   refine wp_region_late (S:=fun w'=>w'.rangeAt ab (ao+k*17) vs∧w'.rangeAt bb (bo+k*17) us) (fun _=>false) mx ?_ (fun hHeld=>?_)
   ·(try dsimp only)
    exact HCEL.out _ (Below.refl _ _).drew
   refine wpAnyM_takeD (i:=0) (v:=.slice (some ⟨ab,ao,none⟩) ds.length ca) (d:=some 18) rfl (by kernel_rfl) (by kernel_rfl) (by kernel_rfl) (by kernel_rfl) (by kernel_rfl) (fun _ _ _ h=>h) (Or.inl ⟨by kernel_rfl,fun _ _=>by kernel_rfl⟩) (by assumption) ?_
   refine wpAnyM_takeD (i:=1) (v:=.int .i64 k) (d:=some 19) rfl (by kernel_rfl) (by kernel_rfl) (by kernel_rfl) (by kernel_rfl) (by kernel_rfl) (fun _ _ _ h=>h) (Or.inl ⟨by kernel_rfl,fun _ _=>by kernel_rfl⟩) (by assumption) ?_
   refine wpAnyM_takeD (i:=2) (v:=.pointer (some ⟨ab,ao+k*17,none⟩)) (d:=some 20) rfl (by kernel_rfl) (by kernel_rfl) (by kernel_rfl) (by kernel_rfl) (by kernel_rfl) (fun _ _ _ h=>h) (Or.inl ⟨by kernel_rfl,fun w hSw=>by go_simp⟩) (by assumption) ?_
   refine wpAnyM_takeD (i:=3) (v:=.agg vs.toArray) (d:=some 21) rfl (by kernel_rfl) (by kernel_rfl) (by kernel_rfl) (by kernel_rfl) (by kernel_rfl) (fun _ _ _ h=>h) (yieldsIf_load_mid (by kernel_rfl) 39 (.tmp 20) rfl ab (ao+k*17) (by kernel_rfl) vs _ (fun w hSw=>hSw.1) Tryz.underlying39 rfl HS1.out) (by assumption) ?_
   refine wpAnyM_takeD (i:=4) (v:=.slice (some ⟨bb,bo,none⟩) ds.length cb) (d:=some 22) rfl (by kernel_rfl) (by kernel_rfl) (by kernel_rfl) (by kernel_rfl) (by kernel_rfl) (fun _ _ _ h=>h) (Or.inl ⟨by kernel_rfl,fun _ _=>by kernel_rfl⟩) (by assumption) ?_
   refine wpAnyM_takeD (i:=5) (v:=.int .i64 k) (d:=some 23) rfl (by kernel_rfl) (by kernel_rfl) (by kernel_rfl) (by kernel_rfl) (by kernel_rfl) (fun _ _ _ h=>h) (Or.inl ⟨by kernel_rfl,fun _ _=>by kernel_rfl⟩) (by assumption) ?_
   refine wpAnyM_takeD (i:=6) (v:=.pointer (some ⟨bb,bo+k*17,none⟩)) (d:=some 24) rfl (by kernel_rfl) (by kernel_rfl) (by kernel_rfl) (by kernel_rfl) (by kernel_rfl) (fun _ _ _ h=>h) (Or.inl ⟨by kernel_rfl,fun w hSw=>by go_simp⟩) (by assumption) ?_
   refine wpAnyM_takeD (i:=7) (v:=.agg us.toArray) (d:=some 25) rfl (by kernel_rfl) (by kernel_rfl) (by kernel_rfl) (by kernel_rfl) (by kernel_rfl) (fun _ _ _ h=>h) (yieldsIf_load_mid (by kernel_rfl) 39 (.tmp 24) rfl bb (bo+k*17) (by kernel_rfl) us _ (fun w hSw=>hSw.2) Tryz.underlying39 rfl HS2.out) (by assumption) ?_
   refine nx1 (i:=8) (h:=?_)
   refine ⟨_,rfl,fun K hK=>?_⟩
   go_simp
   go_at_call 15
   refine HCALL.mono ?_
   rintro e w3 ⟨rfl,hb3⟩
   have HB3:Hid (RowKit.Below wr.heap.size wr w3):=(Below.refl _ wr).drew.trans hb3
   clear hb3
   refine hK.out _ _ (fun _=>?_) (fun hHeld=>?_)
   ·(try dsimp only)
    exact HCEL.out _ HB3.out
   replace hHeld:=hHeld rfl
   clear hK K
   refine nx1 (i:=9) (h:=?_)
   refine ⟨_,rfl,fun K hK=>?_⟩
   go_simp
   refine hK.out _ _ (fun _=>?_) (fun hHeld=>?_)
   ·(try dsimp only)
    exact HCEL.out _ HB3.out
   replace hHeld:=hHeld rfl
   clear hK K
   refine wpAnyM_done (by kernel_rfl) ?_ _
   go_wp2
   exact ⟨⟨k+1,hlt,by go_num,HBR.out.trans (HB3.out.mono HBR.out.size)⟩,by simp [intOf];omega⟩
  ·go_wp2
   go_ret
   exact ⟨rfl,HBR.out⟩
end Go.Proofs.YtgfgpjcnfnopnaaGreat
