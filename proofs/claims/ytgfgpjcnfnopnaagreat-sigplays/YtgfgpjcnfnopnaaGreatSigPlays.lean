/- For every l, more and names: SigPlays answers true, and leaves its arguments as they were;no condition but the row's own. -/
import Derived.Test.YtgfgpjcnfnopnaaGreatQYI
import Derived.SizedLaws
import Derived.ProofKit
import Derived.OpenShut
import Derived.Below
namespace Go.Proofs.YtgfgpjcnfnopnaaGreat
open Go.RowKit Go.Sort
namespace sigPlays
open Go.ChangeShapes Go.WideShapes Go.ChangeAt
theorem ownL:ownKnob Tryz.prog.godebug=none:=by kernel_rfl
theorem cellsStr:Tryz.prog.cellsOf 9=1:=by kernel_rfl
theorem all_w {H:Type}{ts:List TypeId}{d0 d1 d2:DataW H}(h:(DataW.weightsEach Tryz.prog ([22,22,23]++ts) ([d0,d1,d2]++[])).all (·≤reachBytes)=true):(∀n∈d0.weights Tryz.prog 22,n≤reachBytes)∧(∀n∈d1.weights Tryz.prog 22,n≤reachBytes):=by
 simp only [List.cons_append,List.nil_append,DataW.weightsEach,List.all_append,Bool.and_eq_true,List.all_eq_true,decide_eq_true_eq] at h
 exact ⟨h.1,h.2.1⟩
set_option maxRecDepth 100000 in
theorem open_strs {H:Type}{enc:TypeId×Value→H}{W:World}{r:Reach}{b0:Nat}{v:Value}{d:DataW H}{p:List MemPlace}(hv:Value.okWide Tryz.prog W r b0 23 v) (h:DataW.Trod enc Tryz.prog W 0 (fun _=>true) true 23 v d p):∃(ss:List ByteArray) (a:Option Addr) (cap:Nat),v=.slice a ss.length cap∧STR W a ss∧∀s∈ss,s.size≤maxLen:=by
 obtain ⟨a0,len0,cap0,rfl⟩:=okWide_slice Tryz.underlying23 hv
 obtain ⟨fuel,h5⟩:=h
 obtain ⟨ss,a,cap,e,-,-,-,h4,-⟩:=open_any Tryz.underlying23 cellsStr (by decide) (fun b o s=>W.cell? ⟨b,o,none⟩=some (.string s)∧s.size≤maxLen) (fun _=>True) ByteArray.empty (fun fuel b o cs y hc hy=>by
  obtain ⟨s,rfl,-,hs⟩:=DataW.trod_string Tryz.underlying9 hy
  obtain ⟨-,-,hcs⟩:=World.cells?_some hc
  have c0:=hcs 0 (by decide)
  rw [add_plain] at c0
  exact ⟨s,⟨c0,hs⟩,fun _=>trivial⟩) fuel _ _ h5
 refine ⟨ss,a,cap,e,?_,?_⟩
 ·rcases h4 with h4 | ⟨b,o,ha,hlt,h4⟩
  ·exact Or.inl h4
  ·exact Or.inr ⟨b,o,ha,hlt,fun i s hi=>by have:=(h4 i s hi).1;rwa [Nat.mul_one] at this⟩
 ·intro s hs
  rcases h4 with h4 | ⟨b,o,ha,hlt,h4⟩
  ·rw [h4] at hs;cases hs
  ·obtain ⟨i,hi⟩:=List.getElem?_of_mem hs
   exact (h4 i s hi).2
set_option maxRecDepth 100000 in
theorem lifted (os:Os) (started:os.Started) (H:Type) (enc:TypeId×Value→H) :
  ReturnsInHanded {} Tryz.checked os 3 .any (Rows.sigPlaysSpec.pre6 enc Tryz.prog Tryz.f3 Rows.sigPlaysRow.domain false) (Rows.sigPlaysSpec.post enc Tryz.prog Tryz.f3 false true false false):=by
 refine returnsInHanded_of_change_sized (C:=Tryz.checked) ownL started (by kernel_rfl) Tryz.func3
  (ChangeSpec.witness6 (enc:=enc) (C:=Tryz.checked) false ⟨#[],#[.slice none 0 0,.slice none 0 0,.slice none 0 0],[]⟩ 8 (by kernel_rfl) (by kernel_rfl) (by kernel_rfl) (by kernel_rfl)) ?_
 intro W base args ds gs before hval0 hW hcnd hwt _
 have hval:∀(j:Nat) t v,Tryz.f3.params[j]?=some t→args[j]?=some v→Value.okWide Tryz.prog W .any base t v:=hval0
 have hW':=hW
 obtain ⟨p,q,hA0,hV,rfl,hfz,hnd⟩:=hW
 have hA:DataW.TrodAll enc Tryz.prog W 0 (fun _=>true) true Tryz.f3.params.toList args.toList ds p:=hA0
 rw [Tryz.params3] at hA hval
 obtain ⟨v0,v1,v2,d0,d1,d2,p0,p1,p2,rfl,rfl,rfl,h0,h1,h2⟩:=trodAll_three hA
 obtain ⟨rfl,rfl⟩:=trodVars_none hV
 have hwt':=hwt
 rw [show Tryz.checked.prog=Tryz.prog from rfl,Tryz.params3] at hwt'
 obtain ⟨wt0,wt1⟩:=all_w hwt'
 have k0:=h0
 have lt0:∀x∈p0,x.block<W.heap.size:=by obtain ⟨m,hm⟩:=k0;exact DataW.trod_lt m _ _ _ hm
 obtain ⟨l,al,cl,rfl,-,-,-,hL,hwl⟩:=open_decls (hval 0 22 v0 rfl rfl) h0
 have k1:=h1
 have lt1:∀x∈p1,x.block<W.heap.size:=by obtain ⟨m,hm⟩:=k1;exact DataW.trod_lt m _ _ _ hm
 obtain ⟨more,am,cm,rfl,-,-,-,hM,hwm⟩:=open_decls (hval 1 22 v1 rfl rfl) h1
 have k2:=h2
 have lt2:∀x∈p2,x.block<W.heap.size:=by obtain ⟨m,hm⟩:=k2;exact DataW.trod_lt m _ _ _ hm
 obtain ⟨ns,an,cn,rfl,hN,hns⟩:=open_strs (hval 2 23 v2 rfl rfl) h2
 clear hA0 hval0
 refine (plays_walk l more ns al am an cl cm cn W hL hM hN (hwl wt0).2 (hwm wt1).2 (hwl wt0).1 (hwm wt1).1 hns).mono fun e W' ⟨he,bel⟩=>?_
 subst he
 exact ⟨_,rfl,_,_,_,[],_,[],hW',trodAll_mk1 (shut_bool Tryz.underlying4 _),trodAll_mk3 (Below.trod laidOut (by kernel_rfl) (of_decide_eq_true (by kernel_rfl)) k0 bel lt0) (Below.trod laidOut (by kernel_rfl) (of_decide_eq_true (by kernel_rfl)) k1 bel lt1) (Below.trod laidOut (by kernel_rfl) (of_decide_eq_true (by kernel_rfl)) k2 bel lt2),rfl,bel.frame _,fun h=>by cases h⟩
theorem over:Rows.sigPlaysRow.holds Tryz.pinned (OpenSpec.ofChange Rows.sigPlaysSpec) :=
 OpenClaim.holds_of_wide 3 Tryz.f3 rfl rfl rfl rfl rfl rfl rfl ⟨rfl,rfl,rfl,rfl,rfl⟩ rfl rfl rfl rfl rfl (by kernel_rfl) Tryz.func3 (by kernel_rfl)
  (of_decide_eq_true (by kernel_rfl)) (by unfold Func.isWrapper;first | (rw [if_pos (by decide +kernel)];kernel_rfl) | (rw [if_neg (by decide +kernel)];exact ⟨rfl,rfl⟩))
  (fun os started H enc _=>lifted os started H enc)
end sigPlays
theorem sigPlays_holds:Rows.SigPlaysSaid:=sigPlays.over
#print axioms sigPlays_holds
end Go.Proofs.YtgfgpjcnfnopnaaGreat
