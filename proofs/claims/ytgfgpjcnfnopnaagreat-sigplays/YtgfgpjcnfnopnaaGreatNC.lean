/- Lists of declarations that are handed in. -/
import Derived.Test.YtgfgpjcnfnopnaaGreatNB
import Derived.Test.YtgfgpjcnfnopnaaGreatEH
import Derived.Test.YtgfgpjcnfnopnaaGreatKE
import Derived.Test.YtgfgpjcnfnopnaaGreatFE
namespace Go.Proofs.YtgfgpjcnfnopnaaGreat
set_option maxRecDepth 100000
set_option maxHeartbeats 40000000
open Go.ChangeShapes Go.WideShapes Go.ChangeAt Go.RowKit Go.Sort Go.Joins
theorem open_any {H:Type}{enc:TypeId×Value→H}{W:World}{α:Type}{e et:TypeId}{m:Nat}(hu:Tryz.prog.underlying et=some (.slice e)) (hcm0:Tryz.prog.cellsOf e=m) (hm:0<m) (C:Nat→Nat→α→Prop) (ok:α→Prop) (dflt:α) (hel:∀(fuel b o:Nat) (cs:List Value) (y:DataW H×List MemPlace),W.cells? 0 ⟨b,o,none⟩ m=some cs→DataW.trod enc Tryz.prog W 0 (fun _=>true) true fuel e cs=some y→∃t,C b o t∧((∀n∈y.1.weights Tryz.prog e,n≤reachBytes)→ok t))
  (fuel:Nat) (u:Value) (x:DataW H×List MemPlace) (h:DataW.trod enc Tryz.prog W 0 (fun _=>true) true fuel et [u]=some x) :
  ∃(ts:List α) (a:Option Addr) (cap:Nat),u=.slice a ts.length cap∧(a=none→cap=0)∧ts.length≤cap∧cap≤9223372036854775807∧(ts=[]∨∃b o,a=some ⟨b,o,none⟩∧b<W.heap.size∧∀i t,ts[i]?=some t→C b (o+i*m) t)∧((∀n∈x.1.weights Tryz.prog et,n≤reachBytes)→ts.length*Tryz.prog.bytesOf e≤reachBytes∧∀t∈ts,ok t):=by
 rcases DataW.trod_slice hu h with ⟨e5,-⟩ | ⟨a,len,cap,elems,rest,m2,hm2,e5,x5,-,hle,hcm,hel2,hk,-,-⟩
 ·simp only [List.cons.injEq,and_true] at e5
  subst e5
  exact ⟨[],none,0,rfl,fun _=>rfl,Nat.le_refl _,Nat.zero_le _,Or.inl rfl,fun _=>⟨by simp,fun t ht=>by cases ht⟩⟩
 ·simp only [List.cons.injEq,and_true] at e5
  subst e5
  have X5:=Hid.mk x5
  clear x5
  rw [hcm0] at hk
  have hcell:∀i,i<len→∃cs' y,W.cells? 0 (a.add (i*m)) m=some cs'∧DataW.trod enc Tryz.prog W 0 (fun _=>true) true m2 e cs'=some y∧((∀n∈x.1.weights Tryz.prog et,n≤reachBytes)→∀n∈y.1.weights Tryz.prog e,n≤reachBytes):=fun i hi=>by
   have:=hk i hi
   rw [List.getElem?_eq_getElem (by omega)] at this
   obtain ⟨cs',h1,h2⟩:=Option.bind_eq_some_iff.1 this
   refine ⟨cs',_,h1,h2,fun hw n hn=>hw n ?_⟩
   rw [X5.out,weights_slice hu]
   exact List.mem_cons_of_mem _ (List.mem_append_left _ (weights_all (List.mem_map.2 ⟨_,List.getElem_mem _,rfl⟩) hn))
  have W6:(∀n∈x.1.weights Tryz.prog et,n≤reachBytes)→len*Tryz.prog.bytesOf e≤reachBytes:=fun hw=>by
   have h1:=hw ((elems.length+rest.length)*Tryz.prog.bytesOf e) (by rw [X5.out,weights_slice hu];simp)
   have h2:len≤elems.length+rest.length:=by omega
   exact Nat.le_trans (Nat.mul_le_mul_right _ h2) h1
  rcases Nat.eq_zero_or_pos len with hz | hp
  ·subst hz
   exact ⟨[],some a,cap,rfl,fun h=>(by cases h),Nat.zero_le _,(by simpa [maxLen] using hcm),Or.inl rfl,fun _=>⟨by simp,fun t ht=>by cases ht⟩⟩
  ·obtain ⟨b,off,spot⟩:=a
   obtain ⟨cs0,y0',q0,-,-⟩:=hcell 0 hp
   have hc0:=(World.cells?_some q0).2.2 0 hm
   have hlen0:=(World.cells?_some q0).2.1
   have hsome:∃u,W.cell? ((⟨b,off,spot⟩:Addr).add (0*m) |>.add 0)=some u:=⟨cs0[0]'(by omega),by rw [hc0];simp [hlen0,hm]⟩
   obtain ⟨u,hu'⟩:=hsome
   have hspot:spot=none:=by simpa [Addr.add] using World.cell?_spot hu'
   subst hspot
   have hblt:b<W.heap.size:=World.block_lt_of_cell? W _ (by simpa [Addr.add] using hu')
   have htm:∀i,∃t,i<len→C b (off+i*m) t∧((∀n∈x.1.weights Tryz.prog et,n≤reachBytes)→ok t):=fun i=>by
    by_cases hi:i<len
    ·obtain ⟨cs',y,q1,q2,q3⟩:=hcell i hi
     rw [add_plain] at q1
     obtain ⟨t,ht,hok⟩:=hel m2 b (off+i*m) cs' y q1 q2
     exact ⟨t,fun _=>⟨ht,fun hw=>hok (q3 hw)⟩⟩
    ·exact ⟨dflt,fun h=>absurd h hi⟩
   obtain ⟨F,hF⟩:=Classical.skolem.1 htm
   refine ⟨(List.range len).map F,some ⟨b,off,none⟩,cap,by simp,fun h=>(by cases h),by simpa using hle,(by simpa [maxLen] using hcm),Or.inr ⟨b,off,rfl,hblt,fun i t hi=>?_⟩,fun hw=>⟨by simpa using W6 hw,fun k hk'=>?_⟩⟩
   ·rw [List.getElem?_map] at hi
    have hi':i<len:=by
     rcases Nat.lt_or_ge i len with h | h
     ·exact h
     ·rw [List.getElem?_eq_none (by simpa using h)] at hi;simp at hi
    rw [List.getElem?_range hi'] at hi
    simp only [Option.map_some,Option.some.injEq] at hi
    rw [←hi]
    exact (hF i hi').1
   ·obtain ⟨i,hi,rfl⟩:=List.mem_map.1 hk'
    exact (hF i (by simpa using hi)).2 hw
theorem list7:∀{cs:List Value},cs.length=7→∃v0 v1 v2 v3 v4 v5 v6,cs=[v0,v1,v2,v3,v4,v5,v6]
 | [v0,v1,v2,v3,v4,v5,v6],_=>⟨v0,v1,v2,v3,v4,v5,v6,rfl⟩
theorem list17:∀{cs:List Value},cs.length=17→∃v0 v1 v2 v3 v4 v5 v6 v7 v8 v9 v10 v11 v12 v13 v14 v15 v16,cs=[v0,v1,v2,v3,v4,v5,v6,v7,v8,v9,v10,v11,v12,v13,v14,v15,v16]
 | [v0,v1,v2,v3,v4,v5,v6,v7,v8,v9,v10,v11,v12,v13,v14,v15,v16],_=>⟨v0,v1,v2,v3,v4,v5,v6,v7,v8,v9,v10,v11,v12,v13,v14,v15,v16,rfl⟩
theorem cellsCtor:Tryz.prog.cellsOf 45=7:=by kernel_rfl
theorem cellsDecl:Tryz.prog.cellsOf 39=17:=by kernel_rfl
theorem cellsCtors:Tryz.prog.cellsOf 37=1:=by kernel_rfl
theorem bytesCtor:Tryz.prog.bytesOf 45=104:=by kernel_rfl
theorem bytesDecl:Tryz.prog.bytesOf 39=240:=by kernel_rfl
theorem open_six {H:Type}{enc:TypeId×Value→H}{W:World}{fuel:Nat}{cs:List Value}{x:DataW H×List MemPlace}(h:DataW.trod enc Tryz.prog W 0 (fun _=>true) true fuel 36 cs=some x) :
  ∃(t0 t1:Int) (t2:Bool) (t3:ByteArray) (t4:Option Addr) (t5 t6:Nat) (t7:Option Addr) (t8 t9:Nat) (t:Tm),cs=[.int .i64 t0,.int .i64 t1,.bool t2,.string t3,.slice t4 t5 t6,.slice t7 t8 t9]∧TV W (.agg #[.int .i64 t0,.int .i64 t1,.bool t2,.string t3,.slice t4 t5 t6,.slice t7 t8 t9]) t∧((∀n∈x.1.weights Tryz.prog 36,n≤reachBytes)→okT t):=by
 obtain ⟨f,n,hd,nm,ls,ks,la,lc,ka,kc,kb,ko,e,hl,hln,hlc,hlm,hkn,hkc,hkm,hk,kids,hok⟩:=open_fields fuel (fun m _=>open_cells m) _ _ h
 exact ⟨f,n,hd,nm,la,ls.length,lc,ka,ks.length,kc,_,e,TV.mk hl hln hlc hlm hkn hkc hkm hk kids,hok⟩
def okCo (c:ByteArray×Tm):Prop:=c.1.size≤140737488351232∧okT c.2
theorem open_ctor {H:Type}{enc:TypeId×Value→H}{W:World}(fuel b o:Nat) (cs:List Value) (x:DataW H×List MemPlace) (hc:W.cells? 0 ⟨b,o,none⟩ 7=some cs) (h:DataW.trod enc Tryz.prog W 0 (fun _=>true) true fuel 45 cs=some x) :
  ∃c:ByteArray×Tm,(W.cell? ⟨b,o,none⟩=some (.string c.1)∧TC W b (o+1) c.2)∧((∀n∈x.1.weights Tryz.prog 45,n≤reachBytes)→okCo c):=by
 obtain ⟨xs,m,rfl,hX,hlen,hxs,hf⟩:=DataW.trod_struct Tryz.underlying45 h
 rw [cellsCtor] at hlen
 obtain ⟨v0,v1,v2,v3,v4,v5,v6,rfl⟩:=list7 hlen
 have h0:DataW.trod enc Tryz.prog W 0 (fun _=>true) true m 9 [v0]=xs[0]?:=by
  have h:=hf 0 _ rfl
  change DataW.trod enc Tryz.prog W 0 (fun _=>true) true m 9 (List.take (Tryz.prog.cellsOf 9) [v0,v1,v2,v3,v4,v5,v6])=_ at h
  rw [cS] at h
  exact h
 have h1:DataW.trod enc Tryz.prog W 0 (fun _=>true) true m 36 [v1,v2,v3,v4,v5,v6]=xs[1]?:=by
  have h:=hf 1 _ rfl
  change DataW.trod enc Tryz.prog W 0 (fun _=>true) true m 36 (List.take (Tryz.prog.cellsOf 36) [v1,v2,v3,v4,v5,v6])=_ at h
  rw [cellsTerm] at h
  exact h
 have hx:xs.length=2:=hxs
 have HX:=Hid.mk hX
 clear hX
 have g:∀k,k<2→∃y,xs[k]?=some y:=fun k hk=>⟨xs[k]'(by omega),by simp [hx,hk]⟩
 obtain ⟨y0,g0⟩:=g 0 (by decide)
 obtain ⟨y1,g1⟩:=g 1 (by decide)
 rw [g0] at h0
 rw [g1] at h1
 obtain ⟨nm,e0,x0,-⟩:=DataW.trod_string Tryz.underlying9 h0
 obtain ⟨t0,t1,t2,t3,t4,t5,t6,t7,t8,t9,t,e1,htv,hok⟩:=open_six h1
 obtain ⟨-,-,hcs⟩:=World.cells?_some hc
 have c0:=hcs 0 (by decide)
 have c1:=hcs 1 (by decide)
 have c2:=hcs 2 (by decide)
 have c3:=hcs 3 (by decide)
 have c4:=hcs 4 (by decide)
 have c5:=hcs 5 (by decide)
 have c6:=hcs 6 (by decide)
 rw [add_plain] at c0 c1 c2 c3 c4 c5 c6
 simp only [List.cons.injEq,and_true] at e0 e1
 obtain ⟨rfl,rfl,rfl,rfl,rfl,rfl⟩:=e1
 subst e0
 refine ⟨(nm,t),⟨c0,?_⟩,fun hw=>⟨?_,hok fun n hn=>hw n ?_⟩⟩
 ·exact CellsAt.tc ⟨t0,t1,t2,t3,t4,t5,t6,t7,t8,t9,rfl,c1,c2,c3,c4,c5,c6⟩ htv
 ·have:=hw nm.data.toList.length (by
   rw [HX.out,weights_agg Tryz.underlying45]
   refine DataW.weights_mem_each (j:=0) (t:=9) (d:=y0.1) rfl (by simp [g0]) _ ?_
   rw [x0]
   simp [DataW.weights])
  unfold reachBytes at this
  simpa using this
 ·rw [HX.out,weights_agg Tryz.underlying45]
  exact DataW.weights_mem_each (j:=1) (t:=36) (d:=y1.1) rfl (by simp [g1]) _ hn
structure okDo (d:Dl):Prop where
 name:d.name.size≤140737488351232
 ty:okT d.ty
 val:okT d.val
 len:d.ctors.length≤8796093022208
 ctors:∀c∈d.ctors,okCo c
theorem open_decl {H:Type}{enc:TypeId×Value→H}{W:World}(fuel b o:Nat) (cs:List Value) (x:DataW H×List MemPlace) (hc:W.cells? 0 ⟨b,o,none⟩ 17=some cs) (h:DataW.trod enc Tryz.prog W 0 (fun _=>true) true fuel 39 cs=some x) :
  ∃d:Dl,DCl W b o d∧((∀n∈x.1.weights Tryz.prog 39,n≤reachBytes)→okDo d):=by
 obtain ⟨xs,m,rfl,hX,hlen,hxs,hf⟩:=DataW.trod_struct Tryz.underlying39 h
 rw [cellsDecl] at hlen
 have HC0:Hid (∀i,i<17→W.cell? ⟨b,o+i,none⟩=cs[i]?):=fun i hi=>by
  have:=(World.cells?_some hc).2.2 i hi
  rw [add_plain] at this
  exact this
 obtain ⟨v0,v1,v2,v3,v4,v5,v6,v7,v8,v9,v10,v11,v12,v13,v14,v15,v16,rfl⟩:=list17 hlen
 have h0:DataW.trod enc Tryz.prog W 0 (fun _=>true) true m 3 [v0]=xs[0]?:=by
  have h:=hf 0 _ rfl
  change DataW.trod enc Tryz.prog W 0 (fun _=>true) true m 3 (List.take (Tryz.prog.cellsOf 3) [v0,v1,v2,v3,v4,v5,v6,v7,v8,v9,v10,v11,v12,v13,v14,v15,v16])=_ at h
  rw [cI] at h
  exact h
 have h1:DataW.trod enc Tryz.prog W 0 (fun _=>true) true m 9 [v1]=xs[1]?:=by
  have h:=hf 1 _ rfl
  change DataW.trod enc Tryz.prog W 0 (fun _=>true) true m 9 (List.take (Tryz.prog.cellsOf 9) [v1,v2,v3,v4,v5,v6,v7,v8,v9,v10,v11,v12,v13,v14,v15,v16])=_ at h
  rw [cS] at h
  exact h
 have h2:DataW.trod enc Tryz.prog W 0 (fun _=>true) true m 3 [v2]=xs[2]?:=by
  have h:=hf 2 _ rfl
  change DataW.trod enc Tryz.prog W 0 (fun _=>true) true m 3 (List.take (Tryz.prog.cellsOf 3) [v2,v3,v4,v5,v6,v7,v8,v9,v10,v11,v12,v13,v14,v15,v16])=_ at h
  rw [cI] at h
  exact h
 have h3:DataW.trod enc Tryz.prog W 0 (fun _=>true) true m 36 [v3,v4,v5,v6,v7,v8]=xs[3]?:=by
  have h:=hf 3 _ rfl
  change DataW.trod enc Tryz.prog W 0 (fun _=>true) true m 36 (List.take (Tryz.prog.cellsOf 36) [v3,v4,v5,v6,v7,v8,v9,v10,v11,v12,v13,v14,v15,v16])=_ at h
  rw [cellsTerm] at h
  exact h
 have h4:DataW.trod enc Tryz.prog W 0 (fun _=>true) true m 36 [v9,v10,v11,v12,v13,v14]=xs[4]?:=by
  have h:=hf 4 _ rfl
  change DataW.trod enc Tryz.prog W 0 (fun _=>true) true m 36 (List.take (Tryz.prog.cellsOf 36) [v9,v10,v11,v12,v13,v14,v15,v16])=_ at h
  rw [cellsTerm] at h
  exact h
 have h5:DataW.trod enc Tryz.prog W 0 (fun _=>true) true m 3 [v15]=xs[5]?:=by
  have h:=hf 5 _ rfl
  change DataW.trod enc Tryz.prog W 0 (fun _=>true) true m 3 (List.take (Tryz.prog.cellsOf 3) [v15,v16])=_ at h
  rw [cI] at h
  exact h
 have h6:DataW.trod enc Tryz.prog W 0 (fun _=>true) true m 37 [v16]=xs[6]?:=by
  have h:=hf 6 _ rfl
  change DataW.trod enc Tryz.prog W 0 (fun _=>true) true m 37 (List.take (Tryz.prog.cellsOf 37) [v16])=_ at h
  rw [cellsCtors] at h
  exact h
 have hx:xs.length=7:=hxs
 have HX:=Hid.mk hX
 clear hX
 have g:∀k,k<7→∃y,xs[k]?=some y:=fun k hk=>⟨xs[k]'(by omega),by simp [hx,hk]⟩
 obtain ⟨y0,g0⟩:=g 0 (by decide)
 rw [g0] at h0
 obtain ⟨y1,g1⟩:=g 1 (by decide)
 rw [g1] at h1
 obtain ⟨y2,g2⟩:=g 2 (by decide)
 rw [g2] at h2
 obtain ⟨y3,g3⟩:=g 3 (by decide)
 rw [g3] at h3
 obtain ⟨y4,g4⟩:=g 4 (by decide)
 rw [g4] at h4
 obtain ⟨y5,g5⟩:=g 5 (by decide)
 rw [g5] at h5
 obtain ⟨y6,g6⟩:=g 6 (by decide)
 rw [g6] at h6
 obtain ⟨kd,e0,-,-⟩:=DataW.trod_int Tryz.underlying3 h0
 obtain ⟨nm,e1,x1,-⟩:=DataW.trod_string Tryz.underlying9 h1
 obtain ⟨lv,e2,-,-⟩:=DataW.trod_int Tryz.underlying3 h2
 obtain ⟨t0,t1,t2,t3,t4,t5,t6,t7,t8,t9,t,e3,htv,hokt⟩:=open_six h3
 obtain ⟨z0,z1,z2,z3,z4,z5,z6,z7,z8,z9,z,e4,hzv,hokz⟩:=open_six h4
 obtain ⟨pr,e5,-,-⟩:=DataW.trod_int Tryz.underlying3 h5
 obtain ⟨ks,ca,cc,e6,hcn,hcl,hcm,hck,hokc⟩:=open_any Tryz.underlying37 cellsCtor (by decide) (fun b o (c:ByteArray×Tm)=>W.cell? ⟨b,o,none⟩=some (.string c.1)∧TC W b (o+1) c.2) okCo (ByteArray.empty,.mk 0 0 false ByteArray.empty [] []) (fun fuel b o cs y=>open_ctor fuel b o cs y) m _ _ h6
 have W1:Hid ((∀n∈x.1.weights Tryz.prog 39,n≤reachBytes)→nm.size≤140737488351232):=fun hw=>by
  have:=hw nm.data.toList.length (by
   rw [HX.out,weights_agg Tryz.underlying39]
   refine DataW.weights_mem_each (j:=1) (t:=9) (d:=y1.1) rfl (by simp [g1]) _ ?_
   rw [x1]
   simp [DataW.weights])
  unfold reachBytes at this
  simpa using this
 have wk:∀(k:Nat) (tt:TypeId) (y:DataW H×List MemPlace),#[3,9,3,36,36,3,37].toList[k]?=some tt→xs[k]?=some y→(∀n∈x.1.weights Tryz.prog 39,n≤reachBytes)→∀n∈y.1.weights Tryz.prog tt,n≤reachBytes:=fun k tt y h1 h2 hw n hn=>hw n (by
  rw [HX.out,weights_agg Tryz.underlying39]
  exact DataW.weights_mem_each (j:=k) (t:=tt) (d:=y.1) h1 (by simp [h2]) _ hn)
 simp only [List.cons.injEq,and_true] at e0 e1 e2 e3 e4 e5
 obtain ⟨rfl,rfl,rfl,rfl,rfl,rfl⟩:=e3
 obtain ⟨rfl,rfl,rfl,rfl,rfl,rfl⟩:=e4
 subst e0 e1 e2 e5 e6
 refine ⟨⟨kd,nm,lv,t,z,pr,ks⟩,⟨⟨_,hlen,fun j v hj=>?_,?_,⟨t0,t1,t2,t3,t4,t5,t6,t7,t8,t9,z0,z1,z2,z3,z4,z5,z6,z7,z8,z9,ca,cc,rfl,htv,hzv,?_⟩⟩⟩,fun hw=>⟨W1.out hw,hokt (wk 3 _ _ rfl g3 hw),hokz (wk 4 _ _ rfl g4 hw),?_,(hokc (wk 6 _ _ rfl g6 hw)).2⟩⟩
 ·have hj17:j<17:=by have:=(List.getElem?_eq_some_iff.1 hj).1;omega
  rw [HC0.out j hj17]
  exact hj
 ·simp [Value.oneCell']
 ·rcases hck with h | ⟨b',o',h1,h2,h3⟩
  ·exact Or.inl h
  ·exact Or.inr ⟨b',o',h1,h2,fun i c hi=>h3 i c hi⟩
 ·have:=(hokc (wk 6 _ _ rfl g6 hw)).1
  rw [bytesCtor] at this
  unfold reachBytes at this
  simp only
  omega
theorem open_decls {H:Type}{enc:TypeId×Value→H}{W:World}{r:Reach}{b0:Nat}{v:Value}{d:DataW H}{p:List MemPlace}(hv:Value.okWide Tryz.prog W r b0 22 v) (h:DataW.Trod enc Tryz.prog W 0 (fun _=>true) true 22 v d p):∃(ds:List Dl) (a:Option Addr) (cap:Nat),v=.slice a ds.length cap∧(a=none→cap=0)∧ds.length≤cap∧cap≤9223372036854775807∧DL W a ds∧((∀n∈d.weights Tryz.prog 22,n≤reachBytes)→ds.length≤8796093022208∧∀d∈ds,okDo d):=by
 obtain ⟨a0,len0,cap0,rfl⟩:=okWide_slice Tryz.underlying22 hv
 obtain ⟨fuel,h5⟩:=h
 obtain ⟨ds,a,cap,e,h1,h2,h3,h4,h6⟩:=open_any Tryz.underlying22 cellsDecl (by decide) (fun b o d=>DCl W b o d) okDo ⟨0,ByteArray.empty,0,.mk 0 0 false ByteArray.empty [] [],.mk 0 0 false ByteArray.empty [] [],0,[]⟩ (fun fuel b o cs y=>open_decl fuel b o cs y) fuel _ _ h5
 refine ⟨ds,a,cap,e,h1,h2,h3,h4,fun hw=>⟨?_,(h6 hw).2⟩⟩
 have h7:=(h6 hw).1
 rw [bytesDecl] at h7
 unfold reachBytes at h7
 omega
open Go.Lib
theorem encTs_wt {c:Nat}:∀{ks:List Tm},(∀k∈ks,(encT k).length≤wtT k*c)→(ks.flatMap encT).length≤(ks.map wtT).sum*c
 | [],_=>by simp
 | k::ks,h=>by
  rw [List.flatMap_cons,List.length_append,List.map_cons,List.sum_cons,Nat.add_mul]
  have h1:=h k (by simp)
  have h2:=encTs_wt (ks:=ks) fun x hx=>h x (by simp [hx])
  omega
theorem levs_wt:∀ls:List LvT,ls.length≤(ls.map fun l=>1+l.2.length).sum
 | []=>by simp
 | l::ls=>by
  have:=levs_wt ls
  rw [List.map_cons,List.sum_cons,List.length_cons]
  omega
theorem encT_wt (t:Tm):smT 1000000 t→formedB t=true→(encT t).length≤wtT t*1300:=by
 refine Tm.ind (P:=fun t=>smT 1000000 t→formedB t=true→(encT t).length≤wtT t*1300) ?_ t
 intro f n hd nm ls ks ih hsm hf
 obtain ⟨h1,h2,h3,h4,h5⟩:=(smT_mk _ _ _ _ _ _ _).1 hsm
 obtain ⟨-,p1,p2,p10,p5⟩:=formed_part hf
 have hk:=encTs_wt (c:=1300) (ks:=ks) fun k hk=>ih k hk (h5 k hk) (p5 k hk)
 rw [encT_mk,wtT_mk,List.length_append,List.length_append,Nat.add_mul]
 have hfo:=formed_form hf
 have hf9:=numB_9 (n:=f.toNat) (by omega)
 have hls:=levs_wt ls
 have hfl:(fieldB f n hd nm ls).length≤100+ls.length*1200:=by
  unfold fieldB
  split
  ·have:=p1 (by assumption)
   have:=numB_9 (n:=n.toNat) (by omega)
   omega
  ·split
   ·simp;omega
   ·split
    ·obtain ⟨q1,q2,q3⟩:=p10 (by assumption)
     have h6:=flat_len (c:=1200) (f:=levB) (xs:=ls) fun l hl=>levB_len (canon_rightL (q3 l hl))
     have h7:=numB_9 (n:=nm.size) (by omega)
     have h8:=numB_9 (n:=ls.length) (by omega)
     have h9:nm.data.toList.length=nm.size:=rfl
     unfold nameB
     rw [List.length_append,List.length_append,List.length_append]
     omega
    ·split
     ·obtain ⟨l,rfl,q3⟩:=p2 (by assumption)
      have:=levB_len (canon_rightL q3)
      simp
      omega
     ·simp
 omega
structure BgD (d:Dl):Prop where
 ty:smT 1000000 d.ty∧wtT d.ty≤3000
 val:smT 1000000 d.val∧wtT d.val≤3000
 len:d.ctors.length≤600
 ctors:∀c∈d.ctors,smT 1000000 c.2∧wtT c.2≤3000
theorem BgD.sm {d:Dl}(h:BgD d) (ho:okDo d):smD d:=⟨ho.name,h.ty.1,h.val.1,by have:=h.len;omega,fun c hc=>⟨(ho.ctors c hc).1,(h.ctors c hc).1⟩⟩
theorem flat_most {α:Type}{f:α→List UInt8}{c:Nat}:∀(xs:List α),(∀x∈xs,(f x).length≤c)→(xs.flatMap f).length≤xs.length*c
 | [],_=>by simp
 | x::xs,h=>by
  have h1:=h x (by simp)
  have h2:=flat_most xs fun y hy=>h y (by simp [hy])
  rw [List.flatMap_cons,List.length_append,List.length_cons,Nat.add_mul,Nat.one_mul]
  omega
theorem name_most {s:ByteArray}(h:s.size≤60):(nameB s).length≤69:=by
 unfold nameB
 rw [List.length_append]
 have h1:=numB_9 (n:=s.size) (by omega)
 have h2:s.data.toList.length=s.size:=rfl
 omega
theorem encD_most {d:Dl}(h:BgD d) (hok:okD d):(encD d).length≤3000000000:=by
 have e1:=encT_wt _ h.ty.1 hok.ty.2
 have b1:=h.ty.2
 have n1:=name_most hok.name.2
 have k1:=hok.kind
 have k2:=hok.levels
 have n2:=numB_9 (n:=d.kind.toNat) (by omega)
 have n3:=numB_9 (n:=d.levels.toNat) (by omega)
 have hF:(encF d).length≤2500000000:=by
  unfold encF
  split
  ·rename_i hk
   have e2:=encT_wt _ h.val.1 (hok.val hk).2
   have b2:=h.val.2
   omega
  ·split
   ·rename_i hk
    obtain ⟨p1,p2,p3,p4⟩:=hok.fam hk
    have n4:=numB_9 (n:=d.params.toNat) (by omega)
    have n5:=numB_9 (n:=d.ctors.length) (by omega)
    have hc:=flat_most (f:=encC) (c:=3900069) d.ctors (fun c hc=>by
     obtain ⟨q1,q2,q3,q4⟩:=p4 c hc
     have e3:=encT_wt _ q3 q4
     have b3:=(h.ctors c hc).2
     have n6:=name_most q2
     unfold encC
     rw [List.length_append]
     omega)
    have hl:=h.len
    rw [List.length_append,List.length_append]
    omega
   ·simp
 unfold encD
 rw [List.length_append,List.length_append,List.length_append,List.length_append]
 omega
theorem encDs_most {ds:List Dl}(hn:ds.length≤600) (h:∀d∈ds,BgD d) (hok:∀d∈ds,okD d):(encDs ds).length≤50000000000000:=by
 have h1:=flat_most (f:=encD) (c:=3000000000) ds fun d hd=>encD_most (h d hd) (hok d hd)
 have h2:=numB_9 (n:=ds.length) (by omega)
 unfold encDs
 rw [List.length_append]
 omega
def BigOut (ds:List Dl) (e:Ending):Prop:=∃q:Bool,e=.returned (.bool q)∧(q=false→ds.length≤600∧∀d∈ds,BgD d)
theorem DCl.cells {w:World}{b o:Nat}{d:Dl}(h:DCl w b o d):w.cell? ⟨b,o+1,none⟩=some (.string d.name)∧TC w b (o+3) d.ty∧TC w b (o+9) d.val∧∃ca cc,w.cell? ⟨b,o+16,none⟩=some (.slice ca d.ctors.length cc)∧CK w ca d.ctors:=by
 obtain ⟨cs,hl,hr,-,hdv⟩:=h.go
 obtain ⟨t0,t1,t2,t3,t4,t5,t6,t7,t8,t9,v0,v1,v2,v3,v4,v5,v6,v7,v8,v9,ca,cc,hv,htt,htv,hck⟩:=hdv.go
 simp only [Value.agg.injEq] at hv
 have hv:=congrArg Array.toList hv
 simp only at hv
 rw [hv] at hr
 exact ⟨hr 1 _ rfl,CellsAt.tc ⟨t0,t1,t2,t3,t4,t5,t6,t7,t8,t9,rfl,hr 3 _ rfl,hr 4 _ rfl,hr 5 _ rfl,hr 6 _ rfl,hr 7 _ rfl,hr 8 _ rfl⟩ htt,CellsAt.tc ⟨v0,v1,v2,v3,v4,v5,v6,v7,v8,v9,rfl,hr 9 _ rfl,hr 10 _ rfl,hr 11 _ rfl,hr 12 _ rfl,hr 13 _ rfl,hr 14 _ rfl⟩ htv,ca,cc,hr 16 _ rfl,hck⟩
theorem Big3_any (ds:List Dl) (a:Option Addr) (cap:Nat) (w:World) (hL:DL w a ds) (hok:∀d∈ds,okDo d) (hn:ds.length≤8796093022208):Calls Tryz.prog 5 #[.slice a ds.length cap] w fun e w'=>BigOut ds e∧RowKit.Below w.heap.size w w':=by
 have HL:=Hid.mk hL
 have HOK:=Hid.mk hok
 clear hL hok
 go_enter Tryz.func5,Tryz.ntmps5
 go_wp2
 go_loopw [3,4] (fun vn i wr=>∃(k:Nat) (m:Int),k≤ds.length∧i=.int .i64 k∧vn=.int .i64 m∧(ds.length:Int)≤m∧m≤27000000000000∧(m≤600→∀d∈ds.take k,BgD d)∧RowKit.Below w.heap.size w wr) (fun _ i _=>ds.length - (intOf i).toNat)
 case atStart=>exact ⟨0,ds.length,Nat.zero_le _,rfl,rfl,by omega,by omega,fun _ d hd=>by simp at hd,Below.refl _ _⟩
 case round =>
  obtain ⟨k,m,hk,rfl,rfl,hm1,hm2,hall,hb⟩:=hrel
  obtain ⟨WO,rfl⟩:∃W,W=wr:=⟨_,rfl⟩
  have HBR:=Hid.mk hb
  have HALL:=Hid.mk hall
  have hbs:=hb.size
  clear hb hall
  by_cases hlt:k<ds.length
  rotate_left
  ·have zk:¬(k:Int)<(ds.length:Int):=by omega
   go_wp2
   go_ret
   refine ⟨⟨decide (600<m),rfl,fun h=>?_⟩,HBR.out⟩
   have h6:=of_decide_eq_false h
   refine ⟨by omega,fun d hd=>HALL.out (by omega) d ?_⟩
   rw [List.take_of_length_le (by omega)]
   exact hd
  have zk:(k:Int)<(ds.length:Int):=by omega
  by_cases h600:m≤600
  rotate_left
  ·go_wp2
   go_ret
   exact ⟨⟨true,rfl,fun h=>(by cases h)⟩,HBR.out⟩
  obtain ⟨cb,co,rfl,hcb0,hcs⟩:=HL.out.resolve_left (by intro e;rw [e] at hlt;simp at hlt)
  have hokk:=HOK.out _ (List.getElem_mem hlt)
  have hd0:=hcs k _ (List.getElem?_eq_getElem hlt)
  have HTK:=Hid.mk (fun x=>mem_take_succ (x:=x) (List.getElem?_eq_getElem hlt))
  generalize ds[k]=kk at *
  have HOKD:=Hid.mk hokk
  have HCX:Hid (∀W,RowKit.Below w.heap.size w W→∃(_:W.cell? ⟨cb,co+k*17+1,none⟩=some (.string kk.name)) (ca:Option Addr) (cc:Nat),W.cell? ⟨cb,co+k*17+16,none⟩=some (.slice ca kk.ctors.length cc)∧CK W ca kk.ctors):=fun W hW=>by
   obtain ⟨h1,-,-,ca,cc,h2,h3⟩:=(hd0.on hW hcb0).cells
   exact ⟨h1,ca,cc,h2,h3⟩
  have HTT:Hid (∀W,RowKit.Below w.heap.size w W→TC W cb (co+k*17+3) kk.ty∧TC W cb (co+k*17+9) kk.val):=fun W hW=>by
   obtain ⟨-,h1,h2,-⟩:=(hd0.on hW hcb0).cells
   exact ⟨h1,h2⟩
  clear hd0 hcs hokk
  obtain ⟨v0,v1,v2,v3,v4,v5,c0,c1,c2,c3,c4,c5,hv⟩:=(HTT.out _ HBR.out).1.val
  have HC1:=BigW_any kk.ty _ WO HOKD.out.ty hv
  clear hv
  go_wp2_with fail
  refine HC1.mono ?_
  rintro e w1 ⟨⟨q1,rfl,hq1⟩,hg1⟩
  have HQ1:=Hid.mk hq1
  have HB1:Hid (RowKit.Below w.heap.size w w1):=HBR.out.trans (hg1.below.mono hbs)
  clear hq1 hg1 HC1 c0 c1 c2 c3 c4 c5
  cases q1 with
  | true =>
   have HB5:=HB1
   obtain ⟨cn,cca,ccc,cs6,hck⟩:=HCX.out _ HB5.out
   have HCK:=Hid.mk hck
   have hq:((kk.name.size:Int) / 16)≤8796093022208:=by have:=HOKD.out.name;omega
   have hq0:0≤((kk.name.size:Int) / 16):=by omega
   have hcl:=HOKD.out.len
   have hw1:IntKind.i64.wrap (m+(kk.ctors.length:Int))=m+(kk.ctors.length:Int):=by rw [IntKind.wrap_i64];omega
   have hw2:IntKind.i64.wrap (m+(kk.ctors.length:Int)+(kk.name.size:Int) / 16)=m+(kk.ctors.length:Int)+(kk.name.size:Int) / 16:=by rw [IntKind.wrap_i64];omega
   have HFACT:Hid (true=false→(smT 1000000 kk.ty∧wtT kk.ty≤3000)∧(smT 1000000 kk.val∧wtT kk.val≤3000)):=fun h=>(by cases h)
   clear hck
   go_wp2
   go_quiet (fail)
   obtain ⟨m2,hm2⟩:∃m2:Int,m2=m+(kk.ctors.length:Int)+(kk.name.size:Int) / 16:=⟨_,rfl⟩
   rw [←hm2]
   have HBD:Hid (RowKit.Below w.heap.size w (w1.drewN nq)):=HB5.out.trans ((below_drewN (Below.refl _ _) nq).mono HB5.out.size)
   have hm2a:(kk.ctors.length:Int)≤m2:=by omega
   have hm2b:m2≤27000000000000:=by omega
   have hm2c:(ds.length:Int)≤m2:=by omega
   clear hm2 hw1 hw2 cn cs6 hq hq0
   go_wp2
   go_loopw [5,6] (fun mu j wr=>∃(jj:Nat) (b:Bool),mu=.bool b∧j=.int .i64 jj∧jj≤kk.ctors.length∧(b=false→((smT 1000000 kk.ty∧wtT kk.ty≤3000)∧(smT 1000000 kk.val∧wtT kk.val≤3000))∧∀c∈kk.ctors.take jj,smT 1000000 c.2∧wtT c.2≤3000)∧RowKit.Below w.heap.size w wr) (fun _ j _=>kk.ctors.length - (intOf j).toNat)
   case atStart=>exact ⟨0,true,rfl,rfl,Nat.zero_le _,fun h=>⟨HFACT.out h,fun c hc=>by simp at hc⟩,HBD.out⟩
   case round =>
    obtain ⟨jj,b,rfl,rfl,hjj,hcs,hbi⟩:=hrel
    have HCS:=Hid.mk hcs
    have HBI:=Hid.mk hbi
    have hbis:=hbi.size
    clear hcs hbi
    obtain ⟨cn,ca,cc,cs6,hck⟩:=HCX.out _ HBI.out
    have HCKI:=Hid.mk hck
    clear hck
    by_cases hjl:jj<kk.ctors.length
    rotate_left
    ·have zj:¬(jj:Int)<(kk.ctors.length:Int):=by omega
     cases b with
     | true =>
      go_wp2
      go_ret
      exact ⟨⟨true,rfl,fun h=>(by cases h)⟩,HBI.out⟩
     | false =>
      go_wp2
      refine ⟨⟨k+1,m2,hlt,by go_num,rfl,by omega,by omega,fun h d hd=>?_,HBI.out⟩,by simp [intOf];omega⟩
      rcases HTK.out d hd with h1 | h1
      ·exact HALL.out (by omega) d h1
      ·rw [h1]
       have hlen:kk.ctors.length≤600:=by omega
       obtain ⟨⟨p1,p2⟩,p3⟩:=HCS.out (by trivial)
       rw [List.take_of_length_le (by omega)] at p3
       exact ⟨p1,p2,hlen,p3⟩
    have zj:(jj:Int)<(kk.ctors.length:Int):=by omega
    by_cases h62:m2≤600
    rotate_left
    ·skip
     cases b with
     | true =>
      go_wp2
      go_ret
      exact ⟨⟨true,rfl,fun h=>(by cases h)⟩,HBI.out⟩
     | false =>
      go_wp2
      refine ⟨⟨k+1,m2,hlt,by go_num,rfl,by omega,by omega,fun h d hd=>?_,HBI.out⟩,by simp [intOf];omega⟩
      rcases HTK.out d hd with h1 | h1
      ·exact HALL.out (by omega) d h1
      ·rw [h1]
       exact absurd h h62
    obtain ⟨xb,xo,rfl,hxb,hxc⟩:=HCKI.out.resolve_left (by intro e;rw [e] at hjl;simp at hjl)
    obtain ⟨-,htc⟩:=hxc jj _ (List.getElem?_eq_getElem hjl)
    have hokc:=HOKD.out.ctors _ (List.getElem_mem hjl)
    have HTKC:=Hid.mk (fun x=>mem_take_succ (x:=x) (List.getElem?_eq_getElem hjl))
    generalize kk.ctors[jj]=cj at *
    obtain ⟨v0,v1,v2,v3,v4,v5,c0,c1,c2,c3,c4,c5,hv⟩:=htc.val
    have HC3:=BigW_any cj.2 _ wr hokc.2 hv
    clear hv htc hxc hokc
    go_wp2_with fail
    refine HC3.mono ?_
    rintro e w3 ⟨⟨q3,rfl,hq3⟩,hg3⟩
    have HQ3:=Hid.mk hq3
    have HB3:Hid (RowKit.Below w.heap.size w w3):=HBI.out.trans (hg3.below.mono hbis)
    clear hq3 hg3 HC3 c0 c1 c2 c3 c4 c5
    cases b with
    | true =>
     go_wp2
     exact ⟨⟨jj+1,true,rfl,by go_num,hjl,fun h=>(by cases h),HB3.out⟩,by simp [intOf];omega⟩
    | false =>
     go_wp2
     refine ⟨⟨jj+1,q3,rfl,by go_num,hjl,fun h=>⟨(HCS.out (by trivial)).1,fun c hc=>?_⟩,HB3.out⟩,by simp [intOf];omega⟩
     rcases HTKC.out c hc with h1 | h1
     ·exact (HCS.out (by trivial)).2 c h1
     ·rw [h1];exact HQ3.out h
  | false =>
   obtain ⟨v0,v1,v2,v3,v4,v5,c0,c1,c2,c3,c4,c5,hv⟩:=(HTT.out _ HB1.out).2.val
   have HC2:=BigW_any kk.val _ w1 HOKD.out.val hv
   clear hv
   go_wp2_with fail
   refine HC2.mono ?_
   rintro e w2 ⟨⟨q2,rfl,hq2⟩,hg2⟩
   have HQ2:=Hid.mk hq2
   have HB2:Hid (RowKit.Below w.heap.size w w2):=HB1.out.trans (hg2.below.mono HB1.out.size)
   clear hq2 hg2 HC2 c0 c1 c2 c3 c4 c5
   have HB5:=HB2
   obtain ⟨cn,cca,ccc,cs6,hck⟩:=HCX.out _ HB5.out
   have HCK:=Hid.mk hck
   have hq:((kk.name.size:Int) / 16)≤8796093022208:=by have:=HOKD.out.name;omega
   have hq0:0≤((kk.name.size:Int) / 16):=by omega
   have hcl:=HOKD.out.len
   have hw1:IntKind.i64.wrap (m+(kk.ctors.length:Int))=m+(kk.ctors.length:Int):=by rw [IntKind.wrap_i64];omega
   have hw2:IntKind.i64.wrap (m+(kk.ctors.length:Int)+(kk.name.size:Int) / 16)=m+(kk.ctors.length:Int)+(kk.name.size:Int) / 16:=by rw [IntKind.wrap_i64];omega
   have HFACT:Hid (q2=false→(smT 1000000 kk.ty∧wtT kk.ty≤3000)∧(smT 1000000 kk.val∧wtT kk.val≤3000)):=fun h=>⟨HQ1.out (by trivial),HQ2.out h⟩
   clear hck
   go_wp2
   go_quiet (fail)
   obtain ⟨m2,hm2⟩:∃m2:Int,m2=m+(kk.ctors.length:Int)+(kk.name.size:Int) / 16:=⟨_,rfl⟩
   rw [←hm2]
   have HBD:Hid (RowKit.Below w.heap.size w (w2.drewN nq)):=HB5.out.trans ((below_drewN (Below.refl _ _) nq).mono HB5.out.size)
   have hm2a:(kk.ctors.length:Int)≤m2:=by omega
   have hm2b:m2≤27000000000000:=by omega
   have hm2c:(ds.length:Int)≤m2:=by omega
   clear hm2 hw1 hw2 cn cs6 hq hq0
   go_wp2
   go_loopw [5,6] (fun mu j wr=>∃(jj:Nat) (b:Bool),mu=.bool b∧j=.int .i64 jj∧jj≤kk.ctors.length∧(b=false→((smT 1000000 kk.ty∧wtT kk.ty≤3000)∧(smT 1000000 kk.val∧wtT kk.val≤3000))∧∀c∈kk.ctors.take jj,smT 1000000 c.2∧wtT c.2≤3000)∧RowKit.Below w.heap.size w wr) (fun _ j _=>kk.ctors.length - (intOf j).toNat)
   case atStart=>exact ⟨0,q2,rfl,rfl,Nat.zero_le _,fun h=>⟨HFACT.out h,fun c hc=>by simp at hc⟩,HBD.out⟩
   case round =>
    obtain ⟨jj,b,rfl,rfl,hjj,hcs,hbi⟩:=hrel
    have HCS:=Hid.mk hcs
    have HBI:=Hid.mk hbi
    have hbis:=hbi.size
    clear hcs hbi
    obtain ⟨cn,ca,cc,cs6,hck⟩:=HCX.out _ HBI.out
    have HCKI:=Hid.mk hck
    clear hck
    by_cases hjl:jj<kk.ctors.length
    rotate_left
    ·have zj:¬(jj:Int)<(kk.ctors.length:Int):=by omega
     cases b with
     | true =>
      go_wp2
      go_ret
      exact ⟨⟨true,rfl,fun h=>(by cases h)⟩,HBI.out⟩
     | false =>
      go_wp2
      refine ⟨⟨k+1,m2,hlt,by go_num,rfl,by omega,by omega,fun h d hd=>?_,HBI.out⟩,by simp [intOf];omega⟩
      rcases HTK.out d hd with h1 | h1
      ·exact HALL.out (by omega) d h1
      ·rw [h1]
       have hlen:kk.ctors.length≤600:=by omega
       obtain ⟨⟨p1,p2⟩,p3⟩:=HCS.out (by trivial)
       rw [List.take_of_length_le (by omega)] at p3
       exact ⟨p1,p2,hlen,p3⟩
    have zj:(jj:Int)<(kk.ctors.length:Int):=by omega
    by_cases h62:m2≤600
    rotate_left
    ·skip
     cases b with
     | true =>
      go_wp2
      go_ret
      exact ⟨⟨true,rfl,fun h=>(by cases h)⟩,HBI.out⟩
     | false =>
      go_wp2
      refine ⟨⟨k+1,m2,hlt,by go_num,rfl,by omega,by omega,fun h d hd=>?_,HBI.out⟩,by simp [intOf];omega⟩
      rcases HTK.out d hd with h1 | h1
      ·exact HALL.out (by omega) d h1
      ·rw [h1]
       exact absurd h h62
    obtain ⟨xb,xo,rfl,hxb,hxc⟩:=HCKI.out.resolve_left (by intro e;rw [e] at hjl;simp at hjl)
    obtain ⟨-,htc⟩:=hxc jj _ (List.getElem?_eq_getElem hjl)
    have hokc:=HOKD.out.ctors _ (List.getElem_mem hjl)
    have HTKC:=Hid.mk (fun x=>mem_take_succ (x:=x) (List.getElem?_eq_getElem hjl))
    generalize kk.ctors[jj]=cj at *
    obtain ⟨v0,v1,v2,v3,v4,v5,c0,c1,c2,c3,c4,c5,hv⟩:=htc.val
    have HC3:=BigW_any cj.2 _ wr hokc.2 hv
    clear hv htc hxc hokc
    go_wp2_with fail
    refine HC3.mono ?_
    rintro e w3 ⟨⟨q3,rfl,hq3⟩,hg3⟩
    have HQ3:=Hid.mk hq3
    have HB3:Hid (RowKit.Below w.heap.size w w3):=HBI.out.trans (hg3.below.mono hbis)
    clear hq3 hg3 HC3 c0 c1 c2 c3 c4 c5
    cases b with
    | true =>
     go_wp2
     exact ⟨⟨jj+1,true,rfl,by go_num,hjl,fun h=>(by cases h),HB3.out⟩,by simp [intOf];omega⟩
    | false =>
     go_wp2
     refine ⟨⟨jj+1,q3,rfl,by go_num,hjl,fun h=>⟨(HCS.out (by trivial)).1,fun c hc=>?_⟩,HB3.out⟩,by simp [intOf];omega⟩
     rcases HTKC.out c hc with h1 | h1
     ·exact (HCS.out (by trivial)).2 c h1
     ·rw [h1];exact HQ3.out h
end Go.Proofs.YtgfgpjcnfnopnaaGreat
