/- How an argument of type api.Term is read. -/
import Derived.Test.YtgfgpjcnfnopnaaGreatRows
import Derived.ProofKit
import Derived.OpenShut
import Derived.Below
import Derived.Lib.SmallJoins
import Derived.Deep.SlicePairs
import Derived.SizedLaws
import Derived.Test.YtgfgpjcnfnopnaaGreatOA
namespace Go.Proofs.YtgfgpjcnfnopnaaGreat
set_option maxRecDepth 100000
set_option maxHeartbeats 40000000
open Go.ChangeShapes Go.WideShapes Go.ChangeAt Go.RowKit Go.Sort Go.Joins
theorem cellsLevelT:Tryz.prog.cellsOf 75=2:=by kernel_rfl
theorem cellsLVarT:Tryz.prog.cellsOf 109=2:=by kernel_rfl
theorem cellsTerm:Tryz.prog.cellsOf 36=6:=by kernel_rfl
theorem laidOut:laidOutB Tryz.prog=true:=by kernel_rfl
mutual
def okT:Tm→Prop
 | .mk _ _ _ nm ls ks=>nm.size≤140737488351232∧ls.length≤8796093022208∧(∀l∈ls,l.2.length≤8796093022208)∧ks.length≤8796093022208∧okTs ks
def okTs:List Tm→Prop
 | []=>True
 | k::ks=>okT k∧okTs ks
end
theorem okTs_iff:∀ks:List Tm,okTs ks↔∀k∈ks,okT k
 | []=>by simp [okTs]
 | k::ks=>by simp [okTs,okTs_iff ks]
theorem weights_all {H:Type}{e:TypeId}{n:Nat}{d:DataW H}:∀{ds:List (DataW H)},d∈ds→n∈d.weights Tryz.prog e→n∈DataW.weightsAll Tryz.prog e ds
 | [],h,_=>by simp at h
 | x::ds,h,hn=>by
  simp only [DataW.weightsAll,List.mem_append]
  rcases List.mem_cons.1 h with rfl | h
  ·exact Or.inl hn
  ·exact Or.inr (weights_all h hn)
theorem bytesLVar:Tryz.prog.bytesOf 109=16:=by kernel_rfl
theorem bytesLevel:Tryz.prog.bytesOf 75=32:=by kernel_rfl
theorem bytesTerm:Tryz.prog.bytesOf 36=88:=by kernel_rfl
theorem weights_slice {H:Type}{t e:TypeId}(hu:Tryz.prog.underlying t=some (.slice e)) (a b:List (DataW H)):(DataW.slice a b).weights Tryz.prog t=(a.length+b.length)*Tryz.prog.bytesOf e::(DataW.weightsAll Tryz.prog e a++DataW.weightsAll Tryz.prog e b):=by
 simp only [DataW.weights,hu]
theorem weights_agg {H:Type}{t:TypeId}{fs:Array Field}(hu:Tryz.prog.underlying t=some (.struct fs)) (a:List (DataW H)):(DataW.agg a).weights Tryz.prog t=DataW.weightsEach Tryz.prog (fs.toList.map (·.type)) a:=by
 simp only [DataW.weights,hu]
theorem open_pairs {H:Type}{enc:TypeId×Value→H}{W:World}{fuel:Nat}{u:Value}{x:DataW H×List MemPlace}(h:DataW.trod enc Tryz.prog W 0 (fun _=>true) true fuel 73 [u]=some x) :
  ∃(xs:List (Int×Int)) (a:Option Addr) (cap:Nat),u=.slice a xs.length cap∧SL W a xs∧(a=none→cap=0)∧((∀n∈x.1.weights Tryz.prog 73,n≤reachBytes)→xs.length≤8796093022208):=by
 rcases Go.Deep.open_slice_pairs Tryz.underlying73 Tryz.underlying109 cellsLVarT rfl rfl (by kernel_rfl) (by kernel_rfl) h with ⟨e1,-⟩ | ⟨a,len,cap,m',k,V0,V1,D0,D1,P0,P1,e1,-,hl,-,hm,hx0,hc⟩
 ·simp at e1
  subst e1
  exact ⟨[],none,0,rfl,Or.inl rfl,fun _=>rfl,fun _=>Nat.zero_le _⟩
 ·have HX:=Hid.mk hx0
  clear hx0
  simp at e1 hm
  subst e1 hm
  have hx:∀i,∃x y,i<len→W.cell? (a.add (i*2))=some (.int .i64 x)∧W.cell? (a.add (i*2+1))=some (.int .i64 y):=fun i=>by
   by_cases hi:i<len
   ·obtain ⟨q0,q1,t0,t1⟩:=hc i (by omega)
    obtain ⟨x,ex,-,-⟩:=DataW.trod_int Tryz.underlying3 t0
    obtain ⟨y,ey,-,-⟩:=DataW.trod_int Tryz.underlying3 t1
    simp at ex ey
    exact ⟨x,y,fun _=>⟨by rw [q0,ex],by rw [q1,ey]⟩⟩
   ·exact ⟨0,0,fun h=>absurd h hi⟩
  obtain ⟨X,hX⟩:=Classical.skolem.1 hx
  obtain ⟨Y,hY⟩:=Classical.skolem.1 hX
  refine ⟨(List.range len).map fun i=>(X i,Y i),some a,m',by simp,?_,fun h=>(by cases h),fun hw=>?_⟩
  rotate_left
  ·have h1:=hw ((len+(m' - len))*16) (by rw [HX.out,weights_slice Tryz.underlying73,bytesLVar];simp)
   unfold reachBytes at h1
   simp only [List.length_map,List.length_range]
   omega
  rcases Nat.eq_zero_or_pos len with hz | hp
  ·left;simp [hz]
  ·right
   obtain ⟨b,off,spot⟩:=a
   have hspot:spot=none:=by simpa [Addr.add] using World.cell?_spot (hY 0 hp).1
   subst hspot
   refine ⟨b,off,rfl,World.block_lt_of_cell? W _ (by simpa [Addr.add] using (hY 0 hp).1),fun i hi=>?_⟩
   have hi':i<len:=by simpa using hi
   have:=hY i hi'
   rw [add_plain,add_plain] at this
   simp only [List.getElem?_map,List.getElem?_range hi',Option.map_some,Option.getD_some]
   exact ⟨this.1,by rw [Nat.add_assoc];exact this.2⟩
theorem open_lvs {H:Type}{enc:TypeId×Value→H}{W:World}{fuel:Nat}{u:Value}{x:DataW H×List MemPlace}(h:DataW.trod enc Tryz.prog W 0 (fun _=>true) true fuel 33 [u]=some x) :
  ∃(ls:List LvT) (a:Option Addr) (cap:Nat),u=.slice a ls.length cap∧LN W a ls∧(a=none→cap=0)∧ls.length≤cap∧cap≤9223372036854775807∧((∀n∈x.1.weights Tryz.prog 33,n≤reachBytes)→ls.length≤8796093022208∧∀l∈ls,l.2.length≤8796093022208):=by
 rcases Go.Deep.open_slice_pairs Tryz.underlying33 Tryz.underlying75 cellsLevelT rfl rfl (by kernel_rfl) (by kernel_rfl) h with ⟨e1,-⟩ | ⟨a,len0,cap0,m',k,V0,V1,D0,D1,P0,P1,e1,-,hl,hcm,hm,hx0,hc⟩
 ·simp at e1
  subst e1
  exact ⟨[],none,0,rfl,Or.inl rfl,fun _=>rfl,Nat.le_refl _,Nat.zero_le _,fun _=>⟨Nat.zero_le _,by simp⟩⟩
 ·have HX:=Hid.mk hx0
  clear hx0
  simp at e1 hm
  subst e1 hm
  have hx:∀i,∃l:LvT,i<len0→W.cell? (a.add (i*2))=some (.int .i64 l.1)∧∃a' cap',W.cell? (a.add (i*2+1))=some (.slice a' l.2.length cap')∧SL W a' l.2∧(a'=none→cap'=0)∧((∀n∈(D1 i).weights Tryz.prog 73,n≤reachBytes)→l.2.length≤8796093022208):=fun i=>by
   by_cases hi:i<len0
   ·obtain ⟨q0,q1,t0,t1⟩:=hc i (by omega)
    obtain ⟨n,en,-,-⟩:=DataW.trod_int Tryz.underlying3 t0
    obtain ⟨xs,a',cap',eu,hs,hn,hw⟩:=open_pairs t1
    simp at en
    exact ⟨(n,xs),fun _=>⟨by rw [q0,en],a',cap',by rw [q1,eu],hs,hn,hw⟩⟩
   ·exact ⟨(0,[]),fun h=>absurd h hi⟩
  obtain ⟨L,hL⟩:=Classical.skolem.1 hx
  refine ⟨(List.range len0).map L,some a,m',by simp,?_,fun h=>(by cases h),by simpa using hl,(by simpa [maxLen] using hcm),fun hw=>⟨?_,fun l hl'=>?_⟩⟩
  rotate_left
  ·have h1:=hw ((len0+(m' - len0))*32) (by rw [HX.out,weights_slice Tryz.underlying33,bytesLevel];simp)
   unfold reachBytes at h1
   simp only [List.length_map,List.length_range]
   omega
  ·obtain ⟨i,hi,rfl⟩:=List.mem_map.1 hl'
   have hi':i<len0:=by simpa using hi
   obtain ⟨-,a',cap',-,-,-,hb⟩:=hL i hi'
   refine hb fun n hn=>hw n ?_
   rw [HX.out,weights_slice Tryz.underlying33]
   refine List.mem_cons_of_mem _ (List.mem_append_left _ (weights_all (d:=.agg [D0 i,D1 i]) (List.mem_map.2 ⟨i,hi,rfl⟩) ?_))
   rw [weights_agg Tryz.underlying75]
   exact DataW.weights_mem_each (j:=1) (t:=73) rfl rfl n hn
  rcases Nat.eq_zero_or_pos len0 with hz | hp
  ·left;simp [hz]
  ·right
   obtain ⟨b,off,spot⟩:=a
   have hspot:spot=none:=by simpa [Addr.add] using World.cell?_spot (hL 0 hp).1
   subst hspot
   refine ⟨b,off,rfl,World.block_lt_of_cell? W _ (by simpa [Addr.add] using (hL 0 hp).1),fun i n xs hi=>?_⟩
   rw [List.getElem?_map] at hi
   have hi':i<len0:=by
    rcases Nat.lt_or_ge i len0 with h | h
    ·exact h
    ·rw [List.getElem?_eq_none (by simpa using h)] at hi;simp at hi
   rw [List.getElem?_range hi'] at hi
   simp only [Option.map_some,Option.some.injEq] at hi
   obtain ⟨h1,a',cap',h2,h3,h4,-⟩:=hL i hi'
   rw [add_plain] at h1 h2
   rw [hi] at h1 h2 h3
   exact ⟨h1,a',cap',by rw [Nat.add_assoc];exact h2,h3,h4⟩
theorem cI:Tryz.prog.cellsOf 3=1:=by kernel_rfl
theorem cB:Tryz.prog.cellsOf 4=1:=by kernel_rfl
theorem cS:Tryz.prog.cellsOf 9=1:=by kernel_rfl
theorem cL:Tryz.prog.cellsOf 33=1:=by kernel_rfl
theorem cK:Tryz.prog.cellsOf 34=1:=by kernel_rfl
theorem list6:∀{cs:List Value},cs.length=6→∃v0 v1 v2 v3 v4 v5,cs=[v0,v1,v2,v3,v4,v5]
 | [v0,v1,v2,v3,v4,v5],_=>⟨v0,v1,v2,v3,v4,v5,rfl⟩
theorem open_fields {H:Type}{enc:TypeId×Value→H}{W:World}(fuel:Nat) (ih:∀m,m<fuel→∀(b o:Nat) (cs:List Value) (x:DataW H×List MemPlace),W.cells? 0 ⟨b,o,none⟩ 6=some cs→DataW.trod enc Tryz.prog W 0 (fun _=>true) true m 36 cs=some x→∃t,TC W b o t∧((∀n∈x.1.weights Tryz.prog 36,n≤reachBytes)→okT t)) (cs:List Value) (x:DataW H×List MemPlace) (h:DataW.trod enc Tryz.prog W 0 (fun _=>true) true fuel 36 cs=some x) :
  ∃(f n:Int) (hd:Bool) (nm:ByteArray) (ls:List LvT) (ks:List Tm) (la:Option Addr) (lc:Nat) (ka:Option Addr) (kc kb ko:Nat),cs=[.int .i64 f,.int .i64 n,.bool hd,.string nm,.slice la ls.length lc,.slice ka ks.length kc]∧LN W la ls∧(la=none→lc=0)∧ls.length≤lc∧lc≤9223372036854775807∧(ka=none→kc=0)∧ks.length≤kc∧kc≤9223372036854775807∧(ks≠[]→ka=some ⟨kb,ko,none⟩∧kb<W.heap.size)∧(∀i t,ks[i]?=some t→TC W kb (ko+i*6) t)∧((∀n∈x.1.weights Tryz.prog 36,n≤reachBytes)→okT (.mk f n hd nm ls ks)):=by
 obtain ⟨xs,m,rfl,hX,hlen,hxs,hf⟩:=DataW.trod_struct Tryz.underlying36 h
 rw [cellsTerm] at hlen
 obtain ⟨v0,v1,v2,v3,v4,v5,rfl⟩:=list6 hlen
 have h0:DataW.trod enc Tryz.prog W 0 (fun _=>true) true m 3 [v0]=xs[0]?:=by
  have h:=hf 0 _ rfl
  change DataW.trod enc Tryz.prog W 0 (fun _=>true) true m 3 (List.take (Tryz.prog.cellsOf 3) [v0,v1,v2,v3,v4,v5])=_ at h
  rw [cI] at h
  exact h
 have h1:DataW.trod enc Tryz.prog W 0 (fun _=>true) true m 3 [v1]=xs[1]?:=by
  have h:=hf 1 _ rfl
  change DataW.trod enc Tryz.prog W 0 (fun _=>true) true m 3 (List.take (Tryz.prog.cellsOf 3) [v1,v2,v3,v4,v5])=_ at h
  rw [cI] at h
  exact h
 have h2:DataW.trod enc Tryz.prog W 0 (fun _=>true) true m 4 [v2]=xs[2]?:=by
  have h:=hf 2 _ rfl
  change DataW.trod enc Tryz.prog W 0 (fun _=>true) true m 4 (List.take (Tryz.prog.cellsOf 4) [v2,v3,v4,v5])=_ at h
  rw [cB] at h
  exact h
 have h3:DataW.trod enc Tryz.prog W 0 (fun _=>true) true m 9 [v3]=xs[3]?:=by
  have h:=hf 3 _ rfl
  change DataW.trod enc Tryz.prog W 0 (fun _=>true) true m 9 (List.take (Tryz.prog.cellsOf 9) [v3,v4,v5])=_ at h
  rw [cS] at h
  exact h
 have h4:DataW.trod enc Tryz.prog W 0 (fun _=>true) true m 33 [v4]=xs[4]?:=by
  have h:=hf 4 _ rfl
  change DataW.trod enc Tryz.prog W 0 (fun _=>true) true m 33 (List.take (Tryz.prog.cellsOf 33) [v4,v5])=_ at h
  rw [cL] at h
  exact h
 have h5:DataW.trod enc Tryz.prog W 0 (fun _=>true) true m 34 [v5]=xs[5]?:=by
  have h:=hf 5 _ rfl
  change DataW.trod enc Tryz.prog W 0 (fun _=>true) true m 34 (List.take (Tryz.prog.cellsOf 34) [v5])=_ at h
  rw [cK] at h
  exact h
 have hx:xs.length=6:=hxs
 have HX:=Hid.mk hX
 clear hX
 have g:∀k,k<6→∃y,xs[k]?=some y:=fun k hk=>⟨xs[k]'(by omega),by simp [hx,hk]⟩
 obtain ⟨y0,g0⟩:=g 0 (by decide)
 obtain ⟨y1,g1⟩:=g 1 (by decide)
 obtain ⟨y2,g2⟩:=g 2 (by decide)
 obtain ⟨y3,g3⟩:=g 3 (by decide)
 obtain ⟨y4,g4⟩:=g 4 (by decide)
 obtain ⟨y5,g5⟩:=g 5 (by decide)
 rw [g0] at h0
 rw [g1] at h1
 rw [g2] at h2
 rw [g3] at h3
 rw [g4] at h4
 rw [g5] at h5
 obtain ⟨f,e0,-,-⟩:=DataW.trod_int Tryz.underlying3 h0
 obtain ⟨n,e1,-,-⟩:=DataW.trod_int Tryz.underlying3 h1
 obtain ⟨hd,e2,-⟩:=DataW.trod_bool Tryz.underlying4 h2
 obtain ⟨nm,e3,x3,-⟩:=DataW.trod_string Tryz.underlying9 h3
 obtain ⟨ls,la,lc,e4,hl,hln,hlc,hlm,hlw⟩:=open_lvs h4
 have W3:Hid ((∀n∈x.1.weights Tryz.prog 36,n≤reachBytes)→nm.size≤140737488351232):=fun hw=>by
  have:=hw nm.data.toList.length (by
   rw [HX.out,weights_agg Tryz.underlying36]
   refine DataW.weights_mem_each (j:=3) (t:=9) (d:=y3.1) rfl (by simp [g3]) _ ?_
   rw [x3]
   simp [DataW.weights])
  unfold reachBytes at this
  simpa using this
 have W4:Hid ((∀n∈x.1.weights Tryz.prog 36,n≤reachBytes)→ls.length≤8796093022208∧∀l∈ls,l.2.length≤8796093022208):=fun hw=>hlw fun n hn=>hw n (by
  rw [HX.out,weights_agg Tryz.underlying36]
  exact DataW.weights_mem_each (j:=4) (t:=33) (d:=y4.1) rfl (by simp [g4]) _ hn)
 have W5:Hid ((∀n∈x.1.weights Tryz.prog 36,n≤reachBytes)→∀n∈y5.1.weights Tryz.prog 34,n≤reachBytes):=fun hw n hn=>hw n (by
  rw [HX.out,weights_agg Tryz.underlying36]
  exact DataW.weights_mem_each (j:=5) (t:=34) (d:=y5.1) rfl (by simp [g5]) _ hn)
 clear hlw x3
 simp only [List.cons.injEq,and_true] at e0 e1 e2 e3
 subst e0 e1 e2 e3 e4
 rcases DataW.trod_slice Tryz.underlying34 h5 with ⟨e5,-⟩ | ⟨a,len,cap,elems,rest,m2,hm2,e5,x5,-,hle,hcm,hel,hk,-,-⟩
 ·simp only [List.cons.injEq,and_true] at e5
  subst e5
  exact ⟨f,n,hd,nm,ls,[],la,lc,none,0,0,0,rfl,hl,hln,hlc,hlm,fun _=>rfl,Nat.le_refl _,Nat.zero_le _,fun h=>absurd rfl h,fun i t hi=>(by simp at hi),fun hw=>by rw [okT];exact ⟨W3.out hw,(W4.out hw).1,(W4.out hw).2,Nat.zero_le _,by simp [okTs]⟩⟩
 ·simp only [List.cons.injEq,and_true] at e5
  subst e5
  have X5:=Hid.mk x5
  clear x5
  rw [cellsTerm] at hk
  have hcell:∀i,i<len→∃cs' y,W.cells? 0 (a.add (i*6)) 6=some cs'∧DataW.trod enc Tryz.prog W 0 (fun _=>true) true m2 36 cs'=some y∧((∀n∈y5.1.weights Tryz.prog 34,n≤reachBytes)→∀n∈y.1.weights Tryz.prog 36,n≤reachBytes):=fun i hi=>by
   have:=hk i hi
   rw [List.getElem?_eq_getElem (by omega)] at this
   obtain ⟨cs',h1,h2⟩:=Option.bind_eq_some_iff.1 this
   refine ⟨cs',_,h1,h2,fun hw n hn=>hw n ?_⟩
   rw [X5.out,weights_slice Tryz.underlying34]
   exact List.mem_cons_of_mem _ (List.mem_append_left _ (weights_all (List.mem_map.2 ⟨_,List.getElem_mem _,rfl⟩) hn))
  have W6:Hid ((∀n∈x.1.weights Tryz.prog 36,n≤reachBytes)→len≤8796093022208):=fun hw=>by
   have h1:=W5.out hw ((elems.length+rest.length)*88) (by rw [X5.out,weights_slice Tryz.underlying34,bytesTerm];simp)
   unfold reachBytes at h1
   omega
  rcases Nat.eq_zero_or_pos len with hz | hp
  ·subst hz
   exact ⟨f,n,hd,nm,ls,[],la,lc,some a,cap,0,0,rfl,hl,hln,hlc,hlm,fun h=>(by cases h),Nat.zero_le _,(by simpa [maxLen] using hcm),fun h=>absurd rfl h,fun i t hi=>(by simp at hi),fun hw=>by rw [okT];exact ⟨W3.out hw,(W4.out hw).1,(W4.out hw).2,Nat.zero_le _,by simp [okTs]⟩⟩
  ·obtain ⟨b,off,spot⟩:=a
   obtain ⟨cs0,y0',q0,-,-⟩:=hcell 0 hp
   have hc0:=(World.cells?_some q0).2.2 0 (by decide)
   have hlen0:=(World.cells?_some q0).2.1
   have hsome:∃u,W.cell? ((⟨b,off,spot⟩:Addr).add (0*6) |>.add 0)=some u:=⟨cs0[0]'(by omega),by rw [hc0];simp [hlen0]⟩
   obtain ⟨u,hu⟩:=hsome
   have hspot:spot=none:=by simpa [Addr.add] using World.cell?_spot hu
   subst hspot
   have hblt:b<W.heap.size:=World.block_lt_of_cell? W _ (by simpa [Addr.add] using hu)
   have htm:∀i,∃t,i<len→TC W b (off+i*6) t∧((∀n∈y5.1.weights Tryz.prog 34,n≤reachBytes)→okT t):=fun i=>by
    by_cases hi:i<len
    ·obtain ⟨cs',y,q1,q2,q3⟩:=hcell i hi
     rw [add_plain] at q1
     obtain ⟨t,ht,hok⟩:=ih m2 (by omega) b (off+i*6) cs' y q1 q2
     exact ⟨t,fun _=>⟨ht,fun hw=>hok (q3 hw)⟩⟩
    ·exact ⟨.mk 0 0 false ByteArray.empty [] [],fun h=>absurd h hi⟩
   obtain ⟨F,hF⟩:=Classical.skolem.1 htm
   refine ⟨f,n,hd,nm,ls,(List.range len).map F,la,lc,some ⟨b,off,none⟩,cap,b,off,by simp,hl,hln,hlc,hlm,fun h=>(by cases h),by simpa using hle,(by simpa [maxLen] using hcm),fun _=>⟨rfl,hblt⟩,fun i t hi=>?_,fun hw=>?_⟩
   rotate_left
   ·rw [okT,okTs_iff]
    refine ⟨W3.out hw,(W4.out hw).1,(W4.out hw).2,by simpa using W6.out hw,fun k hk'=>?_⟩
    obtain ⟨i,hi,rfl⟩:=List.mem_map.1 hk'
    exact (hF i (by simpa using hi)).2 (W5.out hw)
   rw [List.getElem?_map] at hi
   have hi':i<len:=by
    rcases Nat.lt_or_ge i len with h | h
    ·exact h
    ·rw [List.getElem?_eq_none (by simpa using h)] at hi;simp at hi
   rw [List.getElem?_range hi'] at hi
   simp only [Option.map_some,Option.some.injEq] at hi
   rw [←hi]
   exact (hF i hi').1
theorem open_cells {H:Type}{enc:TypeId×Value→H}{W:World}(fuel:Nat):∀(b o:Nat) (cs:List Value) (x:DataW H×List MemPlace),W.cells? 0 ⟨b,o,none⟩ 6=some cs→DataW.trod enc Tryz.prog W 0 (fun _=>true) true fuel 36 cs=some x→∃t,TC W b o t∧((∀n∈x.1.weights Tryz.prog 36,n≤reachBytes)→okT t):=by
 induction fuel using Nat.strongRecOn with
 | ind fuel ih =>
  intro b o cs x hc ht
  obtain ⟨f,n,hd,nm,ls,ks,la,lc,ka,kc,kb,ko,rfl,hl,hln,hlc,hlm,hkn,hkc,hkm,hk,kids,hok⟩:=open_fields fuel ih cs x ht
  obtain ⟨-,-,hcs⟩:=World.cells?_some hc
  have e0:=hcs 0 (by decide)
  have e1:=hcs 1 (by decide)
  have e2:=hcs 2 (by decide)
  have e3:=hcs 3 (by decide)
  have e4:=hcs 4 (by decide)
  have e5:=hcs 5 (by decide)
  rw [add_plain] at e0 e1 e2 e3 e4 e5
  exact ⟨_,TC.mk e0 e1 e2 e3 e4 e5 hl hln hlc hlm hkn hkc hkm hk kids,hok⟩
theorem okT_mk (f n:Int) (hd:Bool) (nm:ByteArray) (ls:List LvT) (ks:List Tm):okT (.mk f n hd nm ls ks)↔nm.size≤140737488351232∧ls.length≤8796093022208∧(∀l∈ls,l.2.length≤8796093022208)∧ks.length≤8796093022208∧∀k∈ks,okT k:=by
 rw [okT,okTs_iff]
theorem heap_lt' {w:World}{b:Nat}{o:Obj}(h:w.heap[b]?=some o):b<w.heap.size:=(Array.getElem?_eq_some_iff.1 h).1
theorem mem_take_succ {α:Type}{ks:List α}{j:Nat}{k x:α}(h:ks[j]?=some k) (hx:x∈ks.take (j+1)):x∈ks.take j∨x=k:=by
 obtain ⟨hj,rfl⟩:=List.getElem?_eq_some_iff.1 h
 rw [List.take_succ_eq_append_getElem hj,List.mem_append] at hx
 rcases hx with hx | hx
 ·exact Or.inl hx
 ·exact Or.inr (by simpa using hx)
mutual
def wtT:Tm→Nat
 | .mk _ _ _ nm ls ks=>1+nm.size / 16+(ls.map fun l=>1+l.2.length).sum+wtTs ks
def wtTs:List Tm→Nat
 | []=>0
 | k::ks=>wtT k+wtTs ks
end
theorem wtTs_sum:∀ks:List Tm,wtTs ks=(ks.map wtT).sum
 | []=>rfl
 | k::ks=>by rw [wtTs,wtTs_sum ks,List.map_cons,List.sum_cons]
theorem wtT_mk (f n:Int) (hd:Bool) (nm:ByteArray) (ls:List LvT) (ks:List Tm):wtT (.mk f n hd nm ls ks)=1+nm.size / 16+(ls.map fun l=>1+l.2.length).sum+(ks.map wtT).sum:=by
 rw [wtT,wtTs_sum]
theorem sum_take {α:Type}{f:α→Nat}{ks:List α}{j:Nat}{k:α}(h:ks[j]?=some k):((ks.take (j+1)).map f).sum=((ks.take j).map f).sum+f k:=by
 obtain ⟨hj,rfl⟩:=List.getElem?_eq_some_iff.1 h
 rw [List.take_succ_eq_append_getElem hj,List.map_append,List.sum_append]
 simp
theorem wcount_any (t:Tm):∀(high:Int) (v:Value) (w:World),0≤high→high≤701→okT t→TV w v t→Calls Tryz.prog 32 #[v,.int .i64 3000,.int .i64 high] w fun e w'=>(∃r:Int,e=.returned (.int .i64 r)∧1≤r∧r≤9000000000000+4000*(702 - high)∧(r≤3000→smT 1000000 t∧(wtT t:Int)≤r))∧Grew w w':=by
 refine Tm.ind (P:=fun t=>∀(high:Int) (v:Value) (w:World),0≤high→high≤701→okT t→TV w v t→Calls Tryz.prog 32 #[v,.int .i64 3000,.int .i64 high] w fun e w'=>(∃r:Int,e=.returned (.int .i64 r)∧1≤r∧r≤9000000000000+4000*(702 - high)∧(r≤3000→smT 1000000 t∧(wtT t:Int)≤r))∧Grew w w') ?_ t
 intro f n hd nm ls ks ih high v w hh0 hh1 hok hv
 obtain ⟨o1,o2,o3,o4,o5⟩:=(okT_mk _ _ _ _ _ _).1 hok
 clear hok
 cases hv with
 | @mk _ _ _ _ _ _ la lc ka kc kb ko hl hln hlc hlm hkn hkc hkm hk kids =>
  have HSM:=Hid.mk (smT_mk 1000000 f n hd nm ls ks)
  have HWT:=Hid.mk (wtT_mk f n hd nm ls ks)
  generalize smT 1000000 (.mk f n hd nm ls ks)=S at HSM ⊢
  generalize wtT (.mk f n hd nm ls ks)=V at HWT ⊢
  have HL:=Hid.mk hl
  have HO3:=Hid.mk o3
  have HO5:=Hid.mk o5
  have HK:=Hid.mk hk
  have HKIDS:=Hid.mk kids
  have HIH:=Hid.mk ih
  clear hk kids ih hl o3 o5
  obtain ⟨W0,hW0⟩:∃W0,w.alloc (.cells #[.int .i64 f,.int .i64 n,.bool hd,.string nm,.slice la ls.length lc,.slice ka ks.length kc] 36)=W0:=⟨_,rfl⟩
  have HG0:Hid (Grew w W0):=by unfold Hid;rw [←hW0];exact (Grew.refl w).alloc _
  have HX0:Hid (W0.heap[w.heap.size]?=some (.cells #[.int .i64 f,.int .i64 n,.bool hd,.string nm,.slice la ls.length lc,.slice ka ks.length kc] 36 (0,0))):=by unfold Hid;rw [←hW0];exact alloc_new _ _
  have HW0:=Hid.mk hW0
  clear hW0
  by_cases h7:700<high
  ·go_enter Tryz.func32,Tryz.ntmps32
   go_wp2
   go_ret
   exact ⟨⟨3001,rfl,by omega,by omega,fun h=>by omega⟩,by have:=HG0.out;rwa [←HW0.out] at this⟩
  ·go_enter Tryz.func32,Tryz.ntmps32
   go_wp2
   rw [HW0.out]
   go_loopw [7,8] (fun vn i wr=>∃(j:Nat) (m:Int),j≤ls.length∧i=.int .i64 j∧vn=.int .i64 m∧(j:Int)+1≤m∧(nm.size / 16:Nat)+1≤m∧m≤8900000000000∧(∀l∈ls.take j,(l.2.length:Int)≤m)∧((1+nm.size / 16+((ls.take j).map fun l=>1+l.2.length).sum:Nat):Int)≤m∧Grew W0 wr) (fun _ i _=>ls.length - (intOf i).toNat)
   case atStart=>exact ⟨0,1+(nm.size:Int) / 16,Nat.zero_le _,rfl,rfl,by omega,by omega,by omega,by simp,by simp,Grew.refl _⟩
   case round =>
    obtain ⟨j,m,hj,rfl,rfl,hm1,hm2,hm3,hall,hsum,hg⟩:=hrel
    have HG:=Hid.mk hg
    have HSU:=Hid.mk hsum
    clear hsum
    have HALL:=Hid.mk hall
    clear hg hall
    obtain ⟨x0,x1,x2,x3,x4,x5,x6⟩:=cells6 ((HG.out.below.block w.heap.size (heap_lt' HX0.out)).trans HX0.out)
    by_cases hlt:j<ls.length
    ·by_cases hmm:m≤3000
     ·obtain ⟨b,off,a1,cap1,rfl,hbl,c0,c1,hs1⟩:=(HL.out.below (HG0.out.trans HG.out).below).at hlt
      have hlen:=HO3.out ls[j] (List.getElem_mem hlt)
      have HTK:=Hid.mk (fun x=>mem_take_succ (x:=x) (List.getElem?_eq_getElem hlt))
      have HST:=Hid.mk (sum_take (f:=fun l:LvT=>1+l.2.length) (List.getElem?_eq_getElem hlt))
      have zj:(j:Int)<(ls.length:Int):=by omega
      clear hs1
      generalize ls[j]=l at *
      go_wp2
      refine ⟨⟨j+1,m+1+l.2.length,hlt,by go_num,rfl,by omega,by omega,by omega,fun x hx=>?_,by have h1:=HSU.out;have h2:=HST.out;rw [h2];omega,HG.out⟩,by simp [intOf];omega⟩
      rcases HTK.out x hx with h1 | h1
      ·have:=HALL.out x h1;omega
      ·rw [h1];omega
     ·have HDONE:Hid (m≤3000→j=ls.length):=fun h=>absurd h hmm
      obtain ⟨W1,rfl⟩:∃W,W=wr:=⟨_,rfl⟩
      have HG1:Hid (Grew w W1):=HG0.out.trans HG.out
      have HX1:Hid (W1.heap[w.heap.size]?=some (.cells #[.int .i64 f,.int .i64 n,.bool hd,.string nm,.slice la ls.length lc,.slice ka ks.length kc] 36 (0,0))):=(HG.out.below.block w.heap.size (heap_lt' HX0.out)).trans HX0.out
      go_wp2
      clear x0 x1 x2 x3 x4 x5 x6
      go_loopw [7,9] (fun vn i wr=>∃(j:Nat) (m':Int),j≤ks.length∧i=.int .i64 j∧vn=.int .i64 m'∧m≤m'∧(j:Int)≤m'∧m'≤9000000000000+4000*(702 - high)∧(m'≤3000→∀k∈ks.take j,smT 1000000 k)∧(m'≤3000→m+(((ks.take j).map wtT).sum:Nat)≤m')∧Grew W1 wr) (fun _ i _=>ks.length - (intOf i).toNat)
      case atStart=>exact ⟨0,m,Nat.zero_le _,rfl,rfl,by omega,by omega,by omega,by simp,by simp,Grew.refl _⟩
      case round =>
       obtain ⟨i,m',hi,rfl,rfl,hn1,hn2,hn3,hkall,hksum,hg⟩:=hrel
       have HG2:=Hid.mk hg
       have HKS:=Hid.mk hksum
       clear hksum
       have HKA:=Hid.mk hkall
       clear hg hkall
       obtain ⟨x0,x1,x2,x3,x4,x5,x6⟩:=cells6 ((HG2.out.below.block w.heap.size (heap_lt' HX1.out)).trans HX1.out)
       by_cases hik:i<ks.length
       ·by_cases hmm:m'≤3000
        ·exfalso;omega
        ·go_wp2
         go_ret
         exact ⟨⟨m',rfl,by omega,by omega,fun h=>by omega⟩,HG1.out.trans HG2.out⟩
       ·go_wp2
        go_ret
        refine ⟨⟨m',rfl,by omega,by omega,fun h=>⟨HSM.out.2 ⟨?_,?_,?_,?_,?_⟩,?_⟩⟩,HG1.out.trans HG2.out⟩
        ·omega
        ·have:=HDONE.out (by omega);omega
        ·intro l hl
         have h1:=HDONE.out (by omega)
         have h2:=HALL.out l (by rw [List.take_of_length_le (by omega)];exact hl)
         omega
        ·omega
        ·have:=HKA.out h
         rwa [List.take_of_length_le (by omega)] at this
        ·have h1:=HDONE.out (by omega)
         have h2:=HSU.out
         have h3:=HKS.out h
         rw [List.take_of_length_le (by omega)] at h2 h3
         rw [HWT.out]
         omega
    ·have HDONE:Hid (m≤3000→j=ls.length):=fun _=>by omega
     obtain ⟨W1,rfl⟩:∃W,W=wr:=⟨_,rfl⟩
     have HG1:Hid (Grew w W1):=HG0.out.trans HG.out
     have HX1:Hid (W1.heap[w.heap.size]?=some (.cells #[.int .i64 f,.int .i64 n,.bool hd,.string nm,.slice la ls.length lc,.slice ka ks.length kc] 36 (0,0))):=(HG.out.below.block w.heap.size (heap_lt' HX0.out)).trans HX0.out
     go_wp2
     clear x0 x1 x2 x3 x4 x5 x6
     go_loopw [7,9] (fun vn i wr=>∃(j:Nat) (m':Int),j≤ks.length∧i=.int .i64 j∧vn=.int .i64 m'∧m≤m'∧(j:Int)≤m'∧m'≤9000000000000+4000*(702 - high)∧(m'≤3000→∀k∈ks.take j,smT 1000000 k)∧(m'≤3000→m+(((ks.take j).map wtT).sum:Nat)≤m')∧Grew W1 wr) (fun _ i _=>ks.length - (intOf i).toNat)
     case atStart=>exact ⟨0,m,Nat.zero_le _,rfl,rfl,by omega,by omega,by omega,by simp,by simp,Grew.refl _⟩
     case round =>
      obtain ⟨i,m',hi,rfl,rfl,hn1,hn2,hn3,hkall,hksum,hg⟩:=hrel
      have HG2:=Hid.mk hg
      have HKS:=Hid.mk hksum
      clear hksum
      have HKA:=Hid.mk hkall
      clear hg hkall
      obtain ⟨x0,x1,x2,x3,x4,x5,x6⟩:=cells6 ((HG2.out.below.block w.heap.size (heap_lt' HX1.out)).trans HX1.out)
      by_cases hik:i<ks.length
      ·by_cases hmm:m'≤3000
       ·obtain ⟨rfl,hkb⟩:=HK.out (by intro e;rw [e] at hik;simp at hik)
        have hkt:ks[i]?=some ks[i]:=List.getElem?_eq_getElem hik
        have htc:=((HKIDS.out i _ hkt).on (HG1.out.trans HG2.out).below)
        obtain ⟨v0,v1,v2,v3,v4,v5,c0,c1,c2,c3,c4,c5,hv⟩:=htc.val
        have HCALL:=HIH.out ks[i] (List.getElem_mem hik) (high+1) _ wr (by omega) (by omega) (HO5.out _ (List.getElem_mem hik)) hv
        have HTK:=Hid.mk (fun x=>mem_take_succ (x:=x) hkt)
        have HST:=Hid.mk (sum_take (f:=wtT) hkt)
        have zj:(i:Int)<(ks.length:Int):=by omega
        clear hv htc hkt
        generalize ks[i]=k at *
        go_wp2_with fail
        refine HCALL.mono ?_
        rintro e w5 ⟨⟨r,rfl,hr1,hr2,hr3⟩,hg5⟩
        have HR3:=Hid.mk hr3
        clear hr3 HCALL
        go_wp2
        refine ⟨⟨i+1,m'+r,hik,by go_num,rfl,by omega,by omega,by omega,fun h x hx=>?_,fun h=>by have h1:=HKS.out (by omega);have h2:=(HR3.out (by omega)).2;rw [HST.out];omega,HG2.out.trans hg5⟩,by simp [intOf];omega⟩
        rcases HTK.out x hx with h1 | h1
        ·exact HKA.out (by omega) x h1
        ·rw [h1];exact (HR3.out (by omega)).1
       ·go_wp2
        go_ret
        exact ⟨⟨m',rfl,by omega,by omega,fun h=>by omega⟩,HG1.out.trans HG2.out⟩
      ·go_wp2
       go_ret
       refine ⟨⟨m',rfl,by omega,by omega,fun h=>⟨HSM.out.2 ⟨?_,?_,?_,?_,?_⟩,?_⟩⟩,HG1.out.trans HG2.out⟩
       ·omega
       ·have:=HDONE.out (by omega);omega
       ·intro l hl
        have h1:=HDONE.out (by omega)
        have h2:=HALL.out l (by rw [List.take_of_length_le (by omega)];exact hl)
        omega
       ·omega
       ·have:=HKA.out h
        rwa [List.take_of_length_le (by omega)] at this
       ·have h1:=HDONE.out (by omega)
        have h2:=HSU.out
        have h3:=HKS.out h
        rw [List.take_of_length_le (by omega)] at h2 h3
        rw [HWT.out]
        omega
theorem BigW_any (t:Tm) (v:Value) (w:World) (hok:okT t) (hv:TV w v t):Calls Tryz.prog 18 #[v] w fun e w'=>(∃r:Bool,e=.returned (.bool r)∧(r=false→smT 1000000 t∧wtT t≤3000))∧Grew w w':=by
 have HC:=wcount_any t 0 v (w.alloc (.cells v.cells 36)) (by omega) (by omega) hok (hv.on ((Below.refl _ _).alloc (Nat.le_refl _) _))
 obtain ⟨la,lc,ka,kc,rfl⟩:=hv.shape
 simp only [Value.cells] at HC
 clear hv hok
 generalize smT 1000000 t=S at *
 generalize wtT t=V at *
 generalize t.form=f at *
 generalize t.n=n at *
 generalize t.hid=hd at *
 generalize t.name=nm at *
 generalize t.levels.length=l1 at *
 generalize t.kids.length=k1 at *
 go_enter Tryz.func18,Tryz.ntmps18
 go_wp2_with fail
 refine HC.mono ?_
 rintro e w1 ⟨⟨r,rfl,h1,h2,h3⟩,hg⟩
 have H3:=Hid.mk h3
 clear h3 HC
 go_wp2
 go_ret
 exact ⟨⟨decide (3000<r),rfl,fun h=>by have h1:=of_decide_eq_false h;have h2:=H3.out (by omega);exact ⟨h2.1,by omega⟩⟩,((Grew.refl w).alloc _).trans hg⟩
end Go.Proofs.YtgfgpjcnfnopnaaGreat
