/- The contract of the reference's names. -/
import Derived.Test.YtgfgpjcnfnopnaaGreatQYB
namespace Go.Proofs.YtgfgpjcnfnopnaaGreat
open Go.RowKit Go.Sort Go.Lib
def rnames (d:Dl):List ByteArray:=d.name::(if d.kind=3 then d.ctors.map Prod.fst++[d.name++elimB] else [])
def OS1 (B:Nat) (w:World) (v:Value) (ss:List ByteArray):Prop:=w.ownsRow B 9 1 v ss.length (ss.map Value.string)
theorem infoS1:(Tryz.prog.info? 9).map (fun i=>(i.zero,i.size,i.bytes))=some (some (.string { data:=#[] }),1,16):=by kernel_rfl
theorem wpList_appS {w:World}{ops:Array Oper}{rest:List Oper}{o:Oper}{a:Act}{Q:Exit→Act→World→Prop}(hgd:o.guard=none) (s x:Operand) (ho:o.op=.call { callee:=.builtin .append,args:=#[s,x],argTypes:=#[23,23] })
  (B:Nat) (v:Value) (hs:List ByteArray) (h1:ByteArray) (b:Nat) (hsv:a.eval s=v) (hx:a.eval x=.slice (some ⟨b,0,none⟩) 1 1) (hO:OS1 B w v hs) (hnews:w.cell? ⟨b,0,none⟩=some (.string h1)) (hlen:hs.length≤1000000) (hB:B≤w.heap.size)
  (h:∀g cap w',OS1 B w' (.slice (some ⟨g,0,none⟩) (hs.length+1) cap) (hs++[h1])→w.grownBy w' v.ownBlock→wpList Tryz.prog ops Q rest (a.put o.dst (.slice (some ⟨g,0,none⟩) (hs.length+1) cap)) w'):wpList Tryz.prog ops Q (o::rest) a w:=by
 obtain ⟨i0,hi,hz0,hz1,hz2⟩:=info_parts infoS1
 refine wpList_append_lies _ hgd s x 23 ho B 9 i0 _ 1 16 Tryz.underlying23 hi hz0 hz1 hz2 rfl (by decide) v hs.length (hs.map Value.string) hsv hO ⟨b,0,none⟩ 1 1 [.string h1] hx rfl (fun j u hu=>?_) (by simp [Value.oneCell']) (by omega) (by simp [maxLen];omega) (by omega) hB _ rfl ?_
 ·cases j with
  | zero =>
   simp only [List.getElem?_cons_zero,Option.some.injEq] at hu
   subst hu
   simpa [Addr.add] using hnews
  | succ j=>simp at hu
 ·intro g cap w' hown hgr _ _
  refine h _ _ w' ?_ hgr
  unfold OS1
  rw [List.length_append,List.map_append]
  exact hown
theorem OS1.at {B:Nat}{w:World}{v:Value}{ss:List ByteArray}(h:OS1 B w v ss) (hn:ss≠[]):∃g cap,v=.slice (some ⟨g,0,none⟩) ss.length cap∧B≤g∧g<w.heap.size∧∀(j:Nat) s,ss[j]?=some s→w.cell? ⟨g,j,none⟩=some (.string s):=by
 obtain ⟨g,cap,hv,h1,h2⟩:=World.ownsRow.form h (by cases ss with | nil=>exact absurd rfl hn | cons _ _=>simp)
 refine ⟨g,cap,hv,h1,h2,fun j s hj=>?_⟩
 have:=World.ownsRow.cells h (g:=g) (by rw [hv];rfl) j (.string s) (by rw [List.getElem?_map,hj];rfl)
 cases j with
 | zero=>simpa [Addr.add] using this
 | succ j=>simpa [Addr.add] using this
def NamesOut (w:World) (RN:List ByteArray) (e:Ending) (w':World):Prop:=∃g cap,e=.returned (.slice (some ⟨g,0,none⟩) RN.length cap)∧w.heap.size≤g∧g<w'.heap.size∧(∀(j:Nat) s,RN[j]?=some s→w'.cell? ⟨g,j,none⟩=some (.string s))∧RowKit.Below w.heap.size w w'
set_option maxRecDepth 100000 in
set_option maxHeartbeats 8000000 in
theorem rnames_any (d:Dl) (v:Value) (w:World) (hv:DV w v d) (hcl:d.kind=3→d.ctors.length≤40) (hnm:d.name.size≤60):Calls Tryz.prog 44 #[v] w (NamesOut w (rnames d)):=by
 obtain ⟨t0,t1,t2,t3,t4,t5,t6,t7,t8,t9,v0,v1,v2,v3,v4,v5,v6,v7,v8,v9,ca,cc,rfl,-,-,hck⟩:=hv.go
 clear hv
 obtain ⟨kd,nm,lv,ty,val,pr,cs⟩:=d
 simp only at hck hcl hnm ⊢
 have hn5:¬9223372036854775807<nm.size+5:=by omega
 obtain ⟨RN,hRN⟩:∃RN,rnames ⟨kd,nm,lv,ty,val,pr,cs⟩=RN:=⟨_,rfl⟩
 rw [hRN]
 obtain ⟨W0,hW0⟩:∃W0,w.alloc (.cells #[.int .i64 kd,.string nm,.int .i64 lv,.int .i64 t0,.int .i64 t1,.bool t2,.string t3,.slice t4 t5 t6,.slice t7 t8 t9,.int .i64 v0,.int .i64 v1,.bool v2,.string v3,.slice v4 v5 v6,.slice v7 v8 v9,.int .i64 pr,.slice ca cs.length cc] 39)=W0:=⟨_,rfl⟩
 have hb0:RowKit.Below w.heap.size w W0:=by rw [←hW0];exact (Below.refl _ _).alloc (Nat.le_refl _) _
 have hX0:W0.heap[w.heap.size]?=some (.cells #[.int .i64 kd,.string nm,.int .i64 lv,.int .i64 t0,.int .i64 t1,.bool t2,.string t3,.slice t4 t5 t6,.slice t7 t8 t9,.int .i64 v0,.int .i64 v1,.bool v2,.string v3,.slice v4 v5 v6,.slice v7 v8 v9,.int .i64 pr,.slice ca cs.length cc] 39 (0,0)):=by rw [←hW0];exact alloc_new _ _
 have hs0:W0.heap.size=w.heap.size+1:=by rw [←hW0];simp
 have hs0a:=Nat.le_of_eq hs0
 have hs0b:=Nat.le_of_eq hs0.symm
 obtain ⟨q0,q1,q2,q3,q4,q5,q6,q7,q8,q9,q10,q11,q12,q13,q14,q15,q16,q17⟩:=cells17 hX0
 have HX0:=Hid.mk hX0
 have HB0:=Hid.mk hb0
 have HW0:=Hid.mk hW0
 have HCK:=Hid.mk hck
 have HCL:=Hid.mk hcl
 have HRN:=Hid.mk hRN
 obtain ⟨W1,hW1⟩:∃W1,W0.alloc (.cells #[.string nm] 9)=W1:=⟨_,rfl⟩
 have HB1:Hid (RowKit.Below (w.heap.size+1) W0 W1):=by unfold Hid;rw [←hW1];exact (Below.refl _ _).alloc hs0b _
 have HOS1:Hid (OS1 (w.heap.size+1) W1 (.slice (some ⟨W0.heap.size,0,none⟩) 1 1) [nm]):=by
  unfold Hid;rw [←hW1]
  exact World.ownsRow_lit W0 #[.string nm] 1 hs0b (by decide) rfl
 have HW1:=Hid.mk hW1
 clear hW0 hb0 hs0 hX0 hck hcl hRN hW1
 go_enter Tryz.func44,Tryz.ntmps44
 by_cases hk3:kd=3
 ·subst hk3
  have hcl:=HCL.out rfl
  have HRF:Hid (RN=nm::(cs.map Prod.fst++[nm++elimB])):=by unfold Hid;rw [←HRN.out];simp [rnames]
  obtain ⟨-,y1,-,-,-,-,-,-,-,-,-,-,-,-,-,-,y16,y17⟩:=cells17 ((HB1.out.block _ (by omega)).trans HX0.out)
  have y0:W1.cell? ⟨w.heap.size,0,none⟩=some (.int .i64 3):=(cells17 ((HB1.out.block _ (by omega)).trans HX0.out)).1
  have hs1:=HB1.out.size
  go_wp2_with (first | (rw [HW0.out]) | (rw [HW1.out]))
  go_loopw [3,4] (fun l i wr=>∃(j:Nat) (g cap:Nat),j≤cs.length∧i=.int .i64 j∧l=.slice (some ⟨g,0,none⟩) (j+1) cap∧OS1 (w.heap.size+1) wr (.slice (some ⟨g,0,none⟩) (j+1) cap) (nm::(cs.take j).map Prod.fst)∧RowKit.Below (w.heap.size+1) W0 wr) (fun _ i _=>cs.length - (intOf i).toNat)
  case atStart=>exact ⟨0,W0.heap.size,1,Nat.zero_le _,rfl,rfl,HOS1.out,HB1.out⟩
  case round =>
   obtain ⟨j,g,cap,hj,rfl,rfl,hO,hb⟩:=hrel
   have HO:=Hid.mk hO
   have HBR:=Hid.mk hb
   have hsr:=hb.size
   obtain ⟨-,z1,-,-,-,-,-,-,-,-,-,-,-,-,-,-,z16,z17⟩:=cells17 ((hb.block _ (by omega)).trans HX0.out)
   have hBw:RowKit.Below w.heap.size w wr:=HB0.out.trans (hb.mono (by omega))
   have HBW:=Hid.mk hBw
   clear hO hb hBw
   by_cases hjl:j<cs.length
   ·obtain ⟨cb,co,rfl,hcb,hcc⟩:=HCK.out.resolve_left (by intro e;rw [e] at hjl;simp at hjl)
    have hcj:wr.cell? ⟨cb,co+j*7,none⟩=some (.string cs[j].1):=(HBW.out.cell (p:=⟨cb,co+j*7,none⟩) hcb).trans (hcc j _ (List.getElem?_eq_getElem hjl)).1
    have HTK:Hid (nm::(cs.take (j+1)).map Prod.fst=(nm::(cs.take j).map Prod.fst)++[cs[j].1]):=by unfold Hid;rw [List.take_succ_eq_append_getElem hjl,List.map_append];rfl
    have HLN:Hid ((nm::(cs.take j).map Prod.fst).length=j+1):=by unfold Hid;simp;omega
    have zj:(j:Int)<(cs.length:Int):=by omega
    clear hcc
    generalize cs[j].1=cn at *
    obtain ⟨W2,hW2⟩:∃W2,wr.alloc (.cells #[.string cn] 9)=W2:=⟨_,rfl⟩
    have HO2:Hid (OS1 (w.heap.size+1) W2 (.slice (some ⟨g,0,none⟩) (j+1) cap) (nm::(cs.take j).map Prod.fst)):=by unfold Hid;rw [←hW2];exact World.ownsRow.alloc HO.out _
    have HB2:Hid (RowKit.Below (w.heap.size+1) W0 W2):=by unfold Hid;rw [←hW2];exact HBR.out.alloc (by omega) _
    have HN2:Hid (W2.cell? ⟨wr.heap.size,0,none⟩=some (.string cn)):=by unfold Hid;rw [←hW2,cell_of_row _ _ 0 _ _ _ (alloc_new _ _)];rfl
    have HS2:Hid ((w.heap.size+1)≤W2.heap.size):=by have:=HB2.out.size;unfold Hid;omega
    have HW2:=Hid.mk hW2
    clear hW2
    go_wp2_with (first | (rw [HW2.out]) | (at_builtin;refine wpList_appS rfl _ _ rfl (w.heap.size+1) (.slice (some ⟨g,0,none⟩) (j+1) cap) (nm::(cs.take j).map Prod.fst) cn wr.heap.size rfl rfl HO2.out HN2.out (by rw [HLN.out];omega) HS2.out ?_;intro g7 c7 W7 hown7 hgr7;have HOWN7:=Hid.mk hown7;have HGR7:=Hid.mk hgr7;clear hown7 hgr7;rw [HLN.out] at HOWN7;rw [HLN.out]))
    refine ⟨⟨j+1,g7,c7,hjl,by go_num,rfl,by rw [HTK.out];exact HOWN7.out,Below.grown HB2.out HGR7.out HS2.out (fun k hk=>(World.ownsRow.lt HO2.out k hk).1)⟩,by simp [intOf];omega⟩
   ·obtain rfl:j=cs.length:=by omega
    rw [List.take_length] at HO
    have zj:¬(cs.length:Int)<(cs.length:Int):=by omega
    have HLN:Hid ((nm::cs.map Prod.fst).length=cs.length+1):=by unfold Hid;simp
    obtain ⟨W2,hW2⟩:∃W2,wr.alloc (.cells #[.string (nm++(⟨#[46,101,108,105,109]⟩:ByteArray))] 9)=W2:=⟨_,rfl⟩
    have HO2:Hid (OS1 (w.heap.size+1) W2 (.slice (some ⟨g,0,none⟩) (cs.length+1) cap) (nm::cs.map Prod.fst)):=by unfold Hid;rw [←hW2];exact World.ownsRow.alloc HO.out _
    have HB2:Hid (RowKit.Below (w.heap.size+1) W0 W2):=by unfold Hid;rw [←hW2];exact HBR.out.alloc (by omega) _
    have HN2:Hid (W2.cell? ⟨wr.heap.size,0,none⟩=some (.string (nm++(⟨#[46,101,108,105,109]⟩:ByteArray)))):=by unfold Hid;rw [←hW2,cell_of_row _ _ 0 _ _ _ (alloc_new _ _)];rfl
    have HS2:Hid ((w.heap.size+1)≤W2.heap.size):=by have:=HB2.out.size;unfold Hid;omega
    have HW2:=Hid.mk hW2
    clear hW2
    go_wp2_with (first | (rw [HW2.out]) | (at_builtin;refine wpList_appS rfl _ _ rfl (w.heap.size+1) (.slice (some ⟨g,0,none⟩) (cs.length+1) cap) (nm::cs.map Prod.fst) _ wr.heap.size rfl rfl HO2.out HN2.out (by rw [HLN.out];omega) HS2.out ?_;intro g7 c7 W7 hown7 hgr7;have HOWN7:=Hid.mk hown7;have HGR7:=Hid.mk hgr7;clear hown7 hgr7;rw [HLN.out] at HOWN7;rw [HLN.out]))
    go_ret
    have hR:RN=(nm::cs.map Prod.fst)++[nm++elimB]:=HRF.out
    obtain ⟨g8,c8,hv8,hg8,hl8,hc8⟩:=OS1.at HOWN7.out (by simp)
    simp only [Value.slice.injEq,Option.some.injEq,Addr.mk.injEq,and_true] at hv8
    obtain ⟨rfl,-,rfl⟩:=hv8
    have hln:RN.length=cs.length+1+1:=by rw [hR];simp
    refine ⟨g7,c7,by rw [hln];rfl,by omega,hl8,by rw [hR];exact hc8,HB0.out.trans ((Below.grown HB2.out HGR7.out HS2.out (fun k hk=>(World.ownsRow.lt HO2.out k hk).1)).mono (by omega))⟩
 ·have hk3':(kd==3)=false:=by simpa using hk3
  have HRF:Hid (RN=[nm]):=by unfold Hid;rw [←HRN.out];simp [rnames,hk3]
  have y0:W1.cell? ⟨w.heap.size,0,none⟩=some (.int .i64 kd):=(cells17 ((HB1.out.block _ (by omega)).trans HX0.out)).1
  have HK3:=Hid.mk hk3
  clear hk3
  go_wp2_with (first | (rw [HW0.out]) | (rw [HW1.out]))
  go_ret
  obtain ⟨g8,c8,hv8,hg8,hl8,hc8⟩:=OS1.at HOS1.out (by simp)
  simp only [Value.slice.injEq,Option.some.injEq,Addr.mk.injEq,and_true] at hv8
  obtain ⟨rfl,-,rfl⟩:=hv8
  rw [HRF.out]
  exact ⟨W0.heap.size,1,rfl,by omega,hl8,hc8,HB0.out.trans (HB1.out.mono (by omega))⟩
theorem clean_freeR (t:Tm):∀deep,freeR (cleanT t) deep=freeR t deep:=by
 refine Tm.ind (P:=fun t=>∀deep,freeR (cleanT t) deep=freeR t deep) ?_ t
 intro f n hd nm ls ks ih deep
 rw [cleanT,freeR_mk,freeR_mk]
 by_cases h:f=1
 ·simp [h]
 ·rw [if_neg h,if_neg h]
  unfold freeK
  rw [cleanTs_map,List.zipIdx_map,List.map_map]
  congr 1
  refine List.map_congr_left fun p hp=>?_
  exact ih p.1 (List.fst_mem_of_mem_zipIdx hp) _
theorem clean_open (t:Tm):openT (cleanT t)=openT t:=by
 unfold openT tfreeR
 rw [clean_check,clean_freeR]
theorem clean_terms (d:Dl):(termsD (cleanD d)).any openT=(openT d.ty||(decide (d.kind=2)&&openT d.val)||(decide (d.kind=3)&&d.ctors.any fun c=>openT c.2)):=by
 obtain ⟨kd,nm,lv,ty,val,pr,cs⟩:=d
 unfold termsD cleanD
 simp only [List.any_cons,List.any_append,List.any_map,clean_open]
 by_cases h2:kd=2
 ·subst h2
  simp [clean_open]
 ·by_cases h3:kd=3
  ·subst h3
   simp [List.any_map,Function.comp_def,cleanC,clean_open]
  ·simp [h2,h3]
theorem names_perm (d:Dl):(rnames d).Perm ((namesD (cleanD d)).map Prod.fst):=by
 obtain ⟨kd,nm,lv,ty,val,pr,cs⟩:=d
 unfold rnames namesD cleanD
 by_cases h3:kd=3
 ·subst h3
  simp only [if_true,List.map_cons,List.map_append,List.map_map,List.map_nil]
  refine List.Perm.cons _ ?_
  have he:List.map (Prod.fst∘fun c:(ByteArray×Tm)×Nat=>((c.1.1,4+2*(c.2:Int)):ByteArray×Int)) (cs.map cleanC).zipIdx=cs.map Prod.fst:=by
   rw [List.zipIdx_map,List.map_map]
   have:(Prod.fst∘fun c:(ByteArray×Tm)×Nat=>((c.1.1,4+2*(c.2:Int)):ByteArray×Int))∘Prod.map cleanC id=fun c=>c.1.1:=rfl
   rw [this]
   clear this
   generalize 0=n
   induction cs generalizing n with
   | nil=>rfl
   | cons c cs ih=>rw [List.zipIdx_cons,List.map_cons,ih];rfl
  rw [he]
  exact List.perm_append_comm
 ·simp [h3]
theorem fold_nodup2 (p:Int):∀(l:List (ByteArray×Int)) (st:(ByteArray→Option (Int×Int))×Bool),(l.foldl (putN p) st).2=true↔st.2=true∧(l.map Prod.fst).Nodup∧∀x∈l,(st.1 x.1).isSome=false
 | [],st=>by simp
 | x::l,st=>by
  rw [List.foldl_cons,fold_nodup2 p l]
  unfold putN
  by_cases hx:(st.1 x.1).isSome=true
  ·rw [if_pos hx]
   constructor
   ·rintro ⟨h,-⟩;cases h
   ·rintro ⟨-,-,h⟩
    have:=h x (List.mem_cons_self ..)
    rw [this] at hx;cases hx
  ·rw [if_neg hx]
   have hx':(st.1 x.1).isSome=false:=by simpa using hx
   simp only [List.map_cons,List.nodup_cons,List.mem_cons,forall_eq_or_imp]
   constructor
   ·rintro ⟨h1,h2,h3⟩
    refine ⟨h1,⟨fun hm=>?_,h2⟩,hx',fun y hy=>?_⟩
    ·obtain ⟨y,hy,he⟩:=List.mem_map.1 hm
     have:=h3 y hy
     rw [show ((updM st.1 x.1 (p,x.2)) y.1).isSome=true from updM_some.2 (Or.inl he)] at this
     cases this
    ·have:=h3 y hy
     cases h4:(st.1 y.1).isSome with
     | false=>rfl
     | true =>
      rw [show ((updM st.1 x.1 (p,x.2)) y.1).isSome=true from updM_some.2 (Or.inr h4)] at this
      cases this
   ·rintro ⟨h1,⟨h2,h3⟩,-,h4⟩
    refine ⟨h1,h3,fun y hy=>?_⟩
    cases h5:((updM st.1 x.1 (p,x.2)) y.1).isSome with
    | false=>rfl
    | true =>
     rcases updM_some.1 h5 with h6 | h6
     ·exact absurd (List.mem_map.2 ⟨y,hy,h6⟩) h2
     ·rw [h4 y hy] at h6;cases h6
theorem namesM_two {p:Int}{d:Dl}:(namesM p d).2=true↔((namesD d).map Prod.fst).Nodup:=by
 unfold namesM
 rw [fold_nodup2]
 simp
theorem kindIn_pos {d:Dl}{s:ByteArray}{k:Int}(ho:OwnD d) (h:kindIn d s=some k):k≠0:=by
 unfold kindIn at h
 rw [Option.map_eq_some_iff] at h
 obtain ⟨x,hx,rfl⟩:=h
 have hm:=List.mem_of_find?_eq_some hx
 have hk:=ho.right.kind.1
 unfold namesD at hm
 simp only [List.mem_cons,List.mem_append,List.mem_map] at hm
 rcases hm with rfl | hm | ⟨c,hc,rfl⟩
 ·simp only;omega
 ·split at hm
  ·rw [List.mem_singleton.1 hm];show (5:Int)≠0;decide
  ·cases hm
 ·simp only;omega
theorem rget_kind {ds:List Dl}(ho:∀d∈ds,OwnD d) (s:ByteArray):(rget ds s).2≠0↔ds.any (fun x=>(kindIn x s).isSome)=true:=by
 induction ds with
 | nil=>simp [rget]
 | cons d ds ih =>
  unfold rget
  rw [List.any_cons]
  cases h:kindIn d s with
  | some k=>simp [kindIn_pos (ho d (List.mem_cons_self ..)) h]
  | none =>
   simp only [Option.isSome_none,Bool.false_or]
   exact ih fun x hx=>ho x (List.mem_cons_of_mem _ hx)
theorem rget_tab {ds:List Dl}(hf:Fine ds) (ho:∀d∈ds,OwnD d) (s:ByteArray):(rget ds s).2≠0↔(tabM ds s).isSome=true:=by
 rw [rget_kind ho,tabM_any hf]
def wrongAt (ds:List Dl) (l:List ByteArray) (i:Nat):Prop:=∃s,l[i]?=some s∧((rget ds s).2≠0∨∃j,j<i∧l[j]?=some s)
theorem may_twice {ds:List Dl}(hf:Fine ds) (ho:∀d∈ds,OwnD d) (d:Dl):twiceB ds (cleanD d)=true↔∃i,wrongAt ds (rnames d) i:=by
 unfold twiceB
 rw [Bool.or_eq_true,Bool.not_eq_true',List.any_eq_true]
 have hp:=names_perm d
 constructor
 ·rintro (h | ⟨x,hx,h⟩)
  ·have h1:¬(rnames d).Nodup:=fun h2=>by
    rw [namesM_two.2 (hp.nodup_iff.1 h2)] at h;cases h
   unfold List.Nodup at h1
   rw [List.pairwise_iff_getElem] at h1
   simp only [Classical.not_forall,ne_eq,Classical.not_not] at h1
   obtain ⟨i,j,hi,hj,hij,he⟩:=h1
   refine ⟨j,(rnames d)[j],List.getElem?_eq_getElem hj,Or.inr ⟨i,hij,?_⟩⟩
   rw [←he,List.getElem?_eq_getElem hi]
  ·have hm:x.1∈rnames d:=hp.mem_iff.2 (List.mem_map.2 ⟨x,hx,rfl⟩)
   obtain ⟨i,hi⟩:=List.getElem?_of_mem hm
   exact ⟨i,x.1,hi,Or.inl ((rget_tab hf ho x.1).2 h)⟩
 ·rintro ⟨i,s,hi,h | ⟨j,hj,he⟩⟩
  ·right
   obtain ⟨x,hx,rfl⟩:=List.mem_map.1 (hp.mem_iff.1 (List.mem_of_getElem? hi))
   exact ⟨x,hx,(rget_tab hf ho x.1).1 h⟩
  ·left
   cases h2:(namesM (ds.length:Int) (cleanD d)).2 with
   | false=>rfl
   | true =>
    have h3:=hp.nodup_iff.2 (namesM_two.1 h2)
    unfold List.Nodup at h3
    rw [List.pairwise_iff_getElem] at h3
    obtain ⟨hj1,hj2⟩:=List.getElem?_eq_some_iff.1 he
    obtain ⟨hi1,hi2⟩:=List.getElem?_eq_some_iff.1 hi
    exact absurd (hj2.trans hi2.symm) (h3 j i hj1 hi1 hj)
theorem rnames_len {d:Dl}(h:d.kind=3→d.ctors.length≤40):(rnames d).length≤42:=by
 unfold rnames
 split
 ·rename_i h3
  have:=h h3
  simp;omega
 ·simp
end Go.Proofs.YtgfgpjcnfnopnaaGreat
