/- The contract of telamonref1.Exactly at two values that are one term. -/
import Derived.Test.YtgfgpjcnfnopnaaGreatWD
import Derived.Deep.RegionHeld3
namespace Go.Proofs.YtgfgpjcnfnopnaaGreat
set_option maxRecDepth 100000
set_option maxHeartbeats 40000000
open Go.RowKit Go.Sort
def lvB (m:Nat):Tm→Bool
 | .mk _ _ _ _ ls ks=>(ls.all fun l=>decide (l.2.length≤m))&&ks.attach.all fun k=>lvB m k.1
termination_by t=>SizeOf.sizeOf t
decreasing_by
 have:=List.sizeOf_lt_of_mem k.2
 simp only [Tm.mk.sizeOf_spec];omega
theorem lvB_mk (m:Nat) (f n:Int) (hd:Bool) (nm:ByteArray) (ls:List LvT) (ks:List Tm):lvB m (.mk f n hd nm ls ks)=((ls.all fun l=>decide (l.2.length≤m))&&ks.all (lvB m)):=by
 rw [lvB]
 congr 1
 rw [Bool.eq_iff_iff,List.all_eq_true,List.all_eq_true]
 exact ⟨fun h x hx=>h ⟨x,hx⟩ (List.mem_attach _ _),fun h x _=>h x.1 x.2⟩
theorem LN.at {w:World}{a:Option Addr}{ls:List LvT}(h:LN w a ls) {k:Nat}(hk:k<ls.length) :
  ∃b off a' cap',a=some ⟨b,off,none⟩∧b<w.heap.size∧w.cell? ⟨b,off+k*2,none⟩=some (.int .i64 ls[k].1)∧w.cell? ⟨b,off+k*2+1,none⟩=some (.slice a' ls[k].2.length cap')∧SL w a' ls[k].2:=by
 rcases h with h | ⟨b,off,ha,hlt,hc⟩
 ·subst h;simp at hk
 ·obtain ⟨c0,a',cap',c1,hs,-⟩:=hc k ls[k].1 ls[k].2 (by simp [hk])
  exact ⟨b,off,a',cap',ha,hlt,c0,c1,hs⟩
theorem Exactly_same (t:Tm):∀(va vb:Value) (w:World),lvB 1000000 t=true→TV w va t→TV w vb t→Calls Tryz.prog 29 #[va,vb] w fun e w'=>e=.returned (.bool true)∧Grew w w':=by
 refine Tm.ind (P:=fun t=>∀(va vb:Value) (w:World),lvB 1000000 t=true→TV w va t→TV w vb t→Calls Tryz.prog 29 #[va,vb] w fun e w'=>e=.returned (.bool true)∧Grew w w') ?_ t
 intro f n hd nm ls ks ih va vb w hlv hva hvb
 rw [lvB_mk,Bool.and_eq_true] at hlv
 obtain ⟨hlv1,hlv2⟩:=hlv
 have mx:=mixed
 cases hva with
 | @mk _ _ _ _ _ _ la lc ka kc kb ko hl hln hlc hlm hkn hkc hkm hk kids =>
 cases hvb with
 | @mk _ _ _ _ _ _ la' lc' ka' kc' kb' ko' hl' hln' hlc' hlm' hkn' hkc' hkm' hk' kids' =>
  have HL:=Hid.mk hl
  have HL':=Hid.mk hl'
  have HK:=Hid.mk hk
  have HK':=Hid.mk hk'
  have HKIDS:=Hid.mk kids
  have HKIDS':=Hid.mk kids'
  have HIH:=Hid.mk ih
  have HLV:Hid (∀l∈ls,l.2.length≤1000000):=fun l hl=>by have:=List.all_eq_true.1 hlv1 l hl;simpa using this
  have HLK:Hid (∀k∈ks,lvB 1000000 k=true):=List.all_eq_true.1 hlv2
  clear hk kids ih hl hk' kids' hl' hlv1 hlv2
  obtain ⟨W0,hW0⟩:∃W0,(w.alloc (.cells #[.int .i64 f,.int .i64 n,.bool hd,.string nm,.slice la ls.length lc,.slice ka ks.length kc] 36)).alloc (.cells #[.int .i64 f,.int .i64 n,.bool hd,.string nm,.slice la' ls.length lc',.slice ka' ks.length kc'] 36)=W0:=⟨_,rfl⟩
  have HG0:Hid (Grew w W0):=by unfold Hid;rw [←hW0];exact ((Grew.refl w).alloc _).alloc _
  have HX0:Hid (W0.heap[w.heap.size]?=some (.cells #[.int .i64 f,.int .i64 n,.bool hd,.string nm,.slice la ls.length lc,.slice ka ks.length kc] 36 (0,0))):=by unfold Hid;rw [←hW0];exact box_at
  have HY0:Hid (W0.heap[w.heap.size+1]?=some (.cells #[.int .i64 f,.int .i64 n,.bool hd,.string nm,.slice la' ls.length lc',.slice ka' ks.length kc'] 36 (0,0))):=by unfold Hid;rw [←hW0];exact box_at1
  obtain ⟨x0,x1,x2,x3,x4,x5,x6⟩:=cells6 HX0.out
  obtain ⟨y0,y1,y2,y3,y4,y5,y6⟩:=cells6 HY0.out
  have HW0:=Hid.mk hW0
  clear hW0
  go_enter Tryz.func29,Tryz.ntmps29
  go_wp2_with fail
  rw [HW0.out]
  clear x0 x1 x2 x3 x4 x5 y0 y1 y2 y3 y4 y5
  go_loopw [5] (fun i wr=>∃j:Nat,j≤ls.length∧i=.int .i64 j∧Grew W0 wr) (fun i _=>ls.length - (intOf i).toNat)
  case atStart=>exact ⟨0,Nat.zero_le _,rfl,Grew.refl _⟩
  case round =>
   obtain ⟨j,hj,rfl,hg⟩:=hrel
   have HG:=Hid.mk hg
   clear hg
   obtain ⟨x0,x1,x2,x3,x4,x5,x6'⟩:=cells6 ((HG.out.below.block w.heap.size x6).trans HX0.out)
   obtain ⟨y0,y1,y2,y3,y4,y5,y6'⟩:=cells6 ((HG.out.below.block (w.heap.size+1) y6).trans HY0.out)
   by_cases hlt:j<ls.length
   ·obtain ⟨b,off,a1,cap1,rfl,hbl,c0,c1,hs1⟩:=(HL.out.below (HG0.out.trans HG.out).below).at hlt
    obtain ⟨b',off',a2,cap2,rfl,hbl',d0,d1,hs2⟩:=(HL'.out.below (HG0.out.trans HG.out).below).at hlt
    have hlen:=HLV.out ls[j] (List.getElem_mem hlt)
    have EX:=Exact_any ls[j].1 ls[j].1 ls[j].2 ls[j].2 a1 a2 cap1 cap2 wr.drew (hs1.below (Below.refl _ _).drew) (hs2.below (Below.refl _ _).drew) (by omega) (by omega)
    rw [show exactB ls[j].1 ls[j].2 ls[j].1 ls[j].2=true by simp [exactB]] at EX
    have zj:(j:Int)<(ls.length:Int):=by omega
    clear hs1 hs2 hlen
    generalize ls[j]=l at *
    have HCEL:Hid (∀W:World,RowKit.Below wr.heap.size wr W→W.cell? ⟨w.heap.size,4,none⟩=some (.slice (some ⟨b,off,none⟩) ls.length lc)∧W.cell? ⟨w.heap.size+1,4,none⟩=some (.slice (some ⟨b',off',none⟩) ls.length lc')∧W.cell? ⟨b,off+j*2,none⟩=some (.int .i64 l.1)∧W.cell? ⟨b,off+j*2+1,none⟩=some (.slice a1 l.2.length cap1)∧W.cell? ⟨b',off'+j*2,none⟩=some (.int .i64 l.1)∧W.cell? ⟨b',off'+j*2+1,none⟩=some (.slice a2 l.2.length cap2)):=fun W h=>⟨(h.cell (p:=⟨w.heap.size,4,none⟩) x6').trans x4,(h.cell (p:=⟨w.heap.size+1,4,none⟩) y6').trans y4,(h.cell (p:=⟨b,off+j*2,none⟩) hbl).trans c0,(h.cell (p:=⟨b,off+j*2+1,none⟩) hbl).trans c1,(h.cell (p:=⟨b',off'+j*2,none⟩) hbl').trans d0,(h.cell (p:=⟨b',off'+j*2+1,none⟩) hbl').trans d1⟩
    go_wp2_with fail
    go_region_held3 (fun w'=>w'.cell? ⟨w.heap.size,4,none⟩=some (.slice (some ⟨b,off,none⟩) ls.length lc)∧w'.cell? ⟨w.heap.size+1,4,none⟩=some (.slice (some ⟨b',off',none⟩) ls.length lc')∧w'.cell? ⟨b,off+j*2,none⟩=some (.int .i64 l.1)∧w'.cell? ⟨b,off+j*2+1,none⟩=some (.slice a1 l.2.length cap1)∧w'.cell? ⟨b',off'+j*2,none⟩=some (.int .i64 l.1)∧w'.cell? ⟨b',off'+j*2+1,none⟩=some (.slice a2 l.2.length cap2)) (first | exact HCEL.out _ (Below.refl _ _).drew | exact HCEL.out _ hb5)
     (first | (go_at_call 47;refine EX.mono ?_;rintro e w5 ⟨rfl,hg5⟩;have hb5:RowKit.Below wr.heap.size wr w5:=(Below.refl _ _).drew.trans hg5.below;have HG5:Hid (Grew wr w5):=((Grew.refl wr).drew).trans hg5;clear hg5))
    go_wp2
    refine ⟨⟨j+1,hlt,by go_num,HG.out.trans HG5.out⟩,by simp [intOf];omega⟩
   ·obtain ⟨W1,rfl⟩:∃W,W=wr:=⟨_,rfl⟩
    have HG1:Hid (Grew w W1):=HG0.out.trans HG.out
    have HX1:=Hid.mk ((HG.out.below.block w.heap.size x6).trans HX0.out)
    have HY1:=Hid.mk ((HG.out.below.block (w.heap.size+1) y6).trans HY0.out)
    go_wp2
    clear x0 x1 x2 x3 x4 x5 y0 y1 y2 y3 y4 y5
    go_loopw [7] (fun i wr=>∃j:Nat,j≤ks.length∧i=.int .i64 j∧Grew W1 wr) (fun i _=>ks.length - (intOf i).toNat)
    case atStart=>exact ⟨0,Nat.zero_le _,rfl,Grew.refl _⟩
    case round =>
     obtain ⟨k,hk,rfl,hg⟩:=hrel
     have HG2:=Hid.mk hg
     clear hg
     obtain ⟨x0,x1,x2,x3,x4,x5,x7⟩:=cells6 ((HG2.out.below.block w.heap.size x6').trans HX1.out)
     obtain ⟨y0,y1,y2,y3,y4,y5,y7⟩:=cells6 ((HG2.out.below.block (w.heap.size+1) y6').trans HY1.out)
     by_cases hlk:k<ks.length
     ·obtain ⟨rfl,hkb⟩:=HK.out (by intro e;rw [e] at hlk;simp at hlk)
      obtain ⟨rfl,hkb'⟩:=HK'.out (by intro e;rw [e] at hlk;simp at hlk)
      have hkt:ks[k]?=some ks[k]:=by simp [hlk]
      have hmem:ks[k]∈ks:=List.getElem_mem hlk
      have htc:=(HKIDS.out k _ hkt).on (HG1.out.trans HG2.out).below
      have htc':=(HKIDS'.out k _ hkt).on (HG1.out.trans HG2.out).below
      obtain ⟨v0,v1,v2,v3,v4,v5,c0,c1,c2,c3,c4,c5,hv⟩:=htc.val
      obtain ⟨u0,u1,u2,u3,u4,u5,d0,d1,d2,d3,d4,d5,hu⟩:=htc'.val
      have HCALL:=HIH.out ks[k] hmem _ _ wr.drew (HLK.out _ hmem) (hv.on (Below.refl _ _).drew) (hu.on (Below.refl _ _).drew)
      have zk:(k:Int)<(ks.length:Int):=by omega
      have hkr:=htc.lt
      have hkr':=htc'.lt
      clear hkt hmem htc htc' hv hu
      have HCEL:Hid (∀W:World,RowKit.Below wr.heap.size wr W→W.cell? ⟨w.heap.size,5,none⟩=some (.slice (some ⟨kb,ko,none⟩) ks.length kc)∧W.cell? ⟨w.heap.size+1,5,none⟩=some (.slice (some ⟨kb',ko',none⟩) ks.length kc')∧W.cell? ⟨kb,ko+k*6,none⟩=some (v0)∧W.cell? ⟨kb,ko+k*6+1,none⟩=some (v1)∧W.cell? ⟨kb,ko+k*6+2,none⟩=some (v2)∧W.cell? ⟨kb,ko+k*6+3,none⟩=some (v3)∧W.cell? ⟨kb,ko+k*6+4,none⟩=some (v4)∧W.cell? ⟨kb,ko+k*6+5,none⟩=some (v5)∧W.cell? ⟨kb',ko'+k*6,none⟩=some (u0)∧W.cell? ⟨kb',ko'+k*6+1,none⟩=some (u1)∧W.cell? ⟨kb',ko'+k*6+2,none⟩=some (u2)∧W.cell? ⟨kb',ko'+k*6+3,none⟩=some (u3)∧W.cell? ⟨kb',ko'+k*6+4,none⟩=some (u4)∧W.cell? ⟨kb',ko'+k*6+5,none⟩=some (u5)):=fun W h=>⟨(h.cell (p:=⟨w.heap.size,5,none⟩) x7).trans x5,(h.cell (p:=⟨w.heap.size+1,5,none⟩) y7).trans y5,(h.cell (p:=⟨kb,ko+k*6,none⟩) hkr).trans c0,(h.cell (p:=⟨kb,ko+k*6+1,none⟩) hkr).trans c1,(h.cell (p:=⟨kb,ko+k*6+2,none⟩) hkr).trans c2,(h.cell (p:=⟨kb,ko+k*6+3,none⟩) hkr).trans c3,(h.cell (p:=⟨kb,ko+k*6+4,none⟩) hkr).trans c4,(h.cell (p:=⟨kb,ko+k*6+5,none⟩) hkr).trans c5,(h.cell (p:=⟨kb',ko'+k*6,none⟩) hkr').trans d0,(h.cell (p:=⟨kb',ko'+k*6+1,none⟩) hkr').trans d1,(h.cell (p:=⟨kb',ko'+k*6+2,none⟩) hkr').trans d2,(h.cell (p:=⟨kb',ko'+k*6+3,none⟩) hkr').trans d3,(h.cell (p:=⟨kb',ko'+k*6+4,none⟩) hkr').trans d4,(h.cell (p:=⟨kb',ko'+k*6+5,none⟩) hkr').trans d5⟩
      go_wp2_with fail
      go_region_held3 (fun w'=>w'.cell? ⟨w.heap.size,5,none⟩=some (.slice (some ⟨kb,ko,none⟩) ks.length kc)∧w'.cell? ⟨w.heap.size+1,5,none⟩=some (.slice (some ⟨kb',ko',none⟩) ks.length kc')∧w'.cell? ⟨kb,ko+k*6,none⟩=some (v0)∧w'.cell? ⟨kb,ko+k*6+1,none⟩=some (v1)∧w'.cell? ⟨kb,ko+k*6+2,none⟩=some (v2)∧w'.cell? ⟨kb,ko+k*6+3,none⟩=some (v3)∧w'.cell? ⟨kb,ko+k*6+4,none⟩=some (v4)∧w'.cell? ⟨kb,ko+k*6+5,none⟩=some (v5)∧w'.cell? ⟨kb',ko'+k*6,none⟩=some (u0)∧w'.cell? ⟨kb',ko'+k*6+1,none⟩=some (u1)∧w'.cell? ⟨kb',ko'+k*6+2,none⟩=some (u2)∧w'.cell? ⟨kb',ko'+k*6+3,none⟩=some (u3)∧w'.cell? ⟨kb',ko'+k*6+4,none⟩=some (u4)∧w'.cell? ⟨kb',ko'+k*6+5,none⟩=some (u5)) (first | exact HCEL.out _ (Below.refl _ _).drew | exact HCEL.out _ hb5)
       (first | (go_at_call 29;refine HCALL.mono ?_;rintro e w5 ⟨rfl,hg5⟩;have hb5:RowKit.Below wr.heap.size wr w5:=(Below.refl _ _).drew.trans hg5.below;have HG5:Hid (Grew wr w5):=((Grew.refl wr).drew).trans hg5;clear hg5))
      go_wp2
      refine ⟨⟨k+1,hlk,by go_num,HG2.out.trans HG5.out⟩,by simp [intOf];omega⟩
     ·go_wp2
      go_ret
      exact ⟨rfl,HG1.out.trans HG2.out⟩
theorem IndexUn_any (ls:List LvT) (a:Option Addr) (cap:Nat) (w:World) (hS:LL w a ls) (hn:ls.length≤35184372088832) (hx:∀l∈ls,l.2.length≤4398046511104) :
  Calls Tryz.prog 108 #[.slice a ls.length cap,.func (.func 101) #[] #[]] w fun e w'=>(∃r:Int,e=.returned (.int .i64 r)∧decide (0≤r)=ls.any fun l=>!canonB l)∧RowKit.Below w.heap.size w w':=by
 have HS:=Hid.mk hS
 have HX:=Hid.mk hx
 clear hS hx
 go_enter Tryz.func108,Tryz.ntmps108
 go_wp2
 go_loopw [8] (fun i wr=>∃k:Nat,k≤ls.length∧i=.int .i64 k∧RowKit.Below w.heap.size w wr∧(ls.take k).any (fun l=>!canonB l)=false) (fun i _=>ls.length - (intOf i).toNat)
 case atStart=>exact ⟨0,Nat.zero_le _,rfl,Below.refl _ _,by simp⟩
 case round =>
  obtain ⟨k,hk,rfl,hb,hall⟩:=hrel
  have HA:=Hid.mk hall
  clear hall
  by_cases hlt:k<ls.length
  ·obtain ⟨b,off,n,xs,a',cap',rfl,hbl,hc0,hc1,hS1,hl⟩:=(HS.out.below hb).at hlt
   have hbb:=hb.size
   have HW:=uncanonical_any n xs a' cap' wr hS1 (by have:=HX.out (n,xs) (List.mem_of_getElem? hl.out);simp only at this;omega)
   clear hS1
   cases h0:canonB (n,xs)
   ·rw [h0] at HW
    have H0:Hid ((!canonB (n,xs))=true):=by unfold Hid;rw [h0];rfl
    clear h0
    go_wp2_with (go_at_call 101;refine HW.mono ?_;rintro e w1 ⟨rfl,hg⟩)
    go_ret
    exact ⟨⟨_,rfl,by rw [any_yes (p:=fun l=>!canonB l) hl.out H0.out];simp⟩,hb.trans (hg.mono hbb)⟩
   ·rw [h0] at HW
    have H0:Hid ((!canonB (n,xs))=false):=by unfold Hid;rw [h0];rfl
    clear h0
    go_wp2_with (go_at_call 101;refine HW.mono ?_;rintro e w1 ⟨rfl,hg⟩)
    refine ⟨⟨k+1,hlt,by go_num,hb.trans (hg.mono hbb),?_⟩,by simp [intOf];omega⟩
    rw [take_any (p:=fun l=>!canonB l) hl.out,HA.out,H0.out];rfl
  ·go_wp2
   go_ret
   have hk':k=ls.length:=by omega
   subst hk'
   have hA:=HA.out
   rw [List.take_length] at hA
   exact ⟨⟨_,rfl,by rw [hA];simp⟩,hb⟩
theorem ContainsUn_any (ls:List LvT) (a:Option Addr) (cap:Nat) (w:World) (hS:LL w a ls) (hn:ls.length≤35184372088832) (hx:∀l∈ls,l.2.length≤4398046511104) :
  Calls Tryz.prog 100 #[.slice a ls.length cap,.func (.func 101) #[] #[]] w fun e w'=>e=.returned (.bool (ls.any fun l=>!canonB l))∧RowKit.Below w.heap.size w w':=by
 have HI:=IndexUn_any ls a cap w hS hn hx
 clear hS hx
 go_enter Tryz.func100,Tryz.ntmps100
 go_wp2_with (go_at_call 108;refine HI.mono ?_;rintro e w1 ⟨⟨r,rfl,hr⟩,hg⟩;have HR:=Hid.mk hr;clear hr)
 go_ret
 exact ⟨by rw [←HR.out];rfl,hg⟩
theorem form_cases (f:Int):f=1∨f=2∨f=3∨f=4∨f=5∨f=6∨f=7∨f=8∨f=9∨f=10∨f=11∨(f<1∨11<f):=by omega
theorem arity_any (f:Int) (w:World):Calls Tryz.prog 91 #[.int .i64 f] w fun e w'=>e=.returned (.int .i64 (kidsR f))∧w'=w:=by
 rcases form_cases f with rfl | rfl | rfl | rfl | rfl | rfl | rfl | rfl | rfl | rfl | rfl | hin
 iterate 11
  ·go_enter Tryz.func91,Tryz.ntmps91
   go_wp2
   go_ret
   exact ⟨rfl,rfl⟩
 ·have HE:Hid (kidsR f=-1):=by unfold Hid kidsR;rw [if_neg (by omega),if_neg (by omega),if_neg (by omega),if_neg (by omega)]
  have e:∀k:Int,1≤k→k≤11→(f==k)=false:=fun k h1 h2=>by simp;omega
  have e1:=e 1 (by decide) (by decide)
  have e2:=e 2 (by decide) (by decide)
  have e3:=e 3 (by decide) (by decide)
  have e4:=e 4 (by decide) (by decide)
  have e5:=e 5 (by decide) (by decide)
  have e6:=e 6 (by decide) (by decide)
  have e7:=e 7 (by decide) (by decide)
  have e8:=e 8 (by decide) (by decide)
  have e9:=e 9 (by decide) (by decide)
  have e10:=e 10 (by decide) (by decide)
  have e11:=e 11 (by decide) (by decide)
  clear e hin
  go_enter Tryz.func91,Tryz.ntmps91
  go_wp2
  go_ret
  exact ⟨by rw [HE.out];rfl,rfl⟩
def fieldsB:Tm→Bool
 | .mk f n _ nm ls ks=>if f=1∨f=11 then decide (0≤n)&&decide (n≤1073741824) else if f=7 then (match ks with | k::_=>k.form==6 | []=>false) else if f=2 then (match ls with | [l]=>canonB l | _=>false) else if f=10 then !(nm.toList==[])&&decide (nm.size≤60)&&!(ls.any fun l=>!canonB l) else true
theorem fieldsRight_any (t:Tm) (v:Value) (w:World) (hv:TV w v t) (h7:t.form=7→t.kids≠[]) (hlv:∀l∈t.levels,l.2.length≤1000000) (hll:t.levels.length≤8796093022208) :
  Calls Tryz.prog 92 #[v] w fun e w'=>e=.returned (.bool (fieldsB t))∧RowKit.Below w.heap.size w w':=by
 cases hv with
 | @mk f n hd nm ls ks la lc ka kc kb ko hl hln hlc hlm hkn hkc hkm hk kids =>
  simp only [Tm.form,Tm.kids,Tm.levels] at h7 hlv hll
  have HL:=Hid.mk hl
  have HK:=Hid.mk hk
  have HKIDS:=Hid.mk kids
  have HLV:=Hid.mk hlv
  have H7:=Hid.mk h7
  clear hl hk kids hlv h7
  rcases form_cases f with rfl | rfl | rfl | rfl | rfl | rfl | rfl | rfl | rfl | rfl | rfl | hin
  case inl =>
   have HR:Hid (fieldsB (.mk 1 n hd nm ls ks)=(decide (0≤n)&&decide (n≤1073741824))):=by unfold Hid;simp [fieldsB]
   generalize fieldsB (.mk 1 n hd nm ls ks)=R at HR ⊢
   rcases (show n<0∨(0≤n∧1073741824<n)∨(0≤n∧n≤1073741824) by omega) with h1 | ⟨h1,h2⟩ | ⟨h1,h2⟩
   all_goals
    have HE:Hid (R=(decide (0≤n)&&decide (n≤1073741824))):=HR.out
    clear HR
    go_enter Tryz.func92,Tryz.ntmps92
    go_wp2
    go_ret
    refine ⟨?_,(Below.refl _ _).alloc (Nat.le_refl _) _⟩
    rw [HE.out]
    exact congrArg (fun x=>Ending.returned (.bool x)) (by simp;omega)
  case inr.inr.inr.inr.inr.inr.inr.inr.inr.inr.inl =>
   have HR:Hid (fieldsB (.mk 11 n hd nm ls ks)=(decide (0≤n)&&decide (n≤1073741824))):=by unfold Hid;simp [fieldsB]
   generalize fieldsB (.mk 11 n hd nm ls ks)=R at HR ⊢
   rcases (show n<0∨(0≤n∧1073741824<n)∨(0≤n∧n≤1073741824) by omega) with h1 | ⟨h1,h2⟩ | ⟨h1,h2⟩
   all_goals
    have HE:Hid (R=(decide (0≤n)&&decide (n≤1073741824))):=HR.out
    clear HR
    go_enter Tryz.func92,Tryz.ntmps92
    go_wp2
    go_ret
    refine ⟨?_,(Below.refl _ _).alloc (Nat.le_refl _) _⟩
    rw [HE.out]
    exact congrArg (fun x=>Ending.returned (.bool x)) (by simp;omega)
  case inr.inr.inl =>
   have HR:Hid (fieldsB (.mk 3 n hd nm ls ks)=true):=by unfold Hid;simp [fieldsB]
   generalize fieldsB (.mk 3 n hd nm ls ks)=R at HR ⊢
   go_enter Tryz.func92,Tryz.ntmps92
   go_wp2
   go_ret
   exact ⟨by rw [HR.out];rfl,(Below.refl _ _).alloc (Nat.le_refl _) _⟩
  case inr.inr.inr.inl =>
   have HR:Hid (fieldsB (.mk 4 n hd nm ls ks)=true):=by unfold Hid;simp [fieldsB]
   generalize fieldsB (.mk 4 n hd nm ls ks)=R at HR ⊢
   go_enter Tryz.func92,Tryz.ntmps92
   go_wp2
   go_ret
   exact ⟨by rw [HR.out];rfl,(Below.refl _ _).alloc (Nat.le_refl _) _⟩
  case inr.inr.inr.inr.inl =>
   have HR:Hid (fieldsB (.mk 5 n hd nm ls ks)=true):=by unfold Hid;simp [fieldsB]
   generalize fieldsB (.mk 5 n hd nm ls ks)=R at HR ⊢
   go_enter Tryz.func92,Tryz.ntmps92
   go_wp2
   go_ret
   exact ⟨by rw [HR.out];rfl,(Below.refl _ _).alloc (Nat.le_refl _) _⟩
  case inr.inr.inr.inr.inr.inl =>
   have HR:Hid (fieldsB (.mk 6 n hd nm ls ks)=true):=by unfold Hid;simp [fieldsB]
   generalize fieldsB (.mk 6 n hd nm ls ks)=R at HR ⊢
   go_enter Tryz.func92,Tryz.ntmps92
   go_wp2
   go_ret
   exact ⟨by rw [HR.out];rfl,(Below.refl _ _).alloc (Nat.le_refl _) _⟩
  case inr.inr.inr.inr.inr.inr.inr.inl =>
   have HR:Hid (fieldsB (.mk 8 n hd nm ls ks)=true):=by unfold Hid;simp [fieldsB]
   generalize fieldsB (.mk 8 n hd nm ls ks)=R at HR ⊢
   go_enter Tryz.func92,Tryz.ntmps92
   go_wp2
   go_ret
   exact ⟨by rw [HR.out];rfl,(Below.refl _ _).alloc (Nat.le_refl _) _⟩
  case inr.inr.inr.inr.inr.inr.inr.inr.inl =>
   have HR:Hid (fieldsB (.mk 9 n hd nm ls ks)=true):=by unfold Hid;simp [fieldsB]
   generalize fieldsB (.mk 9 n hd nm ls ks)=R at HR ⊢
   go_enter Tryz.func92,Tryz.ntmps92
   go_wp2
   go_ret
   exact ⟨by rw [HR.out];rfl,(Below.refl _ _).alloc (Nat.le_refl _) _⟩
  case inr.inr.inr.inr.inr.inr.inr.inr.inr.inr.inr =>
   have HR:Hid (fieldsB (.mk f n hd nm ls ks)=true):=by unfold Hid;simp only [fieldsB];rw [if_neg (by omega),if_neg (by omega),if_neg (by omega),if_neg (by omega)]
   generalize fieldsB (.mk f n hd nm ls ks)=R at HR ⊢
   have e:∀k:Int,1≤k→k≤11→(f==k)=false:=fun k h1 h2=>by simp;omega
   have e1:=e 1 (by decide) (by decide)
   have e2:=e 2 (by decide) (by decide)
   have e7:=e 7 (by decide) (by decide)
   have e10:=e 10 (by decide) (by decide)
   have e11:=e 11 (by decide) (by decide)
   clear e hin
   go_enter Tryz.func92,Tryz.ntmps92
   go_wp2
   go_ret
   exact ⟨by rw [HR.out];rfl,(Below.refl _ _).alloc (Nat.le_refl _) _⟩
  case inr.inr.inr.inr.inr.inr.inl =>
   cases ks with
   | nil=>exact absurd rfl (H7.out rfl)
   | cons k ks =>
    have HR:Hid (fieldsB (.mk 7 n hd nm ls (k::ks))=(k.form==6)):=by unfold Hid;simp [fieldsB]
    generalize fieldsB (.mk 7 n hd nm ls (k::ks))=R at HR ⊢
    obtain ⟨rfl,hkb⟩:=HK.out (by simp)
    have htc:=HKIDS.out 0 k rfl
    have c0:w.cell? ⟨kb,ko,none⟩=some (.int .i64 k.form):=by
     cases htc with
     | mk c0=>simpa [Tm.form] using c0
    clear htc
    generalize k.form=kf at *
    have hlen:(0:Int)<((k::ks).length:Int):=by simp
    generalize (k::ks).length=len at *
    go_enter Tryz.func92,Tryz.ntmps92
    go_wp2
    go_ret
    exact ⟨by rw [HR.out];rfl,(Below.refl _ _).alloc (Nat.le_refl _) _⟩
  case inr.inl =>
   match ls,HL,HLV,hlc,hll with
   | [],HL,HLV,hlc,hll =>
    have HR:Hid (fieldsB (.mk 2 n hd nm [] ks)=false):=by unfold Hid;simp [fieldsB]
    generalize fieldsB (.mk 2 n hd nm [] ks)=R at HR ⊢
    go_enter Tryz.func92,Tryz.ntmps92
    go_wp2
    go_ret
    exact ⟨by rw [HR.out];rfl,(Below.refl _ _).alloc (Nat.le_refl _) _⟩
   | [l],HL,HLV,hlc,hll =>
    have HR:Hid (fieldsB (.mk 2 n hd nm [l] ks)=canonB l):=by unfold Hid;simp [fieldsB]
    generalize fieldsB (.mk 2 n hd nm [l] ks)=R at HR ⊢
    obtain ⟨b,off,a',cap',rfl,hbl,c0,c1,hs⟩:=HL.out.at (k:=0) (by simp)
    simp only [Nat.zero_mul,Nat.add_zero,List.getElem_cons_zero] at c0 c1 hs
    have HC:=fun (W:World) (h:RowKit.Below w.heap.size w W)=>tcanonical_any l.1 l.2 a' cap' W (hs.below h) (by have:=HLV.out l (by simp);omega)
    have HR:Hid (R=canonB (l.1,l.2)):=HR.out
    generalize canonB (l.1,l.2)=C at *
    generalize l.2.length=ln at *
    generalize l.1=l1 at *
    clear hs
    go_enter Tryz.func92,Tryz.ntmps92
    go_wp2_with fail
    refine (HC _ ((Below.refl _ _).alloc (Nat.le_refl _) _)).mono ?_
    rintro e w1 ⟨rfl,hb1⟩
    go_wp2
    go_ret
    exact ⟨by rw [HR.out];rfl,((Below.refl w.heap.size w).alloc (Nat.le_refl _) _).trans (hb1.mono (by simp))⟩
   | l1::l2::lr,HL,HLV,hlc,hll =>
    have HR:Hid (fieldsB (.mk 2 n hd nm (l1::l2::lr) ks)=false):=by unfold Hid;simp [fieldsB]
    generalize fieldsB (.mk 2 n hd nm (l1::l2::lr) ks)=R at HR ⊢
    have hlen:(((l1::l2::lr).length:Int)==1)=false:=by simp;omega
    generalize (l1::l2::lr).length=len at *
    go_enter Tryz.func92,Tryz.ntmps92
    go_wp2
    go_ret
    exact ⟨by rw [HR.out];rfl,(Below.refl _ _).alloc (Nat.le_refl _) _⟩
  case inr.inr.inr.inr.inr.inr.inr.inr.inr.inl =>
   have HR:Hid (fieldsB (.mk 10 n hd nm ls ks)=(!(nm.toList==[])&&decide (nm.size≤60)&&!(ls.any fun l=>!canonB l))):=by unfold Hid;simp [fieldsB]
   generalize fieldsB (.mk 10 n hd nm ls ks)=R at HR ⊢
   have HC:=fun (W:World) (h:RowKit.Below w.heap.size w W)=>ContainsUn_any ls la lc W ((HL.out.toLL).below h) (by omega) (fun l hl=>by have:=HLV.out l hl;omega)
   generalize (ls.any fun l=>!canonB l)=C at *
   cases h1:(nm.toList==[])
   ·by_cases h2:nm.size≤60
    ·have HE:Hid (R=!C):=by unfold Hid;rw [HR.out,h1];simp [h2]
     clear HR
     have h3:(nm.size:Int)≤60:=by omega
     go_enter Tryz.func92,Tryz.ntmps92
     go_wp2_with fail
     refine (HC _ ((Below.refl _ _).alloc (Nat.le_refl _) _)).mono ?_
     rintro e w1 ⟨rfl,hb1⟩
     go_wp2
     go_ret
     exact ⟨by rw [HE.out];rfl,((Below.refl w.heap.size w).alloc (Nat.le_refl _) _).trans (hb1.mono (by simp))⟩
    ·have HE:Hid (R=false):=by unfold Hid;rw [HR.out,h1];simp [h2]
     clear HR
     have h3:¬(nm.size:Int)≤60:=by omega
     go_enter Tryz.func92,Tryz.ntmps92
     go_wp2
     go_ret
     exact ⟨by rw [HE.out];rfl,(Below.refl _ _).alloc (Nat.le_refl _) _⟩
   ·have HE:Hid (R=false):=by unfold Hid;rw [HR.out,h1];simp
    clear HR
    go_enter Tryz.func92,Tryz.ntmps92
    go_wp2
    go_ret
    exact ⟨by rw [HE.out];rfl,(Below.refl _ _).alloc (Nat.le_refl _) _⟩
end Go.Proofs.YtgfgpjcnfnopnaaGreat
