/- The contract of the tables' meets. -/
import Derived.Test.YtidggaoacldgkaaGreatDoorQEX
import Derived.Maps.RangeWalk
namespace Go.Proofs.YtidggaoacldgkaaGreatDoor
open Go.RowKit Go.Sort
theorem keyS_inv {key:Value} {kl:Lit} (h:keyOf Tryz.prog 9 key=some kl):∃ s:ByteArray,key=.string s:=by
 unfold keyOf at h
 cases key <;> simp [Tryz.underlying9,mapKey] at h
 exact ⟨_,rfl⟩
theorem keyS_is {s:ByteArray} {kl:Lit} (h:keyOf Tryz.prog 9 (.string s)=some kl):s.size≤maxLen∧kl=keyS s:=by
 unfold keyOf at h
 simp [Tryz.underlying9,mapKey] at h
 exact ⟨h.1,h.2.symm⟩
theorem keyS_one {s s':ByteArray} (h:keyS s'=keyS s):s'=s:=by
 unfold keyS at h
 simp only [Lit.string.injEq] at h
 cases s; cases s'
 exact congrArg ByteArray.mk (Array.ext' h)
theorem ranges_has {w:World} {b r n cnt:Nat} {D:DataW Unit} {left:Lit→Bool} {kl:Lit} (h:w.ranges Tryz.prog 9 readM b r n D left cnt) (hk:WideAt.IsKeyLit kl) (hl:left kl=true):Maps.has D kl=true:=by
 obtain ⟨es,clock,since,seen,c0,-,-,-,rfl,-,-,-,-,hl2,-⟩:=h
 obtain ⟨x,hx,he⟩:=hl2 kl hl
 rw [Maps.has_eq,List.any_eq_true]
 exact ⟨_,mem_sorted.2 (List.mem_map.2 ⟨x,hx,rfl⟩),by rw [he]; exact WideAt.sameKey_self hk⟩
def MeetOut (M N:ByteArray→Option (Int × Int)) (e:Ending):Prop:=∃ q:Bool,e=.returned (.bool q)∧(q=true↔∃ s:ByteArray,s.size≤maxLen∧(N s).isSome=true∧(M s).isSome=true)
set_option maxRecDepth 100000 in
set_option maxHeartbeats 4000000 in
theorem tmeets_any (sb so n nm mb:Nat) (mv:Option Nat) (M N:ByteArray→Option (Int × Int)) (w:World) (hc:w.cell? ⟨sb,so,none⟩=some (.map mv)) (hT:Tb w mv n M) (hN:Tb w (some mb) nm N):Calls Tryz.prog 72 #[.pointer (some ⟨sb,so,none⟩),.agg #[.map (some mb)]] w fun e w'=>MeetOut M N e∧RowKit.Below w.heap.size w w':=by
 have hsb:sb<w.heap.size:=World.block_lt_of_cell? w _ hc
 have hmb:=hN.lt
 obtain ⟨W0,hW0⟩:∃ W0,w.alloc (.cells #[.map (some mb)] 73)=W0:=⟨_,rfl⟩
 have hb0:RowKit.Below w.heap.size w W0:=by rw [← hW0]; exact (Below.refl _ _).alloc (Nat.le_refl _) _
 have hX0:W0.heap[w.heap.size]?=some (.cells #[.map (some mb)] 73 (0,0)):=by rw [← hW0]; exact alloc_new _ _
 have x0:W0.cell? ⟨w.heap.size,0,none⟩=some (.map (some mb)):=by rw [cell_of_row W0 _ 0 _ _ _ hX0]; rfl
 have hs0:W0.heap.size=w.heap.size+1:=by rw [← hW0]; simp
 have hs0a:=Nat.le_of_eq hs0
 have hs0b:=Nat.le_of_eq hs0.symm
 have hN0:Tb W0 (some mb) nm N:=hN.keep fun b hb=>hb0.block b (by cases hb; exact hmb)
 obtain ⟨D,ho0,hD⟩:∃ D,W0.ownsMap Tryz.prog 9 readM mb nm D∧∀ s:ByteArray,s.size≤maxLen→Maps.has D (keyS s)=(N s).isSome∧∀ x zd,N s=some x→D.atKey (keyS s) zd=.agg [.lit (.int .i64 x.1),.lit (.int .i64 x.2)]:=by
  rcases hN0.go with ⟨h,-⟩ | ⟨b,D,h1,h2,h3⟩
  ·cases h
  ·cases h1; exact ⟨D,h2,h3⟩
 have HD:=Hid.mk hD
 have HO0:=Hid.mk ho0
 have HC:=Hid.mk hc
 have HT:=Hid.mk hT
 have HB0:=Hid.mk hb0
 have HW0:=Hid.mk hW0
 clear hc hT hN hN0 hb0 hX0 hW0 hs0 hD ho0
 go_enter Tryz.func72,Tryz.ntmps72
 go_wp2_with (first | rw [HW0.out] | (at_range; refine wpList_range_own _ rfl _ 71 rfl 9 83 law_str Tryz.underlying71 _ mb nm D rfl HO0.out ?_; intro W1 hrg1 hg1 hs1; have HRG1:=Hid.mk hrg1; have HG1:=Hid.mk hg1; have hs1a:=Nat.le_of_eq hs1; have hs1b:=Nat.le_of_eq hs1.symm; clear hrg1 hg1 hs1))
 clear x0
 go_frame
 go_loopw [5] (fun _ wr=>∃ (left:Lit→Bool) (cnt:Nat),wr.ranges Tryz.prog 9 readM mb W0.heap.size nm D left cnt∧RowKit.Below w.heap.size w wr∧W0.heap.size<wr.heap.size∧∀ s:ByteArray,s.size≤maxLen→(N s).isSome=true→left (keyS s)=false→(M s).isSome=false) (fun _ wr=>wr.rangeLeft mb W0.heap.size)
 case atStart=>exact ⟨_,_,HRG1.out,HB0.out.trans ⟨HG1.out.os,HG1.out.tape,HG1.out.output,HG1.out.size,fun k hk=>HG1.out.block k (by omega) (by simp)⟩,by omega,fun s hs h1 h2=>by rw [(HD.out s hs).1,h1] at h2; cases h2⟩
 case round =>
  obtain ⟨left,cnt,hrg,hb,hsz,hsub⟩:=hrel
  have HB:=Hid.mk hb
  have HSUB:=Hid.mk hsub
  have hcr:wr.cell? ⟨sb,so,none⟩=some (.map mv):=(hb.cell (p:=⟨sb,so,none⟩) hsb).trans HC.out
  rcases hrg.next law_str 0 with ⟨h0,hl,hrun⟩ | ⟨key,v,kl,y,w2,cnt2,hkey,hlk,hv,-,hrun,hrg2,hlt2,hg2,hsz2,hen⟩
  ·have HL:=Hid.mk hl
   clear hrg hb hsub hl
   go_wp2
   go_ret
   refine ⟨⟨false,rfl,⟨fun h=>(by cases h),fun ⟨s,h1,h2,h3⟩=>?_⟩⟩,HB.out⟩
   rw [HSUB.out s h1 h2 (HL.out _)] at h3
   cases h3
  ·obtain ⟨s,rfl⟩:=keyS_inv hkey
   obtain ⟨hs,rfl⟩:=keyS_is hkey
   obtain ⟨p,k,rfl,-⟩:=readM_inv hv
   have HRG2:=Hid.mk hrg2
   have HRG:=Hid.mk hrg
   have hb2:RowKit.Below w.heap.size w w2:=hb.trans ⟨hg2.os,hg2.tape,hg2.output,hg2.size,fun j hj=>hg2.block j (by omega) (by intro e; cases e; omega)⟩
   have HB2:=Hid.mk hb2
   have hT2:Tb w2 mv n M:=HT.out.keep fun b hb=>hb2.block b (by subst hb; exact HT.out.lt)
   obtain ⟨p2,k2,hrun2,-⟩:=hT2.look hs
   have hcr2:w2.cell? ⟨sb,so,none⟩=some (.map mv):=(hb2.cell (p:=⟨sb,so,none⟩) hsb).trans HC.out
   have HNS:Hid ((N s).isSome=true):=by
    unfold Hid
    rw [← (HD.out s hs).1]
    exact ranges_has hrg (keyS_lit hs) hlk
   obtain ⟨W2,hW2⟩:∃ W2,w2.alloc (.cells #[.int .i64 p2,.int .i64 k2] 83)=W2:=⟨_,rfl⟩
   have hb3:RowKit.Below w.heap.size w W2:=by rw [← hW2]; exact hb2.alloc (hb2.size) _
   have hrg3:W2.ranges Tryz.prog 9 readM mb W0.heap.size nm D (fun z=>left z&&!z.sameKey (keyS s)) cnt2:=by rw [← hW2]; exact hrg2.alloc _
   have hs3:w2.heap.size≤W2.heap.size:=by rw [← hW2]; simp
   have HB3:=Hid.mk hb3
   have HRG3:=Hid.mk hrg3
   have HW2:=Hid.mk hW2
   have HQ:Hid (∃ q,(M s).isSome=q):=⟨_,rfl⟩
   obtain ⟨q,hq⟩:=HQ.out
   have HQE:=Hid.mk hq
   rw [hq] at hrun2
   have hltm:cnt2<cnt:=hlt2
   clear hrg hb hsub hrg2 hg2 hb2 hT2 hb3 hrg3 hW2 hq HQ hkey hlk hv
   cases q with
   | true =>
    go_wp2_with (rw [HW2.out])
    go_ret
    exact ⟨⟨true,rfl,fun _=>⟨s,hs,HNS.out,HQE.out⟩,fun _=>rfl⟩,HB3.out⟩
   | false =>
    go_wp2_with (rw [HW2.out])
    refine ⟨⟨_,_,HRG3.out,HB3.out,by omega,fun s' hs' h1 h2=>?_⟩,by rw [HRG3.out.left_eq,HRG.out.left_eq]; omega⟩
    cases hl:left (keyS s') with
    | false=>exact HSUB.out s' hs' h1 hl
    | true =>
     rw [hl,Bool.true_and,Bool.not_eq_false'] at h2
     obtain rfl:s'=s:=keyS_one (WideAt.sameKey_eq h2)
     exact HQE.out
end Go.Proofs.YtidggaoacldgkaaGreatDoor

/- The contract of the tables' join. -/
namespace Go.Proofs.YtidggaoacldgkaaGreatDoor
open Go.RowKit Go.Sort
theorem Tb.more {w:World} {mv:Option Nat} {n m:Nat} {M:ByteArray→Option (Int × Int)} (h:Tb w mv n M) (hn:n≤m):Tb w mv m M:=by
 cases mv with
 | some b=>exact h.mono hn
 | none=>exact ⟨h.go.elim (fun h=>Or.inl h) (fun ⟨b,D,h1,h2,h3⟩=>by cases h1)⟩
theorem ranges_keep {w w':World} {b r n cnt:Nat} {D:DataW Unit} {left:Lit→Bool} (h:w.ranges Tryz.prog 9 readM b r n D left cnt) (h1:w'.heap[b]?=w.heap[b]?) (h2:w'.heap[r]?=w.heap[r]?):w'.ranges Tryz.prog 9 readM b r n D left cnt:=by
 obtain ⟨es,clock,since,seen,c0,k1,k2,k3,k4,k5,k6⟩:=h
 exact ⟨es,clock,since,seen,c0,h1.trans k1,k2,k3,k4,h2.trans k5,k6⟩
def partM (M N:ByteArray→Option (Int × Int)) (left:Lit→Bool):ByteArray→Option (Int × Int):=fun s=>if (N s).isSome=true∧left (keyS s)=false then N s else M s
def joinM (M N:ByteArray→Option (Int × Int)):ByteArray→Option (Int × Int):=fun s=>if (N s).isSome=true then N s else M s
theorem Tb.congr {w:World} {mv:Option Nat} {n:Nat} {M N:ByteArray→Option (Int × Int)} (h:Tb w mv n M) (he:∀ s,s.size≤maxLen→M s=N s) (hb:∀ s,¬ s.size≤maxLen→N s=none):Tb w mv n N:=by
 rcases h.go with ⟨h1,h2⟩ | ⟨b,D,h1,h2,h3⟩
 ·refine ⟨Or.inl ⟨h1,fun s=>?_⟩⟩
  by_cases hs:s.size≤maxLen
  ·rw [← he s hs]; exact h2 s
  ·exact hb s hs
 ·exact ⟨Or.inr ⟨b,D,h1,h2,fun s hs=>by rw [← he s hs]; exact h3 s hs⟩⟩
set_option maxRecDepth 100000 in
set_option maxHeartbeats 4000000 in
theorem tjoin_any (sb so n nm mb:Nat) (mv:Option Nat) (M N:ByteArray→Option (Int × Int)) (w:World) (hc:w.cell? ⟨sb,so,none⟩=some (.map mv)) (hfz:∀ o,w.frozen? ⟨sb,o,none⟩=false) (hT:Tb w mv n M) (hN:Tb w (some mb) nm N) (h1:mv≠some sb) (h2:mv≠some mb) (h3:mb≠sb) (hn:n+nm<maxLen) (hNb:∀ s,¬ s.size≤maxLen→N s=none) (hMb:∀ s,¬ s.size≤maxLen→M s=none) (hdis:∀ s,(N s).isSome=true→M s=none):Calls Tryz.prog 31 #[.pointer (some ⟨sb,so,none⟩),.agg #[.map (some mb)]] w fun e w'=>e=.returned (.tuple #[])∧∃ mv',w'.cell? ⟨sb,so,none⟩=some (.map mv')∧Tb w' mv' (n+nm) (joinM M N)∧mv'≠some sb∧(mv'=mv∨mv=none∧∃ m,mv'=some m∧w.heap.size≤m)∧Kept (fun k=>k=sb∨mv=some k) w w'∧(∀ o,o≠so→w'.cell? ⟨sb,o,none⟩=w.cell? ⟨sb,o,none⟩)∧(∀ o,w'.frozen? ⟨sb,o,none⟩=false)∧Rw w w' sb:=by
 have hsb:sb<w.heap.size:=World.block_lt_of_cell? w _ hc
 have hmb:=hN.lt
 have hmvl:∀ b,mv=some b→b<w.heap.size:=fun b hb=>by subst hb; exact hT.lt
 obtain ⟨W0,hW0⟩:∃ W0,w.alloc (.cells #[.map (some mb)] 73)=W0:=⟨_,rfl⟩
 have hb0:RowKit.Below w.heap.size w W0:=by rw [← hW0]; exact (Below.refl _ _).alloc (Nat.le_refl _) _
 have hX0:W0.heap[w.heap.size]?=some (.cells #[.map (some mb)] 73 (0,0)):=by rw [← hW0]; exact alloc_new _ _
 have x0:W0.cell? ⟨w.heap.size,0,none⟩=some (.map (some mb)):=by rw [cell_of_row W0 _ 0 _ _ _ hX0]; rfl
 have hs0:W0.heap.size=w.heap.size+1:=by rw [← hW0]; simp
 have hs0a:=Nat.le_of_eq hs0
 have hs0b:=Nat.le_of_eq hs0.symm
 have hN0:Tb W0 (some mb) nm N:=hN.keep fun b hb=>hb0.block b (by cases hb; exact hmb)
 obtain ⟨D,ho0,hD⟩:∃ D,W0.ownsMap Tryz.prog 9 readM mb nm D∧∀ s:ByteArray,s.size≤maxLen→Maps.has D (keyS s)=(N s).isSome∧∀ x zd,N s=some x→D.atKey (keyS s) zd=.agg [.lit (.int .i64 x.1),.lit (.int .i64 x.2)]:=by
  rcases hN0.go with ⟨h,-⟩ | ⟨b,D,h1,h2,h3⟩
  ·cases h
  ·cases h1; exact ⟨D,h2,h3⟩
 have hsD:=ho0.size_le
 have HD:=Hid.mk hD
 have HO0:=Hid.mk ho0
 have HC:=Hid.mk hc
 have HT:=Hid.mk hT
 have HFZ:=Hid.mk hfz
 have HB0:=Hid.mk hb0
 have HW0:=Hid.mk hW0
 have HNB:=Hid.mk hNb
 have HMB:=Hid.mk hMb
 have HDIS:=Hid.mk hdis
 have HMVL:=Hid.mk hmvl
 clear hc hT hN hN0 hb0 hX0 hW0 hs0 hD ho0 hfz hNb hMb hdis hmvl
 go_enter Tryz.func31,Tryz.ntmps31
 go_wp2_with (first | rw [HW0.out] | (at_range; refine wpList_range_own _ rfl _ 71 rfl 9 83 law_str Tryz.underlying71 _ mb nm D rfl HO0.out ?_; intro W1 hrg1 hg1 hs1; have HRG1:=Hid.mk hrg1; have HG1:=Hid.mk hg1; have hs1a:=Nat.le_of_eq hs1; have hs1b:=Nat.le_of_eq hs1.symm; clear hrg1 hg1 hs1))
 have HB1:Hid (RowKit.Below w.heap.size w W1):=HB0.out.trans ⟨HG1.out.os,HG1.out.tape,HG1.out.output,HG1.out.size,fun k hk=>HG1.out.block k (by omega) (by simp)⟩
 clear x0
 go_frame
 go_loopw [4] (fun _ wr=>∃ (left:Lit→Bool) (cnt nc:Nat) (mvc:Option Nat),wr.ranges Tryz.prog 9 readM mb W0.heap.size nm D left cnt∧W0.heap.size<wr.heap.size∧nc+cnt≤n+Maps.size D∧wr.cell? ⟨sb,so,none⟩=some (.map mvc)∧(∀ o,wr.frozen? ⟨sb,o,none⟩=false)∧Tb wr mvc nc (partM M N left)∧(mvc=mv∨mv=none∧∃ m,mvc=some m∧W0.heap.size<m)∧Kept (fun k=>k=sb∨mv=some k) w wr∧(∀ o,o≠so→wr.cell? ⟨sb,o,none⟩=w.cell? ⟨sb,o,none⟩)∧Rw w wr sb) (fun _ wr=>wr.rangeLeft mb W0.heap.size)
 case atStart =>
  refine ⟨_,_,n,mv,HRG1.out,by omega,Nat.le_refl _,(HB1.out.cell (p:=⟨sb,so,none⟩) hsb).trans HC.out,fun o=>(World.frozen?_of_block (a:=⟨sb,o,none⟩) (HB1.out.block sb hsb)).trans (HFZ.out o),?_,Or.inl rfl,Kept.of_below HB1.out,fun o _=>HB1.out.cell (p:=⟨sb,o,none⟩) hsb,Rw.of (HB1.out.block sb hsb)⟩
  refine (HT.out.keep fun b hb=>HB1.out.block b (HMVL.out b hb)).congr (fun s hs=>?_) (fun s hs=>?_)
  ·unfold partM
   rw [if_neg]
   rintro ⟨q1,q2⟩
   rw [(HD.out s hs).1,q1] at q2
   cases q2
  ·unfold partM
   rw [if_neg (by rw [HNB.out s hs]; simp)]
   exact HMB.out s hs
 case round =>
  obtain ⟨left,cnt,nc,mvc,hrg,hsz,hnc,hcr,hfr,hTr,hmvc,hkr,hor,hrw⟩:=hrel
  have hx:∀ b,mvc=some b→b≠sb∧b≠mb∧b≠W0.heap.size:=fun b hb=>by
   rcases hmvc with h | ⟨-,m,h,hm⟩
   ·rw [h] at hb
    have:=HMVL.out b hb
    exact ⟨fun e=>h1 (by rw [hb,e]),fun e=>h2 (by rw [hb,e]),by omega⟩
   ·rw [h] at hb
    cases hb
    exact ⟨by omega,by omega,by omega⟩
  have HX:=Hid.mk hx
  have HKR:=Hid.mk hkr
  have HOR:=Hid.mk hor
  have HRW:=Hid.mk hrw
  have HMVC:=Hid.mk hmvc
  have HTR:=Hid.mk hTr
  have HRG:=Hid.mk hrg
  have hwr:=hkr.size
  rcases hrg.next law_str 0 with ⟨h0,hl,hrun⟩ | ⟨key,v,kl,y,w2,cnt2,hkey,hlk,hv,hat,hrun,hrg2,hlt2,hg2,hsz2,hen⟩
  ·have HL:=Hid.mk hl
   have HCR:=Hid.mk hcr
   have HFR:=Hid.mk hfr
   clear hrg hl hcr hfr hTr hmvc hkr hor hx hrw
   go_wp2
   refine bodyPost_end (v:=.tuple #[]) (by simp [results,Tryz.results31,go_sem]) rfl ?_
   refine ⟨rfl,mvc,HCR.out,?_,fun e=>(HX.out _ e).1 rfl,?_,HKR.out,HOR.out,HFR.out,HRW.out⟩
   ·refine (HTR.out.more (by omega)).congr (fun s hs=>?_) (fun s hs=>?_)
    ·unfold partM joinM
     by_cases hq:(N s).isSome=true
     ·rw [if_pos ⟨hq,HL.out _⟩,if_pos hq]
     ·rw [if_neg (fun h=>hq h.1),if_neg hq]
    ·unfold joinM
     rw [if_neg (by rw [HNB.out s hs]; simp)]
     exact HMB.out s hs
   ·rcases HMVC.out with h | ⟨hmn,m,h,hm⟩
    ·exact Or.inl h
    ·exact Or.inr ⟨hmn,m,h,by omega⟩
  ·obtain ⟨s,rfl⟩:=keyS_inv hkey
   obtain ⟨hs,rfl⟩:=keyS_is hkey
   obtain ⟨p,k,rfl,rfl⟩:=readM_inv hv
   have hsz2a:=Nat.le_of_eq hsz2
   have hsz2b:=Nat.le_of_eq hsz2.symm
   clear hsz2
   have HNS:Hid (N s=some (p,k)):=by
    unfold Hid
    have q1:(N s).isSome=true:=by rw [← (HD.out s hs).1]; exact ranges_has hrg (keyS_lit hs) hlk
    obtain ⟨x,hxx⟩:=Option.isSome_iff_exists.1 q1
    have q2:=(HD.out s hs).2 x (.agg []) hxx
    rw [hat] at q2
    simp only [DataW.agg.injEq,List.cons.injEq,DataW.lit.injEq,Lit.int.injEq,and_true,true_and] at q2
    rw [hxx,q2.1,q2.2]
   obtain ⟨W3,hW3⟩:∃ W3,w2.alloc (.cells #[.int .i64 p,.int .i64 k] 83)=W3:=⟨_,rfl⟩
   have hY3:W3.heap[w2.heap.size]?=some (.cells #[.int .i64 p,.int .i64 k] 83 (0,0)):=by rw [← hW3]; exact alloc_new _ _
   have hE3:∀ j,j<w2.heap.size→j≠W0.heap.size→W3.heap[j]?=wr.heap[j]?:=fun j hj hn=>by rw [← hW3]; exact (Below.heap_alloc _ _ _ hj).trans (hg2.block j (by omega) (by intro e; cases e; exact hn rfl))
   have hs3:W3.heap.size=w2.heap.size+1:=by rw [← hW3]; simp
   have hs3a:=Nat.le_of_eq hs3
   have hs3b:=Nat.le_of_eq hs3.symm
   have hrg3:W3.ranges Tryz.prog 9 readM mb W0.heap.size nm D (fun z=>left z&&!z.sameKey (keyS s)) cnt2:=by rw [← hW3]; exact hrg2.alloc _
   have hO3:W3.os=wr.os∧W3.tape=wr.tape∧W3.output=wr.output:=by rw [← hW3]; exact ⟨hg2.os,hg2.tape,hg2.output⟩
   have hT3:Tb W3 mvc nc (partM M N left):=hTr.keep fun b hb=>hE3 b (by have:=hTr; subst hb; have:=hTr.lt; omega) (hx b hb).2.2
   have HC4:=tput_any sb so nc mvc (partM M N left) s p k W3 ((World.cell?_of_block (a:=⟨sb,so,none⟩) (hE3 sb (by omega) (by omega))).trans hcr) (fun o=>(World.frozen?_of_block (a:=⟨sb,o,none⟩) (hE3 sb (by omega) (by omega))).trans (hfr o)) hT3 (fun e=>(hx _ e).1 rfl) hs (by omega)
   obtain ⟨y0,y1,yl,yf⟩:=cells2f hY3
   have HPN:Hid ((partM M N left s).isSome=false):=by
    unfold Hid partM
    rw [if_neg (by rw [hlk]; simp),HDIS.out s (by rw [HNS.out]; rfl)]
    rfl
   have HE3:=Hid.mk hE3
   have HRG3:=Hid.mk hrg3
   have HO3:=Hid.mk hO3
   have HW3:=Hid.mk hW3
   have HFR:=Hid.mk hfr
   have HLK:=Hid.mk hlk
   clear hrg hcr hfr hTr hmvc hkr hor hx hrw hrg2 hg2 hW3 hY3 hE3 hs3 hrg3 hO3 hT3 hkey hlk hv hat
   go_wp2_with (rw [HW3.out])
   refine HC4.mono ?_
   rintro e w4 (⟨h,-,-⟩ | ⟨-,rfl,m,hc4,hT4,hms,hmv4,hk4,ho4,hz4,hr4⟩)
   ·rw [HPN.out] at h; cases h
   have hm4:m≠mb∧m≠W0.heap.size:=by
    rcases hmv4 with h | ⟨-,h⟩
    ·exact (HX.out m h).2
    ·exact ⟨by omega,by omega⟩
   have hs4:=hk4.size
   have HK4:=Hid.mk hk4
   have HT4:=Hid.mk hT4
   have HMV4:=Hid.mk hmv4
   have HC4':=Hid.mk hc4
   have HO4:=Hid.mk ho4
   have HZ4:=Hid.mk hz4
   have HR4:=Hid.mk hr4
   clear hc4 hT4 hmv4 hk4 ho4 hz4 hr4 HC4 y0 y1 yl yf
   go_wp2
   refine ⟨⟨_,_,nc+1,some m,ranges_keep HRG3.out (HK4.out.block mb (by omega) (by rintro (h | h); exact h3 h; exact (HX.out mb h).2.1 rfl)) (HK4.out.block _ (by omega) (by rintro (h | h); omega; exact (HX.out _ h).2.2 rfl)),by omega,by omega,HC4'.out,fun o=>?_,?_,?_,?_,fun o ho=>?_,HRW.out.trans ((Rw.of (HE3.out sb (by omega) (by omega))).trans HR4.out)⟩,by rw [(ranges_keep HRG3.out (HK4.out.block mb (by omega) (by rintro (h | h); exact h3 h; exact (HX.out mb h).2.1 rfl)) (HK4.out.block _ (by omega) (by rintro (h | h); omega; exact (HX.out _ h).2.2 rfl))).left_eq,HRG.out.left_eq]; omega⟩
   ·exact (HZ4.out o).trans ((World.frozen?_of_block (a:=⟨sb,o,none⟩) (HE3.out sb (by omega) (by omega))).trans (HFR.out o))
   ·refine HT4.out.congr (fun s' hs'=>?_) (fun s' hs'=>?_)
    ·unfold updM partM
     by_cases he:s'.data.toList=s.data.toList
     ·obtain rfl:s'=s:=keyS_one (by unfold keyS; rw [he])
      rw [if_pos rfl,if_pos ⟨by rw [HNS.out]; rfl,by simp only [WideAt.sameKey_self (keyS_lit hs)]; simp⟩,HNS.out]
     ·rw [if_neg he]
      have hk:(keyS s').sameKey (keyS s)=false:=by
       cases hq:(keyS s').sameKey (keyS s) with
       | false=>rfl
       | true=>exact absurd (WideAt.sameKey_eq hq) (keyS_ne he)
      simp only [hk]
      simp
    ·unfold partM
     rw [if_neg (by rw [HNB.out s' hs']; simp)]
     exact HMB.out s' hs'
   ·rcases HMV4.out with h | ⟨hcn,h⟩
    ·rcases HMVC.out with h' | ⟨hmn,m',h',hm'⟩
     ·exact Or.inl (h.symm.trans h')
     ·exact Or.inr ⟨hmn,m,rfl,by rw [h] at h'; cases h'; exact hm'⟩
    ·rcases HMVC.out with h' | ⟨hmn,m',h',hm'⟩
     ·exact Or.inr ⟨h'.symm.trans hcn,m,rfl,by omega⟩
     ·exact Or.inr ⟨hmn,m,rfl,by omega⟩
   ·refine ⟨HK4.out.os.trans (HO3.out.1.trans HKR.out.os),HK4.out.tape.trans (HO3.out.2.1.trans HKR.out.tape),HK4.out.output.trans (HO3.out.2.2.trans HKR.out.output),by omega,fun j hj hn=>?_⟩
    refine (HK4.out.block j (by omega) ?_).trans ((HE3.out j (by omega) (by omega)).trans (HKR.out.block j hj hn))
    rintro (h | h)
    ·exact hn (Or.inl h)
    ·rcases HMVC.out with h' | ⟨-,m',h',hm'⟩
     ·exact hn (Or.inr (h'.symm.trans h))
     ·rw [h] at h'; cases h'; omega
   ·exact (HO4.out o ho).trans ((World.cell?_of_block (a:=⟨sb,o,none⟩) (HE3.out sb (by omega) (by omega))).trans (HOR.out o ho))
end Go.Proofs.YtidggaoacldgkaaGreatDoor
