/- The contract of term.bare, at forms with levels. -/
import Derived.Test.YtgfgpjcnfnopnaaGreatOE
namespace Go.Proofs.YtgfgpjcnfnopnaaGreat
set_option maxRecDepth 100000
set_option maxHeartbeats 40000000
open Go.RowKit Go.Sort
theorem bare2 (n:Int) (h:Bool) (nm:ByteArray) (la ka:Option Addr) (lc k1 kc:Nat) (ls:List LvT) (w:World) (hk0:k1=0) (hL:LN w la ls) (hn:ls.length≤1000000) (hx:∀l∈ls,l.2.length≤1000000) :
  Calls Tryz.prog 88 #[.agg #[.int .i64 2,.int .i64 n,.bool h,.string nm,.slice la ls.length lc,.slice ka k1 kc]] w fun e w'=>∃v,e=.returned v∧Fresh w' w.heap.size k1 v (.mk 2 0 false ByteArray.empty ls [])∧RowKit.Below w.heap.size w w':=by
 have HC:=fun (W:World) (hb:RowKit.Below w.heap.size w W)=>copied_any ls la lc W (hL.below hb) hn hx
 clear hL hx
 subst hk0
 ·go_enter Tryz.func88,Tryz.ntmps88
  go_wp2_with fail
  refine (HC _ ((((Below.refl w.heap.size w).alloc (Nat.le_refl _) _).alloc (by simp) _).alloc (by simp;omega) _)).mono ?_
  rintro e w1 ⟨v,rfl,hlo,hb1⟩
  rw [sz3] at hlo hb1
  have hz1':=hb1.size
  rw [sz3] at hz1'
  have ht:=(hb1.block w.heap.size (by omega)).trans (alloc_old box_at _)
  have ho:=(hb1.block (w.heap.size+1+1) (by omega)).trans on2
  have hr:=(hb1.block (w.heap.size+1) (by omega)).trans on1
  have HB1:Hid (RowKit.Below w.heap.size w w1):=((((Below.refl w.heap.size w).alloc (Nat.le_refl _) _).alloc (by simp) _).alloc (by simp;omega) _).trans (hb1.mono (by omega))
  have HLO:=Hid.mk hlo
  obtain ⟨la',lc',rfl,-⟩:=hlo.ln
  clear hlo hb1
  obtain ⟨t0,t1,t2,t3,t4,t5,t6⟩:=cells6 ht
  obtain ⟨x0,x1,x2,x3,x4,x5,x6⟩:=cells6 ho
  obtain ⟨y0,y1,y2,y3,y4,y5,y6⟩:=cells6 hr
  have fo:=frz ho
  have fr:=frz hr
  have ft:=frz ht
  clear ho hr ht
  go_wp2
  refine bodyPost_ret (v:=.agg #[.int .i64 2,.int .i64 0,.bool false,.string ByteArray.empty,.slice la' ls.length lc',.slice none 0 0]) (by simp [results,Tryz.results88,go_sem,y0,y1,y2,y3,y4,y5];try rfl) rfl ⟨_,rfl,Or.inl ⟨rfl,TO.leaf (m:=w1.heap.size) ((HLO.out.on (fun k h1 _=>?_)).mono (by omega) (Nat.le_refl _)) HB1.out.size (by simp)⟩,?_⟩
  ·simp only [heap_far (show k≠w.heap.size+1+1 by omega),heap_far (show k≠w.heap.size+1 by omega)]
  ·exact ((((((HB1.out.setCell (p:=⟨w.heap.size+1+1,4,none⟩) (by simp;omega) _).setCell (p:=⟨w.heap.size+1,0,none⟩) (by simp) _).setCell (p:=⟨w.heap.size+1,1,none⟩) (by simp) _).setCell (p:=⟨w.heap.size+1,2,none⟩) (by simp) _).setCell (p:=⟨w.heap.size+1,3,none⟩) (by simp) _).setCell (p:=⟨w.heap.size+1,4,none⟩) (by simp) _).setCell (p:=⟨w.heap.size+1,5,none⟩) (by simp) _
theorem bare10 (n:Int) (h:Bool) (nm:ByteArray) (la ka:Option Addr) (lc k1 kc:Nat) (ls:List LvT) (w:World) (hk0:k1=0) (hL:LN w la ls) (hn:ls.length≤1000000) (hx:∀l∈ls,l.2.length≤1000000) :
  Calls Tryz.prog 88 #[.agg #[.int .i64 10,.int .i64 n,.bool h,.string nm,.slice la ls.length lc,.slice ka k1 kc]] w fun e w'=>∃v,e=.returned v∧Fresh w' w.heap.size k1 v (.mk 10 0 false nm ls [])∧RowKit.Below w.heap.size w w':=by
 have HC:=fun (W:World) (hb:RowKit.Below w.heap.size w W)=>copied_any ls la lc W (hL.below hb) hn hx
 clear hL hx
 subst hk0
 ·go_enter Tryz.func88,Tryz.ntmps88
  go_wp2_with fail
  refine (HC _ ((((Below.refl w.heap.size w).alloc (Nat.le_refl _) _).alloc (by simp) _).alloc (by simp;omega) _)).mono ?_
  rintro e w1 ⟨v,rfl,hlo,hb1⟩
  rw [sz3] at hlo hb1
  have hz1':=hb1.size
  rw [sz3] at hz1'
  have ht:=(hb1.block w.heap.size (by omega)).trans (alloc_old box_at _)
  have ho:=(hb1.block (w.heap.size+1+1) (by omega)).trans on2
  have hr:=(hb1.block (w.heap.size+1) (by omega)).trans on1
  have HB1:Hid (RowKit.Below w.heap.size w w1):=((((Below.refl w.heap.size w).alloc (Nat.le_refl _) _).alloc (by simp) _).alloc (by simp;omega) _).trans (hb1.mono (by omega))
  have HLO:=Hid.mk hlo
  obtain ⟨la',lc',rfl,-⟩:=hlo.ln
  clear hlo hb1
  obtain ⟨t0,t1,t2,t3,t4,t5,t6⟩:=cells6 ht
  obtain ⟨x0,x1,x2,x3,x4,x5,x6⟩:=cells6 ho
  obtain ⟨y0,y1,y2,y3,y4,y5,y6⟩:=cells6 hr
  have fo:=frz ho
  have fr:=frz hr
  have ft:=frz ht
  clear ho hr ht
  go_wp2
  refine bodyPost_ret (v:=.agg #[.int .i64 10,.int .i64 0,.bool false,.string nm,.slice la' ls.length lc',.slice none 0 0]) (by simp [results,Tryz.results88,go_sem,y0,y1,y2,y3,y4,y5];try rfl) rfl ⟨_,rfl,Or.inl ⟨rfl,TO.leaf (m:=w1.heap.size) ((HLO.out.on (fun k h1 _=>?_)).mono (by omega) (Nat.le_refl _)) HB1.out.size (by simp)⟩,?_⟩
  ·simp only [heap_far (show k≠w.heap.size+1+1 by omega),heap_far (show k≠w.heap.size+1 by omega)]
  ·exact ((((((HB1.out.setCell (p:=⟨w.heap.size+1+1,4,none⟩) (by simp;omega) _).setCell (p:=⟨w.heap.size+1,0,none⟩) (by simp) _).setCell (p:=⟨w.heap.size+1,1,none⟩) (by simp) _).setCell (p:=⟨w.heap.size+1,2,none⟩) (by simp) _).setCell (p:=⟨w.heap.size+1,3,none⟩) (by simp) _).setCell (p:=⟨w.heap.size+1,4,none⟩) (by simp) _).setCell (p:=⟨w.heap.size+1,5,none⟩) (by simp) _
theorem bare_any (t:Tm) (v:Value) (w:World) (hv:TV w v t) (hsm:smT 1000000 t) (h0:t.form=2∨t.form=10→t.kids=[]) :
  Calls Tryz.prog 88 #[v] w fun e w'=>∃v',e=.returned v'∧Fresh w' w.heap.size t.kids.length v' (bareT t)∧RowKit.Below w.heap.size w w':=by
 cases hv with
 | @mk f n h nm ls ks la lc ka kc kb ko hl hln hlc hlm hkn hkc hkm hk kids =>
  obtain ⟨-,s1,s2,s3,-⟩:=(smT_mk _ _ _ _ _ _ _).1 hsm
  simp only [Tm.form,Tm.kids] at h0 ⊢
  rcases form_cases f with rfl | rfl | rfl | rfl | rfl | rfl | rfl | rfl | rfl | rfl | rfl | hin
  ·exact bare1 n h nm la ka ls.length lc ks.length kc w s3
  ·exact bare2 n h nm la ka lc ks.length kc ls w (by rw [h0 (by omega)];rfl) hl s1 s2
  ·exact bare3 n h nm la ka ls.length lc ks.length kc w s3
  ·exact bare4 n h nm la ka ls.length lc ks.length kc w s3
  ·exact bare5 n h nm la ka ls.length lc ks.length kc w s3
  ·exact bare6 n h nm la ka ls.length lc ks.length kc w s3
  ·exact bare7 n h nm la ka ls.length lc ks.length kc w s3
  ·exact bare8 n h nm la ka ls.length lc ks.length kc w s3
  ·exact bare9 n h nm la ka ls.length lc ks.length kc w s3
  ·exact bare10 n h nm la ka lc ks.length kc ls w (by rw [h0 (by omega)];rfl) hl s1 s2
  ·exact bare11 n h nm la ka ls.length lc ks.length kc w s3
  ·have e:∀k:Int,1≤k→k≤11→(f==k)=false:=fun k h1 h2=>by simp;omega
   have hb:=bareO f n h nm la ka ls.length lc ks.length kc w s3 (e 1 (by decide) (by decide)) (e 2 (by decide) (by decide)) (e 3 (by decide) (by decide)) (e 4 (by decide) (by decide)) (e 5 (by decide) (by decide)) (e 10 (by decide) (by decide)) (e 11 (by decide) (by decide))
   have hT:bareT (.mk f n h nm ls ks)=.mk f 0 false ByteArray.empty [] []:=by
    simp only [bareT]
    rw [if_neg (by omega),if_neg (by omega),if_neg (by omega),if_neg (by omega)]
   rw [hT]
   exact hb
end Go.Proofs.YtgfgpjcnfnopnaaGreat
