/- The contracts of the reference's Wrap, and of num. -/
import Derived.Test.YtgfgpjcnfnopnaaGreatQP
namespace Go.Proofs.YtgfgpjcnfnopnaaGreat
open Go.RowKit Go.Sort Go.Lib
theorem num5_any (n:Int) (w:World):Calls Tryz.prog 9 #[.int .i64 n] w fun e w'=>e=.returned (.int .i64 n)∧w'=w:=by
 go_enter Tryz.func9,Tryz.ntmps9
 go_wp2
 go_ret
 exact ⟨rfl,rfl⟩
theorem at_nil (k:Nat) (w:World):Calls Tryz.prog 48 #[.slice none 0 0,.int .i64 k] w fun e w'=>e=.returned (.bool false)∧w'=w:=by
 have hk:¬((k:Int)<0):=by omega
 go_enter Tryz.func48,Tryz.ntmps48
 go_wp2
 go_ret
 exact ⟨rfl,rfl⟩
def wrapT (f:Int) (ts:List Tm) (t:Tm):Tm:=ts.foldr (fun a b=>.mk f 0 false { data:=#[] } [] [a,b]) t
theorem six_range {w:World}{b o:Nat}{u0 u1 u2 u3 u4 u5:Value}(c0:w.cell? ⟨b,o,none⟩=some u0) (c1:w.cell? ⟨b,o+1,none⟩=some u1) (c2:w.cell? ⟨b,o+2,none⟩=some u2) (c3:w.cell? ⟨b,o+3,none⟩=some u3) (c4:w.cell? ⟨b,o+4,none⟩=some u4) (c5:w.cell? ⟨b,o+5,none⟩=some u5):w.rangeAt b o [u0,u1,u2,u3,u4,u5]:=by
 intro j v hj
 match j with
 | 0=>simp at hj;subst hj;exact c0
 | 1=>simp at hj;subst hj;exact c1
 | 2=>simp at hj;subst hj;exact c2
 | 3=>simp at hj;subst hj;exact c3
 | 4=>simp at hj;subst hj;exact c4
 | 5=>simp at hj;subst hj;exact c5
 | j+6=>simp at hj
set_option maxRecDepth 100000 in
set_option maxHeartbeats 8000000 in
theorem Wrap_any (P:Nat→Bool) (f:Int) (ts:List Tm) (ad:Option Addr) (cap:Nat) (t:Tm) (v:Value) (w:World) (hL:TK (maskB P w) ad ts) (hv:TF w P v t) (hn:ts.length≤1000) (hP:∀k,P k=true→k<w.heap.size):Calls Tryz.prog 31 #[.int .i64 f,.slice ad ts.length cap,.slice none 0 0,v] w fun e w'=>∃v',e=.returned v'∧ShapeT v'∧TF w' P v' (wrapT f ts t)∧RowKit.Below w.heap.size w w':=by
 have mx:=mixed
 obtain ⟨v0,v1,v2,v3,v4,v5,v6,v7,v8,v9,rfl⟩:=hv.shapeT
 obtain ⟨W0,hW0⟩:∃W0,(w.alloc (.cells #[.int .i64 v0,.int .i64 v1,.bool v2,.string v3,.slice v4 v5 v6,.slice v7 v8 v9] 36)).alloc (.cells #[.int .i64 0,.int .i64 0,.bool false,.string { data:=#[] },.slice none 0 0,.slice none 0 0] 36)=W0:=⟨_,rfl⟩
 have hb0:RowKit.Below w.heap.size w W0:=by rw [←hW0];exact ((Below.refl _ _).alloc (Nat.le_refl _) _).alloc (by simp) _
 have HA0:Hid (W0.heap[w.heap.size]?=some (.cells #[.int .i64 v0,.int .i64 v1,.bool v2,.string v3,.slice v4 v5 v6,.slice v7 v8 v9] 36 (0,0))):=by unfold Hid;rw [←hW0];exact box_at
 have HR0:Hid (W0.heap[(w.heap.size+1)]?=some (.cells #[.int .i64 0,.int .i64 0,.bool false,.string { data:=#[] },.slice none 0 0,.slice none 0 0] 36 (0,0))):=by unfold Hid;rw [←hW0];exact box_at1
 have hs0:=heap_lt HR0.out
 have HTF0:Hid (TF W0 (fun j=>P j||(j==w.heap.size||j==(w.heap.size+1))) (.agg #[.int .i64 v0,.int .i64 v1,.bool v2,.string v3,.slice v4 v5 v6,.slice v7 v8 v9]) t):=hv.move hb0.size fun k hk hp=>⟨by rw [hp,Bool.false_or];simp;omega,hb0.block k hk⟩
 have HPN:Hid (∀k,w.heap.size≤k→P k=false):=fun k hk=>by
  cases hp:P k
  ·rfl
  ·have:=hP k hp;omega
 have HL:=Hid.mk hL
 have HB0:=Hid.mk hb0
 have HW0:=Hid.mk hW0
 have HSZ:Hid (∀us:List Value,us.length=6→(Tryz.prog.info? 36).map (·.size)=some us.length):=fun us h=>by rw [h];kernel_rfl
 clear hb0 hW0 hL hv hP
 go_enter Tryz.func31,Tryz.ntmps31
 go_wp2_with (rw [HW0.out])
 go_loopw [9] (fun i wr=>∃(k:Nat) (x0 x1:Int) (x2:Bool) (x3:ByteArray) (x4:Option Addr) (x5 x6:Nat) (x7:Option Addr) (x8 x9:Nat),k≤ts.length∧i=.int .i64 ((k:Int) - 1)∧wr.heap[w.heap.size]?=some (.cells #[.int .i64 x0,.int .i64 x1,.bool x2,.string x3,.slice x4 x5 x6,.slice x7 x8 x9] 36 (0,0))∧wr.heap[(w.heap.size+1)]?=some (.cells #[.int .i64 0,.int .i64 0,.bool false,.string { data:=#[] },.slice none 0 0,.slice none 0 0] 36 (0,0))∧TF wr (fun j=>P j||(j==w.heap.size||j==(w.heap.size+1))) (.agg #[.int .i64 x0,.int .i64 x1,.bool x2,.string x3,.slice x4 x5 x6,.slice x7 x8 x9]) (wrapT f (ts.drop k) t)∧RowKit.Below w.heap.size w wr) (fun i _=>(intOf i+1).toNat)
 case atStart=>exact ⟨ts.length,v0,v1,v2,v3,v4,v5,v6,v7,v8,v9,Nat.le_refl _,by go_num,HA0.out,HR0.out,by rw [List.drop_length];exact HTF0.out,HB0.out⟩
 case round =>
  obtain ⟨k,x0,x1,x2,x3,x4,x5,x6,x7,x8,x9,hk,rfl,hA,hR,htf,hb⟩:=hrel
  have HA:=Hid.mk hA
  have HR:=Hid.mk hR
  have HTF:=Hid.mk htf
  have HBR:=Hid.mk hb
  have hsr:=hb.size
  have hsA:=heap_lt hR
  clear hA hR htf hb
  cases k with
  | zero =>
   have HTH:Hid (wr.there (w.heap.size+1) 0 (#[.int .i64 x0,.int .i64 x1,.bool x2,.string x3,.slice x4 x5 x6,.slice x7 x8 x9]:Array Value).size):=there_of HR.out rfl 0 6 (Nat.le_refl 6)
   have HSY:Hid ((Tryz.prog.info? 36).map (·.size)=some (#[.int .i64 x0,.int .i64 x1,.bool x2,.string x3,.slice x4 x5 x6,.slice x7 x8 x9]:Array Value).size):=by unfold Hid;kernel_rfl
   have HON:Hid ((#[.int .i64 x0,.int .i64 x1,.bool x2,.string x3,.slice x4 x5 x6,.slice x7 x8 x9]:Array Value).all (·.oneCell')=true):=by unfold Hid;simp [Value.oneCell']
   have HRA:Hid (wr.rangeAt w.heap.size 0 [.int .i64 x0,.int .i64 x1,.bool x2,.string x3,.slice x4 x5 x6,.slice x7 x8 x9]):=range_of (pre:=[]) (post:=[]) HA.out rfl rfl
   have hw2:=sets_heap (w.heap.size+1) (#[.int .i64 x0,.int .i64 x1,.bool x2,.string x3,.slice x4 x5 x6,.slice x7 x8 x9]:Array Value).toList 0 wr
   have hR2:(wr.setCells (w.heap.size+1) 0 (#[.int .i64 x0,.int .i64 x1,.bool x2,.string x3,.slice x4 x5 x6,.slice x7 x8 x9]:Array Value).toList).heap[(w.heap.size+1)]?=some (.cells #[.int .i64 x0,.int .i64 x1,.bool x2,.string x3,.slice x4 x5 x6,.slice x7 x8 x9] 36 (0,0)):=sets_whole (c':=#[.int .i64 x0,.int .i64 x1,.bool x2,.string x3,.slice x4 x5 x6,.slice x7 x8 x9]) HR.out rfl
   have HLD:=run_loadVar_mid (P:=Tryz.prog) (wr.setCells (w.heap.size+1) 0 (#[.int .i64 x0,.int .i64 x1,.bool x2,.string x3,.slice x4 x5 x6,.slice x7 x8 x9]:Array Value).toList) (w.heap.size+1) 0 36 [.int .i64 x0,.int .i64 x1,.bool x2,.string x3,.slice x4 x5 x6,.slice x7 x8 x9] _ (range_of (pre:=[]) (post:=[]) hR2 rfl rfl) Tryz.underlying36 rfl (HSZ.out _ rfl)
   have HB2:Hid (RowKit.Below w.heap.size w (wr.setCells (w.heap.size+1) 0 (#[.int .i64 x0,.int .i64 x1,.bool x2,.string x3,.slice x4 x5 x6,.slice x7 x8 x9]:Array Value).toList)):=below_sets HBR.out (by omega) _
   have HTV2:Hid (TF (wr.setCells (w.heap.size+1) 0 (#[.int .i64 x0,.int .i64 x1,.bool x2,.string x3,.slice x4 x5 x6,.slice x7 x8 x9]:Array Value).toList) P (.agg #[.int .i64 x0,.int .i64 x1,.bool x2,.string x3,.slice x4 x5 x6,.slice x7 x8 x9]) (wrapT f ts t)):=by
    have h:=HTF.out
    rw [List.drop_zero] at h
    exact h.move (Nat.le_of_eq hw2.1.symm) fun k _ hp=>⟨by rw [Bool.or_eq_false_iff] at hp;exact hp.1,hw2.2 k (by simp at hp;omega)⟩
   clear hw2 hR2
   go_wp2_with (first | (refine wpList_load_mid rfl 36 _ rfl w.heap.size 0 rfl [.int .i64 x0,.int .i64 x1,.bool x2,.string x3,.slice x4 x5 x6,.slice x7 x8 x9] _ HRA.out Tryz.underlying36 rfl (HSZ.out _ rfl) ?_) | (refine wpList_store_mid rfl 36 _ _ rfl (w.heap.size+1) 0 #[.int .i64 x0,.int .i64 x1,.bool x2,.string x3,.slice x4 x5 x6,.slice x7 x8 x9] rfl rfl HTH.out HSY.out HON.out ?_))
   exact bodyPost_ret (v:=.agg #[.int .i64 x0,.int .i64 x1,.bool x2,.string x3,.slice x4 x5 x6,.slice x7 x8 x9]) (results_cell (s:=8) (t:=36) Tryz.results31 rfl HLD) rfl ⟨_,rfl,⟨x0,x1,x2,x3,x4,x5,x6,x7,x8,x9,rfl⟩,HTV2.out,HB2.out⟩
  | succ j =>
   have hj:j<ts.length:=by omega
   obtain ⟨ob,oo,rfl,hob,hcs⟩:=HL.out.resolve_left (by intro e;rw [e] at hj;simp at hj)
   rw [maskB_size] at hob
   obtain ⟨m0,m1,m2,m3,m4,m5,m6,m7,m8,m9,c0,c1,c2,c3,c4,c5,hmt⟩:=(hcs j _ (List.getElem?_eq_getElem hj)).valE
   have HWR:Hid (wrapT f (ts.drop j) t=.mk f 0 false { data:=#[] } [] [ts[j],wrapT f (ts.drop (j+1)) t]):=by unfold Hid;rw [List.drop_eq_getElem_cons hj];rfl
   generalize ts[j]=tj at *
   have HG:Hid (∀W:World,RowKit.Below wr.heap.size wr W→W.rangeAt ob (oo+j*6) [.int .i64 m0,.int .i64 m1,.bool m2,.string m3,.slice m4 m5 m6,.slice m7 m8 m9]∧W.rangeAt w.heap.size 0 [.int .i64 x0,.int .i64 x1,.bool x2,.string x3,.slice x4 x5 x6,.slice x7 x8 x9]):=fun W h=>by
    have hB:∀(o:Nat) (v:Value),(maskB P w).cell? ⟨ob,o,none⟩=some v→W.cell? ⟨ob,o,none⟩=some v:=fun o v hv=>(h.cell (p:=⟨ob,o,none⟩) (by show ob<_;omega)).trans ((HBR.out.cell (p:=⟨ob,o,none⟩) hob).trans (maskB_cell hv).2)
    exact ⟨six_range (hB _ _ c0) (hB _ _ c1) (hB _ _ c2) (hB _ _ c3) (hB _ _ c4) (hB _ _ c5),range_of (pre:=[]) (post:=[]) ((h.block _ (by omega)).trans HA.out) rfl rfl⟩
   have HMT:=Hid.mk hmt
   have hi1:(((j+1:Nat):Int) - 1)=(j:Int):=by omega
   have zj:(j:Int)<(ts.length:Int):=by omega
   have zj0:(0:Int)≤(j:Int):=by omega
   rw [hi1]
   clear hcs c0 c1 c2 c3 c4 c5 hmt hi1
   go_wp2_with fail
   refine wp_region_late (S:=fun w'=>w'.rangeAt ob (oo+j*6) [.int .i64 m0,.int .i64 m1,.bool m2,.string m3,.slice m4 m5 m6,.slice m7 m8 m9]∧w'.rangeAt w.heap.size 0 [.int .i64 x0,.int .i64 x1,.bool x2,.string x3,.slice x4 x5 x6,.slice x7 x8 x9]) (fun i=>i==11) mx ?_ (fun hHeld=>?_)
   ·(try dsimp only)
    exact HG.out _ (Below.refl _ _).drew
   refine tkE (i:=0) (v:=.int .i64 f) (d:=some 17) rfl (hy:=(Or.inl ⟨by kernel_rfl,fun _ _=>by kernel_rfl⟩)) (h:=?_)
   refine tkE (i:=1) (v:=.slice none 0 0) (d:=some 18) rfl (hy:=(Or.inl ⟨by kernel_rfl,fun _ _=>by kernel_rfl⟩)) (h:=?_)
   refine tkE (i:=2) (v:=.int .i64 j) (d:=some 19) rfl (hy:=(Or.inl ⟨by kernel_rfl,fun _ _=>by kernel_rfl⟩)) (h:=?_)
   refine wpAnyM_takeC (i:=3) (v:=.bool false) (d:=some 20) rfl (by kernel_rfl) (by kernel_rfl) (by kernel_rfl) (by kernel_rfl) (by kernel_rfl) (fun _ _ _ h=>h) ⟨by kernel_rfl,fun w _=>⟨48,#[.slice none 0 0,.int .i64 j],by kernel_rfl,at_nil j w⟩⟩ (by assumption) ?_
   refine tkE (i:=4) (v:=.slice (some ⟨ob,oo,none⟩) ts.length cap) (d:=some 21) rfl (hy:=(Or.inl ⟨by kernel_rfl,fun _ _=>by kernel_rfl⟩)) (h:=?_)
   refine tkE (i:=5) (v:=.int .i64 j) (d:=some 22) rfl (hy:=(Or.inl ⟨by kernel_rfl,fun _ _=>by kernel_rfl⟩)) (h:=?_)
   refine tkE (i:=6) (v:=.pointer (some ⟨ob,oo+j*6,none⟩)) (d:=some 23) rfl (hy:=(Or.inl ⟨by kernel_rfl,fun w hSw=>by go_simp⟩)) (h:=?_)
   refine tkE (i:=7) (v:=.agg ([.int .i64 m0,.int .i64 m1,.bool m2,.string m3,.slice m4 m5 m6,.slice m7 m8 m9]:List Value).toArray) (d:=some 24) rfl (hy:=(yieldsIf_load_mid (by kernel_rfl) 36 (.tmp 23) rfl ob (oo+j*6) (by kernel_rfl) [.int .i64 m0,.int .i64 m1,.bool m2,.string m3,.slice m4 m5 m6,.slice m7 m8 m9] _ (fun w hSw=>hSw.1) Tryz.underlying36 rfl (HSZ.out _ rfl))) (h:=?_)
   refine tkE (i:=8) (v:=.agg ([.int .i64 x0,.int .i64 x1,.bool x2,.string x3,.slice x4 x5 x6,.slice x7 x8 x9]:List Value).toArray) (d:=some 25) rfl (hy:=(yieldsIf_load_mid (by kernel_rfl) 36 (.tmp 7) rfl w.heap.size (0) (by kernel_rfl) [.int .i64 x0,.int .i64 x1,.bool x2,.string x3,.slice x4 x5 x6,.slice x7 x8 x9] _ (fun w hSw=>hSw.2) Tryz.underlying36 rfl (HSZ.out _ rfl))) (h:=?_)
   refine nx1 (i:=9) (h:=?_)
   refine ⟨_,rfl,fun K hK=>?_⟩
   go_simp
   obtain ⟨W5,hW5⟩:∃W5,(wr.alloc (.cells #[.int .i64 m0,.int .i64 m1,.bool m2,.string m3,.slice m4 m5 m6,.slice m7 m8 m9,.int .i64 x0,.int .i64 x1,.bool x2,.string x3,.slice x4 x5 x6,.slice x7 x8 x9] 36)).drew=W5:=⟨_,rfl⟩
   have HB5:Hid (RowKit.Below wr.heap.size wr W5):=by unfold Hid;rw [←hW5];exact ((Below.refl _ _).alloc (Nat.le_refl _) _).drew
   have h12:W5.heap[wr.heap.size]?=some (.cells #[.int .i64 m0,.int .i64 m1,.bool m2,.string m3,.slice m4 m5 m6,.slice m7 m8 m9,.int .i64 x0,.int .i64 x1,.bool x2,.string x3,.slice x4 x5 x6,.slice x7 x8 x9] 36 (0,0)):=by rw [←hW5];exact alloc_new _ _
   rw [hW5]
   clear hW5
   have hs5:=heap_lt h12
   have hA5:W5.heap[w.heap.size]?=some (.cells #[.int .i64 x0,.int .i64 x1,.bool x2,.string x3,.slice x4 x5 x6,.slice x7 x8 x9] 36 (0,0)):=(HB5.out.block _ (by omega)).trans HA.out
   have HTH:Hid (W5.there w.heap.size 0 (#[.int .i64 f,.int .i64 0,.bool false,.string { data:=#[] },.slice none 0 0,.slice (some ⟨wr.heap.size,0,none⟩) 2 2]:Array Value).size):=there_of hA5 rfl 0 6 (Nat.le_refl 6)
   have HSY:Hid ((Tryz.prog.info? 36).map (·.size)=some (#[.int .i64 f,.int .i64 0,.bool false,.string { data:=#[] },.slice none 0 0,.slice (some ⟨wr.heap.size,0,none⟩) 2 2]:Array Value).size):=by unfold Hid;kernel_rfl
   have HON:Hid ((#[.int .i64 f,.int .i64 0,.bool false,.string { data:=#[] },.slice none 0 0,.slice (some ⟨wr.heap.size,0,none⟩) 2 2]:Array Value).all (·.oneCell')=true):=by unfold Hid;simp [Value.oneCell']
   have hw6:=sets_heap w.heap.size (#[.int .i64 f,.int .i64 0,.bool false,.string { data:=#[] },.slice none 0 0,.slice (some ⟨wr.heap.size,0,none⟩) 2 2]:Array Value).toList 0 W5
   obtain ⟨W6,hW6⟩:∃W6,W5.setCells w.heap.size 0 (#[.int .i64 f,.int .i64 0,.bool false,.string { data:=#[] },.slice none 0 0,.slice (some ⟨wr.heap.size,0,none⟩) 2 2]:Array Value).toList=W6:=⟨_,rfl⟩
   have HA6:Hid (W6.heap[w.heap.size]?=some (.cells #[.int .i64 f,.int .i64 0,.bool false,.string { data:=#[] },.slice none 0 0,.slice (some ⟨wr.heap.size,0,none⟩) 2 2] 36 (0,0))):=by unfold Hid;rw [←hW6];exact sets_whole (c':=#[.int .i64 f,.int .i64 0,.bool false,.string { data:=#[] },.slice none 0 0,.slice (some ⟨wr.heap.size,0,none⟩) 2 2]) hA5 rfl
   have HB6:Hid (RowKit.Below w.heap.size w W6):=by unfold Hid;rw [←hW6];exact below_sets (HBR.out.trans (HB5.out.mono (by omega))) (Nat.le_refl _) _
   rw [hW6] at hw6
   have HR6:Hid (W6.heap[(w.heap.size+1)]?=some (.cells #[.int .i64 0,.int .i64 0,.bool false,.string { data:=#[] },.slice none 0 0,.slice none 0 0] 36 (0,0))):=(hw6.2 _ (by omega)).trans ((HB5.out.block _ hsA).trans HR.out)
   have hmask:∀k,(P k||(k==w.heap.size||k==(w.heap.size+1)))=false→W6.heap[k]?=W5.heap[k]?:=fun k hp=>hw6.2 k (by simp at hp;omega)
   have HTF6:Hid (TF W6 (fun j=>P j||(j==w.heap.size||j==(w.heap.size+1))) (.agg #[.int .i64 f,.int .i64 0,.bool false,.string { data:=#[] },.slice none 0 0,.slice (some ⟨wr.heap.size,0,none⟩) 2 2]) (wrapT f (ts.drop j) t)):=by
    unfold Hid
    rw [HWR.out]
    refine TV.two (b:=wr.heap.size) (va:=.agg #[.int .i64 m0,.int .i64 m1,.bool m2,.string m3,.slice m4 m5 m6,.slice m7 m8 m9]) (vb:=.agg #[.int .i64 x0,.int .i64 x1,.bool x2,.string x3,.slice x4 x5 x6,.slice x7 x8 x9]) rfl rfl ?_ ?_ ?_
    ·exact TF.move (P:=P) HMT.out HB6.out.size fun k hk hp=>⟨by rw [hp,Bool.false_or];simp;omega,HB6.out.block k hk⟩
    ·exact HTF.out.move (by rw [hw6.1];exact HB5.out.size) fun k hk hp=>⟨hp,(hmask k hp).trans (HB5.out.block k hk)⟩
    ·rw [maskB_no _ (by rw [HPN.out _ (by omega)];simp;omega)]
     exact (hmask _ (by rw [HPN.out _ (by omega)];simp;omega)).trans h12
   have HW6:=Hid.mk hW6
   clear hw6 hW6 hmask hA5 h12
   refine hK.out _ _ (fun _=>?_) (fun hHeld=>?_)
   ·(try dsimp only)
    exact HG.out _ HB5.out
   replace hHeld:=hHeld rfl
   clear hK K
   refine tkE (i:=10) (v:=.agg #[.int .i64 f,.int .i64 0,.bool false,.string { data:=#[] },.slice none 0 0,.slice (some ⟨wr.heap.size,0,none⟩) 2 2]) (d:=some 27) rfl (hy:=(Or.inl ⟨by kernel_rfl,fun w hSw=>by go_simp⟩)) (h:=?_)
   refine nx1 (i:=11) (h:=?_)
   refine ⟨_,rfl,fun K hK=>?_⟩
   refine ite_go (by kernel_rfl) ?_
   refine wp_store_mid 36 (.tmp 7) (.tmp 27) rfl w.heap.size 0 #[.int .i64 f,.int .i64 0,.bool false,.string { data:=#[] },.slice none 0 0,.slice (some ⟨wr.heap.size,0,none⟩) 2 2] (by kernel_rfl) (by kernel_rfl) HTH.out HSY.out HON.out ?_
   rw [HW6.out]
   refine hK.out _ _ (fun h=>by cases h) (fun _=>?_)
   clear hK K
   refine wpAnyM_done (by kernel_rfl) ?_ _
   go_wp2
   exact ⟨⟨j,f,0,false,{ data:=#[] },none,0,0,some ⟨wr.heap.size,0,none⟩,2,2,by omega,by go_num,HA6.out,HR6.out,HTF6.out,HB6.out⟩,by simp [intOf]⟩
end Go.Proofs.YtgfgpjcnfnopnaaGreat
