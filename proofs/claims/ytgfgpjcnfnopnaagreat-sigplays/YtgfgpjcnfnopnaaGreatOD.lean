/- The contract of term.copied. -/
import Derived.Test.YtgfgpjcnfnopnaaGreatFA
namespace Go.Proofs.YtgfgpjcnfnopnaaGreat
open Go.RowKit Go.Sort
theorem infoLevel:(Tryz.prog.info? 75).map (fun i=>(i.zero,i.size,i.bytes))=some (some (.agg #[.int .i64 0,.slice none 0 0]),2,32):=by kernel_rfl
theorem tags:75≠(109:TypeId):=by decide
def LW (w:World) (B:Nat) (v:Value) (ls:List LvT):Prop :=
 ∃cells:List Value,w.ownsRow B 75 2 v ls.length cells∧∀i n xs,ls[i]?=some (n,xs)→cells[i*2]?=some (.int .i64 n)∧∃u,cells[i*2+1]?=some u∧OR B w u xs
theorem LW.nil (w:World) (B:Nat):LW w B (.slice none 0 0) []:=⟨[],World.ownsRow_nil _ _ _ _,fun i n xs h=>by simp at h⟩
theorem OR.grown {w w':World}{B:Nat}{u v:Value}{xs:List (Int×Int)}{k:Nat}{l:List Value}(h:OR B w u xs) (hv:w.ownsRow B 75 2 v k l) (hg:w.grownBy w' v.ownBlock):OR B w' u xs:=by
 refine World.ownsRow.kept h hg ?_
 rcases h.2 with ⟨rfl,_⟩ | ⟨g,cap,cur,rfl,_,hgb,_⟩
 ·exact .inl rfl
 ·refine .inr fun e'=>?_
  rcases hv.2 with ⟨rfl,_⟩ | ⟨g2,cap2,cur2,rfl,_,hgb2,_⟩
  ·cases e'
  ·have:g=g2:=by simpa [Value.ownBlock] using e'
   subst this
   rw [hgb] at hgb2
   simp only [Option.some.injEq,Obj.cells.injEq] at hgb2
   exact tags hgb2.2.1.symm
theorem LW.lo {w:World}{B:Nat}{v:Value}{ls:List LvT}(h:LW w B v ls):LO w B w.heap.size v ls:=by
 obtain ⟨cells,hO,hx⟩:=h
 have hO':=hO
 rcases hO.2 with ⟨rfl,hn⟩ | ⟨g,cap,cur,rfl,hg,hh,hc,hm,hs,ht⟩
 ·exact Or.inl ⟨List.length_eq_zero_iff.1 hn,rfl⟩
 ·refine Or.inr ⟨g,cap,cur,rfl,hg,heap_lt hh,hh,hc,by simpa [maxLen] using hm,hs,fun i n xs hi=>?_⟩
  have hil:i<ls.length:=(List.getElem?_eq_some_iff.1 hi).1
  obtain ⟨c0,u,c1,hu⟩:=hx i n xs hi
  rw [←World.ownsRow.cellAt hO' (i*2) (by omega)] at c0
  rw [←World.ownsRow.cellAt hO' (i*2+1) (by omega)] at c1
  obtain ⟨a',cap',rfl,hS,-⟩:=hu.shape
  refine ⟨c0,a',cap',c1,fun e=>?_,?_⟩
  ·subst e
   rcases hu.2 with ⟨h1,_⟩ | ⟨g',cap'',cur',h1,_⟩
   ·simp only [Value.slice.injEq] at h1;exact h1.2.2
   ·cases h1
  ·rcases hu.2 with ⟨_,h2⟩ | ⟨g',cap'',cur',h1,h2,h3,_⟩
   ·exact Or.inl (List.length_eq_zero_iff.1 h2)
   ·simp only [Value.slice.injEq] at h1
    obtain ⟨rfl,-,-⟩:=h1
    rcases hS with hS | ⟨b,off,hb,hlt,hc'⟩
    ·exact Or.inl hS
    ·simp only [Option.some.injEq,Addr.mk.injEq] at hb
     obtain ⟨rfl,rfl,-⟩:=hb
     exact Or.inr ⟨g',rfl,h2,heap_lt h3,heap_lt h3,fun j hj=>by have:=hc' j hj;simpa using this⟩
theorem LW.more {w w':World}{B:Nat}{v v' u:Value}{ls:List LvT}{n:Int}{xs:List (Int×Int)}{cells:List Value}(hO:w.ownsRow B 75 2 v ls.length cells) (hx:∀i n xs,ls[i]?=some (n,xs)→cells[i*2]?=some (.int .i64 n)∧∃u,cells[i*2+1]?=some u∧OR B w u xs) (hu:OR B w u xs)
  (hO':w'.ownsRow B 75 2 v' (ls.length+1) (cells++[.int .i64 n,u])) (hg:w.grownBy w' v.ownBlock):LW w' B v' (ls++[(n,xs)]):=by
 refine ⟨cells++[.int .i64 n,u],by rw [List.length_append];exact hO',fun i n' xs' hi=>?_⟩
 have hl:cells.length=ls.length*2:=hO.1
 by_cases h1:i<ls.length
 ·rw [List.getElem?_append_left h1] at hi
  obtain ⟨c0,u',c1,hu'⟩:=hx i n' xs' hi
  exact ⟨by rw [List.getElem?_append_left (by omega)];exact c0,u',by rw [List.getElem?_append_left (by omega)];exact c1,hu'.grown hO hg⟩
 ·obtain rfl:i=ls.length:=by
   have:=(List.getElem?_eq_some_iff.1 hi).1;simp at this;omega
  simp only [List.getElem?_concat_length,Option.some.injEq,Prod.mk.injEq] at hi
  obtain ⟨rfl,rfl⟩:=hi
  exact ⟨by rw [List.getElem?_append_right (by omega),hl];simp,u,by rw [List.getElem?_append_right (by omega),hl];simp,hu.grown hO hg⟩
theorem ownsRow_on {w w':World}{B e k n N:Nat}{v:Value}{xs:List Value}(h:w.ownsRow B e k v n xs) (hb:RowKit.Below N w w') (hN:w.heap.size≤N):w'.ownsRow B e k v n xs:=by
 obtain ⟨h1,h2⟩:=h
 refine ⟨h1,?_⟩
 rcases h2 with h2 | ⟨g,cap,cur,hv,hg,hh,r⟩
 ·exact Or.inl h2
 ·exact Or.inr ⟨g,cap,cur,hv,hg,(hb.block g (Nat.lt_of_lt_of_le (heap_lt hh) hN)).trans hh,r⟩
set_option maxRecDepth 100000 in
set_option maxHeartbeats 4000000 in
theorem copied_any (ls:List LvT) (a:Option Addr) (cap:Nat) (w:World) (hL:LN w a ls) (hn:ls.length≤1000000) (hx:∀l∈ls,l.2.length≤1000000) :
  Calls Tryz.prog 97 #[.slice a ls.length cap] w fun e w'=>∃v,e=.returned v∧LO w' w.heap.size w'.heap.size v ls∧RowKit.Below w.heap.size w w':=by
 obtain ⟨i0,hi,hz0,hz1,hz2⟩:=info_parts infoLVar
 obtain ⟨j0,hj0,jz0,jz1,jz2⟩:=info_parts infoLevel
 have HL:=Hid.mk hL
 have HX:=Hid.mk hx
 have mx:=mixed
 clear hL hx
 go_enter Tryz.func97,Tryz.ntmps97
 go_wp2
 go_loopw [3,8] (fun v i wr=>∃j:Nat,j≤ls.length∧i=.int .i64 j∧RowKit.Below w.heap.size w wr∧LW wr w.heap.size v (ls.take j)) (fun _ i _=>ls.length - (intOf i).toNat)
 case atStart=>exact ⟨0,Nat.zero_le _,rfl,Below.refl _ _,by simpa using LW.nil _ _⟩
 case round =>
  obtain ⟨j,hj,rfl,hb,hW⟩:=hrel
  have hbb:=hb.size
  by_cases hlt:j<ls.length
  ·obtain ⟨cells,hO,hcx⟩:=hW
   have HO:=Hid.mk hO
   have HCX:=Hid.mk hcx
   have hlen:(ls.take j).length=j:=by simp;omega
   have HLEN:=Hid.mk hlen
   clear hO hcx hlen
   obtain ⟨b,off,a',cap',rfl,hbl,c0,c1,hS⟩:=(HL.out.below hb).at hlt
   have hlx:=HX.out ls[j] (List.getElem_mem hlt)
   have HTK:Hid (ls.take (j+1)=ls.take j++[(ls[j].1,ls[j].2)]):=by unfold Hid;rw [List.take_succ_eq_append_getElem hlt]
   generalize ls[j]=l at *
   obtain ⟨n,xs⟩:=l
   simp only [] at c0 c1 hS hlx HTK
   have zj:(j:Int)<(ls.length:Int):=by omega
   cases xs with
   | nil =>
    simp only [List.length_nil] at *
    have ag:Hid (u3.ownBlock≠some wr.heap.size):=fun e=>by have:=World.ownsRow.lt HO.out _ e;omega
    cases a' with
    | none =>
     go_wp2_with fail
     go_region_held3 (fun w'=>w'.cell? ⟨wr.heap.size,0,none⟩=some (.int .i64 n)∧w'.cell? ⟨wr.heap.size,1,none⟩=some (.slice none 0 cap')) (first | go_keep | (go_split_ands;refine ⟨?_,?_⟩;(rw [hgrow.cell_far _ (by simp;omega) (Ne.symm ag.out)];assumption);(rw [hgrow.cell_far _ (by simp;omega) (Ne.symm ag.out)];assumption)))
      (first | (refine step_append_lies _ (by rfl) _ _ 33 (by rfl) w.heap.size 75 j0 _ 2 32 Tryz.underlying33 hj0 jz0 jz1 jz2 rfl (by omega) _ (ls.take j).length cells (by rfl) (((HO.out.alloc _).alloc _).drew) ⟨wr.heap.size+1,0,none⟩ 1 1 [.int .i64 n,.slice none 0 0] (by rfl) (by rfl) (World.news_of_block (cs:=#[.int .i64 n,.slice none 0 0]) (t:=75) (fr:=(0,0)) box_at1) (by simp [Value.oneCell']) (by omega) (by rw [HLEN.out];simp [maxLen];omega) (by rw [HLEN.out];omega) (by simp;omega) (wr.heap.size+2) (by simp) ?_;intro gg cap1 w1 hown1 hgrow hat hlt1))
     go_wp2
     have hB2:RowKit.Below w.heap.size w w1:=(((hb.alloc hbb _).alloc (by simp;omega) _).drew).grown hgrow (by simp;omega) (fun k e=>(World.ownsRow.lt HO.out k e).1)
     refine ⟨⟨j+1,hlt,by go_num,hB2,?_⟩,by simp [intOf];omega⟩
     have hm:=LW.more (n:=n) (xs:=[]) (((HO.out.alloc _).alloc _).drew) (fun i n xs h=>by obtain ⟨c0,u,c1,hu⟩:=HCX.out i n xs h;exact ⟨c0,u,c1,hu.below (((Below.refl wr.heap.size wr).alloc (Nat.le_refl _) _).alloc (by simp) _).drew⟩) (OR.nil _ _) hown1 hgrow
     rw [HTK.out]
     rw [HLEN.out] at hm
     exact hm
    | some ad =>
     go_wp2_with fail
     go_region_held3 (fun w'=>w'.cell? ⟨wr.heap.size,0,none⟩=some (.int .i64 n)∧w'.cell? ⟨wr.heap.size,1,none⟩=some (.slice (some ad) 0 cap')) (first | go_keep | (go_split_ands;refine ⟨?_,?_⟩;(rw [hgrow.cell_far _ (by simp;omega) (Ne.symm ag.out)];assumption);(rw [hgrow.cell_far _ (by simp;omega) (Ne.symm ag.out)];assumption)))
      (first | (refine step_append_lies _ (by rfl) _ _ 33 (by rfl) w.heap.size 75 j0 _ 2 32 Tryz.underlying33 hj0 jz0 jz1 jz2 rfl (by omega) _ (ls.take j).length cells (by rfl) (((HO.out.alloc _).alloc _).drew) ⟨wr.heap.size+1,0,none⟩ 1 1 [.int .i64 n,.slice none 0 0] (by rfl) (by rfl) (World.news_of_block (cs:=#[.int .i64 n,.slice none 0 0]) (t:=75) (fr:=(0,0)) box_at1) (by simp [Value.oneCell']) (by omega) (by rw [HLEN.out];simp [maxLen];omega) (by rw [HLEN.out];omega) (by simp;omega) (wr.heap.size+2) (by simp) ?_;intro gg cap1 w1 hown1 hgrow hat hlt1))
     go_wp2
     have hB2:RowKit.Below w.heap.size w w1:=(((hb.alloc hbb _).alloc (by simp;omega) _).drew).grown hgrow (by simp;omega) (fun k e=>(World.ownsRow.lt HO.out k e).1)
     refine ⟨⟨j+1,hlt,by go_num,hB2,?_⟩,by simp [intOf];omega⟩
     have hm:=LW.more (n:=n) (xs:=[]) (((HO.out.alloc _).alloc _).drew) (fun i n xs h=>by obtain ⟨c0,u,c1,hu⟩:=HCX.out i n xs h;exact ⟨c0,u,c1,hu.below (((Below.refl wr.heap.size wr).alloc (Nat.le_refl _) _).alloc (by simp) _).drew⟩) (OR.nil _ _) hown1 hgrow
     rw [HTK.out]
     rw [HLEN.out] at hm
     exact hm
   | cons p ps =>
    have ag:Hid (u3.ownBlock≠some wr.heap.size):=fun e=>by have:=World.ownsRow.lt HO.out _ e;omega
    have hxl:0<(p::ps).length:=by simp
    generalize p::ps=xs at *
    have hSS:=hS
    obtain ⟨b',off',rfl,hbl',-⟩:∃b' off',a'=some ⟨b',off',none⟩∧b'<wr.heap.size∧True:=by
     rcases hS with h | ⟨b',off',h,hlt',-⟩
     ·rw [h] at hxl;simp at hxl
     ·exact ⟨b',off',h,hlt',trivial⟩
    have HFL:=Hid.mk (SL.flat (hSS.below (((Below.refl wr.heap.size wr).alloc (Nat.le_refl _) (.cells #[.int .i64 n,.slice (some ⟨b',off',none⟩) xs.length cap'] 75)).drew)))
    have HXL:Hid (0<xs.length):=hxl
    clear hS hSS
    go_wp2_with fail
    go_region_held3 (fun w'=>w'.cell? ⟨wr.heap.size,0,none⟩=some (.int .i64 n)∧w'.cell? ⟨wr.heap.size,1,none⟩=some (.slice (some ⟨b',off',none⟩) xs.length cap')) (first | go_keep | (go_split_ands;refine ⟨?_,?_⟩;(rw [hgrow.cell_far _ (by simp;omega) (Ne.symm ag.out)];assumption);(rw [hgrow.cell_far _ (by simp;omega) (Ne.symm ag.out)];assumption)) | (go_split_ands;refine ⟨?_,?_⟩;(rw [hgrow1.cell_far _ (by simp) (by simp [Value.ownBlock])];assumption);(rw [hgrow1.cell_far _ (by simp) (by simp [Value.ownBlock])];assumption)))
     (first | (refine step_append_lies _ (by rfl) _ _ 73 (by rfl) w.heap.size 109 i0 _ 2 16 Tryz.underlying73 hi hz0 hz1 hz2 rfl (by omega) (.slice none 0 0) 0 [] (by rfl) (World.ownsRow_nil _ _ _ _) ⟨b',off',none⟩ xs.length cap' (flat xs) (by rfl) (flat_length xs) HFL.out (flat_one xs) HXL.out (by simp [maxLen];omega) (by omega) (by simp;omega) (wr.heap.size+1) (by simp) ?_;intro g1 c1 w1 hown0 hgrow1 hat1 hlt1;have hbw:RowKit.Below (wr.heap.size+1) (wr.alloc (.cells #[.int .i64 n,.slice (some ⟨b',off',none⟩) xs.length cap'] 75)).drew w1:=(Below.refl _ _).grown hgrow1 (by simp) (fun k e=>by cases e);have hw1:wr.heap.size<w1.heap.size:=by { have:=hbw.size;simp at this;omega };have HO1:Hid (w1.ownsRow w.heap.size 75 2 u3 (ls.take j).length cells):=ownsRow_on ((HO.out.alloc _).drew) hbw (by simp);have HBW:=Hid.mk hbw;have HU:=Hid.mk hown0;clear hown0 hbw hat1) | (refine step_append_lies _ (by rfl) _ _ 33 (by rfl) w.heap.size 75 j0 _ 2 32 Tryz.underlying33 hj0 jz0 jz1 jz2 rfl (by omega) _ (ls.take j).length cells (by rfl) (HO1.out.alloc _) ⟨w1.heap.size,0,none⟩ 1 1 [.int .i64 n,.slice (some ⟨g1,0,none⟩) xs.length c1] (by rfl) (by rfl) (World.news_of_block (cs:=#[.int .i64 n,.slice (some ⟨g1,0,none⟩) xs.length c1]) (t:=75) (fr:=(0,0)) (alloc_new _ _)) (by simp [Value.oneCell']) (by omega) (by rw [HLEN.out];simp [maxLen];omega) (by rw [HLEN.out];omega) (by simp;omega) (w1.heap.size+1) (by simp) ?_;intro gg cap1 w2 hown1 hgrow hat hlt2))
    go_wp2
    have hBW:RowKit.Below wr.heap.size wr w1:=(((Below.refl wr.heap.size wr).alloc (Nat.le_refl _) _).drew).trans (HBW.out.mono (by omega))
    have hB1:RowKit.Below w.heap.size w w1:=hb.trans (hBW.mono hbb)
    have hB2:RowKit.Below w.heap.size w w2:=(hB1.alloc hB1.size _).grown hgrow (Nat.le_trans hB1.size (by simp)) (fun k e=>(World.ownsRow.lt HO1.out k e).1)
    refine ⟨⟨j+1,hlt,by go_num,hB2,?_⟩,by simp [intOf];omega⟩
    have hu:OR w.heap.size w1 (.slice (some ⟨g1,0,none⟩) xs.length c1) xs:=by
     have:=HU.out
     rw [Nat.zero_add,List.nil_append] at this
     exact this
    have hm:=LW.more (n:=n) (xs:=xs) (HO1.out.alloc _) (fun i n xs h=>by obtain ⟨c0,u,c1,hu⟩:=HCX.out i n xs h;exact ⟨c0,u,c1,(hu.below hBW).below ((Below.refl _ _).alloc (Nat.le_refl _) _)⟩) (hu.below ((Below.refl _ _).alloc (Nat.le_refl _) _)) hown1 hgrow
    rw [HTK.out]
    rw [HLEN.out] at hm
    exact hm
  ·have hj':j=ls.length:=by omega
   subst hj'
   rw [List.take_length] at hW
   have HW:=Hid.mk hW
   clear hW
   go_wp2
   go_ret
   exact ⟨_,rfl,HW.out.lo,hb⟩
end Go.Proofs.YtgfgpjcnfnopnaaGreat
