/- The contract of slices.SortFunc with the first closure of level.gathered. -/
import Derived.Test.YtgfgpjcnfnopnaaGreatE
import Derived.Test.YtgfgpjcnfnopnaaGreatS
import Derived.Laws.AppendOwnNone
namespace Go.Proofs.YtgfgpjcnfnopnaaGreat
set_option maxRecDepth 100000
set_option maxHeartbeats 40000000
open Go.RowKit Go.Sort Go.Shelf Go.Lib
def encP (p:Int×Int):List Value:=[.int .i64 p.1,.int .i64 p.2]
theorem lt_iff (x y:Int×Int):ltOf cmpP x y=true↔(x.1<y.1∨(x.1=y.1∧y.2<x.2)):=by
 unfold ltOf cmpP cmpI
 rw [decide_eq_true_iff]
 by_cases h:x.1=y.1
 ·rw [if_pos h];split
  ·omega
  ·split<;>omega
 ·rw [if_neg h];split
  ·omega
  ·split<;>omega
theorem lt_false (x y:Int×Int):ltOf cmpP x y=false↔¬(x.1<y.1∨(x.1=y.1∧y.2<x.2)):=by
 rw [←lt_iff];simp
theorem swoP:SWO (ltOf cmpP) where
 irrefl x:=by rw [lt_false];omega
 trans x y z h1 h2:=by rw [lt_iff] at *;omega
 ntrans x y z h1 h2:=by rw [lt_false] at *;omega
theorem totP (x y:Int×Int) (h1:ltOf cmpP x y=false) (h2:ltOf cmpP y x=false):x=y:=by
 rw [lt_false] at *;exact Prod.ext (by omega) (by omega)
def srt (xs:List (Int×Int)):List (Int×Int):=xs.mergeSort fun x y=>!ltOf cmpP y x
theorem srt_perm (xs:List (Int×Int)):(srt xs).Perm xs:=List.mergeSort_perm _ _
theorem srt_pw (xs:List (Int×Int)):(srt xs).Pairwise fun x y=>x.1<y.1∨(x.1=y.1∧y.2≤x.2):=by
 have h:=List.pairwise_mergeSort (le:=fun x y=>!ltOf cmpP y x) (fun a b c h1 h2=>by simp [lt_false] at *;omega) (fun a b=>by simp [lt_false];omega) xs
 refine h.imp fun {a b} h=>?_
 simp [lt_false] at h
 omega
theorem flatK_get (xs:List (Int×Int)) (j:Nat) (hj:j<xs.length*2):(flat xs)[j]?=some (flatK encP 2 xs.toArray)[j]! := by
 rw [get_flatK encP 2 xs.toArray j (by simpa using hj)]
 have hk:j / 2<xs.length:=by omega
 have hx:xs[j / 2]?=some (xs[j / 2].1,xs[j / 2].2):=by simp [hk]
 obtain ⟨f0,f1⟩:=flat_get xs (j / 2) _ _ hx
 have hg:xs.toArray[j / 2]! = xs[j / 2]:=by simp [hk]
 rw [hg]
 rcases Nat.mod_two_eq_zero_or_one j with h | h
 ·rw [h,show (flat xs)[j]?=(flat xs)[j / 2*2]? from congrArg (fun i=>(flat xs)[i]?) (by omega),f0];rfl
 ·rw [h,show (flat xs)[j]?=(flat xs)[j / 2*2+1]? from congrArg (fun i=>(flat xs)[i]?) (by omega),f1];rfl
theorem OR.holdsK {B g cap:Nat}{w:World}{xs:List (Int×Int)}(h:OR B w (.slice (some ⟨g,0,none⟩) xs.length cap) xs):HoldsK encP 2 w g 0 xs.toArray:=by
 intro j hj
 rw [size_flatK] at hj
 simp at hj
 rw [Nat.zero_add]
 exact ⟨by rw [World.ownsRow.cellAt h j (by omega)];exact flatK_get xs j hj,World.ownsRow.frozenAt h j⟩
theorem OR.sorted {B g cap n:Nat}{w:World}{xs ys:List (Int×Int)}{os:Array Obj}(h:OR B w (.slice (some ⟨g,0,none⟩) xs.length cap) xs) (hl:ys.length=xs.length) :
  OR B (sortWorldK encP 2 w g 0 n ys.toArray os) (.slice (some ⟨g,0,none⟩) ys.length cap) ys:=by
 have hH:=h.holdsK
 obtain ⟨-,hgw,-,-,hcap⟩:=h.lt
 simp only at hgw
 have hh:HoldsK encP 2 (sortWorldK encP 2 w g 0 n ys.toArray os) g 0 ys.toArray:=SWK.holds ⟨n,os,rfl⟩ hgw hH (by simp [hl])
 rcases h.2 with ⟨hv,_⟩ | ⟨g',cap',cur,hv,hg,hhp,hc,hm,hs,ht⟩
 ·simp at hv
 ·simp at hv
  obtain ⟨rfl,rfl⟩:=hv
  have hp:(sortWorldK encP 2 w g 0 n ys.toArray os).heap[g]?=some (.cells (putCells id 0 (flatK encP 2 ys.toArray) cur) 109 (0,0)):=by
   unfold sortWorldK
   rw [heap_grow_old _ _ (by rw [size_putRowK];exact hgw)]
   show (w.heap.modify g _)[g]?=_
   rw [Array.getElem?_modify,if_pos rfl,hhp]
   rfl
  have hsz:(putCells id 0 (flatK encP 2 ys.toArray) cur).size=cur.size:=by simp [putCells]
  refine ⟨by rw [flat_length],Or.inr ⟨g,cap,_,rfl,hg,hp,by rw [hl];exact hc,hm,by rw [hsz];exact hs,?_⟩⟩
  generalize putCells id 0 (flatK encP 2 ys.toArray) cur=cur' at hp hsz
  apply List.ext_getElem?
  intro j
  by_cases hj:j<ys.length*2
  ·rw [List.getElem?_take,if_pos hj,flatK_get ys j hj]
   have:=(hh j (by rw [size_flatK];simpa using hj)).1
   rw [Nat.zero_add,cell_of_row _ g j cur' _ (0,0) hp] at this
   simpa using this
  ·rw [List.getElem?_take,if_neg hj,List.getElem?_eq_none (by rw [flat_length];omega)]
theorem below_sorted {B g n:Nat}{w:World}{d:Array (Int×Int)}{os:Array Obj}(hg:B≤g) (hB:B≤w.heap.size):RowKit.Below B w (sortWorldK encP 2 w g 0 n d os):=by
 refine ⟨rfl,rfl,rfl,size_sortWorldK_c encP 2 w g 0 n d os,fun k hk=>?_⟩
 unfold sortWorldK
 rw [heap_grow_old _ _ (by rw [size_putRowK];show k<w.heap.size;omega)]
 show (w.heap.modify g _)[k]?=_
 rw [Array.getElem?_modify,if_neg (by omega)]
theorem SortFunc_any (B g fb cap:Nat) (xs:List (Int×Int)) (w:World) (hO:OR B w (.slice (some ⟨g,0,none⟩) xs.length cap) xs) (hfb:fb<B) (hfw:B≤w.heap.size) (hf:w.cell? ⟨fb,0,none⟩=some (.func (.func 114) #[] #[])) (hn:xs.length≤35184372088832) :
  Calls Tryz.prog 115 #[.slice (some ⟨g,0,none⟩) xs.length cap,.func (.func 116) #[] #[.pointer (some ⟨fb,0,none⟩)]] w fun e w' =>
   e=.returned (.tuple #[])∧OR B w' (.slice (some ⟨g,0,none⟩) xs.length cap) (srt xs)∧RowKit.Below B w w':=by
 obtain ⟨hgB,hgw,-,-,hcap⟩:=hO.lt
 simp only at hgB hgw
 have eg:∀args w,(callFunc 116 args).run Tryz.prog w=.ok (.enter 116 args) w:=enters_of Tryz.func116 (by kernel_rfl) rfl
 have hcmp:CmpLays Tryz.prog 116 #[.pointer (some ⟨fb,0,none⟩)] encP 2 cmpP g 0 xs.toArray.size w:=by
  intro m os dk hs x y
  refine (gathered1_any x.1 x.2 y.1 y.2 fb (sortWorldK encP 2 w g 0 m dk os) ?_ ?_).mono fun e w' ⟨he,hg⟩=>⟨he,hg⟩
  ·exact Nat.lt_of_lt_of_le (by omega) (size_sortWorldK_c encP 2 w g 0 m dk os)
  ·rw [(below_sorted (w:=w) (d:=dk) (n:=m) (os:=os) hgB hfw).cell (p:=⟨fb,0,none⟩) hfb];exact hf
 have hcon:=AnyQ.slices_SortFunc_total Tryz.sortL 2 Tryz.isAgg109 Tryz.sizeOf109 encP (fun _=>rfl) (fun x v hv=>by simp [encP] at hv;rcases hv with rfl | rfl<;>rfl) cmpP swoP 116 #[.pointer (some ⟨fb,0,none⟩)] g 0 cap xs.toArray w eg hcmp hO.holdsK hgw (by simp;omega) totP
 have e1:xs.toArray.size=xs.length:=by simp
 rw [e1] at hcon
 refine Calls.mono hcon ?_
 rintro e w' ⟨rfl,n,os,rfl⟩
 have hl:(srt xs).length=xs.length:=(srt_perm xs).length_eq
 have:=OR.sorted (n:=n) (os:=os) (ys:=srt xs) hO hl
 rw [hl] at this
 exact ⟨rfl,this,below_sorted hgB hfw⟩
theorem infoLVar:(Tryz.prog.info? 109).map (fun i=>(i.zero,i.size,i.bytes))=some (some (.agg #[.int .i64 0,.int .i64 0]),2,16):=by kernel_rfl
theorem SL.flat {w:World}{b off:Nat}{xs:List (Int×Int)}(h:SL w (some ⟨b,off,none⟩) xs):∀j u,(flat xs)[j]?=some u→w.cell? ((⟨b,off,none⟩:Addr).add j)=some u:=by
 intro j u hu
 have hj:j<xs.length*2:=by
  rcases Nat.lt_or_ge j (xs.length*2) with h | h
  ·exact h
  ·rw [List.getElem?_eq_none (by rw [flat_length];exact h)] at hu;cases hu
 have hk:j / 2<xs.length:=by omega
 obtain ⟨b',off',x,y,ha,-,c0,c1,hx⟩:=h.at hk
 simp at ha
 obtain ⟨rfl,rfl⟩:=ha
 obtain ⟨f0,f1⟩:=flat_get xs (j / 2) x y hx.out
 have hadd:(⟨b,off,none⟩:Addr).add j=⟨b,off+j,none⟩:=by simp [Addr.add]
 rw [hadd]
 rcases Nat.mod_two_eq_zero_or_one j with h | h
 ·rw [show (Go.Proofs.YtgfgpjcnfnopnaaGreat.flat xs)[j]?=(Go.Proofs.YtgfgpjcnfnopnaaGreat.flat xs)[j / 2*2]? from congrArg (fun i=>(Go.Proofs.YtgfgpjcnfnopnaaGreat.flat xs)[i]?) (by omega),f0] at hu
  rw [show off+j=off+j / 2*2 by omega,c0];exact hu
 ·rw [show (Go.Proofs.YtgfgpjcnfnopnaaGreat.flat xs)[j]?=(Go.Proofs.YtgfgpjcnfnopnaaGreat.flat xs)[j / 2*2+1]? from congrArg (fun i=>(Go.Proofs.YtgfgpjcnfnopnaaGreat.flat xs)[i]?) (by omega),f1] at hu
  rw [show off+j=off+j / 2*2+1 by omega,c1];exact hu
theorem SortFunc_none (a:Option Addr) (cap:Nat) (fv:Value) (w:World):Calls Tryz.prog 115 #[.slice a 0 cap,fv] w fun e w'=>e=.returned (.tuple #[])∧w'=w :=
 AnyF.slices_SortFunc_none Tryz.sortL a cap fv w
theorem CompactFunc_none (a:Option Addr) (cap:Nat) (fv:Value) (w:World):Calls Tryz.prog 118 #[.slice a 0 cap,fv] w fun e w'=>e=.returned (.slice a 0 cap)∧w'=w:=by
 go_enter Tryz.func118,Tryz.ntmps118
 go_wp2
 go_ret
 exact ⟨rfl,rfl⟩
theorem gathered_none (a:Option Addr) (cap:Nat) (w:World) :
  Calls Tryz.prog 113 #[.slice a 0 cap,.func (.func 114) #[] #[]] w fun e w'=>e=.returned (.slice none 0 0)∧Grew w w':=by
 cases a with
 | none =>
  go_enter Tryz.func113,Tryz.ntmps113
  go_wp2_with (first | (go_at_call 115;refine (SortFunc_none _ _ _ _).mono ?_;rintro e w' ⟨rfl,rfl⟩) | (go_at_call 118;refine (CompactFunc_none _ _ _ _).mono ?_;rintro e w' ⟨rfl,rfl⟩))
  go_ret
  exact ⟨rfl,(Grew.refl _).alloc _⟩
 | some ad =>
  go_enter Tryz.func113,Tryz.ntmps113
  go_wp2_with (first | (go_at_call 115;refine (SortFunc_none _ _ _ _).mono ?_;rintro e w' ⟨rfl,rfl⟩) | (go_at_call 118;refine (CompactFunc_none _ _ _ _).mono ?_;rintro e w' ⟨rfl,rfl⟩))
  go_ret
  exact ⟨rfl,(Grew.refl _).alloc _⟩
theorem app_new {B:Nat}{W w1:World}{v':Value}{xs:List (Int×Int)}(h:w1.ownsRow B 109 2 v' (([]:List (Int×Int)).length+xs.length) (flat []++flat xs)) (hg:W.grownBy w1 none) (hx:0<xs.length) :
  ∃g cap',v'=.slice (some ⟨g,0,none⟩) xs.length cap'∧OR B w1 (.slice (some ⟨g,0,none⟩) xs.length cap') xs∧RowKit.Below W.heap.size W w1:=by
 have h':w1.ownsRow B 109 2 v' xs.length (flat xs):=by simpa [flat] using h
 rcases h'.2 with ⟨_,hn⟩ | ⟨g,cap',cur,rfl,r⟩
 ·omega
 ·exact ⟨g,cap',rfl,h',(Below.refl _ _).grown hg (Nat.le_refl _) (fun k e=>by cases e)⟩
theorem srt_len (xs:List (Int×Int)):(srt xs).length=xs.length:=(srt_perm xs).length_eq
theorem gathered_some (b off cap:Nat) (xs:List (Int×Int)) (w:World) (hx:0<xs.length) (hS:SL w (some ⟨b,off,none⟩) xs) (hn:xs.length≤4398046511104) :
  Calls Tryz.prog 113 #[.slice (some ⟨b,off,none⟩) xs.length cap,.func (.func 114) #[] #[]] w fun e w'=>∃v,e=.returned v∧OR w.heap.size w' v (dd (srt xs))∧RowKit.Below w.heap.size w w':=by
 obtain ⟨i0,hi,hz0,hz1,hz2⟩:=info_parts infoLVar
 have hl:=flat_length xs
 have hfl:=(hS.below ((Grew.refl w).alloc (.cells #[.func (.func 114) #[] #[]] 160)).below).flat
 have hone:=flat_one xs
 have h0:OR (w.heap.size+1) (w.alloc (.cells #[.func (.func 114) #[] #[]] 160)) (.slice none 0 0) []:=OR.nil _ _
 have HSo:=fun (g cap':Nat) (W:World) h1 h2 h3=>SortFunc_any (w.heap.size+1) g w.heap.size cap' xs W h1 (Nat.lt_succ_self _) h2 h3 (by omega)
 have HCo:=fun (g cap':Nat) (W:World) h1 h2 h3=>CompactFunc_any (w.heap.size+1) g w.heap.size cap' (srt xs) W h1 (Nat.lt_succ_self _) h2 h3 (by rw [srt_len];omega)
 rw [srt_len] at HCo
 have hc0:(w.alloc (.cells #[.func (.func 114) #[] #[]] 160)).cell? ⟨w.heap.size,0,none⟩=some (.func (.func 114) #[] #[]):=by simp
 have HC0:=Hid.mk hc0
 clear hS hc0
 go_enter Tryz.func113,Tryz.ntmps113
 go_wp2_with (first | (at_builtin;refine wpList_append_own _ rfl _ _ 73 rfl (w.heap.size+1) 109 i0 (.agg #[.int .i64 0,.int .i64 0]) 2 16 Tryz.underlying73 hi hz0 hz1 hz2 rfl (by decide) _ _ _ rfl h0 ⟨b,off,none⟩ xs.length cap (flat xs) rfl hl hfl hone (by simp [maxLen];omega) (by simp;omega) (by simp) ?_;intro v' w1 hown' hgrow _;obtain ⟨g,cap',rfl,hO,hB⟩:=app_new hown' hgrow hx;clear hown' hgrow hfl hone hl h0;have hc1:=(hB.cell (p:=⟨w.heap.size,0,none⟩) (by simp)).trans HC0.out;have hz:=hB.size))
 refine (HSo g cap' w1 hO (by simpa using hz) hc1).mono ?_
 rintro e w2 ⟨rfl,hO2,hB2⟩
 have hc2:=(hB2.cell (p:=⟨w.heap.size,0,none⟩) (Nat.lt_succ_self _)).trans hc1
 have hz2:=hB2.size
 go_wp2_with fail
 refine (HCo g cap' w2 hO2 (by simp at hz;omega) hc2).mono ?_
 rintro e w3 ⟨rfl,hO3,hB3⟩
 go_wp2
 go_ret
 refine ⟨_,rfl,hO3.mono (Nat.le_succ _),?_⟩
 have hA:RowKit.Below w.heap.size w (w.alloc (.cells #[.func (.func 114) #[] #[]] 160)):=(Below.refl _ _).alloc (Nat.le_refl _) _
 exact ((hA.trans (hB.mono (by simp))).trans (hB2.mono (Nat.le_succ _))).trans (hB3.mono (Nat.le_succ _))
def tidyL (xs:List (Int×Int)):List (Int×Int):=dd (srt xs)
theorem tidyL_nil:tidyL []=[]:=by simp [tidyL,srt,dd]
theorem tidyL_le (xs:List (Int×Int)):(tidyL xs).length≤xs.length:=by
 have:=dd_le (srt xs);rw [srt_len] at this;exact this
theorem gathered_any (a:Option Addr) (cap:Nat) (xs:List (Int×Int)) (w:World) (hS:SL w a xs) (hn:xs.length≤4398046511104) :
  Calls Tryz.prog 113 #[.slice a xs.length cap,.func (.func 114) #[] #[]] w fun e w'=>∃v,e=.returned v∧OR w.heap.size w' v (tidyL xs)∧RowKit.Below w.heap.size w w':=by
 rcases Nat.eq_zero_or_pos xs.length with h | h
 ·have:xs=[]:=List.length_eq_zero_iff.1 h
  subst this
  exact (gathered_none a cap w).mono fun e w' ⟨he,hg⟩=>⟨_,he,by rw [tidyL_nil];exact OR.nil _ _,hg.below⟩
 ·have hS':=hS
  rcases hS with h0 | ⟨b,off,rfl,-⟩
  ·subst h0;simp at h
  ·exact gathered_some b off cap xs w h hS' hn
def Res (w w':World) (e:Ending) (r:Int×List (Int×Int)×Int):Prop :=
 ∃v,e=.returned (.tuple #[.agg #[.int .i64 r.1,v],.int .i64 r.2.2])∧OR w.heap.size w' v r.2.1∧RowKit.Below w.heap.size w w'
def nOf (n:Int) (ys:List (Int×Int)):Int:=if ys.any (fun p=>decide (n≤p.2)) then 0 else n
def canonR (n:Int) (xs:List (Int×Int)):Int×List (Int×Int)×Int:=if rightB (nOf n (tidyL xs)) (tidyL xs) then (nOf n (tidyL xs),tidyL xs,0) else (0,[],13)
theorem nOf_take {n:Int}{ys:List (Int×Int)}{k:Nat}{z:Int×Int}(h:ys[k]?=some z):nOf n (ys.take (k+1))=if n≤z.2 then 0 else nOf n (ys.take k):=by
 obtain ⟨hk,rfl⟩:=List.getElem?_eq_some_iff.1 h
 unfold nOf
 rw [List.take_succ_eq_append_getElem hk,List.any_append]
 by_cases h:n≤ys[k].2
 ·simp [h]
 ·have:decide (n≤ys[k].2)=false:=by simp;omega
  simp only [List.any_cons,List.any_nil,this,Bool.or_false,if_neg h]
theorem OR.setBelow {B:Nat}{w:World}{v:Value}{xs:List (Int×Int)}(h:OR B w v xs) {a:Addr}(ha:a.block<B) (u:Value):OR B (w.setCell a u) v xs:=ownsRow_setCell_below h ha u
theorem canonical_any (n:Int) (a:Option Addr) (cap:Nat) (xs:List (Int×Int)) (w:World) (hS:SL w a xs) (hn:xs.length≤4398046511104) :
  Calls Tryz.prog 110 #[.int .i64 n,.slice a xs.length cap] w fun e w'=>Res w w' e (canonR n xs):=by
 have hG:=gathered_any a cap xs (w.alloc (.cells #[.int .i64 0,.slice none 0 0] 75)) (hS.below ((Grew.refl w).alloc _).below) hn
 have HL:(tidyL xs).length≤xs.length:=tidyL_le xs
 have HC:Hid (canonR n xs=if rightB (nOf n (tidyL xs)) (tidyL xs) then (nOf n (tidyL xs),tidyL xs,0) else (0,[],13)):=rfl
 generalize canonR n xs=C at HC ⊢
 generalize tidyL xs=ys at hG HL HC ⊢
 clear hS
 go_enter Tryz.func110,Tryz.ntmps110
 go_wp2_with (go_at_call 113;refine hG.mono ?_;rintro e w1 ⟨v,rfl,hO,hB⟩;obtain ⟨a',cap',rfl,hS1,-⟩:=hO.shape)
 have hz:=hB.size
 have hz':w.heap.size+1≤w1.heap.size:=by simpa using hz
 clear hG hz
 have HO:=Hid.mk hO
 have HS1:=Hid.mk hS1
 have HB:=Hid.mk hB
 clear hO hS1 hB
 go_loopw [16] (fun i wr=>∃k:Nat,k≤ys.length∧i=.int .i64 k∧RowKit.Below w1.heap.size w1 wr∧wr.heap[w1.heap.size]?=some (.cells #[.int .i64 (nOf n (ys.take k)),.slice a' ys.length cap'] 75 (0,0))) (fun i _=>ys.length - (intOf i).toNat)
 case atStart=>exact ⟨0,Nat.zero_le _,rfl,(Below.refl _ _).alloc (Nat.le_refl _) _,by simp only [nOf,List.take_zero,List.any_nil];exact alloc_new _ _⟩
 case round =>
  obtain ⟨k,hk,rfl,hb,hh⟩:=hrel
  obtain ⟨q0,q1,q2,q3,q4⟩:=cells2 hh
  have HH:=Hid.mk hh
  clear hh
  have hbb:=hb.size
  by_cases hlt:k<ys.length
  ·obtain ⟨b,off,x,y,rfl,hbl,hc0,hc1,hxy⟩:=(HS1.out.below hb).at hlt
   have HE:=Hid.mk (nOf_take (n:=n) hxy.out)
   generalize nOf n (ys.take k)=m at *
   by_cases hge:n≤y
   ·go_wp2
    refine ⟨⟨k+1,hlt,by go_num,(hb.setCell (p:=⟨w1.heap.size,0,none⟩) (Nat.le_refl _) _).alloc (by simpa using hbb) _,?_⟩,by simp [intOf];omega⟩
    rw [HE.out,if_pos hge]
    exact alloc_old (heap_set0 HH.out) _
   ·go_wp2
    refine ⟨⟨k+1,hlt,by go_num,hb.alloc hbb _,?_⟩,by simp [intOf];omega⟩
    rw [HE.out,if_neg (by simpa using hge)]
    exact alloc_old HH.out _
  ·have hk':k=ys.length:=by omega
   subst hk'
   rw [List.take_length] at q0 HH
   have HR:=right_any (nOf n ys) ys a' cap' wr (HS1.out.below hb) (by omega)
   have hR0:w1.heap[w.heap.size]?=some (.cells #[.int .i64 0,.slice none 0 0] 75 (0,0)):=(HB.out.block w.heap.size (by simp)).trans (alloc_new _ _)
   have hR1:=(hb.block w.heap.size (by omega)).trans hR0
   generalize nOf n ys=m at *
   have hbB:RowKit.Below w.heap.size w wr:=(((Below.refl w.heap.size w).alloc (Nat.le_refl _) _).trans (HB.out.mono (by simp))).trans (hb.mono (by omega))
   have HOr:=Hid.mk (HO.out.below hb)
   cases hr:rightB m ys
   ·simp only [hr] at HR
    go_wp2_with (go_at_call 109;refine HR.mono ?_;rintro e w2 ⟨rfl,hg2⟩;obtain ⟨p0,p1,p2,p3,p4⟩:=cells2 ((hg2.below.block w.heap.size (by omega)).trans hR1))
    have hCe:=HC.out
    rw [hr,if_neg (by simp)] at hCe
    subst hCe
    refine bodyPost_ret (v:=.tuple #[.agg #[.int .i64 0,.slice none 0 0],.int .i64 13]) (by simp [results,Tryz.results110,go_sem,p0,p1]) rfl ⟨_,rfl,OR.nil _ _,?_⟩
    exact ((hbB.trans (hg2.below.mono (by omega))).setCell (p:=⟨w.heap.size,0,none⟩) (Nat.le_refl _) _).setCell (p:=⟨w.heap.size,1,none⟩) (Nat.le_refl _) _
   ·simp only [hr] at HR
    go_wp2_with (go_at_call 109;refine HR.mono ?_;rintro e w2 ⟨rfl,hg2⟩;obtain ⟨p0,p1,p2,p3,p4⟩:=cells2 ((hg2.below.block w.heap.size (by omega)).trans hR1);obtain ⟨r0,r1,r2,r3,r4⟩:=cells2 ((hg2.below.block w1.heap.size (by omega)).trans HH.out))
    have hCe:=HC.out
    rw [hr,if_pos rfl] at hCe
    subst hCe
    refine bodyPost_ret (v:=.tuple #[.agg #[.int .i64 m,.slice a' ys.length cap'],.int .i64 0]) (by simp [results,Tryz.results110,go_sem,p0,p1]) rfl ⟨_,rfl,?_,?_⟩
    ·exact OR.mono (((HOr.out.below hg2.below).setBelow (a:=⟨w.heap.size,0,none⟩) (by simp) _).setBelow (a:=⟨w.heap.size,1,none⟩) (by simp) _) (by simp)
    ·exact ((hbB.trans (hg2.below.mono (by omega))).setCell (p:=⟨w.heap.size,0,none⟩) (Nat.le_refl _) _).setCell (p:=⟨w.heap.size,1,none⟩) (Nat.le_refl _) _
def normR (n:Int) (xs:List (Int×Int)):Int×List (Int×Int)×Int:=if rightB n xs then canonR n xs else (0,[],13)
theorem Norm_any (n:Int) (xs:List (Int×Int)) (a:Option Addr) (cap:Nat) (w:World) (hS:SL w a xs) (hn:xs.length≤4398046511104) :
  Calls Tryz.prog 106 #[.agg #[.int .i64 n,.slice a xs.length cap]] w fun e w'=>Res w w' e (normR n xs):=by
 have HR:=right_any n xs a cap ((w.alloc (.cells #[.int .i64 n,.slice a xs.length cap] 75)).alloc (.cells #[.int .i64 0,.slice none 0 0] 75)) (hS.below (((Grew.refl w).alloc _).alloc _).below) (by omega)
 have HC:Hid (normR n xs=if rightB n xs then canonR n xs else (0,[],13)):=rfl
 have HCa:=fun (W:World) (h:SL W a xs)=>canonical_any n a cap xs W h hn
 generalize canonR n xs=C at HC HCa
 generalize normR n xs=D at HC ⊢
 have HS:=Hid.mk hS
 clear hS
 have hA:Grew w ((w.alloc (.cells #[.int .i64 n,.slice a xs.length cap] 75)).alloc (.cells #[.int .i64 0,.slice none 0 0] 75)):=((Grew.refl w).alloc _).alloc _
 have HA:=Hid.mk hA
 clear hA
 cases hr:rightB n xs
 ·rw [hr,if_neg (by simp)] at HC
  simp only [hr] at HR
  go_enter Tryz.func106,Tryz.ntmps106
  go_wp2_with (go_at_call 109;refine HR.mono ?_;rintro e w1 ⟨rfl,hg⟩;obtain ⟨p0,p1,p2,p3,p4⟩:=cells2 ((hg.below.block (w.heap.size+1) (by simp)).trans box_at1))
  have hCe:=HC.out
  subst hCe
  refine bodyPost_ret (v:=.tuple #[.agg #[.int .i64 0,.slice none 0 0],.int .i64 13]) (by simp [results,Tryz.results106,go_sem,p0,p1]) rfl ⟨_,rfl,OR.nil _ _,?_⟩
  exact ((HA.out.trans hg).below.setCell (p:=⟨w.heap.size+1,0,none⟩) (Nat.le_succ _) _).setCell (p:=⟨w.heap.size+1,1,none⟩) (Nat.le_succ _) _
 ·rw [hr,if_pos rfl] at HC
  simp only [hr] at HR
  go_enter Tryz.func106,Tryz.ntmps106
  go_wp2_with (first | (go_at_call 109;refine HR.mono ?_;rintro e w1 ⟨rfl,hg⟩;obtain ⟨r0,r1,r2,r3,r4⟩:=cells2 ((hg.below.block w.heap.size (by simp;omega)).trans box_at);have hR1:=(hg.below.block (w.heap.size+1) (by simp)).trans box_at1;have hlt1:w.heap.size+1<w1.heap.size:=(Array.getElem?_eq_some_iff.1 hR1).1) | (go_at_call 110;refine (HCa _ (by exact HS.out.below (HA.out.trans hg).below)).mono ?_;rintro e w2 ⟨v,rfl,hO,hb2⟩;obtain ⟨a',cap',rfl,-⟩:=hO.shape;obtain ⟨p0,p1,p2,p3,p4⟩:=cells2 ((hb2.block (w.heap.size+1) hlt1).trans hR1)))
  have hCe:=HC.out
  subst hCe
  refine bodyPost_ret (v:=.tuple #[.agg #[.int .i64 D.1,.slice a' D.2.1.length cap'],.int .i64 D.2.2]) (by simp [results,Tryz.results106,go_sem,p0,p1]) rfl ⟨_,rfl,?_,?_⟩
  ·exact OR.mono ((hO.setBelow (a:=⟨w.heap.size+1,0,none⟩) hlt1 _).setBelow (a:=⟨w.heap.size+1,1,none⟩) hlt1 _) (by omega)
  ·exact (((HA.out.trans hg).below.trans (hb2.mono (by omega))).setCell (p:=⟨w.heap.size+1,0,none⟩) (Nat.le_succ _) _).setCell (p:=⟨w.heap.size+1,1,none⟩) (Nat.le_succ _) _
end Go.Proofs.YtgfgpjcnfnopnaaGreat
