/- The contracts of telamonlaw1.V and telamonref1.ExactLevel. -/
import Derived.Test.YtgfgpjcnfnopnaaGreatI
import Derived.Laws.StructEq
import Derived.Test.YtgfgpjcnfnopnaaGreatWC
namespace Go.Proofs.YtgfgpjcnfnopnaaGreat
set_option maxRecDepth 100000
set_option maxHeartbeats 40000000
open Go.RowKit Go.Sort Go.Shelf Go.Lib
def exactB (na:Int) (xs:List (Int×Int)) (nb:Int) (ys:List (Int×Int)):Bool:=decide (na=nb)&&decide (xs=ys)
theorem exact_len {na nb:Int}{xs ys:List (Int×Int)}(h:xs.length≠ys.length):exactB na xs nb ys=false:=by
 simp [exactB];intro _ e;exact h (by rw [e])
theorem exact_at {na nb:Int}{xs ys:List (Int×Int)}{k:Nat}{p q:Int×Int}(h1:xs[k]?=some p) (h2:ys[k]?=some q) (h:p≠q):exactB na xs nb ys=false:=by
 simp [exactB];intro _ e;rw [e,h2] at h1;exact h (by simpa using h1.symm)
theorem take_eq {xs ys:List (Int×Int)}{k:Nat}{p:Int×Int}(h1:xs[k]?=some p) (h2:ys[k]?=some p) (h:xs.take k=ys.take k):xs.take (k+1)=ys.take (k+1):=by
 rw [List.take_add_one,List.take_add_one,h,h1,h2]
theorem run_neqLVar (x y x' y':Int) (w:World):Sem.run Tryz.prog (binOp .neq 109 (.agg #[.int .i64 x,.int .i64 y]) (.agg #[.int .i64 x',.int .i64 y'])) w=.ok (.bool (!(x==x'&&y==y'))) w:=by
 have u3:=Tryz.underlying3
 have a3:=Tryz.isAgg3
 have z3:=Tryz.sizeOf3
 have hS:Tryz.prog.underlying 109=some (.struct (Tryz.prog.fieldsOf 109)):=by kernel_rfl
 have hp:Tryz.prog.stoodInHeld 109=false:=by kernel_rfl
 rw [run_neq_struct,show (10000:Nat)=9999+1 from rfl,run_equalIn_agg w 9999 109 _ _ hS hp]
 simp only [Program.fieldsOf,Tryz.underlying109]
 go_simp
 by_cases h1:x=x'<;>by_cases h2:y=y'<;>simp [h1,h2]
theorem run_guardLVar (op:BinOp) (a b:Operand) (p q:Array Value) (w:World):Sem.run Tryz.prog (eqGuard op 109 a b (.agg p) (.agg q)) w=.ok () w:=run_eqGuard_agg w op 109 a b p q (by kernel_rfl)
theorem Exact_any (na nb:Int) (xs ys:List (Int×Int)) (aa ab:Option Addr) (ca cb:Nat) (w:World) (hSa:SL w aa xs) (hSb:SL w ab ys) (hxn:xs.length≤4398046511104) (_hyn:ys.length≤4398046511104) :
  Calls Tryz.prog 47 #[.agg #[.int .i64 na,.slice aa xs.length ca],.agg #[.int .i64 nb,.slice ab ys.length cb]] w fun e w'=>e=.returned (.bool (exactB na xs nb ys))∧Grew w w':=by
 obtain ⟨W0,hW0⟩:∃W0,(w.alloc (.cells #[.int .i64 na,.slice aa xs.length ca] 75)).alloc (.cells #[.int .i64 nb,.slice ab ys.length cb] 75)=W0:=⟨_,rfl⟩
 have HA:Hid (Grew w W0):=by rw [←hW0];exact ((Grew.refl w).alloc _).alloc _
 have HB0:Hid (W0.heap[w.heap.size]?=some (.cells #[.int .i64 na,.slice aa xs.length ca] 75 (0,0))):=by rw [←hW0];exact box_at
 have HB1:Hid (W0.heap[w.heap.size+1]?=some (.cells #[.int .i64 nb,.slice ab ys.length cb] 75 (0,0))):=by rw [←hW0];exact box_at1
 have HSZ:Hid (W0.heap.size=w.heap.size+2):=by unfold Hid;rw [←hW0];simp
 have HW0:=Hid.mk hW0
 have HSa:=Hid.mk hSa
 have HSb:=Hid.mk hSb
 have mx:=mixed
 clear hW0 hSa hSb
 by_cases hN:na=nb
 ·subst hN
  by_cases hL:xs.length=ys.length
  ·have hL':((xs.length:Int) != (ys.length:Int))=false:=by simp [hL]
   have HL:=Hid.mk hL
   clear hL
   go_enter Tryz.func47,Tryz.ntmps47
   go_wp2
   rw [HW0.out]
   go_loopw [5] (fun i wr=>∃k:Nat,k≤xs.length∧i=.int .i64 k∧Grew W0 wr∧xs.take k=ys.take k) (fun i _=>xs.length - (intOf i).toNat)
   case atStart=>exact ⟨0,Nat.zero_le _,rfl,Grew.refl _,rfl⟩
   case round =>
    obtain ⟨k,hk,rfl,hb,htk⟩:=hrel
    have HT:=Hid.mk htk
    clear htk
    obtain ⟨a0,a1,-,-,-⟩:=cells2 ((hb.below.block w.heap.size (by rw [HSZ.out];omega)).trans HB0.out)
    obtain ⟨b0,b1,-,-,-⟩:=cells2 ((hb.below.block (w.heap.size+1) (by rw [HSZ.out];omega)).trans HB1.out)
    have hgw:=HA.out.trans hb
    by_cases hlt:k<xs.length
    ·obtain ⟨b,off,x,y,rfl,hbl,hc0,hc1,hxy⟩:=(HSa.out.below hgw.below).at hlt
     obtain ⟨b',off',x',y',rfl,hbl',hc0',hc1',hxy'⟩:=(HSb.out.below hgw.below).at (k:=k) (by rw [←HL.out];exact hlt)
     have z1:(k:Int)<(xs.length:Int):=by omega
     have z2:(k:Int)<(ys.length:Int):=by have:=HL.out;omega
     have hq:=fun W=>run_neqLVar x y x' y' W
     have hgu:=run_guardLVar
     by_cases he:x=x'∧y=y'
     ·have hb1:(x==x'&&y==y')=true:=by simp [he.1,he.2]
      simp only [hb1] at hq
      have HX:Hid (xs[k]?=some (x',y')):=by have:=hxy.out;rwa [he.1,he.2] at this
      clear he hb1
      go_wp2_with fail
      go_quiet (fail)
      go_wp2
      refine ⟨⟨k+1,hlt,by go_num,hb.drewN _,take_eq HX.out hxy'.out HT.out⟩,by simp [intOf];omega⟩
     ·have hb1:(x==x'&&y==y')=false:=by rw [Bool.eq_false_iff];simpa using he
      simp only [hb1] at hq
      have HE:Hid (exactB na xs na ys=false):=exact_at hxy.out hxy'.out (by simpa using he)
      clear he hb1
      go_wp2_with fail
      go_quiet (fail)
      go_wp2
      go_ret
      exact ⟨by rw [HE.out];rfl,(HA.out.trans hb).drewN _⟩
    ·have HE:Hid (exactB na xs na ys=true):=by
      have h1:xs.take k=xs:=List.take_of_length_le (by omega)
      have h2:ys.take k=ys:=List.take_of_length_le (by have:=HL.out;omega)
      have h3:=HT.out
      rw [h1,h2] at h3
      unfold Hid;simp [exactB,h3]
     go_wp2
     go_ret
     exact ⟨by rw [HE.out];rfl,HA.out.trans hb⟩
  ·have hL':((xs.length:Int) != (ys.length:Int))=true:=by simp;omega
   have HE:Hid (exactB na xs na ys=false):=exact_len hL
   clear hL
   go_enter Tryz.func47,Tryz.ntmps47
   go_wp2
   go_ret
   exact ⟨by rw [HE.out];rfl,by have:=HA.out;rwa [←HW0.out] at this⟩
 ·have hN':(na != nb)=true:=by simp [hN]
  have HE:Hid (exactB na xs nb ys=false):=by unfold Hid;simp [exactB,hN]
  clear hN
  go_enter Tryz.func47,Tryz.ntmps47
  go_wp2
  go_ret
  exact ⟨by rw [HE.out];rfl,by have:=HA.out;rwa [←HW0.out] at this⟩
theorem inR_no {x:Int}(h:inR x=false):x<0∨1000<x:=by simp [inR] at h;omega
theorem inR_yes {x:Int}(h:inR x=true):0≤x∧x≤1000:=by simpa [inR] using h
theorem rright_any (n:Int) (xs:List (Int×Int)) (a:Option Addr) (cap:Nat) (w:World) (hS:SL w a xs) (hn:xs.length≤35184372088832) :
  Calls Tryz.prog 104 #[.agg #[.int .i64 n,.slice a xs.length cap]] w fun e w'=>e=.returned (.bool (rightB n xs))∧Grew w w':=by
 have HS:=Hid.mk hS
 clear hS
 by_cases hlen:xs.length≤64
 ·cases hN:inR n
  ·have HE:Hid (rightB n xs=false):=by unfold Hid;simp [rightB,hN]
   rcases inR_no hN with h | h
   all_goals
    clear hN
    go_enter Tryz.func104,Tryz.ntmps104
    go_wp2
    go_ret
    exact ⟨by rw [HE.out];rfl,(Grew.refl _).alloc _⟩
  ·obtain ⟨hn0,hn1⟩:=inR_yes hN
   have HN:=Hid.mk hN
   clear hN
   go_enter Tryz.func104,Tryz.ntmps104
   go_wp2
   go_loopw [3] (fun i wr=>∃k:Nat,k≤xs.length∧i=.int .i64 k∧Grew (w.alloc (.cells #[.int .i64 n,.slice a xs.length cap] 75)) wr∧(xs.take k).all (fun p=>inR p.1&&inR p.2)=true) (fun i _=>xs.length - (intOf i).toNat)
   case atStart=>exact ⟨0,Nat.zero_le _,rfl,Grew.refl _,by simp⟩
   case round =>
    obtain ⟨k,hk,rfl,hb,hall⟩:=hrel
    have HA:=Hid.mk hall
    clear hall
    obtain ⟨q0,q1,-,-,q4⟩:=cells2 ((hb.below.block w.heap.size (by simp)).trans (alloc_new _ _))
    have hgw:Grew w wr:=((Grew.refl w).alloc _).trans hb
    by_cases hlt:k<xs.length
    ·obtain ⟨b,off,x,y,rfl,hbl,hc0,hc1,hxy⟩:=(HS.out.below hgw.below).at hlt
     cases hx:inR x&&inR y
     ·have HE:Hid (rightB n xs=false):=by unfold Hid;simp [rightB,all_no (p:=fun p=>inR p.1&&inR p.2) hxy.out hx]
      have hbad:x<0∨1000<x∨(0≤x∧x≤1000∧y<0)∨(0≤x∧x≤1000∧1000<y):=by
       simp [inR] at hx;omega
      clear hx
      rcases hbad with h | h | ⟨h0,h1,h⟩ | ⟨h0,h1,h⟩
      all_goals
       go_wp2
       go_ret
       exact ⟨by rw [HE.out];rfl,hgw.alloc _⟩
     ·have H1:=Hid.mk hx
      obtain ⟨h1,h2⟩:(0≤x∧x≤1000)∧(0≤y∧y≤1000):=by simpa [inR] using hx
      obtain ⟨h10,h11⟩:=h1
      obtain ⟨h20,h21⟩:=h2
      clear hx
      go_wp2
      refine ⟨⟨k+1,hlt,by go_num,hb.alloc _,by rw [take_all hxy.out,HA.out];simpa using H1.out⟩,by simp [intOf];omega⟩
    ·go_wp2
     go_ret
     have hk':k=xs.length:=by omega
     subst hk'
     have hA:=HA.out
     rw [List.take_length] at hA
     exact ⟨by simp only [rightB,HN.out,hA];simp [hlen],hgw⟩
 ·have HE:Hid (rightB n xs=false):=by unfold Hid;simp [rightB,hlen]
  rcases (show n<0∨1000<n∨(0≤n∧n≤1000) by omega) with h | h | ⟨h0,h1⟩
  all_goals
   go_enter Tryz.func104,Tryz.ntmps104
   go_wp2
   go_ret
   exact ⟨by rw [HE.out];rfl,(Grew.refl _).alloc _⟩
theorem Equal_any (xs ys:List (Int×Int)) (aa ab:Option Addr) (ca cb:Nat) (w:World) (hSa:SL w aa xs) (hSb:SL w ab ys) (hxn:xs.length≤4398046511104) (_hyn:ys.length≤4398046511104) :
  Calls Tryz.prog 111 #[.slice aa xs.length ca,.slice ab ys.length cb] w fun e w'=>e=.returned (.bool (exactB 0 xs 0 ys))∧Grew w w':=by
 have HSa:=Hid.mk hSa
 have HSb:=Hid.mk hSb
 have mx:=mixed
 clear hSa hSb
 by_cases hL:xs.length=ys.length
 ·have hL':((xs.length:Int) != (ys.length:Int))=false:=by simp [hL]
  have HL:=Hid.mk hL
  clear hL
  go_enter Tryz.func111,Tryz.ntmps111
  go_wp2
  go_loopw [13] (fun i wr=>∃k:Nat,k≤xs.length∧i=.int .i64 k∧Grew w wr∧xs.take k=ys.take k) (fun i _=>xs.length - (intOf i).toNat)
  case atStart=>exact ⟨0,Nat.zero_le _,rfl,Grew.refl _,rfl⟩
  case round =>
   obtain ⟨k,hk,rfl,hb,htk⟩:=hrel
   have HT:=Hid.mk htk
   clear htk
   by_cases hlt:k<xs.length
   ·obtain ⟨b,off,x,y,rfl,hbl,hc0,hc1,hxy⟩:=(HSa.out.below hb.below).at hlt
    obtain ⟨b',off',x',y',rfl,hbl',hc0',hc1',hxy'⟩:=(HSb.out.below hb.below).at (k:=k) (by rw [←HL.out];exact hlt)
    have z1:(k:Int)<(xs.length:Int):=by omega
    have z2:(k:Int)<(ys.length:Int):=by have:=HL.out;omega
    have hq:=fun W=>run_neqLVar x y x' y' W
    have hgu:=run_guardLVar
    by_cases he:x=x'∧y=y'
    ·have hb1:(x==x'&&y==y')=true:=by simp [he.1,he.2]
     simp only [hb1] at hq
     have HX:Hid (xs[k]?=some (x',y')):=by have:=hxy.out;rwa [he.1,he.2] at this
     clear he hb1
     go_wp2_with fail
     go_quiet (fail)
     go_wp2
     refine ⟨⟨k+1,hlt,by go_num,hb.drewN _,take_eq HX.out hxy'.out HT.out⟩,by simp [intOf];omega⟩
    ·have hb1:(x==x'&&y==y')=false:=by rw [Bool.eq_false_iff];simpa using he
     simp only [hb1] at hq
     have HE:Hid (exactB 0 xs 0 ys=false):=exact_at hxy.out hxy'.out (by simpa using he)
     clear he hb1
     go_wp2_with fail
     go_quiet (fail)
     go_wp2
     go_ret
     exact ⟨by rw [HE.out];rfl,hb.drewN _⟩
   ·have HE:Hid (exactB 0 xs 0 ys=true):=by
     have h1:xs.take k=xs:=List.take_of_length_le (by omega)
     have h2:ys.take k=ys:=List.take_of_length_le (by have:=HL.out;omega)
     have h3:=HT.out
     rw [h1,h2] at h3
     unfold Hid;simp [exactB,h3]
    go_wp2
    go_ret
    exact ⟨by rw [HE.out];rfl,hb⟩
 ·have hL':((xs.length:Int) != (ys.length:Int))=true:=by simp;omega
  have HE:Hid (exactB 0 xs 0 ys=false):=exact_len hL
  clear hL
  go_enter Tryz.func111,Tryz.ntmps111
  go_wp2
  go_ret
  exact ⟨by rw [HE.out];rfl,Grew.refl _⟩
theorem sameLevel_any (na nb:Int) (xs ys:List (Int×Int)) (aa ab:Option Addr) (ca cb:Nat) (w:World) (hSa:SL w aa xs) (hSb:SL w ab ys) (hxn:xs.length≤4398046511104) (hyn:ys.length≤4398046511104) :
  Calls Tryz.prog 107 #[.agg #[.int .i64 na,.slice aa xs.length ca],.agg #[.int .i64 nb,.slice ab ys.length cb]] w fun e w'=>e=.returned (.bool (exactB na xs nb ys))∧Grew w w':=by
 have HQ:=fun (W:World) (h:Grew w W)=>Equal_any xs ys aa ab ca cb W (hSa.below h.below) (hSb.below h.below) hxn hyn
 clear hSa hSb
 have HG:=fun (o1 o2:Obj)=>((Grew.refl w).alloc o1).alloc o2
 by_cases hN:na=nb
 ·subst hN
  rw [show exactB na xs na ys=exactB 0 xs 0 ys by simp [exactB]]
  generalize exactB 0 xs 0 ys=r at *
  go_enter Tryz.func107,Tryz.ntmps107
  go_wp2_with fail
  refine (HQ _ (HG _ _)).mono ?_
  rintro e w1 ⟨rfl,hg⟩
  go_wp2
  go_ret
  exact ⟨rfl,(HG _ _).trans hg⟩
 ·have hb:(na==nb)=false:=by simpa using hN
  rw [show exactB na xs nb ys=false by simp [exactB,hN]]
  clear hN
  go_enter Tryz.func107,Tryz.ntmps107
  go_wp2
  go_ret
  exact ⟨rfl,HG _ _⟩
def canonB (l:LvT):Bool:=(normR l.1 l.2).2.2==0&&exactB (normR l.1 l.2).1 (normR l.1 l.2).2.1 l.1 l.2
theorem normR_len (n:Int) (xs:List (Int×Int)):(normR n xs).2.1.length≤xs.length:=by
 unfold normR canonR
 split
 ·split
  ·exact tidyL_le xs
  ·simp
 ·simp
theorem tcanonical_any (n:Int) (xs:List (Int×Int)) (a:Option Addr) (cap:Nat) (w:World) (hS:SL w a xs) (hn:xs.length≤4398046511104) :
  Calls Tryz.prog 99 #[.agg #[.int .i64 n,.slice a xs.length cap]] w fun e w'=>e=.returned (.bool (canonB (n,xs)))∧RowKit.Below w.heap.size w w':=by
 have HN:=fun (W:World) (h:SL W a xs)=>Norm_any n xs a cap W h hn
 have HL:=normR_len n xs
 have HC:Hid (canonB (n,xs)=((normR n xs).2.2==0&&exactB (normR n xs).1 (normR n xs).2.1 n xs)):=rfl
 generalize canonB (n,xs)=C at HC ⊢
 obtain ⟨m,ys,e,hD⟩:∃m ys e,normR n xs=(m,ys,e):=⟨_,_,_,rfl⟩
 rw [hD] at HN HC HL
 simp only [] at HC HL
 clear hD
 have HS:=Hid.mk hS
 clear hS
 by_cases he:e=0
 ·subst he
  have HC:Hid (C=exactB m ys n xs):=by unfold Hid;rw [HC.out];rfl
  go_enter Tryz.func99,Tryz.ntmps99
  go_wp2_with fail
  refine (HN _ (HS.out.below ((Grew.refl w).alloc _).below)).mono ?_
  rintro e w1 ⟨v,rfl,hO,hb1⟩
  obtain ⟨a',cap',rfl,hS1,-⟩:=hO.shape
  have hz1:w.heap.size<w1.heap.size:=by have:=hb1.size;simp at this;omega
  have HB1:Hid (RowKit.Below w.heap.size w w1):=(((Below.refl w.heap.size w).alloc (Nat.le_refl _) _).trans (hb1.mono (by simp)))
  obtain ⟨x0,x1,-,-,-⟩:=cells2 ((hb1.block w.heap.size (by simp)).trans (alloc_new _ _))
  have HSL:=fun (W:World) (g:RowKit.Below w1.heap.size w1 W)=>sameLevel_any m n ys xs a' a cap' cap W (hS1.below g) (HS.out.below (HB1.out.trans (g.mono HB1.out.size))) (by omega) hn
  generalize exactB m ys n xs=r at *
  clear hO hS1 hb1
  go_wp2_with fail
  refine (HSL _ ((Below.refl _ _).alloc (Nat.le_refl _) _)).mono ?_
  rintro e w2 ⟨rfl,hg⟩
  go_wp2
  go_ret
  exact ⟨by rw [HC.out];rfl,HB1.out.trans (((Below.refl _ _).alloc (Nat.le_refl _) _).trans ((hg.below.mono (by simp))) |>.mono HB1.out.size)⟩
 ·have heb:(e==0)=false:=by simpa using he
  have HC:Hid (C=false):=by unfold Hid;rw [HC.out,heb];rfl
  clear he
  go_enter Tryz.func99,Tryz.ntmps99
  go_wp2_with fail
  refine (HN _ (HS.out.below ((Grew.refl w).alloc _).below)).mono ?_
  rintro e w1 ⟨v,rfl,hO,hb1⟩
  obtain ⟨a',cap',rfl,-,-⟩:=hO.shape
  have HB1:Hid (RowKit.Below w.heap.size w w1):=(((Below.refl w.heap.size w).alloc (Nat.le_refl _) _).trans (hb1.mono (by simp)))
  have hz1:w.heap.size<w1.heap.size:=by have:=hb1.size;simp at this;omega
  clear hO hb1
  go_wp2
  go_ret
  exact ⟨by rw [HC.out];rfl,HB1.out.alloc HB1.out.size _⟩
theorem uncanonical_any (n:Int) (xs:List (Int×Int)) (a:Option Addr) (cap:Nat) (w:World) (hS:SL w a xs) (hn:xs.length≤4398046511104) :
  Calls Tryz.prog 101 #[.agg #[.int .i64 n,.slice a xs.length cap]] w fun e w'=>e=.returned (.bool (!canonB (n,xs)))∧RowKit.Below w.heap.size w w':=by
 have HN:=fun (W:World) (h:SL W a xs)=>tcanonical_any n xs a cap W h hn
 have HS:=Hid.mk hS
 clear hS
 generalize canonB (n,xs)=C at *
 go_enter Tryz.func101,Tryz.ntmps101
 go_wp2_with fail
 refine (HN _ (HS.out.below ((Grew.refl w).alloc _).below)).mono ?_
 rintro e w1 ⟨rfl,hb1⟩
 go_wp2
 go_ret
 exact ⟨rfl,((Below.refl w.heap.size w).alloc (Nat.le_refl _) _).trans (hb1.mono (by simp))⟩
end Go.Proofs.YtgfgpjcnfnopnaaGreat
