/- How a slice of pairs of numbers lies in memory, and the contract of level.right. -/
import Derived.Test.YtgfgpjcnfnopnaaGreatProg
import Derived.WalkKit
import Derived.WalkSpells
import Derived.WalkLawsBesides
import Derived.Sort.Grow
namespace Go.Proofs.YtgfgpjcnfnopnaaGreat
open Go.RowKit Go.Sort
def Grew (w w':World):Prop:=∃q os,w'=grow (w.drewN q) os
theorem Grew.refl (w:World):Grew w w:=⟨0,#[],by simp [grow];rfl⟩
theorem Grew.trans {a b c:World}(h:Grew a b) (k:Grew b c):Grew a c:=by
 obtain ⟨q,os,rfl⟩:=h
 obtain ⟨r,ps,rfl⟩:=k
 exact ⟨q+r,os++ps,by rw [←grow_grow,show (grow (a.drewN q) os).drewN r=grow ((a.drewN q).drewN r) os from rfl,World.drewN_drewN]⟩
theorem Grew.alloc {a b:World}(h:Grew a b) (o:Obj):Grew a (b.alloc o):=h.trans ⟨0,#[o],by rw [alloc_eq_grow];rfl⟩
theorem Grew.drewN {a b:World}(h:Grew a b) (n:Nat):Grew a (b.drewN n):=h.trans ⟨n,#[],by simp⟩
theorem Grew.drew {a b:World}(h:Grew a b):Grew a b.drew:=h.drewN 1
theorem Grew.below {a b:World}(h:Grew a b):Below a.heap.size a b:=by
 obtain ⟨q,os,rfl⟩:=h
 exact ⟨rfl,rfl,rfl,by simp [World.drewN],fun k hk=>by rw [heap_grow_old _ _ (by simpa [World.drewN] using hk)];rfl⟩
def SL (w:World) (a:Option Addr) (xs:List (Int×Int)):Prop :=
 xs=[]∨∃b off,a=some ⟨b,off,none⟩∧b<w.heap.size∧∀i,i<xs.length→w.cell? ⟨b,off+i*2,none⟩=some (.int .i64 (xs[i]?.getD (0,0)).1)∧w.cell? ⟨b,off+i*2+1,none⟩=some (.int .i64 (xs[i]?.getD (0,0)).2)
theorem SL.below {w w':World}{a:Option Addr}{xs:List (Int×Int)}(h:SL w a xs) (hb:Below w.heap.size w w'):SL w' a xs:=by
 rcases h with h | ⟨b,off,ha,hlt,hc⟩
 ·exact Or.inl h
 ·refine Or.inr ⟨b,off,ha,Nat.lt_of_lt_of_le hlt hb.size,fun i hi=>?_⟩
  rw [hb.cell (p:=⟨b,off+i*2,none⟩) hlt,hb.cell (p:=⟨b,off+i*2+1,none⟩) hlt];exact hc i hi
theorem Hid.mk {p:Prop}(h:p):Hid p:=h
theorem SL.at {w:World}{a:Option Addr}{xs:List (Int×Int)}(h:SL w a xs) {k:Nat}(hk:k<xs.length) :
  ∃b off x y,a=some ⟨b,off,none⟩∧b<w.heap.size∧w.cell? ⟨b,off+k*2,none⟩=some (.int .i64 x)∧w.cell? ⟨b,off+k*2+1,none⟩=some (.int .i64 y)∧Hid (xs[k]?=some (x,y)):=by
 rcases h with h | ⟨b,off,ha,hlt,hc⟩
 ·subst h;simp at hk
 ·exact ⟨b,off,_,_,ha,hlt,(hc k hk).1,(hc k hk).2,by unfold Hid;simp [hk]⟩
def inR (n:Int):Bool:=decide (0≤n)&&decide (n≤1000)
set_option maxHeartbeats 400000 in
theorem inRange_any (n:Int) (w:World):Calls Tryz.prog 112 #[.int .i64 n] w fun e w'=>e=.returned (.bool (inR n))∧w'=w:=by
 by_cases h0:0≤n
 ·by_cases h1:n≤1000
  all_goals
   go_enter Tryz.func112,Tryz.ntmps112
   go_wp2
   go_ret
   exact ⟨by simp [inR,h0,h1],rfl⟩
 ·go_enter Tryz.func112,Tryz.ntmps112
  go_wp2
  go_ret
  exact ⟨by simp [inR];omega,rfl⟩
def rightB (n:Int) (xs:List (Int×Int)):Bool:=decide (xs.length≤64)&&inR n&&xs.all fun p=>inR p.1&&inR p.2
theorem take_all {p:Int×Int→Bool}{xs:List (Int×Int)}{k:Nat}{z:Int×Int}(h:xs[k]?=some z):(xs.take (k+1)).all p=((xs.take k).all p&&p z):=by
 obtain ⟨hk,rfl⟩:=List.getElem?_eq_some_iff.1 h
 rw [List.take_succ_eq_append_getElem hk,List.all_append];simp
theorem all_no {p:Int×Int→Bool}{xs:List (Int×Int)}{k:Nat}{z:Int×Int}(h:xs[k]?=some z) (h0:p z=false):xs.all p=false:=by
 obtain ⟨hk,rfl⟩:=List.getElem?_eq_some_iff.1 h
 rw [List.all_eq_false];exact ⟨xs[k],List.getElem_mem hk,by simpa using h0⟩
set_option maxHeartbeats 800000 in
theorem right_any (n:Int) (xs:List (Int×Int)) (a:Option Addr) (cap:Nat) (w:World) (hS:SL w a xs) (hn:xs.length≤35184372088832) :
  Calls Tryz.prog 109 #[.agg #[.int .i64 n,.slice a xs.length cap]] w fun e w'=>e=.returned (.bool (rightB n xs))∧Grew w w':=by
 by_cases hlen:xs.length≤64
 ·have HS:=Hid.mk hS
  clear hS
  cases hN:inR n
  ·go_enter Tryz.func109,Tryz.ntmps109
   go_wp2_with (go_at_call 112;refine (inRange_any _ _).mono ?_;rintro e w' ⟨rfl,rfl⟩)
   go_ret
   exact ⟨by simp [rightB,hN],(Grew.refl _).alloc _⟩
  ·go_enter Tryz.func109,Tryz.ntmps109
   go_wp2_with (go_at_call 112;refine (inRange_any _ _).mono ?_;rintro e w' ⟨rfl,rfl⟩)
   go_loopw [18] (fun i wr=>∃k:Nat,k≤xs.length∧i=.int .i64 k∧Grew w wr∧(xs.take k).all (fun p=>inR p.1&&inR p.2)=true) (fun i _=>xs.length - (intOf i).toNat)
   case atStart=>exact ⟨0,Nat.zero_le _,rfl,(Grew.refl _).alloc _,by simp⟩
   case round =>
    obtain ⟨k,hk,rfl,hb,hall⟩:=hrel
    have HA:=Hid.mk hall
    clear hall
    by_cases hlt:k<xs.length
    ·obtain ⟨b,off,x,y,rfl,hbl,hc0,hc1,hxy⟩:=(HS.out.below hb.below).at hlt
     have hbb:=hb.below.size
     cases h0:inR x
     ·go_wp2_with (go_at_call 112;refine (inRange_any _ _).mono ?_;rintro e w' ⟨rfl,rfl⟩)
      go_ret
      exact ⟨by simp [rightB,all_no (p:=fun p=>inR p.1&&inR p.2) hxy.out (by simp [h0])],hb.alloc _⟩
     ·cases h1:inR y
      ·go_wp2_with (go_at_call 112;refine (inRange_any _ _).mono ?_;rintro e w' ⟨rfl,rfl⟩)
       go_ret
       exact ⟨by simp [rightB,all_no (p:=fun p=>inR p.1&&inR p.2) hxy.out (by simp [h1])],hb.alloc _⟩
      ·go_wp2_with (go_at_call 112;refine (inRange_any _ _).mono ?_;rintro e w' ⟨rfl,rfl⟩)
       go_roundw
       case rel=>exact ⟨k+1,hlt,by go_num,hb.alloc _,by rw [take_all hxy.out,HA.out];simp [h0,h1]⟩
       case measure=>simp [intOf];omega
    ·go_wp2
     go_ret
     have hk':k=xs.length:=by omega
     subst hk'
     have hA:=HA.out
     rw [List.take_length] at hA
     exact ⟨by simp only [rightB,hN,hA];simp [hlen],hb⟩
 ·go_enter Tryz.func109,Tryz.ntmps109
  go_wp2
  go_ret
  exact ⟨by simp [rightB,hlen],(Grew.refl _).alloc _⟩
end Go.Proofs.YtgfgpjcnfnopnaaGreat
