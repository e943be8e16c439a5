/- Signatures: as plain data, and in memory. -/
import Derived.Test.YtgfgpjcnfnopnaaGreatQK
namespace Go.Proofs.YtgfgpjcnfnopnaaGreat
open Go.RowKit Go.Sort Go.Lib
def namesM (p:Int) (d:Dl):(ByteArray→Option (Int×Int))×Bool:=(namesD d).foldl (putN p) (fun _=>none,true)
def tabM (ds:List Dl):ByteArray→Option (Int×Int):=ds.zipIdx.foldl (fun M x=>joinM M (namesM (x.2:Int) x.1).1) (fun _=>none)
theorem tabM_snoc (ds:List Dl) (d:Dl):tabM (ds++[d])=joinM (tabM ds) (namesM (ds.length:Int) d).1:=by
 unfold tabM
 rw [List.zipIdx_append,List.foldl_append]
 simp
def twiceB (ds:List Dl) (d:Dl):Bool:=!(namesM (ds.length:Int) d).2||(namesD d).any fun x=>(tabM ds x.1).isSome
def putRes (ds:List Dl) (d:Dl):Int:=match declsRes [d] with
 | .error e=>e
 | .ok _=>if (termsD (cleanD d)).any openT=true then 11 else if 500≤ds.length then 2 else if twiceB ds (cleanD d)=true then 20 else 0
theorem updM_some {M:ByteArray→Option (Int×Int)}{s s':ByteArray}{x:Int×Int}:(updM M s x s').isSome=true↔s'=s∨(M s').isSome=true:=by
 unfold updM
 split
 ·rename_i h
  have:s'=s:=keyS_one (by unfold keyS;rw [h])
  simp [this]
 ·rename_i h
  constructor
  ·exact Or.inr
  ·rintro (rfl | h1)
   ·exact absurd rfl h
   ·exact h1
theorem fold_some (p:Int):∀(l:List (ByteArray×Int)) (st:(ByteArray→Option (Int×Int))×Bool) (s:ByteArray),((l.foldl (putN p) st).1 s).isSome=true↔(st.1 s).isSome=true∨∃x∈l,x.1=s
 | [],st,s=>by simp
 | x::l,st,s=>by
  rw [List.foldl_cons,fold_some p l]
  unfold putN
  split
  ·rename_i h
   simp only [List.mem_cons,exists_eq_or_imp]
   constructor
   ·rintro (h1 | h1)
    ·exact Or.inl h1
    ·exact Or.inr (Or.inr h1)
   ·rintro (h1 | rfl | h1)
    ·exact Or.inl h1
    ·exact Or.inl h
    ·exact Or.inr h1
  ·simp only [List.mem_cons,exists_eq_or_imp]
   rw [updM_some]
   constructor
   ·rintro ((rfl | h1) | h1)
    ·exact Or.inr (Or.inl rfl)
    ·exact Or.inl h1
    ·exact Or.inr (Or.inr h1)
   ·rintro (h1 | rfl | h1)
    ·exact Or.inl (Or.inr h1)
    ·exact Or.inl (Or.inl rfl)
    ·exact Or.inr h1
theorem namesM_some {p:Int}{d:Dl}{s:ByteArray}:((namesM p d).1 s).isSome=true↔∃x∈namesD d,x.1=s:=by
 unfold namesM
 rw [fold_some]
 simp
theorem joinM_some {M N:ByteArray→Option (Int×Int)}{s:ByteArray}:(joinM M N s).isSome=true↔(N s).isSome=true∨(M s).isSome=true:=by
 unfold joinM
 split
 ·rename_i h;simp [h]
 ·rename_i h;simp [h]
structure OwnD (d:Dl):Prop where
 right:RightD d
 clean:cleanD d=d
 sm:smD d
theorem namesD_size {d:Dl}(h:OwnD d):∀x∈namesD d,x.1.size≤65:=by
 intro x hx
 have hn:=h.right.name.2
 unfold namesD at hx
 simp only [List.mem_cons,List.mem_append,List.mem_map] at hx
 rcases hx with rfl | hx | ⟨c,hc,rfl⟩
 ·simp only;omega
 ·split at hx
  ·rw [List.mem_singleton.1 hx]
   have:(d.name++elimB).size=d.name.size+5:=by simp [elimB];rfl
   simp only
   omega
  ·cases hx
 ·have hk:d.kind=3:=Decidable.byContradiction fun hk=>by
   have hcl:=congrArg Dl.ctors h.clean
   unfold cleanD at hcl
   simp only [if_neg hk] at hcl
   rw [←hcl] at hc
   simp at hc
  have:=(h.right.ctors hk c.1 (List.fst_mem_of_mem_zipIdx hc)).1
  simp only
  omega
theorem tab_fold:∀(l:List (Dl×Nat)) (M:ByteArray→Option (Int×Int)) (s:ByteArray),((l.foldl (fun M x=>joinM M (namesM (x.2:Int) x.1).1) M) s).isSome=true→(M s).isSome=true∨∃x∈l,∃y∈namesD x.1,y.1=s
 | [],M,s,h=>Or.inl h
 | x::l,M,s,h=>by
  rw [List.foldl_cons] at h
  rcases tab_fold l _ s h with h | ⟨y,hy,h⟩
  ·rw [joinM_some,namesM_some] at h
   rcases h with h | h
   ·exact Or.inr ⟨x,List.mem_cons_self ..,h⟩
   ·exact Or.inl h
  ·exact Or.inr ⟨y,List.mem_cons_of_mem _ hy,h⟩
theorem tabM_some {ds:List Dl}{s:ByteArray}(h:(tabM ds s).isSome=true):∃d∈ds,∃x∈namesD d,x.1=s:=by
 rcases tab_fold _ _ s h with h | ⟨x,hx,h⟩
 ·cases h
 ·exact ⟨x.1,List.fst_mem_of_mem_zipIdx hx,h⟩
theorem tabM_big {ds:List Dl}(h:∀d∈ds,OwnD d) (s:ByteArray) (hs:¬s.size≤maxLen):tabM ds s=none:=by
 cases hM:tabM ds s with
 | none=>rfl
 | some x =>
  obtain ⟨d,hd,y,hy,rfl⟩:=tabM_some (s:=s) (by rw [hM];rfl)
  have:=namesD_size (h d hd) y hy
  have:=maxLen_60
  omega
theorem namesM_big {p:Int}{d:Dl}(h:OwnD d) (s:ByteArray) (hs:¬s.size≤maxLen):(namesM p d).1 s=none:=by
 cases hM:(namesM p d).1 s with
 | none=>rfl
 | some x =>
  obtain ⟨y,hy,rfl⟩:=namesM_some.1 (show ((namesM p d).1 s).isSome=true by rw [hM];rfl)
  have:=namesD_size h y hy
  have:=maxLen_60
  omega
theorem cleanC_clean (c:ByteArray×Tm):cleanC (cleanC c)=cleanC c:=by
 unfold cleanC
 simp [clean_clean]
theorem cleanD_clean (d:Dl):cleanD (cleanD d)=cleanD d:=by
 obtain ⟨kd,nm,lv,ty,val,pr,cs⟩:=d
 unfold cleanD
 simp only [clean_clean]
 by_cases h2:kd=2
 ·subst h2;simp [clean_clean]
 ·by_cases h3:kd=3
  ·subst h3
   simp [cleanC_clean,Function.comp_def]
  ·simp [h2,h3]
structure SB (w:World) (sb:Nat) (x y:Value):Prop where
 c0:w.cell? ⟨sb,0,none⟩=some x
 c1:w.cell? ⟨sb,1,none⟩=some y
 fz:∀o,w.frozen? ⟨sb,o,none⟩=false
theorem SB.lt {w:World}{sb:Nat}{x y:Value}(h:SB w sb x y):sb<w.heap.size:=World.block_lt_of_cell? w _ h.c0
theorem SB.keep {w w':World}{sb:Nat}{x y:Value}(h:SB w sb x y) (hb:w'.heap[sb]?=w.heap[sb]?):SB w' sb x y :=
 ⟨(World.cell?_of_block (a:=⟨sb,0,none⟩) hb).trans h.c0,(World.cell?_of_block (a:=⟨sb,1,none⟩) hb).trans h.c1,fun o=>(World.frozen?_of_block (a:=⟨sb,o,none⟩) hb).trans (h.fz o)⟩
theorem SB.all {w:World}{sb:Nat}{x y:Value}(h:SB w sb x y):w.cell? ⟨sb,0,none⟩=some x∧w.cell? ⟨sb,1,none⟩=some y∧sb<w.heap.size∧∀o,w.frozen? ⟨sb,o,none⟩=false:=⟨h.c0,h.c1,h.lt,h.fz⟩
def EDx (sb:Nat) (w:World) (P:Nat→Bool) (xs:List Value) (d:Dl):Prop:=ED w (fun k=>P k||k==sb) xs d
theorem EDx.moves (sb:Nat):Moves (EDx sb):=fun w w' P Q xs d h hs hk=>ED.moves w w' (fun k=>P k||k==sb) (fun k=>Q k||k==sb) xs d h hs fun k h1 h2=>by
 rw [Bool.or_eq_false_iff] at h2
 obtain ⟨h3,h4⟩:=hk k h1 h2.1
 exact ⟨by rw [h3,h2.2];rfl,h4⟩
theorem EDx.ed {sb:Nat}{w:World}{P:Nat→Bool}{xs:List Value}{d:Dl}(h:EDx sb w P xs d):ED w P xs d :=
 ED.moves _ _ _ _ _ _ h (Nat.le_refl _) fun _ _ h2=>⟨by rw [Bool.or_eq_false_iff] at h2;exact h2.1,rfl⟩
structure SGG (w:World) (B sb:Nat) (ds:List Dl):Prop where
 go:∃(a:Option Addr) (cap:Nat) (mv:Option Nat),SB w sb (.slice a ds.length cap) (.map mv)∧RowX 39 17 (EDx sb) w B (fun _=>false) a cap ds∧Tb w mv (100*ds.length) (tabM ds)∧(∀b,mv=some b→B≤b∧b≠sb)∧ownB a sb=false
 base:B≤sb
 len:ds.length≤500
 own:∀d∈ds,OwnD d
 nil:ds=[]→w.cell? ⟨sb,0,none⟩=some (.slice none 0 0)
theorem SGG.on {w w':World}{B sb:Nat}{ds:List Dl}(h:SGG w B sb ds) (hb:RowKit.Below w.heap.size w w'):SGG w' B sb ds:=by
 obtain ⟨a,cap,mv,h1,h2,h3,h4⟩:=h.go
 exact ⟨⟨a,cap,mv,h1.keep (hb.block sb h1.lt),h2.move (EDx.moves sb) (fun _ _=>rfl) hb.size fun k hk _=>hb.block k hk,h3.keep fun b e=>hb.block b (by subst e;exact h3.lt),h4⟩,h.base,h.len,h.own,fun e=>(hb.cell (p:=⟨sb,0,none⟩) h1.lt).trans (h.nil e)⟩
theorem SGG.lt {w:World}{B sb:Nat}{ds:List Dl}(h:SGG w B sb ds):sb<w.heap.size:=by
 obtain ⟨a,cap,mv,h1,-⟩:=h.go
 exact h1.lt
abbrev SG (w:World) (sb:Nat) (ds:List Dl):Prop:=SGG w sb sb ds
theorem RowX.moveS {w w':World}{B cap sb:Nat}{P:Nat→Bool}{a:Option Addr}{ds:List Dl}(h:RowX 39 17 (EDx sb) w B P a cap ds) (hB:∀k,B≤k→P k=false) (hs:w.heap.size≤w'.heap.size) (ha:ownB a sb=false) (hk:∀k,k<w.heap.size→P k=false→k≠sb→w'.heap[k]?=w.heap[k]?∨∃es c,w.heap[k]?=some (.map es c)):RowX 39 17 (EDx sb) w' B P a cap ds:=by
 obtain ⟨xss,h1,h2,hown,hkv⟩:=h.go
 refine ⟨xss,h1,h2,?_,fun j t xs hj hx=>?_⟩
 ·rcases hown.2 with ⟨hv,hn⟩ | ⟨g,cap',cur,hv,hg,hh,hr⟩
  ·exact ⟨hown.1,Or.inl ⟨hv,hn⟩⟩
  ·refine owns_move hown fun g' hg'=>?_
   rw [hv] at hg'
   simp only [Value.ownBlock,Option.some.injEq] at hg'
   subst hg'
   have hne:g≠sb:=by
    intro e
    simp only [Value.slice.injEq] at hv
    rw [hv.1,e] at ha
    simp [ownB] at ha
   rcases hk g (heap_lt hh) (hB g hg) hne with h | ⟨es,c,h⟩
   ·exact h
   ·rw [h] at hh;cases hh
 ·have hE:=hkv j t xs hj hx
  refine ⟨hE.len,hE.cell,hE.dv.subF (by rw [maskB_size,maskB_size];exact hs) fun p v hp=>?_,hE.sm⟩
  obtain ⟨hP,hc⟩:=maskB_cell hp
  have hlt:p.block<w.heap.size:=World.block_lt_of_cell? w _ hc
  have hP2:=hP
  simp only [Bool.or_eq_false_iff,beq_eq_false_iff_ne] at hP2
  rcases hk p.block hlt hP2.1.1 hP2.2 with h | ⟨es,c,h⟩
  ·exact (World.cell?_of_block (a:=p) ((maskB_no (P:=fun k=>(P k||ownB a k)||k==sb) w' hP).trans h)).trans hc
  ·simp [World.cell?,h] at hc
end Go.Proofs.YtgfgpjcnfnopnaaGreat
