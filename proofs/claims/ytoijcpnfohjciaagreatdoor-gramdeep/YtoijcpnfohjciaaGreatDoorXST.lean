/- An executor for closed calls, 28: a table of functions. -/
import Derived.Test.YtoijcpnfohjciaaGreatDoorXQ
import Derived.Test.YtoijcpnfohjciaaGreatDoorXFO
import Derived.Test.YtoijcpnfohjciaaGreatDoorXGW
namespace Go.Proofs.YtoijcpnfohjciaaGreatDoor.X
def compF (P:Program) (f:Nat):Option AF:=match P.funcs[f]? with
 | none=>none
 | some fn=>match fn.name == "runtime.NumGoroutine" with
  | true=>none
  | false=>match fn.body with
   | none=>none
   | some c=>match compC P fn.ntmps c with
    | none=>none
    | some ac=>match mapO (compR P) fn.results.toList with
     | none=>none
     | some rs=>some ⟨den ac,rs⟩
theorem FunOk.of {P:Program} {f:Nat} {af:AF} (h:compF P f=some af):FunOk P f af:=by
 unfold compF at h
 split at h
 ·cases h
 ·rename_i fn hfn
  split at h
  ·cases h
  ·rename_i hname
   split at h
   ·cases h
   ·rename_i c hc
    split at h
    ·cases h
    ·rename_i ac hac
     split at h
     ·cases h
     ·rename_i rs hrs
      cases h
      exact ⟨fn,c,hfn,hname,hc,⟨ac,hac,rfl⟩,hrs⟩
theorem FunSem.of {P:Program} {f:Nat} {af:AF} (hm:P.follows .mixedOrders=true) (h:compF P f=some af):FunSem P f af:=(FunOk.of h).sem hm
theorem okF {P:Program} {f:Nat} {g:Ops→AF} (h:FunSem P f (g slowO)):FunSem P f (g fastO):=Eq.mp (congrArg (fun o=>FunSem P f (g o)) fast_slow) h
def TabOk (P:Program) (s:Pt→Pt) (t:T AF):Prop:=∀ p af,t.find p=some af→FunSem P (s p).toNat af
theorem TabOk.l {P:Program} {s:Pt→Pt}:TabOk P s .l:=fun p af h=>by rw [T.find_l] at h; cases h
theorem TabOk.m {P:Program} {s:Pt→Pt} {a b:T AF} (ha:TabOk P (fun p=>s (.z p)) a) (hb:TabOk P (fun p=>s (.o p)) b):TabOk P s (.m a b):=fun p af h=>by
 cases p with
 | e=>cases h
 | z p=>exact ha p af h
 | o p=>exact hb p af h
theorem TabOk.n {P:Program} {s:Pt→Pt} {a b:T AF} {v:AF} (hv:FunSem P (s .e).toNat v) (ha:TabOk P (fun p=>s (.z p)) a) (hb:TabOk P (fun p=>s (.o p)) b):TabOk P s (.n a v b):=fun p af h=>by
 cases p with
 | e=>cases h; exact hv
 | z p=>exact ha p af h
 | o p=>exact hb p af h
theorem TabOk.funs {P:Program} {t:T AF} (h:TabOk P (fun p=>p) t):FunsOk P t:=h
end Go.Proofs.YtoijcpnfohjciaaGreatDoor.X

/- An executor for closed calls, 38 (in a seat without tables): a function without arguments that answers true, told. -/
namespace Go.Proofs.YtoijcpnfohjciaaGreatDoor.X
open Go.RowKit
section
variable {P:Program} {w0:World} {r:Rho} {h:T AO} {nx:Pt} {w w':World}
theorem WR.turn (H:WR P w0 r h nx w) {h':T AO} (hB:Below w0.heap.size w0 w') (h1:∀ k o,h'.find k=some o→(h.find k=some o∧w'.heap[r.blk k]?=w.heap[r.blk k]?)∨((∃ o0,h.find k=some o0)∧okO r.has o∧BR P r k o (w'.heap[r.blk k]?))):WR P w0 r h' nx w':=by
 have key:∀ k o,h'.find k=some o→∃ o0,h.find k=some o0:=fun k o hk=>by
  rcases h1 k o hk with ⟨g,-⟩ | ⟨g,-⟩
  ·exact ⟨o,g⟩
  ·exact g
 refine ⟨H.dom,H.dis,hB,fun k o hk=>?_,fun i j oi oj hi hj e=>?_⟩
 ·rcases h1 k o hk with ⟨g,e⟩ | ⟨⟨o0,g⟩,g2,g3⟩
  ·obtain ⟨a1,a2,a3,a4⟩:=H.has k o g
   exact ⟨a1,a2,a3,by rw [e]; exact a4⟩
  ·obtain ⟨a1,a2,-,-⟩:=H.has k o0 g
   exact ⟨a1,a2,g2,g3⟩
 ·obtain ⟨x,hx⟩:=key i oi hi
  obtain ⟨y,hy⟩:=key j oj hj
  exact H.apart i j x y hx hy e
end
theorem argsK_fullF:∀ {args:List AV} {j:Nat} {ps:List Sl} {tm:S} {c:S→Prop},(∀ i p,ps[i]?=some p→p.toNat=j+i)→argsK args ps tm c→∃ tm',c tm'∧(∀ q:Sl,q.toNat<j→tm'.find q=tm.find q)∧(∀ (q:Sl) i v,q.toNat=j+i→args[i]?=some v→tm'.find q=some v) ∧
  ∀ (q:Sl),j+args.length≤q.toNat→tm'.find q=tm.find q
 | [],j,ps,tm,c,_,hk=>⟨tm,hk,fun _ _=>rfl,fun q i v _ h=>by simp at h,fun _ _=>rfl⟩
 | x :: l,j,[],tm,c,_,hk=>False.elim hk
 | x :: l,j,p :: ps,tm,c,hps,hk=>by
  have hp:p.toNat=j:=hps 0 p rfl
  have hk:tm.setK x p fun tm=>argsK l ps tm c:=hk
  rw [S.setK_iff] at hk
  obtain ⟨tm',h1,h2,h3,h4⟩:=argsK_fullF (j:=j+1) (fun i p hi=>by rw [hps (i+1) p hi]; omega) hk
  refine ⟨tm',h1,fun q hq=>?_,fun q i v hq hv=>?_,fun q hq=>?_⟩
  ·rw [h2 q (by omega),S.find_set_ne _ _ _ _ (fun e=>by rw [e] at hq; omega)]
  ·cases i with
   | zero =>
    have:q=p:=Sl.inj (by omega)
    subst this
    simp only [List.getElem?_cons_zero,Option.some.injEq] at hv
    rw [h2 q (by omega),S.find_set,hv]
   | succ i=>exact h3 q i v (by omega) (by simpa using hv)
  ·simp only [List.length_cons] at hq
   rw [h4 q (by omega),S.find_set_ne _ _ _ _ (fun e=>by rw [e] at hq; omega)]
theorem argsK_full {args:List AV} {c:S→Prop} (hk:argsK args slTab .l c):∃ tm',c tm'∧(∀ q:Sl,q.toNat<0→tm'.find q=S.l.find q)∧(∀ (q:Sl) i v,q.toNat=0+i→args[i]?=some v→tm'.find q=some v) ∧
  ∀ (q:Sl),0+args.length≤q.toNat→tm'.find q=S.l.find q :=
 argsK_fullF (fun i p h=>by rw [slTab_get h]; omega) hk
def isT:AV→T AO→Pt→Prop:=fun v _ _=>match v with
 | .bool b=>Bool.rec (motive:=fun _=>Prop) False True b
 | _=>False
theorem isT_spec {v:AV} {h:T AO} {nx:Pt} (hv:isT v h nx):v=.bool true:=by
 unfold isT at hv
 split at hv
 ·rename_i b
  cases b with
  | false=>exact hv.elim
  | true=>rfl
 ·exact hv.elim
theorem true_of_run {P:Program} {funs:T AF} (hf:FunsOk P funs) {n:Nat} {p:Pt} {args:List AV} (w:World) (xs:Array Value) (hx:(∀ r,concL r args=xs.toList)∧∀ n,okL n args) (hk:callN funs n .l p args .l .e isT=True) (hG:GW w:=by trivial) :
  Calls P p.toNat xs w fun e w'=>e=.returned (.bool true)∧Below w.heap.size w w':=by
 refine run_sound hf w xs hx (hk ▸ trivial:callN funs n .l p args .l .e isT) (fun v h nx r w' hK H hv=>?_) hG
 rw [isT_spec hK]
 exact ⟨by simp [conc],H.below⟩
def liveAF:AF:=⟨fun _ tm h nx K=>match tm.find s0 with
 | none=>tm.setK (.bool true) s0 fun tm=>K .ret tm h nx
 | some _=>False,[.t s0]⟩
theorem live_sem {P:Program} {f:Nat} (hf:∃ fn c,P.funcs[f]?=some fn∧(fn.name == "runtime.NumGoroutine")=false∧fn.body=some c) (hc:∀ w,GW w→Calls P f #[] w fun e w'=>e=.returned (.bool true)∧Below w.heap.size w w'):FunSem P f liveAF:=by
 intro w0 ch hcur hch args h nx K r w R hk hE H ha hR _
 obtain ⟨tm,h1,h2,h3,h4⟩:=argsK_full hk
 have h1:(match tm.find s0 with
  | none=>tm.setK (.bool true) s0 fun tm=>retK liveAF.res K .ret tm h nx
  | some _=>False):=h1
 split at h1
 ·rename_i hn
  have hargs:args=[]:=by
   match args,h3 with
   | [],_=>rfl
   | a :: l,h3 =>
    have:=h3 s0 0 a rfl (by simp)
    rw [hn] at this; cases this
  subst hargs
  refine ⟨hf,?_⟩
  have e0:(concL r []).toArray=#[]:=by simp [concL]
  rw [e0]
  refine (hc w (hE.1.below H.below)).mono fun e w' he=>?_
  obtain ⟨rfl,hB⟩:=he
  rw [S.setK_iff] at h1
  have h1:(tm.set (.bool true) s0).getK s0 fun v=>K v h nx:=h1
  rw [S.getK_iff,S.find_set] at h1
  obtain ⟨v,hv,h1⟩:=h1
  cases hv
  have hWR:WR P w0 r h nx w':=H.turn (H.below.trans (hB.mono H.below.size)) fun k o hko=>.inl ⟨hko,hB.block _ (H.lt hko)⟩
  have:=hR (.bool true) h nx r w' h1 hWR ⟨.refl r,hB.size,fun b hb _=>hB.block b hb,fun k o hko=>.inr ⟨k,o,hko,rfl⟩⟩ (by simp [okV])
  simpa [conc] using this
 ·exact h1.elim
end Go.Proofs.YtoijcpnfohjciaaGreatDoor.X

/- An executor for closed calls, 42: functions told by hand, of one argument and of two, in one form. -/
namespace Go.Proofs.YtoijcpnfohjciaaGreatDoor.X
open Go.RowKit
section
variable {P:Program}
def told1 (F:AV→T AO→Pt→(AV→T AO→Pt→Prop)→Prop):AF:=⟨fun _ tm h nx K=>match tm.find s1 with
 | none=>tm.getK s0 fun x=>F x h nx fun v h nx=>tm.setK v s0 fun tm=>K .ret tm h nx
 | some _=>False,[.t s0]⟩
def told2 (F:AV→AV→T AO→Pt→(AV→T AO→Pt→Prop)→Prop):AF:=⟨fun _ tm h nx K=>match tm.find s2 with
 | none=>tm.getK s0 fun x=>tm.getK s1 fun y=>F x y h nx fun v h nx=>tm.setK v s0 fun tm=>K .ret tm h nx
 | some _=>False,[.t s0]⟩
def Told1 (P:Program) (f:Nat) (F:AV→T AO→Pt→(AV→T AO→Pt→Prop)→Prop):Prop :=
 ∀ (w0 w:World) (r:Rho) (h:T AO) (nx:Pt) (x:AV) (K:AV→T AO→Pt→Prop) (R:Ending→World→Prop),GW w→WR P w0 r h nx w→okV r.has x→F x h nx K →
  (∀ v h' nx' r' w',K v h' nx'→WR P w0 r' h' nx' w'→Ev r h w r' h' w'→okV r'.has v→R (.returned (conc r' v)) w')→Calls P f #[conc r x] w R
def Told2 (P:Program) (f:Nat) (F:AV→AV→T AO→Pt→(AV→T AO→Pt→Prop)→Prop):Prop :=
 ∀ (w0 w:World) (r:Rho) (h:T AO) (nx:Pt) (x y:AV) (K:AV→T AO→Pt→Prop) (R:Ending→World→Prop),GW w→WR P w0 r h nx w→okV r.has x→okV r.has y→F x y h nx K →
  (∀ v h' nx' r' w',K v h' nx'→WR P w0 r' h' nx' w'→Ev r h w r' h' w'→okV r'.has v→R (.returned (conc r' v)) w')→Calls P f #[conc r x,conc r y] w R
theorem told1_sem {f:Nat} {F:AV→T AO→Pt→(AV→T AO→Pt→Prop)→Prop} (hf:∃ fn c,P.funcs[f]?=some fn∧(fn.name == "runtime.NumGoroutine")=false∧fn.body=some c) (hF:Told1 P f F):FunSem P f (told1 F):=by
 intro w0 ch hcur hch args h nx K r w R hk hE H ha hR _
 obtain ⟨tm,h1,h2,h3,h4⟩:=argsK_full hk
 refine ⟨hf,?_⟩
 have h1:(match tm.find s1 with
  | none=>tm.getK s0 fun x=>F x h nx fun v h nx=>tm.setK v s0 fun tm=>retK (told1 F).res K .ret tm h nx
  | some _=>False):=h1
 split at h1
 ·rename_i hn
  rw [S.getK_iff] at h1
  obtain ⟨x,hx,h1⟩:=h1
  have hargs:args=[x]:=by
   match args,h3,h4 with
   | [],_,h4=>have:=h4 s0 (Nat.le_refl _); rw [hx,S.find_l] at this; cases this
   | [a],h3,_ =>
    have h5:=h3 s0 0 a rfl rfl
    rw [hx] at h5; cases h5; rfl
   | a :: b :: l,h3,_=>have:=h3 s1 1 b rfl rfl; rw [hn] at this; cases this
  subst hargs
  have ha:okV r.has x:=by simpa [okL] using ha
  have ea:(concL r [x]).toArray=#[conc r x]:=by simp [concL]
  rw [ea]
  refine hF w0 w r h nx x _ R (hE.1.below H.below) H ha h1 fun v h' nx' r' w' hK H' e' hv=>?_
  rw [S.setK_iff] at hK
  have hK:(tm.set v s0).getK s0 fun v=>K v h' nx':=hK
  rw [S.getK_iff,S.find_set] at hK
  obtain ⟨v',hv',hK⟩:=hK
  cases hv'
  exact hR v h' nx' r' w' hK H' e' hv
 ·exact h1.elim
theorem told2_sem {f:Nat} {F:AV→AV→T AO→Pt→(AV→T AO→Pt→Prop)→Prop} (hf:∃ fn c,P.funcs[f]?=some fn∧(fn.name == "runtime.NumGoroutine")=false∧fn.body=some c) (hF:Told2 P f F):FunSem P f (told2 F):=by
 intro w0 ch hcur hch args h nx K r w R hk hE H ha hR _
 obtain ⟨tm,h1,h2,h3,h4⟩:=argsK_full hk
 refine ⟨hf,?_⟩
 have h1:(match tm.find s2 with
  | none=>tm.getK s0 fun x=>tm.getK s1 fun y=>F x y h nx fun v h nx=>tm.setK v s0 fun tm=>retK (told2 F).res K .ret tm h nx
  | some _=>False):=h1
 split at h1
 ·rename_i hn
  rw [S.getK_iff] at h1
  obtain ⟨x,hx,h1⟩:=h1
  rw [S.getK_iff] at h1
  obtain ⟨y,hy,h1⟩:=h1
  have hargs:args=[x,y]:=by
   match args,h3,h4 with
   | [],_,h4=>have:=h4 s0 (Nat.zero_le _); rw [hx,S.find_l] at this; cases this
   | [a],_,h4=>have:=h4 s1 (Nat.le_refl _); rw [hy,S.find_l] at this; cases this
   | [a,b],h3,_ =>
    have h5:=h3 s0 0 a rfl rfl
    have h6:=h3 s1 1 b rfl rfl
    rw [hx] at h5; rw [hy] at h6; cases h5; cases h6; rfl
   | a :: b :: c :: l,h3,_=>have:=h3 s2 2 c rfl rfl; rw [hn] at this; cases this
  subst hargs
  have ha:okV r.has x∧okV r.has y:=by simpa [okL] using ha
  have ea:(concL r [x,y]).toArray=#[conc r x,conc r y]:=by simp [concL]
  rw [ea]
  refine hF w0 w r h nx x y _ R (hE.1.below H.below) H ha.1 ha.2 h1 fun v h' nx' r' w' hK H' e' hv=>?_
  rw [S.setK_iff] at hK
  have hK:(tm.set v s0).getK s0 fun v=>K v h' nx':=hK
  rw [S.getK_iff,S.find_set] at hK
  obtain ⟨v',hv',hK⟩:=hK
  cases hv'
  exact hR v h' nx' r' w' hK H' e' hv
 ·exact h1.elim
theorem WR.grew {w0 w w':World} {r:Rho} {h:T AO} {nx:Pt} (H:WR P w0 r h nx w) (hB:Below w.heap.size w w'):WR P w0 r h nx w'∧Ev r h w r h w' :=
 ⟨H.turn (H.below.trans (hB.mono H.below.size)) fun _ _ hko=>.inl ⟨hko,hB.block _ (H.lt hko)⟩,⟨.refl r,hB.size,fun b hb _=>hB.block b hb,fun k o hko=>.inr ⟨k,o,hko,rfl⟩⟩⟩
end
end Go.Proofs.YtoijcpnfohjciaaGreatDoor.X

/- An executor for closed calls, 43: strings.Fields of the language's words, Contains, IndexByte, Clone, told. -/
namespace Go.Proofs.YtoijcpnfohjciaaGreatDoor.X
open Go.RowKit Go.Lib
theorem ofNat_inj8 {a b:Nat} (ha:a<256) (hb:b<256) (h:UInt8.ofNat a=UInt8.ofNat b):a=b:=by
 have:=congrArg UInt8.toNat h
 simp only [UInt8.toNat_ofNat'] at this
 omega
theorem beq8 {a b:Nat} (ha:a<256) (hb:b<256):(UInt8.ofNat a == UInt8.ofNat b)=Nat.beq a b:=by
 cases h:Nat.beq a b with
 | true=>obtain rfl:=Nat.eq_of_beq_eq_true h; simp
 | false =>
  have:¬ UInt8.ofNat a=UInt8.ofNat b:=fun e=>by obtain rfl:=ofNat_inj8 ha hb e; rw [Nat.beq_refl] at h; cases h
  simpa using this
theorem bytes_data (s:List Nat):(bytesOf s).data.toList=s.map UInt8.ofNat:=by simp [bytesOf]
def preN:List Nat→List Nat→Bool
 | [],_=>true
 | _ :: _,[]=>false
 | a :: l,b :: m=>Nat.beq a b&&preN l m
theorem preN_spec:∀ {t s:List Nat},(∀ b ∈ t,b<256)→(∀ b ∈ s,b<256)→(t.map UInt8.ofNat).isPrefixOf (s.map UInt8.ofNat)=preN t s
 | [],s,_,_=>by simp [preN]
 | a :: l,[],_,_=>by simp [preN]
 | a :: l,b :: m,h1,h2=>by
  simp only [List.map_cons,List.isPrefixOf,preN]
  rw [beq8 (h1 a (List.mem_cons_self ..)) (h2 b (List.mem_cons_self ..)),preN_spec (fun c hc=>h1 c (List.mem_cons_of_mem _ hc)) (fun c hc=>h2 c (List.mem_cons_of_mem _ hc))]
def hasN (t:List Nat):List Nat→Bool
 | []=>preN t []
 | a :: l=>preN t (a :: l)||hasN t l
theorem hasN_spec {t:List Nat} (ht:∀ b ∈ t,b<256):∀ {s:List Nat},(∀ b ∈ s,b<256)→Lib.contains (s.map UInt8.ofNat) (t.map UInt8.ofNat)=hasN t s
 | [],_=>by
  cases t with
  | nil=>simp [Lib.contains,Lib.index,hasN,preN]
  | cons a l=>simp [Lib.contains,Lib.index,hasN,preN]
 | b :: m,h=>by
  have ih:=hasN_spec ht (fun c hc=>h c (List.mem_cons_of_mem _ hc))
  have h0:=preN_spec ht h
  have hge:=Lib.index_ge (m.map UInt8.ofNat) (t.map UInt8.ofNat)
  have e:Lib.index ((b :: m).map UInt8.ofNat) (t.map UInt8.ofNat)=if preN t (b :: m)=true then 0 else if Lib.index (m.map UInt8.ofNat) (t.map UInt8.ofNat) == -1 then -1 else Lib.index (m.map UInt8.ofNat) (t.map UInt8.ofNat)+1:=by
   rw [← h0]; simp only [List.map_cons,Lib.index]
  unfold Lib.contains at ih ⊢
  rw [show hasN t (b :: m)=(preN t (b :: m)||hasN t m) from rfl,← ih]
  simp only [e]
  cases preN t (b :: m) with
  | true=>simp
  | false =>
   simp only [Bool.false_eq_true,if_false,Bool.false_or]
   by_cases e:Lib.index (m.map UInt8.ofNat) (t.map UInt8.ofNat)=-1
   ·simp [e]
   ·simp only [beq_iff_eq,e,if_false]
    refine decide_eq_decide.2 ⟨fun _=>?_,fun _=>?_⟩ <;> omega
def idxN (c:Nat):List Nat→Option Nat
 | []=>none
 | a :: l=>match Nat.beq a c with
  | true=>some 0
  | false=>match idxN c l with
   | some n=>some (n+1)
   | none=>none
def idxI:Option Nat→Int
 | some n=>.ofNat n
 | none=>.negSucc 0
theorem idxN_spec {c:Nat} (hc:c<256):∀ {s:List Nat},(∀ b ∈ s,b<256)→Lib.indexByte (s.map UInt8.ofNat) (UInt8.ofNat c)=idxI (idxN c s)
 | [],_=>rfl
 | b :: m,h=>by
  have ih:=idxN_spec hc (fun c hc=>h c (List.mem_cons_of_mem _ hc))
  simp only [List.map_cons,Lib.indexByte,idxN]
  rw [beq8 (h b (List.mem_cons_self ..)) hc,ih]
  cases Nat.beq b c with
  | true=>rfl
  | false =>
   cases idxN c m with
   | none=>rfl
   | some n=>simp [idxI]
def containsF (x y:AV) (h:T AO) (nx:Pt) (K:AV→T AO→Pt→Prop):Prop:=match x,y with
 | .str s,.str t=>Bool.rec (motive:=fun _=>Prop) False (forceB (hasN t s) fun b=>K (.bool b) h nx) (Nat.ble s.length 1000000)
 | _,_=>False
def indexByteF (x y:AV) (h:T AO) (nx:Pt) (K:AV→T AO→Pt→Prop):Prop:=match x,y with
 | .str s,.int .u8 (.ofNat c)=>Bool.rec (motive:=fun _=>Prop) False (forceI (idxI (idxN c s)) fun i=>K (.int .i64 i) h nx) (Nat.blt c 256)
 | _,_=>False
def prefixF (x y:AV) (h:T AO) (nx:Pt) (K:AV→T AO→Pt→Prop):Prop:=match x,y with
 | .str s,.str t=>forceB (preN t s) fun b=>K (.bool b) h nx
 | _,_=>False
def cloneF (x:AV) (h:T AO) (nx:Pt) (K:AV→T AO→Pt→Prop):Prop:=match x with
 | .str s=>Bool.rec (motive:=fun _=>Prop) False (K (.str s) h nx) (Nat.ble s.length 1000000)
 | _=>False
def wordsT:List Nat:=[109,111,100,117,108,101,32,119,104,101,114,101,32,100,97,116,97,32,108,101,116,32,105,110,32,111,112,101,110,32,117,115,105,110,103,32,104,105,100,105,110,103,32,114,101,110,97,109,105,110,103,32,116,111,32,112,114,105,118,97,116,101,32,112,111,115,116,117,108,97,116,101,32,105,110,102,105,120,32,105,110,102,105,120,108,32,105,110,102,105,120,114,32,83,101,116,32,102,115,116,32,115,110,100,32,58,32,61,32,45,62,32,92,32,42,42,32,95]
def wordsN:List (List Nat):=[[109,111,100,117,108,101],[119,104,101,114,101],[100,97,116,97],[108,101,116],[105,110],[111,112,101,110],[117,115,105,110,103],[104,105,100,105,110,103],[114,101,110,97,109,105,110,103],[116,111],[112,114,105,118,97,116,101],[112,111,115,116,117,108,97,116,101],[105,110,102,105,120],[105,110,102,105,120,108],[105,110,102,105,120,114],[83,101,116],[102,115,116],[115,110,100],[58],[61],[45,62],[92],[42,42],[95]]
def wordsA:List AV:=[.str [109,111,100,117,108,101],.str [119,104,101,114,101],.str [100,97,116,97],.str [108,101,116],.str [105,110],.str [111,112,101,110],.str [117,115,105,110,103],.str [104,105,100,105,110,103],.str [114,101,110,97,109,105,110,103],.str [116,111],.str [112,114,105,118,97,116,101],.str [112,111,115,116,117,108,97,116,101],.str [105,110,102,105,120],.str [105,110,102,105,120,108],.str [105,110,102,105,120,114],.str [83,101,116],.str [102,115,116],.str [115,110,100],.str [58],.str [61],.str [45,62],.str [92],.str [42,42],.str [95]]
def fieldsF (x:AV) (h:T AO) (nx:Pt) (K:AV→T AO→Pt→Prop):Prop:=match x with
 | .str s=>Bool.rec (motive:=fun _=>Prop) False (h.setK (.cells wordsA 9) nx fun h=>succK nx fun nx'=>K (.sl nx 0 24 24 false) h nx') (eqN s wordsT)
 | _=>False
theorem contains_sem:FunSem Tryz.prog 145 (told2 containsF) :=
 told2_sem ⟨_,_,Tryz.func145,by kernel_rfl,rfl⟩ fun w0 w r h nx x y K R hG H hx hy hF hR=>by
  unfold containsF at hF
  split at hF
  ·rename_i s t
   obtain ⟨hb,hF⟩:=brec hF
   rw [forceB_iff] at hF
   have hl:=Nat.le_of_ble_eq_true hb
   simp only [okV] at hx hy
   obtain ⟨m,hm⟩:=hG.ml
   have hc:=Any.strings_Contains Tryz.containsL (bytesOf s) (bytesOf t) m w (by rw [bytes_size]; omega) hm
   rw [bytes_data,bytes_data,hasN_spec hy hx] at hc
   refine Calls.mono hc fun e w' he=>?_
   obtain ⟨rfl,rfl⟩:=he
   have:=hR (.bool (hasN t s)) h nx r w' hF H (.refl r h w') (by simp [okV])
   simpa [conc] using this
  ·exact hF.elim
theorem prefix_sem:FunSem Tryz.prog 116 (told2 prefixF) :=
 told2_sem ⟨_,_,Tryz.func116,by kernel_rfl,rfl⟩ fun w0 w r h nx x y K R hG H hx hy hF hR=>by
  unfold prefixF at hF
  split at hF
  ·rename_i s t
   rw [forceB_iff] at hF
   simp only [okV] at hx hy
   have hc:=Any.strings_HasPrefix Tryz.prefixL (bytesOf s) (bytesOf t) w
   unfold Lib.hasPrefix at hc
   rw [bytes_data,bytes_data,preN_spec hy hx] at hc
   refine Calls.mono hc fun e w' he=>?_
   obtain ⟨rfl,rfl⟩:=he
   have:=hR (.bool (preN t s)) h nx r w' hF H (.refl r h w') (by simp [okV])
   simpa [conc] using this
  ·exact hF.elim
theorem indexByte_sem:FunSem Tryz.prog 154 (told2 indexByteF) :=
 told2_sem ⟨_,_,Tryz.func154,by kernel_rfl,rfl⟩ fun w0 w r h nx x y K R hG H hx hy hF hR=>by
  unfold indexByteF at hF
  split at hF
  ·rename_i s c
   obtain ⟨hb,hF⟩:=brec hF
   rw [forceI_iff] at hF
   have hb:c<256:=by have hb:Nat.ble (c+1) 256=true:=hb; have:=Nat.le_of_ble_eq_true hb; omega
   simp only [okV] at hx
   have hc:=Any.strings_IndexByte Tryz.indexByteL (bytesOf s) (c:Int) w
   have ec:((c:Int).toNat.toUInt8)=UInt8.ofNat c:=by simp
   rw [bytes_data,ec,idxN_spec hb hx] at hc
   refine Calls.mono hc fun e w' he=>?_
   obtain ⟨rfl,rfl⟩:=he
   have:=hR (.int .i64 (idxI (idxN c s))) h nx r w' hF H (.refl r h w') (by simp [okV])
   simpa [conc] using this
  ·exact hF.elim
set_option maxRecDepth 100000 in
theorem clone_call (s:ByteArray) (w:World) (hs:s.size≤1000000):Calls Tryz.prog 159 #[.string s] w fun e w'=>e=.returned (.string s)∧Below w.heap.size w w':=by
 have hc:=Any.stringslite_Clone Tryz.cloneL s w (by omega)
 go_enter Tryz.func159,Tryz.ntmps159
 go_wp2_with (refine hc.mono ?_; rintro e w' ⟨rfl,hb⟩)
 go_ret
 exact ⟨rfl,hb⟩
theorem sclone_sem:FunSem Tryz.prog 159 (told1 cloneF) :=
 told1_sem ⟨_,_,Tryz.func159,by kernel_rfl,rfl⟩ fun w0 w r h nx x K R hG H hx hF hR=>by
  unfold cloneF at hF
  split at hF
  ·rename_i s
   obtain ⟨hb,hF⟩:=brec hF
   have hl:=Nat.le_of_ble_eq_true hb
   refine Calls.mono (clone_call (bytesOf s) w (by rw [bytes_size]; exact hl)) fun e w' he=>?_
   obtain ⟨rfl,hB⟩:=he
   obtain ⟨g1,g2⟩:=H.grew hB
   have:=hR (.str s) h nx r w' hF g1 g2 (by simpa [okV] using hx)
   simpa [conc] using this
  ·exact hF.elim
theorem hi9:(Tryz.prog.info? (Tryz.fieldsL_ren.t 9)).map (fun i=>(i.zero,i.size,i.bytes))=some (some (.string ByteArray.empty),1,16):=by kernel_rfl
theorem ascii_of (l:List UInt8) (h:l.all (fun b=>decide (b.toNat<128))=true) (j:Nat) (b:UInt8) (hj:l[j]?=some b):b.toNat<128:=by
 have:=List.all_eq_true.1 h b (List.mem_of_getElem? hj)
 simpa using this
set_option maxRecDepth 100000 in
theorem fields_call (w:World) (hG:GW w):Calls Tryz.prog 29 #[.string (bytesOf wordsT)] w fun e w'=>e=.returned (.slice (some ⟨w.heap.size,0,none⟩) 24 24)∧w'=w.alloc (.cells (concL ⟨fun _=>False,fun _=>False,fun _=>0,fun _=>0,fun _=>{ state:=.ready,pending:=none,fn:=0,tmps:=#[],params:=#[],assign:=.skip,body:=.skip,defers:=0 }⟩ wordsA).toArray 9):=by
 have hf:Lib.fields ((bytesOf wordsT).data.toList)=wordsN.map (·.map UInt8.ofNat):=by kernel_rfl
 have h:Calls Tryz.prog 29 #[.string (bytesOf wordsT)] w fun e w'=>e=.returned (.slice (some ⟨w.heap.size,0,none⟩) (Lib.fields (bytesOf wordsT).data.toList).length (Lib.fields (bytesOf wordsT).data.toList).length)∧w'=w.alloc (.cells ((Lib.fields (bytesOf wordsT).data.toList).map fun l=>Value.string ⟨l.toArray⟩).toArray 9) :=
  Any.strings_Fields_core Tryz.fieldsL hi9 (bytesOf wordsT) w (by decide +kernel) (fun j b h=>ascii_of _ (by decide +kernel) j b h) hG.sp
 rw [hf] at h
 exact h
theorem wordsA_conc (r r':Rho):concL r wordsA=concL r' wordsA:=rfl
theorem wordsA_ok (m:Pt→Prop):okL m wordsA:=by
 have h:∀ l:List (List Nat),(∀ s ∈ l,∀ b ∈ s,b<256)→okL m (l.map AV.str):=by
  intro l
  induction l with
  | nil=>intro _; simp [okL]
  | cons s l ih =>
   intro h
   simp only [List.map_cons,okL,okV]
   exact ⟨h s (List.mem_cons_self ..),ih fun t ht=>h t (List.mem_cons_of_mem _ ht)⟩
 exact h wordsN (by decide +kernel)
theorem fields_sem:FunSem Tryz.prog 29 (told1 fieldsF) :=
 told1_sem ⟨_,_,Tryz.func29,by kernel_rfl,rfl⟩ fun w0 w r h nx x K R hG H hx hF hR=>by
  unfold fieldsF at hF
  split at hF
  ·rename_i s
   obtain ⟨hb,hF⟩:=brec hF
   obtain rfl:=eqN_eq hb
   rw [T.setK_iff,succK_iff] at hF
   refine Calls.mono (fields_call w hG) fun e w' he=>?_
   obtain ⟨rfl,he⟩:=he
   rw [wordsA_conc _ r] at he
   subst he
   obtain ⟨g1,g2⟩:=H.alloc (.cells wordsA 9) 0 (.cells (concL r wordsA).toArray 9) (wordsA_ok _) ⟨[],by simpa using wordsA_conc r _,by simp [r.more_ext]⟩
   have:=hR (.sl nx 0 24 24 false) _ _ _ _ hF g1 g2 (by simp only [okV]; exact .inl rfl)
   simpa [conc,Rho.more_blk] using this
  ·exact hF.elim
end Go.Proofs.YtoijcpnfohjciaaGreatDoor.X
