/- An executor for closed calls, 1: names of blocks and slots (binary paths), tries over them, values without addresses of their own, and what real value each stands for by a placing of its names. -/
import Derived.Orders
import Derived.Below
import Derived.KernelRfl
namespace Go.Proofs.YtidggaoacldgkaaGreatDoor.X
inductive Pt where
 | e
 | z (p:Pt)
 | o (p:Pt)
def Pt.toNat:Pt→Nat
 | .e=>0
 | .z p=>2*p.toNat+1
 | .o p=>2*p.toNat+2
def Pt.succ:Pt→Pt
 | .e=>.z .e
 | .z p=>.o p
 | .o p=>.z p.succ
def uE (c:Pt→Prop):Prop:=c (.z .e)
def uZ (p:Pt) (_:(Pt→Prop)→Prop) (c:Pt→Prop):Prop:=c (.o p)
def uO (_:Pt) (ih:(Pt→Prop)→Prop) (c:Pt→Prop):Prop:=ih fun p=>c (.z p)
def succK (p:Pt) (c:Pt→Prop):Prop:=Pt.rec (motive:=fun _=>(Pt→Prop)→Prop) uE uZ uO p c
theorem succK_iff:∀ (p:Pt) (c:Pt→Prop),succK p c↔c p.succ
 | .e,_=>Iff.rfl
 | .z _,_=>Iff.rfl
 | .o p,c=>succK_iff p fun p=>c (.z p)
theorem Pt.toNat_succ:∀ p:Pt,p.succ.toNat=p.toNat+1
 | .e=>rfl
 | .z p=>by simp only [Pt.succ,Pt.toNat]
 | .o p=>by simp only [Pt.succ,Pt.toNat,Pt.toNat_succ p]; omega
theorem Pt.inj:∀ {p q:Pt},p.toNat=q.toNat→p=q
 | .e,.e,_=>rfl
 | .e,.z q,h=>by simp only [Pt.toNat] at h; omega
 | .e,.o q,h=>by simp only [Pt.toNat] at h; omega
 | .z p,.e,h=>by simp only [Pt.toNat] at h; omega
 | .z p,.z q,h=>by simp only [Pt.toNat] at h; rw [Pt.inj (p:=p) (q:=q) (by omega)]
 | .z p,.o q,h=>by simp only [Pt.toNat] at h; omega
 | .o p,.e,h=>by simp only [Pt.toNat] at h; omega
 | .o p,.z q,h=>by simp only [Pt.toNat] at h; omega
 | .o p,.o q,h=>by simp only [Pt.toNat] at h; rw [Pt.inj (p:=p) (q:=q) (by omega)]
def Pt.ofNat (n:Nat):Pt:=Nat.rec (motive:=fun _=>Pt) .e (fun _ p=>p.succ) n
theorem Pt.toNat_ofNat (n:Nat):(Pt.ofNat n).toNat=n:=by
 induction n with
 | zero=>rfl
 | succ n ih=>show (Pt.ofNat n).succ.toNat=n+1; rw [Pt.toNat_succ,ih]
inductive T (α:Type) where
 | l
 | m (a b:T α)
 | n (a:T α) (v:α) (b:T α)
namespace T
variable {α:Type}
def find:T α→Pt→Option α
 | .l,_=>none
 | .m _ _,.e=>none
 | .m a _,.z k=>find a k
 | .m _ b,.o k=>find b k
 | .n _ v _,.e=>some v
 | .n a _ _,.z k=>find a k
 | .n _ _ b,.o k=>find b k
def one (x:α):Pt→T α
 | .e=>.n .l x .l
 | .z k=>.m (one x k) .l
 | .o k=>.m .l (one x k)
def set (x:α):T α→Pt→T α
 | .l,k=>one x k
 | .m a b,.e=>.n a x b
 | .m a b,.z k=>.m (set x a k) b
 | .m a b,.o k=>.m a (set x b k)
 | .n a _ b,.e=>.n a x b
 | .n a v b,.z k=>.n (set x a k) v b
 | .n a v b,.o k=>.n a v (set x b k)
def del:T α→Pt→T α
 | .l,_=>.l
 | .m a b,.e=>.m a b
 | .m a b,.z k=>.m (del a k) b
 | .m a b,.o k=>.m a (del b k)
 | .n a _ b,.e=>.m a b
 | .n a v b,.z k=>.n (del a k) v b
 | .n a v b,.o k=>.n a v (del b k)
theorem find_l (k:Pt):find (.l:T α) k=none:=by cases k <;> rfl
theorem find_one (x:α):∀ k,find (one x k) k=some x
 | .e=>rfl
 | .z k=>find_one x k
 | .o k=>find_one x k
theorem find_one_ne (x:α):∀ k j,j≠k→find (one x k) j=none
 | .e,.e,h=>(h rfl).elim
 | .e,.z j,_=>find_l j
 | .e,.o j,_=>find_l j
 | .z _,.e,_=>rfl
 | .z k,.z j,h=>find_one_ne x k j (fun e=>h (e ▸ rfl))
 | .z _,.o j,_=>find_l j
 | .o _,.e,_=>rfl
 | .o _,.z j,_=>find_l j
 | .o k,.o j,h=>find_one_ne x k j (fun e=>h (e ▸ rfl))
theorem find_set (x:α):∀ (t:T α) (k:Pt),find (set x t k) k=some x
 | .l,k=>find_one x k
 | .m _ _,.e=>rfl
 | .m a _,.z k=>find_set x a k
 | .m _ b,.o k=>find_set x b k
 | .n _ _ _,.e=>rfl
 | .n a _ _,.z k=>find_set x a k
 | .n _ _ b,.o k=>find_set x b k
theorem find_set_ne (x:α):∀ (t:T α) (k j:Pt),j≠k→find (set x t k) j=find t j
 | .l,k,j,h=>by rw [find_l]; exact find_one_ne x k j h
 | .m _ _,.e,.e,h=>(h rfl).elim
 | .m _ _,.e,.z _,_=>rfl
 | .m _ _,.e,.o _,_=>rfl
 | .m _ _,.z _,.e,_=>rfl
 | .m a _,.z k,.z j,h=>find_set_ne x a k j (fun e=>h (e ▸ rfl))
 | .m _ _,.z _,.o _,_=>rfl
 | .m _ _,.o _,.e,_=>rfl
 | .m _ _,.o _,.z _,_=>rfl
 | .m _ b,.o k,.o j,h=>find_set_ne x b k j (fun e=>h (e ▸ rfl))
 | .n _ _ _,.e,.e,h=>(h rfl).elim
 | .n _ _ _,.e,.z _,_=>rfl
 | .n _ _ _,.e,.o _,_=>rfl
 | .n _ _ _,.z _,.e,_=>rfl
 | .n a _ _,.z k,.z j,h=>find_set_ne x a k j (fun e=>h (e ▸ rfl))
 | .n _ _ _,.z _,.o _,_=>rfl
 | .n _ _ _,.o _,.e,_=>rfl
 | .n _ _ _,.o _,.z _,_=>rfl
 | .n _ _ b,.o k,.o j,h=>find_set_ne x b k j (fun e=>h (e ▸ rfl))
theorem find_del:∀ (t:T α) (k:Pt),find (del t k) k=none
 | .l,k=>find_l k
 | .m _ _,.e=>rfl
 | .m a _,.z k=>find_del a k
 | .m _ b,.o k=>find_del b k
 | .n _ _ _,.e=>rfl
 | .n a _ _,.z k=>find_del a k
 | .n _ _ b,.o k=>find_del b k
theorem find_del_ne:∀ (t:T α) (k j:Pt),j≠k→find (del t k) j=find t j
 | .l,k,j,_=>by rw [find_l]; exact find_l j
 | .m _ _,.e,.e,h=>(h rfl).elim
 | .m _ _,.e,.z _,_=>rfl
 | .m _ _,.e,.o _,_=>rfl
 | .m _ _,.z _,.e,_=>rfl
 | .m a _,.z k,.z j,h=>find_del_ne a k j (fun e=>h (e ▸ rfl))
 | .m _ _,.z _,.o _,_=>rfl
 | .m _ _,.o _,.e,_=>rfl
 | .m _ _,.o _,.z _,_=>rfl
 | .m _ b,.o k,.o j,h=>find_del_ne b k j (fun e=>h (e ▸ rfl))
 | .n _ _ _,.e,.e,h=>(h rfl).elim
 | .n _ _ _,.e,.z _,_=>rfl
 | .n _ _ _,.e,.o _,_=>rfl
 | .n _ _ _,.z _,.e,_=>rfl
 | .n a _ _,.z k,.z j,h=>find_del_ne a k j (fun e=>h (e ▸ rfl))
 | .n _ _ _,.z _,.o _,_=>rfl
 | .n _ _ _,.o _,.e,_=>rfl
 | .n _ _ _,.o _,.z _,_=>rfl
 | .n _ _ b,.o k,.o j,h=>find_del_ne b k j (fun e=>h (e ▸ rfl))
abbrev GM (α:Type):=Pt→(α→Prop)→Prop
def gL (_:Pt) (_:α→Prop):Prop:=False
def gZ (_ _:T α) (iha ihb:GM α) (k:Pt) (c:α→Prop):Prop:=Pt.rec (motive:=fun _=>Prop) False (fun k _=>iha k c) (fun k _=>ihb k c) k
def gN (_:T α) (v:α) (_:T α) (iha ihb:GM α) (k:Pt) (c:α→Prop):Prop:=Pt.rec (motive:=fun _=>Prop) (c v) (fun k _=>iha k c) (fun k _=>ihb k c) k
def getK (t:T α) (k:Pt) (c:α→Prop):Prop:=T.rec (motive:=fun _=>GM α) gL gZ gN t k c
theorem getK_iff (c:α→Prop):∀ (t:T α) (k:Pt),getK t k c↔∃ v,find t k=some v∧c v
 | .l,k=>by simp [getK,gL,find_l]
 | .m _ _,.e=>by simp [getK,gZ,find]
 | .m a _,.z k=>getK_iff c a k
 | .m _ b,.o k=>getK_iff c b k
 | .n _ v _,.e=>by simp [getK,gN,find]
 | .n a _ _,.z k=>getK_iff c a k
 | .n _ _ b,.o k=>getK_iff c b k
abbrev SM (α:Type):=α→Pt→(T α→Prop)→Prop
def sL (x:α) (k:Pt) (c:T α→Prop):Prop:=c (one x k)
def sZ (a b:T α) (iha ihb:SM α) (x:α) (k:Pt) (c:T α→Prop):Prop:=Pt.rec (motive:=fun _=>Prop) (c (.n a x b)) (fun k _=>iha x k fun a=>c (.m a b)) (fun k _=>ihb x k fun b=>c (.m a b)) k
def sN (a:T α) (v:α) (b:T α) (iha ihb:SM α) (x:α) (k:Pt) (c:T α→Prop):Prop:=Pt.rec (motive:=fun _=>Prop) (c (.n a x b)) (fun k _=>iha x k fun a=>c (.n a v b)) (fun k _=>ihb x k fun b=>c (.n a v b)) k
def setK (x:α) (t:T α) (k:Pt) (c:T α→Prop):Prop:=T.rec (motive:=fun _=>SM α) sL sZ sN t x k c
theorem setK_iff (x:α):∀ (t:T α) (k:Pt) (c:T α→Prop),setK x t k c↔c (set x t k)
 | .l,_,_=>Iff.rfl
 | .m _ _,.e,_=>Iff.rfl
 | .m a b,.z k,c=>setK_iff x a k (fun a=>c (.m a b))
 | .m a b,.o k,c=>setK_iff x b k (fun b=>c (.m a b))
 | .n _ _ _,.e,_=>Iff.rfl
 | .n a v b,.z k,c=>setK_iff x a k (fun a=>c (.n a v b))
 | .n a v b,.o k,c=>setK_iff x b k (fun b=>c (.n a v b))
abbrev LM (α:Type):=Pt→(Option α→Prop)→Prop
def qL (_:Pt) (c:Option α→Prop):Prop:=c none
def qZ (_ _:T α) (iha ihb:LM α) (k:Pt) (c:Option α→Prop):Prop:=Pt.rec (motive:=fun _=>Prop) (c none) (fun k _=>iha k c) (fun k _=>ihb k c) k
def qN (_:T α) (v:α) (_:T α) (iha ihb:LM α) (k:Pt) (c:Option α→Prop):Prop:=Pt.rec (motive:=fun _=>Prop) (c (some v)) (fun k _=>iha k c) (fun k _=>ihb k c) k
def lookK (t:T α) (k:Pt) (c:Option α→Prop):Prop:=T.rec (motive:=fun _=>LM α) qL qZ qN t k c
theorem lookK_iff (c:Option α→Prop):∀ (t:T α) (k:Pt),lookK t k c↔c (find t k)
 | .l,k=>by rw [find_l]; exact Iff.rfl
 | .m _ _,.e=>Iff.rfl
 | .m a _,.z k=>lookK_iff c a k
 | .m _ b,.o k=>lookK_iff c b k
 | .n _ _ _,.e=>Iff.rfl
 | .n a _ _,.z k=>lookK_iff c a k
 | .n _ _ b,.o k=>lookK_iff c b k
end T
inductive AV where
 | bool (b:Bool)
 | int (k:IntKind) (n:Int)
 | str (s:List Nat)
 | nilp
 | ptr (k:Pt) (o:Nat)
 | nils
 | sl (k:Pt) (o l c:Nat) (op:Bool)
 | slz (k:Pt) (o p:Nat)
 | nilm
 | map (k:Pt)
 | fn (f:Fn) (first caps:List AV)
 | yld (k:Pt)
 | chan (k:Pt)
 | nilc
 | nilf
 | iface (t:TypeId) (v:AV)
 | nili
 | agg (vs:List AV)
 | tup (vs:List AV)
def eqP:Pt→Pt→Bool
 | .e,.e=>true
 | .z p,.z q=>eqP p q
 | .o p,.o q=>eqP p q
 | _,_=>false
theorem eqP_spec:∀ {p q:Pt},eqP p q=true→p=q
 | .e,.e,_=>rfl
 | .z p,.z q,h=>by rw [eqP] at h; rw [eqP_spec h]
 | .o p,.o q,h=>by rw [eqP] at h; rw [eqP_spec h]
 | .e,.z _,h=>by cases h
 | .e,.o _,h=>by cases h
 | .z _,.e,h=>by cases h
 | .z _,.o _,h=>by cases h
 | .o _,.e,h=>by cases h
 | .o _,.z _,h=>by cases h
theorem eqP_refl:∀ p:Pt,eqP p p=true
 | .e=>rfl
 | .z p=>eqP_refl p
 | .o p=>eqP_refl p
theorem eqP_ne {p q:Pt} (h:p≠q):eqP p q=false:=by
 cases e:eqP p q with
 | false=>rfl
 | true=>exact absurd (eqP_spec e) h
structure Rho where
 has:Pt→Prop
 res:Pt→Prop
 blk:Pt→Nat
 ext:Pt→Nat
 lp:Pt→Loop
structure Rho.Le (r s:Rho):Prop where
 has:∀ k,r.has k→s.has k
 res:∀ k,r.res k→s.res k
 blk:∀ k,r.has k→s.blk k=r.blk k
 ext:∀ k,r.has k→s.ext k=r.ext k
 lp:∀ k,r.has k→s.lp k=r.lp k
theorem Rho.Le.refl (r:Rho):r.Le r:=⟨fun _ h=>h,fun _ h=>h,fun _ _=>rfl,fun _ _=>rfl,fun _ _=>rfl⟩
theorem Rho.Le.trans {r s t:Rho} (h:r.Le s) (g:s.Le t):r.Le t :=
 ⟨fun k hk=>g.has k (h.has k hk),fun k hk=>g.res k (h.res k hk),fun k hk=>(g.blk k (h.has k hk)).trans (h.blk k hk),fun k hk=>(g.ext k (h.has k hk)).trans (h.ext k hk),fun k hk=>(g.lp k (h.has k hk)).trans (h.lp k hk)⟩
def bytesOf (s:List Nat):ByteArray:=⟨(s.map UInt8.ofNat).toArray⟩
mutual
def conc (r:Rho):AV→Value
 | .bool b=>.bool b
 | .int k n=>.int k n
 | .str s=>.string (bytesOf s)
 | .nilp=>.pointer none
 | .ptr k o=>.pointer (some ⟨r.blk k,o,none⟩)
 | .nils=>.slice none 0 0
 | .sl k o l c op=>.slice (some ⟨r.blk k,o,none⟩) l (if op then c+r.ext k else c)
 | .slz k o p=>.slice (some ⟨r.blk k,if r.ext k=0 then o else p,none⟩) 0 (r.ext k)
 | .nilm=>.map none
 | .map k=>.map (some (r.blk k))
 | .fn f a b=>.func f (concL r a).toArray (concL r b).toArray
 | .yld k=>.func (.yield (r.blk k)) #[] #[]
 | .chan k=>.chan (some (r.blk k))
 | .nilc=>.chan none
 | .nilf=>.nilFunc
 | .iface t v=>.iface t (conc r v)
 | .nili=>.nilIface
 | .agg vs=>.agg (concL r vs).toArray
 | .tup vs=>.tuple (concL r vs).toArray
def concL (r:Rho):List AV→List Value
 | []=>[]
 | v :: vs=>conc r v :: concL r vs
end
mutual
def okV (n:Pt→Prop):AV→Prop
 | .str s=>∀ b ∈ s,b<256
 | .ptr k _=>n k
 | .sl k _ _ _ _=>n k
 | .slz k _ _=>n k
 | .map k=>n k
 | .fn _ a b=>okL n a∧okL n b
 | .yld k=>n k
 | .chan k=>n k
 | .iface _ v=>okV n v
 | .agg vs=>okL n vs
 | .tup vs=>okL n vs
 | _=>True
def okL (n:Pt→Prop):List AV→Prop
 | []=>True
 | v :: vs=>okV n v∧okL n vs
end
theorem concL_map (r:Rho):∀ l,concL r l=l.map (conc r)
 | []=>by rw [concL]; rfl
 | v :: vs=>by rw [concL,concL_map r vs]; rfl
theorem okL_iff (n:Pt→Prop):∀ l,okL n l↔∀ v ∈ l,okV n v
 | []=>by simp [okL]
 | v :: vs=>by simp [okL,okL_iff n vs]
mutual
theorem okV.mono {n m:Pt→Prop} (h:∀ k,n k→m k):∀ {v:AV},okV n v→okV m v
 | .bool _,_=>by simp [okV]
 | .int _ _,_=>by simp [okV]
 | .str _,g=>by simp only [okV] at g ⊢; exact g
 | .nilp,_=>by simp [okV]
 | .ptr _ _,g=>by simp only [okV] at g ⊢; exact h _ g
 | .nils,_=>by simp [okV]
 | .sl _ _ _ _ _,g=>by simp only [okV] at g ⊢; exact h _ g
 | .slz _ _ _,g=>by simp only [okV] at g ⊢; exact h _ g
 | .nilm,_=>by simp [okV]
 | .map _,g=>by simp only [okV] at g ⊢; exact h _ g
 | .fn _ _ _,g=>by simp only [okV] at g ⊢; exact ⟨okL.mono h g.1,okL.mono h g.2⟩
 | .yld _,g=>by simp only [okV] at g ⊢; exact h _ g
 | .chan _,g=>by simp only [okV] at g ⊢; exact h _ g
 | .nilc,_=>by simp [okV]
 | .nilf,_=>by simp [okV]
 | .iface _ _,g=>by simp only [okV] at g ⊢; exact okV.mono h g
 | .nili,_=>by simp [okV]
 | .agg _,g=>by simp only [okV] at g ⊢; exact okL.mono h g
 | .tup _,g=>by simp only [okV] at g ⊢; exact okL.mono h g
theorem okL.mono {n m:Pt→Prop} (h:∀ k,n k→m k):∀ {l:List AV},okL n l→okL m l
 | [],_=>by simp [okL]
 | _ :: _,g=>by simp only [okL] at g ⊢; exact ⟨okV.mono h g.1,okL.mono h g.2⟩
end
mutual
theorem conc_le {r s:Rho} (h:r.Le s):∀ {v:AV},okV r.has v→conc s v=conc r v
 | .bool _,_=>by simp [conc]
 | .int _ _,_=>by simp [conc]
 | .str _,_=>by simp [conc]
 | .nilp,_=>by simp [conc]
 | .ptr k _,g=>by simp only [okV] at g; simp only [conc,h.blk k g]
 | .nils,_=>by simp [conc]
 | .sl k _ _ _ _,g=>by simp only [okV] at g; simp only [conc,h.blk k g,h.ext k g]
 | .slz k _ _,g=>by simp only [okV] at g; simp only [conc,h.blk k g,h.ext k g]
 | .nilm,_=>by simp [conc]
 | .map k,g=>by simp only [okV] at g; simp only [conc,h.blk k g]
 | .fn _ _ _,g=>by simp only [okV] at g; simp only [conc,concL_le h g.1,concL_le h g.2]
 | .yld k,g=>by simp only [okV] at g; simp only [conc,h.blk k g]
 | .chan k,g=>by simp only [okV] at g; simp only [conc,h.blk k g]
 | .nilc,_=>by simp [conc]
 | .nilf,_=>by simp [conc]
 | .iface _ _,g=>by simp only [okV] at g; simp only [conc,conc_le h g]
 | .nili,_=>by simp [conc]
 | .agg _,g=>by simp only [okV] at g; simp only [conc,concL_le h g]
 | .tup _,g=>by simp only [okV] at g; simp only [conc,concL_le h g]
theorem concL_le {r s:Rho} (h:r.Le s):∀ {l:List AV},okL r.has l→concL s l=concL r l
 | [],_=>by simp [concL]
 | _ :: _,g=>by simp only [okL] at g; simp only [concL,conc_le h g.1,concL_le h g.2]
end
theorem concL_length (r:Rho) (l:List AV):(concL r l).length=l.length:=by rw [concL_map]; simp
theorem concL_append (r:Rho) (a b:List AV):concL r (a ++ b)=concL r a ++ concL r b:=by simp only [concL_map]; simp
theorem concL_get (r:Rho) (l:List AV) (i:Nat):(concL r l)[i]?=l[i]?.map (conc r):=by rw [concL_map]; simp
theorem okL_append {n:Pt→Prop} {a b:List AV}:okL n (a ++ b)↔okL n a∧okL n b:=by
 simp only [okL_iff,List.mem_append]
 exact ⟨fun h=>⟨fun v hv=>h v (.inl hv),fun v hv=>h v (.inr hv)⟩,fun h v hv=>hv.elim (h.1 v) (h.2 v)⟩
theorem okL.get {n:Pt→Prop} {l:List AV} (h:okL n l) {i:Nat} {v:AV} (hv:l[i]?=some v):okV n v :=
 (okL_iff n l).1 h v (List.mem_of_getElem? hv)
end Go.Proofs.YtidggaoacldgkaaGreatDoor.X

/- An executor for closed calls, 14b: what is asked of the world ahead of the call: the library's variable of the error type is laid. -/
namespace Go.Proofs.YtidggaoacldgkaaGreatDoor.X
open Go.RowKit
def GW (w:World):Prop:=w.cell? ⟨0,0,none⟩=some (.iface 280 (.agg #[.pointer (some ⟨1,91,none⟩)]))
theorem GW.below {w0 w:World} (h:GW w0) (hB:Below w0.heap.size w0 w):GW w:=by
 have h0:0<w0.heap.size:=by
  rcases Nat.eq_zero_or_pos w0.heap.size with h0 | h0
  ·unfold GW at h; simp [World.cell?,h0] at h
  ·exact h0
 unfold GW World.cell? at h ⊢
 rw [hB.block 0 h0]
 exact h
end Go.Proofs.YtidggaoacldgkaaGreatDoor.X
