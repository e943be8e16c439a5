/- An executor for closed calls, 1: names of blocks and slots (binary paths), tries over them, values without addresses of their own, and what real value each stands for by a placing of its names. -/
import Derived.Orders
import Derived.Below
import Derived.KernelRfl
namespace Go.Proofs.Ytfnehpgefcnjgaa.X

/-- a name: a number in its binary digits (bijective, the lowest first) -/
inductive Pt where
  | e
  | z (p : Pt)
  | o (p : Pt)

def Pt.toNat : Pt → Nat
  | .e => 0
  | .z p => 2 * p.toNat + 1
  | .o p => 2 * p.toNat + 2

def Pt.succ : Pt → Pt
  | .e => .z .e
  | .z p => .o p
  | .o p => .z p.succ

theorem Pt.toNat_succ : ∀ p : Pt, p.succ.toNat = p.toNat + 1
  | .e => rfl
  | .z p => by simp only [Pt.succ, Pt.toNat]
  | .o p => by simp only [Pt.succ, Pt.toNat, Pt.toNat_succ p]; omega

theorem Pt.inj : ∀ {p q : Pt}, p.toNat = q.toNat → p = q
  | .e, .e, _ => rfl
  | .e, .z q, h => by simp only [Pt.toNat] at h; omega
  | .e, .o q, h => by simp only [Pt.toNat] at h; omega
  | .z p, .e, h => by simp only [Pt.toNat] at h; omega
  | .z p, .z q, h => by simp only [Pt.toNat] at h; rw [Pt.inj (p := p) (q := q) (by omega)]
  | .z p, .o q, h => by simp only [Pt.toNat] at h; omega
  | .o p, .e, h => by simp only [Pt.toNat] at h; omega
  | .o p, .z q, h => by simp only [Pt.toNat] at h; omega
  | .o p, .o q, h => by simp only [Pt.toNat] at h; rw [Pt.inj (p := p) (q := q) (by omega)]

def Pt.ofNat (n : Nat) : Pt := Nat.rec (motive := fun _ => Pt) .e (fun _ p => p.succ) n

theorem Pt.toNat_ofNat (n : Nat) : (Pt.ofNat n).toNat = n := by
  induction n with
  | zero => rfl
  | succ n ih => show (Pt.ofNat n).succ.toNat = n + 1; rw [Pt.toNat_succ, ih]

/-- a trie over names -/
inductive T (α : Type) where
  | l
  | m (a b : T α)
  | n (a : T α) (v : α) (b : T α)

namespace T
variable {α : Type}

def find : T α → Pt → Option α
  | .l, _ => none
  | .m _ _, .e => none
  | .m a _, .z k => find a k
  | .m _ b, .o k => find b k
  | .n _ v _, .e => some v
  | .n a _ _, .z k => find a k
  | .n _ _ b, .o k => find b k

def one (x : α) : Pt → T α
  | .e => .n .l x .l
  | .z k => .m (one x k) .l
  | .o k => .m .l (one x k)

def set (x : α) : T α → Pt → T α
  | .l, k => one x k
  | .m a b, .e => .n a x b
  | .m a b, .z k => .m (set x a k) b
  | .m a b, .o k => .m a (set x b k)
  | .n a _ b, .e => .n a x b
  | .n a v b, .z k => .n (set x a k) v b
  | .n a v b, .o k => .n a v (set x b k)

def del : T α → Pt → T α
  | .l, _ => .l
  | .m a b, .e => .m a b
  | .m a b, .z k => .m (del a k) b
  | .m a b, .o k => .m a (del b k)
  | .n a _ b, .e => .m a b
  | .n a v b, .z k => .n (del a k) v b
  | .n a v b, .o k => .n a v (del b k)

theorem find_l (k : Pt) : find (.l : T α) k = none := by cases k <;> rfl

theorem find_one (x : α) : ∀ k, find (one x k) k = some x
  | .e => rfl
  | .z k => find_one x k
  | .o k => find_one x k

theorem find_one_ne (x : α) : ∀ k j, j ≠ k → find (one x k) j = none
  | .e, .e, h => (h rfl).elim
  | .e, .z j, _ => find_l j
  | .e, .o j, _ => find_l j
  | .z _, .e, _ => rfl
  | .z k, .z j, h => find_one_ne x k j (fun e => h (e ▸ rfl))
  | .z _, .o j, _ => find_l j
  | .o _, .e, _ => rfl
  | .o _, .z j, _ => find_l j
  | .o k, .o j, h => find_one_ne x k j (fun e => h (e ▸ rfl))

theorem find_set (x : α) : ∀ (t : T α) (k : Pt), find (set x t k) k = some x
  | .l, k => find_one x k
  | .m _ _, .e => rfl
  | .m a _, .z k => find_set x a k
  | .m _ b, .o k => find_set x b k
  | .n _ _ _, .e => rfl
  | .n a _ _, .z k => find_set x a k
  | .n _ _ b, .o k => find_set x b k

theorem find_set_ne (x : α) : ∀ (t : T α) (k j : Pt), j ≠ k → find (set x t k) j = find t j
  | .l, k, j, h => by rw [find_l]; exact find_one_ne x k j h
  | .m _ _, .e, .e, h => (h rfl).elim
  | .m _ _, .e, .z _, _ => rfl
  | .m _ _, .e, .o _, _ => rfl
  | .m _ _, .z _, .e, _ => rfl
  | .m a _, .z k, .z j, h => find_set_ne x a k j (fun e => h (e ▸ rfl))
  | .m _ _, .z _, .o _, _ => rfl
  | .m _ _, .o _, .e, _ => rfl
  | .m _ _, .o _, .z _, _ => rfl
  | .m _ b, .o k, .o j, h => find_set_ne x b k j (fun e => h (e ▸ rfl))
  | .n _ _ _, .e, .e, h => (h rfl).elim
  | .n _ _ _, .e, .z _, _ => rfl
  | .n _ _ _, .e, .o _, _ => rfl
  | .n _ _ _, .z _, .e, _ => rfl
  | .n a _ _, .z k, .z j, h => find_set_ne x a k j (fun e => h (e ▸ rfl))
  | .n _ _ _, .z _, .o _, _ => rfl
  | .n _ _ _, .o _, .e, _ => rfl
  | .n _ _ _, .o _, .z _, _ => rfl
  | .n _ _ b, .o k, .o j, h => find_set_ne x b k j (fun e => h (e ▸ rfl))

theorem find_del : ∀ (t : T α) (k : Pt), find (del t k) k = none
  | .l, k => find_l k
  | .m _ _, .e => rfl
  | .m a _, .z k => find_del a k
  | .m _ b, .o k => find_del b k
  | .n _ _ _, .e => rfl
  | .n a _ _, .z k => find_del a k
  | .n _ _ b, .o k => find_del b k

theorem find_del_ne : ∀ (t : T α) (k j : Pt), j ≠ k → find (del t k) j = find t j
  | .l, k, j, _ => by rw [find_l]; exact find_l j
  | .m _ _, .e, .e, h => (h rfl).elim
  | .m _ _, .e, .z _, _ => rfl
  | .m _ _, .e, .o _, _ => rfl
  | .m _ _, .z _, .e, _ => rfl
  | .m a _, .z k, .z j, h => find_del_ne a k j (fun e => h (e ▸ rfl))
  | .m _ _, .z _, .o _, _ => rfl
  | .m _ _, .o _, .e, _ => rfl
  | .m _ _, .o _, .z _, _ => rfl
  | .m _ b, .o k, .o j, h => find_del_ne b k j (fun e => h (e ▸ rfl))
  | .n _ _ _, .e, .e, h => (h rfl).elim
  | .n _ _ _, .e, .z _, _ => rfl
  | .n _ _ _, .e, .o _, _ => rfl
  | .n _ _ _, .z _, .e, _ => rfl
  | .n a _ _, .z k, .z j, h => find_del_ne a k j (fun e => h (e ▸ rfl))
  | .n _ _ _, .z _, .o _, _ => rfl
  | .n _ _ _, .o _, .e, _ => rfl
  | .n _ _ _, .o _, .z _, _ => rfl
  | .n _ _ b, .o k, .o j, h => find_del_ne b k j (fun e => h (e ▸ rfl))

/-- the entry at k is handed on -/
def getK (t : T α) : Pt → (α → Prop) → Prop :=
  T.rec (motive := fun _ => Pt → (α → Prop) → Prop) (fun _ _ => False)
    (fun _ _ iha ihb k c => Pt.rec (motive := fun _ => Prop) False (fun k _ => iha k c) (fun k _ => ihb k c) k)
    (fun _ v _ iha ihb k c => Pt.rec (motive := fun _ => Prop) (c v) (fun k _ => iha k c) (fun k _ => ihb k c) k) t

theorem getK_iff (c : α → Prop) : ∀ (t : T α) (k : Pt), getK t k c ↔ ∃ v, find t k = some v ∧ c v
  | .l, k => by simp [getK, find_l]
  | .m _ _, .e => by simp [getK, find]
  | .m a _, .z k => getK_iff c a k
  | .m _ b, .o k => getK_iff c b k
  | .n _ v _, .e => by simp [getK, find]
  | .n a _ _, .z k => getK_iff c a k
  | .n _ _ b, .o k => getK_iff c b k

/-- the trie with x at k is handed on -/
def setK (x : α) (t : T α) : Pt → (T α → Prop) → Prop :=
  T.rec (motive := fun _ => Pt → (T α → Prop) → Prop) (fun k c => c (one x k))
    (fun a b iha ihb k c => Pt.rec (motive := fun _ => Prop) (c (.n a x b)) (fun k _ => iha k (fun a => c (.m a b))) (fun k _ => ihb k (fun b => c (.m a b))) k)
    (fun a v b iha ihb k c => Pt.rec (motive := fun _ => Prop) (c (.n a x b)) (fun k _ => iha k (fun a => c (.n a v b))) (fun k _ => ihb k (fun b => c (.n a v b))) k) t

theorem setK_iff (x : α) : ∀ (t : T α) (k : Pt) (c : T α → Prop), setK x t k c ↔ c (set x t k)
  | .l, _, _ => Iff.rfl
  | .m _ _, .e, _ => Iff.rfl
  | .m a b, .z k, c => setK_iff x a k (fun a => c (.m a b))
  | .m a b, .o k, c => setK_iff x b k (fun b => c (.m a b))
  | .n _ _ _, .e, _ => Iff.rfl
  | .n a v b, .z k, c => setK_iff x a k (fun a => c (.n a v b))
  | .n a v b, .o k, c => setK_iff x b k (fun b => c (.n a v b))

end T

/-- a value whose addresses are names. 'sl k o l c op': a slice of the block k from cell o on; op: its capacity may be more than c. 'slz k o p': an empty one, at o if there is no room behind it, else at p. -/
inductive AV where
  | bool (b : Bool)
  | int (k : IntKind) (n : Int)
  | str (s : List Nat)
  | nilp
  | ptr (k : Pt) (o : Nat)
  | nils
  | sl (k : Pt) (o l c : Nat) (op : Bool)
  | slz (k : Pt) (o p : Nat)
  | nilm
  | map (k : Pt)
  | fn (f : Fn) (first caps : List AV)
  | yld (k : Pt)
  | chan (k : Pt)
  | nilc
  | nilf
  | iface (t : TypeId) (v : AV)
  | nili
  | agg (vs : List AV)
  | tup (vs : List AV)

def eqP : Pt → Pt → Bool
  | .e, .e => true
  | .z p, .z q => eqP p q
  | .o p, .o q => eqP p q
  | _, _ => false

theorem eqP_spec : ∀ {p q : Pt}, eqP p q = true → p = q
  | .e, .e, _ => rfl
  | .z p, .z q, h => by rw [eqP] at h; rw [eqP_spec h]
  | .o p, .o q, h => by rw [eqP] at h; rw [eqP_spec h]
  | .e, .z _, h => by cases h
  | .e, .o _, h => by cases h
  | .z _, .e, h => by cases h
  | .z _, .o _, h => by cases h
  | .o _, .e, h => by cases h
  | .o _, .z _, h => by cases h

theorem eqP_refl : ∀ p : Pt, eqP p p = true
  | .e => rfl
  | .z p => eqP_refl p
  | .o p => eqP_refl p

theorem eqP_ne {p q : Pt} (h : p ≠ q) : eqP p q = false := by
  cases e : eqP p q with
  | false => rfl
  | true => exact absurd (eqP_spec e) h

/-- a placing: which names are in use, which are set aside, which block each means, and by how many elements its rows may be longer -/
structure Rho where
  has : Pt → Prop
  res : Pt → Prop
  blk : Pt → Nat
  ext : Pt → Nat
  lp : Pt → Loop

structure Rho.Le (r s : Rho) : Prop where
  has : ∀ k, r.has k → s.has k
  res : ∀ k, r.res k → s.res k
  blk : ∀ k, r.has k → s.blk k = r.blk k
  ext : ∀ k, r.has k → s.ext k = r.ext k
  lp : ∀ k, r.has k → s.lp k = r.lp k

theorem Rho.Le.refl (r : Rho) : r.Le r := ⟨fun _ h => h, fun _ h => h, fun _ _ => rfl, fun _ _ => rfl, fun _ _ => rfl⟩

theorem Rho.Le.trans {r s t : Rho} (h : r.Le s) (g : s.Le t) : r.Le t :=
  ⟨fun k hk => g.has k (h.has k hk), fun k hk => g.res k (h.res k hk), fun k hk => (g.blk k (h.has k hk)).trans (h.blk k hk), fun k hk => (g.ext k (h.has k hk)).trans (h.ext k hk), fun k hk => (g.lp k (h.has k hk)).trans (h.lp k hk)⟩

def bytesOf (s : List Nat) : ByteArray := ⟨(s.map UInt8.ofNat).toArray⟩

mutual
/-- the real value -/
def conc (r : Rho) : AV → Value
  | .bool b => .bool b
  | .int k n => .int k n
  | .str s => .string (bytesOf s)
  | .nilp => .pointer none
  | .ptr k o => .pointer (some ⟨r.blk k, o, none⟩)
  | .nils => .slice none 0 0
  | .sl k o l c op => .slice (some ⟨r.blk k, o, none⟩) l (if op then c + r.ext k else c)
  | .slz k o p => .slice (some ⟨r.blk k, if r.ext k = 0 then o else p, none⟩) 0 (r.ext k)
  | .nilm => .map none
  | .map k => .map (some (r.blk k))
  | .fn f a b => .func f (concL r a).toArray (concL r b).toArray
  | .yld k => .func (.yield (r.blk k)) #[] #[]
  | .chan k => .chan (some (r.blk k))
  | .nilc => .chan none
  | .nilf => .nilFunc
  | .iface t v => .iface t (conc r v)
  | .nili => .nilIface
  | .agg vs => .agg (concL r vs).toArray
  | .tup vs => .tuple (concL r vs).toArray
def concL (r : Rho) : List AV → List Value
  | [] => []
  | v :: vs => conc r v :: concL r vs
end

mutual
/-- all names are in use -/
def okV (n : Pt → Prop) : AV → Prop
  | .str s => ∀ b ∈ s, b < 256
  | .ptr k _ => n k
  | .sl k _ _ _ _ => n k
  | .slz k _ _ => n k
  | .map k => n k
  | .fn _ a b => okL n a ∧ okL n b
  | .yld k => n k
  | .chan k => n k
  | .iface _ v => okV n v
  | .agg vs => okL n vs
  | .tup vs => okL n vs
  | _ => True
def okL (n : Pt → Prop) : List AV → Prop
  | [] => True
  | v :: vs => okV n v ∧ okL n vs
end

theorem concL_map (r : Rho) : ∀ l, concL r l = l.map (conc r)
  | [] => by rw [concL]; rfl
  | v :: vs => by rw [concL, concL_map r vs]; rfl

theorem okL_iff (n : Pt → Prop) : ∀ l, okL n l ↔ ∀ v ∈ l, okV n v
  | [] => by simp [okL]
  | v :: vs => by simp [okL, okL_iff n vs]

mutual
theorem okV.mono {n m : Pt → Prop} (h : ∀ k, n k → m k) : ∀ {v : AV}, okV n v → okV m v
  | .bool _, _ => by simp [okV]
  | .int _ _, _ => by simp [okV]
  | .str _, g => by simp only [okV] at g ⊢; exact g
  | .nilp, _ => by simp [okV]
  | .ptr _ _, g => by simp only [okV] at g ⊢; exact h _ g
  | .nils, _ => by simp [okV]
  | .sl _ _ _ _ _, g => by simp only [okV] at g ⊢; exact h _ g
  | .slz _ _ _, g => by simp only [okV] at g ⊢; exact h _ g
  | .nilm, _ => by simp [okV]
  | .map _, g => by simp only [okV] at g ⊢; exact h _ g
  | .fn _ _ _, g => by simp only [okV] at g ⊢; exact ⟨okL.mono h g.1, okL.mono h g.2⟩
  | .yld _, g => by simp only [okV] at g ⊢; exact h _ g
  | .chan _, g => by simp only [okV] at g ⊢; exact h _ g
  | .nilc, _ => by simp [okV]
  | .nilf, _ => by simp [okV]
  | .iface _ _, g => by simp only [okV] at g ⊢; exact okV.mono h g
  | .nili, _ => by simp [okV]
  | .agg _, g => by simp only [okV] at g ⊢; exact okL.mono h g
  | .tup _, g => by simp only [okV] at g ⊢; exact okL.mono h g
theorem okL.mono {n m : Pt → Prop} (h : ∀ k, n k → m k) : ∀ {l : List AV}, okL n l → okL m l
  | [], _ => by simp [okL]
  | _ :: _, g => by simp only [okL] at g ⊢; exact ⟨okV.mono h g.1, okL.mono h g.2⟩
end

mutual
theorem conc_le {r s : Rho} (h : r.Le s) : ∀ {v : AV}, okV r.has v → conc s v = conc r v
  | .bool _, _ => by simp [conc]
  | .int _ _, _ => by simp [conc]
  | .str _, _ => by simp [conc]
  | .nilp, _ => by simp [conc]
  | .ptr k _, g => by simp only [okV] at g; simp only [conc, h.blk k g]
  | .nils, _ => by simp [conc]
  | .sl k _ _ _ _, g => by simp only [okV] at g; simp only [conc, h.blk k g, h.ext k g]
  | .slz k _ _, g => by simp only [okV] at g; simp only [conc, h.blk k g, h.ext k g]
  | .nilm, _ => by simp [conc]
  | .map k, g => by simp only [okV] at g; simp only [conc, h.blk k g]
  | .fn _ _ _, g => by simp only [okV] at g; simp only [conc, concL_le h g.1, concL_le h g.2]
  | .yld k, g => by simp only [okV] at g; simp only [conc, h.blk k g]
  | .chan k, g => by simp only [okV] at g; simp only [conc, h.blk k g]
  | .nilc, _ => by simp [conc]
  | .nilf, _ => by simp [conc]
  | .iface _ _, g => by simp only [okV] at g; simp only [conc, conc_le h g]
  | .nili, _ => by simp [conc]
  | .agg _, g => by simp only [okV] at g; simp only [conc, concL_le h g]
  | .tup _, g => by simp only [okV] at g; simp only [conc, concL_le h g]
theorem concL_le {r s : Rho} (h : r.Le s) : ∀ {l : List AV}, okL r.has l → concL s l = concL r l
  | [], _ => by simp [concL]
  | _ :: _, g => by simp only [okL] at g; simp only [concL, conc_le h g.1, concL_le h g.2]
end

theorem concL_length (r : Rho) (l : List AV) : (concL r l).length = l.length := by rw [concL_map]; simp

theorem concL_append (r : Rho) (a b : List AV) : concL r (a ++ b) = concL r a ++ concL r b := by simp only [concL_map]; simp

theorem concL_get (r : Rho) (l : List AV) (i : Nat) : (concL r l)[i]? = l[i]?.map (conc r) := by rw [concL_map]; simp

theorem okL_append {n : Pt → Prop} {a b : List AV} : okL n (a ++ b) ↔ okL n a ∧ okL n b := by
  simp only [okL_iff, List.mem_append]
  exact ⟨fun h => ⟨fun v hv => h v (.inl hv), fun v hv => h v (.inr hv)⟩, fun h v hv => hv.elim (h.1 v) (h.2 v)⟩

theorem okL.get {n : Pt → Prop} {l : List AV} (h : okL n l) {i : Nat} {v : AV} (hv : l[i]? = some v) : okV n v :=
  (okL_iff n l).1 h v (List.mem_of_getElem? hv)

end Go.Proofs.Ytfnehpgefcnjgaa.X

/- An executor for closed calls, 2: memory: what a trie of blocks says of a world, and what loads, stores and new blocks do to it. -/
namespace Go.Proofs.Ytfnehpgefcnjgaa.X
open Go.RowKit

/-- how code is left -/
inductive AE where
  | nrm
  | exit (id : Nat)
  | ret

def AE.code : AE → Code
  | .nrm => .skip
  | .exit id => .exit id
  | .ret => .ret

/-- a block: a row of cells, a map's entries, or a range over a function -/
inductive AO where
  | cells (vs : List AV) (e : TypeId)
  | map (es : List (AV × AV × Nat)) (clock : Nat)
  | frz (vs : List AV) (e : TypeId)
  | loop (st : LoopState) (pe : Option AE)
  | chan (cap : Nat) (buf : List AV)

def okO (n : Pt → Prop) : AO → Prop
  | .cells vs _ => okL n vs
  | .map es _ => ∀ x ∈ es, okV n x.1 ∧ okV n x.2.1
  | .frz vs _ => okL n vs
  | .loop _ _ => True
  | .chan _ buf => okL n buf

theorem okO.mono {n m : Pt → Prop} (h : ∀ k, n k → m k) : ∀ {o : AO}, okO n o → okO m o
  | .cells _ _, g => okL.mono h g
  | .map _ _, g => fun x hx => ⟨okV.mono h (g x hx).1, okV.mono h (g x hx).2⟩
  | .frz _ _, g => okL.mono h g
  | .loop _ _, _ => trivial
  | .chan _ _, g => okL.mono h g

def sizeT (P : Program) (t : TypeId) : Nat := ((P.info? t).map (·.size)).getD 0

def concE (r : Rho) (x : AV × AV × Nat) : MapEntry := ⟨conc r x.1, conc r x.2.1, x.2.2⟩

def KV (e : AV × AV × Nat) : AV × AV := (e.1, e.2.1)

/-- the same entries, in whatever order; the keys are texts, no two of them the same -/
structure MapS (es es' : List (AV × AV × Nat)) : Prop where
  perm : (es.map KV).Perm (es'.map KV)
  nodup : (es.map Prod.fst).Nodup
  str : ∀ e ∈ es, ∃ s, e.1 = .str s

theorem MapS.mem {es es' : List (AV × AV × Nat)} (M : MapS es es') {e' : AV × AV × Nat} (he : e' ∈ es') : ∃ e ∈ es, e.1 = e'.1 ∧ e.2.1 = e'.2.1 := by
  have := M.perm.mem_iff.2 (List.mem_map.2 ⟨e', he, rfl⟩)
  obtain ⟨e, h1, h2⟩ := List.mem_map.1 this
  simp only [KV, Prod.mk.injEq] at h2
  exact ⟨e, h1, h2.1, h2.2⟩

/-- when entries were put in: at no two times the same, all ahead of now -/
def Births (es : List (AV × AV × Nat)) (c : Nat) : Prop := (es.map (·.2.2)).Nodup ∧ ∀ e ∈ es, e.2.2 < c

theorem Births.nil : Births [] 0 := ⟨.nil, fun _ h => by cases h⟩

theorem MapS.nil : MapS [] [] := ⟨.refl _, .nil, fun _ h => by cases h⟩

/-- the real block that a block stands for -/
def BR (P : Program) (r : Rho) (k : Pt) : AO → Option Obj → Prop
  | .cells vs e, x => ∃ rest : List Value, x = some (.cells (concL r vs ++ rest).toArray e (0, 0)) ∧ rest.length = r.ext k * sizeT P e
  | .map es _, x => ∃ es' c, x = some (.map (es'.map (concE r)).toArray c) ∧ MapS es es' ∧ Births es' c
  | .frz vs e, x => ∃ (rest : List Value) (z : Nat × Nat), x = some (.cells (concL r vs ++ rest).toArray e z) ∧ rest.length = r.ext k * sizeT P e
  | .loop st pe, x => x = some (.loop { r.lp k with state := st, pending := pe.map AE.code })
  | .chan cap buf, x => ∃ sent rcvd, x = some (.chan cap (concL r buf).toArray false sent rcvd false)

theorem BR.le {P : Program} {r s : Rho} (h : r.Le s) {k : Pt} {o : AO} {x : Option Obj} (hk : r.has k) (ho : okO r.has o) (g : BR P r k o x) : BR P s k o x := by
  cases o with
  | cells vs e =>
    obtain ⟨rest, hx, hl⟩ := g
    exact ⟨rest, by rw [concL_le h ho]; exact hx, by rw [h.ext k hk]; exact hl⟩
  | frz vs e =>
    obtain ⟨rest, z, hx, hl⟩ := g
    exact ⟨rest, z, by rw [concL_le h ho]; exact hx, by rw [h.ext k hk]; exact hl⟩
  | loop st pe =>
    show x = _
    rw [show x = _ from g, h.lp k hk]
  | chan cap buf =>
    obtain ⟨sent, rcvd, hx⟩ := g
    exact ⟨sent, rcvd, by rw [concL_le h ho]; exact hx⟩
  | map es clock =>
    obtain ⟨es', c, hx, M, Bi⟩ := g
    refine ⟨es', c, ?_, M, Bi⟩
    have : es'.map (concE s) = es'.map (concE r) := List.map_congr_left fun y hy => by
      obtain ⟨e, he, e1, e2⟩ := M.mem hy
      have := ho e he
      rw [e1, e2] at this
      simp only [concE, conc_le h this.1, conc_le h this.2]
    rw [this]
    exact hx

/-- the world holds what the trie says; all else of the elder world is as it was -/
structure WR (P : Program) (w0 : World) (r : Rho) (h : T AO) (nx : Pt) (w : World) : Prop where
  dom : ∀ k, r.has k ∨ r.res k → k.toNat < nx.toNat
  dis : ∀ k, r.has k → ¬ r.res k
  below : Below w0.heap.size w0 w
  has : ∀ k o, h.find k = some o → r.has k ∧ w0.heap.size ≤ r.blk k ∧ okO r.has o ∧ BR P r k o (w.heap[r.blk k]?)
  apart : ∀ j k oj ok, h.find j = some oj → h.find k = some ok → r.blk j = r.blk k → j = k

/-- from one state to a later one: placings grow; blocks that the trie does not know stay -/
structure Ev (r : Rho) (h : T AO) (w : World) (r' : Rho) (h' : T AO) (w' : World) : Prop where
  le : r.Le r'
  size : w.heap.size ≤ w'.heap.size
  fr : ∀ b, b < w.heap.size → (∀ k o, h.find k = some o → r.blk k ≠ b) → w'.heap[b]? = w.heap[b]?
  img : ∀ k o, h'.find k = some o → w.heap.size ≤ r'.blk k ∨ ∃ j oj, h.find j = some oj ∧ r.blk j = r'.blk k

theorem Ev.refl (r : Rho) (h : T AO) (w : World) : Ev r h w r h w :=
  ⟨.refl r, Nat.le_refl _, fun _ _ _ => rfl, fun k o hk => .inr ⟨k, o, hk, rfl⟩⟩

theorem Ev.trans {r r1 r2 : Rho} {h h1 h2 : T AO} {w w1 w2 : World} (a : Ev r h w r1 h1 w1) (b : Ev r1 h1 w1 r2 h2 w2) : Ev r h w r2 h2 w2 := by
  refine ⟨a.le.trans b.le, Nat.le_trans a.size b.size, fun i hi hn => ?_, fun k o hk => ?_⟩
  · rw [b.fr i (Nat.lt_of_lt_of_le hi a.size) ?_, a.fr i hi hn]
    intro k o hk e
    rcases a.img k o hk with h1 | ⟨j, oj, hj, he⟩
    · omega
    · exact hn j oj hj (he.trans e)
  · rcases b.img k o hk with h1 | ⟨j, oj, hj, he⟩
    · exact .inl (Nat.le_trans a.size h1)
    · rcases a.img j oj hj with h1 | ⟨i, oi, hi, he'⟩
      · exact .inl (by omega)
      · exact .inr ⟨i, oi, hi, he'.trans he⟩

theorem WR.drew {P : Program} {w0 : World} {r : Rho} {h : T AO} {nx : Pt} {w : World} (H : WR P w0 r h nx w) (n : Nat) : WR P w0 r h nx { w with drawn := n } :=
  ⟨H.dom, H.dis, ⟨H.below.os, H.below.tape, H.below.output, H.below.size, H.below.block⟩, H.has, H.apart⟩

theorem Ev.drew {r : Rho} {h : T AO} {w : World} (n : Nat) : Ev r h w r h { w with drawn := n } :=
  ⟨.refl r, Nat.le_refl _, fun _ _ _ => rfl, fun k o hk => .inr ⟨k, o, hk, rfl⟩⟩

/-- a block is forgotten -/
theorem WR.del {P : Program} {w0 : World} {r : Rho} {h : T AO} {nx : Pt} {w : World} (H : WR P w0 r h nx w) (k : Pt) : WR P w0 r (h.del k) nx w := by
  have key : ∀ j o, (h.del k).find j = some o → h.find j = some o := fun j o hj => by
    by_cases e : j = k
    · subst e; rw [T.find_del] at hj; cases hj
    · rwa [T.find_del_ne _ _ _ e] at hj
  exact ⟨H.dom, H.dis, H.below, fun j o hj => H.has j o (key j o hj), fun i j oi oj hi hj => H.apart i j oi oj (key i oi hi) (key j oj hj)⟩

theorem Ev.del {r : Rho} {h : T AO} {w : World} (k : Pt) : Ev r h w r (h.del k) w := by
  refine ⟨.refl r, Nat.le_refl _, fun _ _ _ => rfl, fun j o hj => .inr ⟨j, o, ?_, rfl⟩⟩
  by_cases e : j = k
  · subst e; rw [T.find_del] at hj; cases hj
  · rwa [T.find_del_ne _ _ _ e] at hj

/-- the placing with one name more -/
def Rho.more (r : Rho) (n : Pt) (b x : Nat) : Rho :=
  ⟨fun k => k = n ∨ r.has k, r.res, fun k => if eqP k n then b else r.blk k, fun k => if eqP k n then x else r.ext k, r.lp⟩

theorem Rho.le_more {r : Rho} {n : Pt} (h : ¬ r.has n) (b x : Nat) : r.Le (r.more n b x) := by
  have e : ∀ k, r.has k → eqP k n = false := fun k hk => eqP_ne fun e => h (e ▸ hk)
  exact ⟨fun k hk => .inr hk, fun k hk => hk, fun k hk => by simp [Rho.more, e k hk], fun k hk => by simp [Rho.more, e k hk], fun _ _ => rfl⟩

theorem Rho.more_blk (r : Rho) (n : Pt) (b x : Nat) : (r.more n b x).blk n = b := by simp [Rho.more, eqP_refl]
theorem Rho.more_ext (r : Rho) (n : Pt) (b x : Nat) : (r.more n b x).ext n = x := by simp [Rho.more, eqP_refl]

theorem WR.fresh {P : Program} {w0 : World} {r : Rho} {h : T AO} {nx : Pt} {w : World} (H : WR P w0 r h nx w) : ¬ r.has nx := fun e => Nat.lt_irrefl _ (H.dom nx (.inl e))

theorem WR.unset {P : Program} {w0 : World} {r : Rho} {h : T AO} {nx : Pt} {w : World} (H : WR P w0 r h nx w) : ¬ r.res nx := fun e => Nat.lt_irrefl _ (H.dom nx (.inr e))

theorem WR.lt {P : Program} {w0 : World} {r : Rho} {h : T AO} {nx : Pt} {w : World} (H : WR P w0 r h nx w) {k : Pt} {o : AO} (hk : h.find k = some o) : r.blk k < w.heap.size := by
  have hb := (H.has k o hk).2.2.2
  rcases Nat.lt_or_ge (r.blk k) w.heap.size with h1 | h1
  · exact h1
  · rw [Array.getElem?_eq_none h1] at hb
    cases o with
    | cells vs e => obtain ⟨_, h2, _⟩ := hb; cases h2
    | map es c => obtain ⟨_, _, h2, _⟩ := hb; cases h2
    | frz vs e => obtain ⟨_, _, h2, _⟩ := hb; cases h2
    | loop st pe => cases hb
    | chan cap buf => obtain ⟨_, _, h2⟩ := hb; cases h2

/-- a block gets a name: n, that is not in use -/
theorem WR.adopt {P : Program} {w0 : World} {r : Rho} {h : T AO} {nx nx' : Pt} {w : World} (H : WR P w0 r h nx w) {n : Pt} (hn : ¬ r.has n) (hr : ¬ r.res n) (o : AO) (b x : Nat) (ho : okO (r.more n b x).has o) (hb : BR P (r.more n b x) n o (w.heap[b]?)) (hb0 : w0.heap.size ≤ b)
    (hap : ∀ k o, h.find k = some o → r.blk k ≠ b) (hx : n.toNat < nx'.toNat) (hle : nx.toNat ≤ nx'.toNat) : WR P w0 (r.more n b x) (h.set o n) nx' w := by
  have hl := Rho.le_more hn b x
  have hnx : (r.more n b x).blk n = b := r.more_blk _ _ _
  have hold : ∀ k o, h.find k = some o → (r.more n b x).blk k = r.blk k := fun k o hk => hl.blk k (H.has k o hk).1
  refine ⟨fun k hk => ?_, fun k hk => ?_, H.below, fun k o' hk => ?_, fun j k oj ok hj hk e => ?_⟩
  · rcases hk with (rfl | hk) | hk
    · exact hx
    · exact Nat.lt_of_lt_of_le (H.dom k (.inl hk)) hle
    · exact Nat.lt_of_lt_of_le (H.dom k (.inr hk)) hle
  · rcases hk with rfl | hk
    · exact hr
    · exact H.dis k hk
  · by_cases e : k = n
    · subst e
      rw [T.find_set] at hk; cases hk
      refine ⟨.inl rfl, ?_, ho, ?_⟩
      · rw [hnx]; exact hb0
      · rw [hnx]; exact hb
    · rw [T.find_set_ne _ _ _ _ e] at hk
      obtain ⟨h1, h2, h3, h4⟩ := H.has k o' hk
      refine ⟨.inr h1, by rw [hold k o' hk]; exact h2, h3.mono hl.has, ?_⟩
      rw [hold k o' hk]
      exact h4.le hl h1 h3
  · by_cases ej : j = n
    · by_cases ek : k = n
      · rw [ej, ek]
      · exfalso
        subst ej
        rw [T.find_set_ne _ _ _ _ ek] at hk
        rw [hnx, hold k ok hk] at e
        exact hap k ok hk e.symm
    · rw [T.find_set_ne _ _ _ _ ej] at hj
      by_cases ek : k = n
      · exfalso
        subst ek
        rw [hnx, hold j oj hj] at e
        exact hap j oj hj e
      · rw [T.find_set_ne _ _ _ _ ek] at hk
        rw [hold j oj hj, hold k ok hk] at e
        exact H.apart j k oj ok hj hk e

theorem WR.push {P : Program} {w0 : World} {r : Rho} {h : T AO} {nx : Pt} {w : World} (H : WR P w0 r h nx w) (obj : Obj) : WR P w0 r h nx { w with heap := w.heap.push obj } := by
  refine ⟨H.dom, H.dis, H.below.trans ⟨rfl, rfl, rfl, by simp, fun k hk => ?_⟩, fun k o hk => ?_, H.apart⟩
  · have := H.below.size
    rw [Array.getElem?_push]
    simp [show k ≠ w.heap.size by omega]
  · obtain ⟨h1, h2, h3, h4⟩ := H.has k o hk
    refine ⟨h1, h2, h3, ?_⟩
    have hl := H.lt hk
    show BR P r k o ((w.heap.push obj)[r.blk k]?)
    rw [Array.getElem?_push]
    simp only [show ¬ r.blk k = w.heap.size by omega, if_false]
    exact h4

/-- a new block -/
theorem WR.alloc {P : Program} {w0 : World} {r : Rho} {h : T AO} {nx : Pt} {w : World} (H : WR P w0 r h nx w) (o : AO) (x : Nat) (obj : Obj) (ho : okO (r.more nx w.heap.size x).has o) (hb : BR P (r.more nx w.heap.size x) nx o (some obj)) :
    WR P w0 (r.more nx w.heap.size x) (h.set o nx) nx.succ { w with heap := w.heap.push obj } ∧ Ev r h w (r.more nx w.heap.size x) (h.set o nx) { w with heap := w.heap.push obj } := by
  have hle := Rho.le_more H.fresh w.heap.size x
  refine ⟨(H.push obj).adopt H.fresh H.unset o w.heap.size x ho (by simpa using hb) H.below.size (fun k o hk => Nat.ne_of_lt (H.lt hk)) (by rw [Pt.toNat_succ]; omega) (by rw [Pt.toNat_succ]; omega), ⟨hle, by simp, fun b hb _ => ?_, fun k o' hk => ?_⟩⟩
  · show (w.heap.push obj)[b]? = _
    rw [Array.getElem?_push]; simp [show b ≠ w.heap.size by omega]
  · by_cases e : k = nx
    · subst e; rw [r.more_blk]; exact .inl (Nat.le_refl _)
    · rw [T.find_set_ne _ _ _ _ e] at hk
      exact .inr ⟨k, o', hk, (hle.blk k (H.has k o' hk).1).symm⟩

/-- a block is written -/
theorem WR.write {P : Program} {w0 : World} {r : Rho} {h : T AO} {nx : Pt} {w : World} (H : WR P w0 r h nx w) {k : Pt} {o : AO} (hk : h.find k = some o) (o' : AO) (obj : Obj) (ho : okO r.has o') (hb : BR P r k o' (some obj)) :
    WR P w0 r (h.set o' k) nx { w with heap := w.heap.setIfInBounds (r.blk k) obj } ∧ Ev r h w r (h.set o' k) { w with heap := w.heap.setIfInBounds (r.blk k) obj } := by
  have hl := H.lt hk
  obtain ⟨h1, h2, -, -⟩ := H.has k o hk
  refine ⟨⟨H.dom, H.dis, H.below.trans ⟨rfl, rfl, rfl, by simp, fun i hi => ?_⟩, ?_, ?_⟩, ⟨.refl r, by simp, fun b hb hn => ?_, fun j oj hj => ?_⟩⟩
  · exact Array.getElem?_setIfInBounds_ne (by omega)
  · intro j oj hj
    by_cases e : j = k
    · subst e
      rw [T.find_set] at hj; cases hj
      exact ⟨h1, h2, ho, by simp [hl]; exact hb⟩
    · rw [T.find_set_ne _ _ _ _ e] at hj
      obtain ⟨g1, g2, g3, g4⟩ := H.has j oj hj
      refine ⟨g1, g2, g3, ?_⟩
      show BR P r j oj ((w.heap.setIfInBounds (r.blk k) obj)[r.blk j]?)
      rw [Array.getElem?_setIfInBounds_ne (fun e' => e (H.apart k j o oj hk hj e').symm)]
      exact g4
  · intro i j oi oj hi hj e
    have key : ∀ i oi, (h.set o' k).find i = some oi → ∃ x, h.find i = some x := fun i oi hi => by
      by_cases e : i = k
      · subst e; exact ⟨o, hk⟩
      · rw [T.find_set_ne _ _ _ _ e] at hi; exact ⟨oi, hi⟩
    obtain ⟨x, hx⟩ := key i oi hi
    obtain ⟨y, hy⟩ := key j oj hj
    exact H.apart i j x y hx hy e
  · exact Array.getElem?_setIfInBounds_ne (fun e => hn k o hk e)
  · by_cases e : j = k
    · subst e; exact .inr ⟨j, o, hk, rfl⟩
    · rw [T.find_set_ne _ _ _ _ e] at hj; exact .inr ⟨j, oj, hj, rfl⟩

/-- what a loop's record says for good -/
def Rho.setL (r : Rho) (n : Pt) (L : Loop) : Rho := ⟨r.has, r.res, r.blk, r.ext, fun k => if eqP k n then L else r.lp k⟩

theorem Rho.le_setL {r : Rho} {n : Pt} (h : ¬ r.has n) (L : Loop) : r.Le (r.setL n L) :=
  ⟨fun _ h => h, fun _ h => h, fun _ _ => rfl, fun _ _ => rfl, fun k hk => by simp [Rho.setL, eqP_ne (p := k) (q := n) fun e => h (e ▸ hk)]⟩

theorem WR.setL {P : Program} {w0 : World} {r : Rho} {h : T AO} {nx : Pt} {w : World} (H : WR P w0 r h nx w) (L : Loop) : WR P w0 (r.setL nx L) h nx w :=
  ⟨H.dom, H.dis, H.below, fun k o hk => let ⟨h1, h2, h3, h4⟩ := H.has k o hk; ⟨h1, h2, h3, h4.le (Rho.le_setL H.fresh L) h1 h3⟩, H.apart⟩

theorem Ev.setL {r : Rho} {h : T AO} {nx : Pt} {w : World} (hn : ¬ r.has nx) (L : Loop) : Ev r h w (r.setL nx L) h w :=
  ⟨Rho.le_setL hn L, Nat.le_refl _, fun _ _ _ => rfl, fun k o hk => .inr ⟨k, o, hk, rfl⟩⟩

/-- the record of a range over a function is made -/
theorem WR.allocL {P : Program} {w0 : World} {r : Rho} {h : T AO} {nx : Pt} {w : World} (H : WR P w0 r h nx w) (L : Loop) (st : LoopState) (pe : Option AE) :
    WR P w0 ((r.setL nx L).more nx w.heap.size 0) (h.set (.loop st pe) nx) nx.succ { w with heap := w.heap.push (.loop { L with state := st, pending := pe.map AE.code }) } ∧ Ev r h w ((r.setL nx L).more nx w.heap.size 0) (h.set (.loop st pe) nx) { w with heap := w.heap.push (.loop { L with state := st, pending := pe.map AE.code }) } := by
  obtain ⟨h1, h2⟩ := (H.setL L).alloc (.loop st pe) 0 (.loop { L with state := st, pending := pe.map AE.code }) trivial (by show some _ = some _; simp [Rho.more, Rho.setL, eqP_refl])
  exact ⟨h1, (Ev.setL H.fresh L).trans h2⟩

/-- what lies in a loop's block -/
theorem WR.loopAt {P : Program} {w0 : World} {r : Rho} {h : T AO} {nx : Pt} {w : World} (H : WR P w0 r h nx w) {k : Pt} {st : LoopState} {pe : Option AE} (hk : h.find k = some (.loop st pe)) :
    w.heap[r.blk k]? = some (.loop { r.lp k with state := st, pending := pe.map AE.code }) := (H.has k _ hk).2.2.2

/-- a loop's record is written -/
theorem WR.writeL {P : Program} {w0 : World} {r : Rho} {h : T AO} {nx : Pt} {w : World} (H : WR P w0 r h nx w) {k : Pt} {o : AO} (hk : h.find k = some o) (st : LoopState) (pe : Option AE) :
    WR P w0 r (h.set (.loop st pe) k) nx { w with heap := w.heap.setIfInBounds (r.blk k) (.loop { r.lp k with state := st, pending := pe.map AE.code }) } ∧ Ev r h w r (h.set (.loop st pe) k) { w with heap := w.heap.setIfInBounds (r.blk k) (.loop { r.lp k with state := st, pending := pe.map AE.code }) } :=
  H.write hk (.loop st pe) _ trivial rfl

/-- blocks that the trie does not know, for calls that are put off: none is -/
def Marks (B : Nat) (r : Rho) (h : T AO) (w : World) : List Deferred → Prop
  | [] => True
  | d :: ds => (∃ b, d = { target := .collected b, args := #[] } ∧ B ≤ b ∧ w.heap[b]? = some (.deferred (some [])) ∧ (∀ k o, h.find k = some o → r.blk k ≠ b) ∧ ∀ d' ∈ ds, d'.target ≠ .collected b) ∧ Marks B r h w ds

theorem Marks.ev {B : Nat} {r r' : Rho} {h h' : T AO} {w w' : World} (e : Ev r h w r' h' w') : ∀ {ds : List Deferred}, Marks B r h w ds → Marks B r' h' w' ds
  | [], _ => trivial
  | d :: ds, ⟨⟨b, h1, h2, h3, h4, h5⟩, g⟩ => by
    have hlt : b < w.heap.size := (Array.getElem?_eq_some_iff.1 h3).1
    refine ⟨⟨b, h1, h2, (e.fr b hlt h4).trans h3, fun k o hk eb => ?_, h5⟩, Marks.ev e g⟩
    rcases e.img k o hk with h6 | ⟨j, oj, hj, he⟩
    · omega
    · exact h4 j oj hj (he.trans eb)

/-- a block that the trie does not know is written -/
theorem WR.other {P : Program} {w0 : World} {r : Rho} {h : T AO} {nx : Pt} {w : World} (H : WR P w0 r h nx w) {b : Nat} (hb : w0.heap.size ≤ b) (hn : ∀ k o, h.find k = some o → r.blk k ≠ b) (obj : Obj) :
    WR P w0 r h nx { w with heap := w.heap.setIfInBounds b obj } := by
  refine ⟨H.dom, H.dis, H.below.trans ⟨rfl, rfl, rfl, by simp, fun i hi => ?_⟩, fun k o hk => ?_, H.apart⟩
  · exact Array.getElem?_setIfInBounds_ne (by omega)
  · obtain ⟨h1, h2, h3, h4⟩ := H.has k o hk
    refine ⟨h1, h2, h3, ?_⟩
    show BR P r k o ((w.heap.setIfInBounds b obj)[r.blk k]?)
    rw [Array.getElem?_setIfInBounds_ne (fun e => hn k o hk e.symm)]
    exact h4

theorem Ev.other {r r' : Rho} {h h' : T AO} {w w' : World} (e : Ev r h w r' h' w') {b : Nat} (hb : w.heap.size ≤ b) (obj : Obj) : Ev r h w r' h' { w' with heap := w'.heap.setIfInBounds b obj } :=
  ⟨e.le, by simpa using e.size, fun i hi hn => by rw [← e.fr i hi hn]; exact Array.getElem?_setIfInBounds_ne (by omega), e.img⟩

end Go.Proofs.Ytfnehpgefcnjgaa.X

/- An executor for closed calls, 3: what loads, stores and the making of blocks come to in a world that a trie tells. -/
namespace Go.Proofs.Ytfnehpgefcnjgaa.X
open Go.RowKit

theorem add_none (b o n : Nat) : (⟨b, o, none⟩ : Addr).add n = ⟨b, o + n, none⟩ := by
  unfold Addr.add
  split
  · next h => subst h; rfl
  · rfl

theorem run_bind {α β : Type} (P : Program) (s : Sem α) (f : α → Sem β) (w : World) :
    (s >>= f).run P w = match s.run P w with
      | .ok a w' => (f a).run P w'
      | .halt h w' => .halt h w' := by
  show (s.bind f).run P w = _
  induction s generalizing w with
  | pure a => rfl
  | load m a k ih =>
    simp only [Sem.bind, Sem.run]
    cases w.cell? a with
    | some v => exact ih v w
    | none =>
      simp only []
      cases w.farLoad P a (m == .atomic) with
      | ok r => exact ih r.1 w
      | error h => rfl
  | store m a v k ih =>
    cases v <;> simp only [Sem.bind, Sem.run] <;> (
      cases w.cell? a with
      | some v =>
        simp only []
        split
        · rfl
        · exact ih _
      | none =>
        simp only []
        split
        · exact ih _
        · rfl)
  | new o k ih => exact ih _ _
  | shape r k ih => exact ih _ _
  | freeze a n k ih => exact ih _
  | frozen a k ih => exact ih _ _
  | getObj r k ih =>
    simp only [Sem.bind, Sem.run]
    split
    · rfl
    · exact ih _ _
    · rfl
  | setObj r o k ih =>
    simp only [Sem.bind, Sem.run]
    split
    · rfl
    · exact ih _
    · rfl
  | choose q k ih =>
    simp only [Sem.bind, Sem.run]
    split
    · exact ih _ _
    · exact ih _ _
  | sys c k ih => exact ih _ _
  | program k ih => exact ih _ _
  | mark m k ih => exact ih _
  | halt h => rfl

theorem run_pure {α : Type} (P : Program) (a : α) (w : World) : (pure a : Sem α).run P w = .ok a w := rfl

theorem run_ok_bind {α β : Type} {P : Program} {s : Sem α} {f : α → Sem β} {w w' : World} {a : α} (h : s.run P w = .ok a w') : (s >>= f).run P w = (f a).run P w' := by
  rw [run_bind, h]

/-- the cells of a block -/
theorem WR.block {P : Program} {w0 : World} {r : Rho} {h : T AO} {nx : Pt} {w : World} (H : WR P w0 r h nx w) {k : Pt} {vs : List AV} {e : TypeId} (hk : h.find k = some (.cells vs e)) :
    ∃ rest : List Value, w.heap[r.blk k]? = some (.cells (concL r vs ++ rest).toArray e (0, 0)) ∧ rest.length = r.ext k * sizeT P e := (H.has k _ hk).2.2.2

theorem cell_of {w : World} {b : Nat} {c : List Value} {e : TypeId} {z : Nat × Nat} (hb : w.heap[b]? = some (.cells c.toArray e z)) (i : Nat) : w.cell? ⟨b, i, none⟩ = c[i]? := by
  simp [World.cell?, hb]

theorem run_load {P : Program} {w : World} {a : Addr} {v : Value} (h : w.cell? a = some v) : (load a).run P w = .ok v w := by
  simp [load, Sem.run, h]

theorem run_loadCellsFrom {P : Program} {w : World} {b : Nat} {c : List Value} {e : TypeId} {z : Nat × Nat} (hb : w.heap[b]? = some (.cells c.toArray e z)) (o : Nat) :
    ∀ (n i : Nat) (acc : Array Value), o + i + n ≤ c.length → (loadCellsFrom ⟨b, o, none⟩ i n acc).run P w = .ok (acc ++ ((c.drop (o + i)).take n).toArray) w
  | 0, i, acc, _ => by simp [loadCellsFrom]
  | n + 1, i, acc, h => by
    have hlt : o + i < c.length := by omega
    have hc : w.cell? ((⟨b, o, none⟩ : Addr).add i) = some c[o + i] := by
      rw [add_none, cell_of hb]; simp [hlt]
    rw [loadCellsFrom, run_ok_bind (run_load hc), run_loadCellsFrom hb o n (i + 1) _ (by omega)]
    congr 1
    rw [List.drop_eq_getElem_cons hlt]
    simp [List.take_succ_cons, Nat.add_assoc]

theorem run_loadCells {P : Program} {w : World} {b : Nat} {c : List Value} {e : TypeId} {z : Nat × Nat} (hb : w.heap[b]? = some (.cells c.toArray e z)) (o n : Nat) (h : o + n ≤ c.length) :
    (loadCells ⟨b, o, none⟩ n).run P w = .ok ((c.drop o).take n).toArray w := by
  rw [loadCells, run_loadCellsFrom hb o n 0 #[] (by omega)]; simp

/-- no row of cells, no tuple -/
def flat : AV → Prop
  | .agg _ => False
  | .tup _ => False
  | _ => True

def flatL : List AV → Prop
  | [] => True
  | v :: vs => flat v ∧ flatL vs

theorem run_store {P : Program} {w : World} {b i : Nat} {c : List Value} {e : TypeId} {r : Rho} {v : AV} (hv : flat v) (hb : w.heap[b]? = some (.cells c.toArray e (0, 0))) (hi : i < c.length) :
    (store ⟨b, i, none⟩ (conc r v)).run P w = .ok () { w with heap := w.heap.setIfInBounds b (.cells (c.set i (conc r v)).toArray e (0, 0)) } := by
  have hc : w.cell? ⟨b, i, none⟩ = some c[i] := by rw [cell_of hb]; simp [hi]
  have hf : w.frozen? ⟨b, i, none⟩ = false := by simp [World.frozen?, hb]
  have hs : w.setCell ⟨b, i, none⟩ (conc r v) = { w with heap := w.heap.setIfInBounds b (.cells (c.set i (conc r v)).toArray e (0, 0)) } := by
    have hlt : b < w.heap.size := (Array.getElem?_eq_some_iff.1 hb).1
    have hg : w.heap[b] = .cells c.toArray e (0, 0) := (Array.getElem?_eq_some_iff.1 hb).2
    unfold World.setCell
    congr 1
    apply Array.ext_getElem?
    intro j
    rw [Array.getElem?_modify]
    by_cases hj : j = b
    · subst hj; simp only [if_true, Array.getElem?_eq_getElem hlt, hg, Array.getElem?_setIfInBounds_self_of_lt hlt]; simp
    · rw [Array.getElem?_setIfInBounds_ne (fun h => hj h.symm)]; simp [show ¬ b = j from fun h => hj h.symm]
  cases v <;> first
    | exact (show False from hv).elim
    | (simp only [conc] at hs ⊢; simp only [store, Sem.run, hc, hf, hs, Bool.false_eq_true, if_false])

/-- cells written from o on -/
def putL {α : Type} : List α → Nat → List α → List α
  | l, _, [] => l
  | l, o, x :: xs => putL (l.set o x) (o + 1) xs

theorem putL_length {α : Type} : ∀ (xs l : List α) (o : Nat), (putL l o xs).length = l.length
  | [], _, _ => rfl
  | _ :: xs, l, o => by rw [putL, putL_length xs]; simp

theorem run_storeCells {P : Program} {b : Nat} {e : TypeId} {r : Rho} (o : Nat) :
    ∀ (xs : List AV) (w : World) (c : List Value) (i : Nat), flatL xs → w.heap[b]? = some (.cells c.toArray e (0, 0)) → o + i + xs.length ≤ c.length →
      (storeCells ⟨b, o, none⟩ (concL r xs) i).run P w = .ok () { w with heap := w.heap.setIfInBounds b (.cells (putL c (o + i) (concL r xs)).toArray e (0, 0)) }
  | [], w, c, i, _, hb, _ => by
    have hlt : b < w.heap.size := (Array.getElem?_eq_some_iff.1 hb).1
    have hg : w.heap[b] = .cells c.toArray e (0, 0) := (Array.getElem?_eq_some_iff.1 hb).2
    simp only [concL, storeCells, run_pure, putL]
    congr 1
    rw [← hg]
    simp [Array.setIfInBounds, hlt]
  | x :: xs, w, c, i, hf, hb, hl => by
    have hlt : b < w.heap.size := (Array.getElem?_eq_some_iff.1 hb).1
    simp only [List.length_cons] at hl
    simp only [concL, storeCells]
    rw [add_none, run_ok_bind (run_store hf.1 hb (by omega))]
    rw [run_storeCells (e := e) o xs _ (c.set (o + i) (conc r x)) (i + 1) hf.2 (by simp [hlt]) (by simp; omega)]
    congr 1
    simp [putL, Nat.add_assoc]

theorem concL_set (r : Rho) : ∀ (l : List AV) (o : Nat) (x : AV), concL r (l.set o x) = (concL r l).set o (conc r x) := by
  intro l o x; simp only [concL_map, List.map_set]

theorem concL_put (r : Rho) : ∀ (xs l : List AV) (o : Nat), concL r (putL l o xs) = putL (concL r l) o (concL r xs)
  | [], _, _ => by simp only [putL, concL]
  | x :: xs, l, o => by simp only [putL, concL]; rw [concL_put r xs, concL_set]

theorem putL_append {α : Type} : ∀ (xs a b : List α) (o : Nat), o + xs.length ≤ a.length → putL (a ++ b) o xs = putL a o xs ++ b
  | [], _, _, _, _ => rfl
  | x :: xs, a, b, o, h => by
    simp only [List.length_cons] at h
    simp only [putL]
    rw [List.set_append_left _ _ (by omega), putL_append xs _ b (o + 1) (by simp; omega)]

theorem okL_set {n : Pt → Prop} {l : List AV} {i : Nat} {x : AV} (h : okL n l) (hx : okV n x) : okL n (l.set i x) := by
  rw [okL_iff] at h ⊢
  intro v hv
  rcases List.mem_or_eq_of_mem_set hv with h1 | h1
  · exact h v h1
  · exact h1 ▸ hx

theorem okL_put {n : Pt → Prop} : ∀ {xs l : List AV} {o : Nat}, okL n l → okL n xs → okL n (putL l o xs)
  | [], _, _, h, _ => h
  | x :: xs, l, o, h, g => by rw [putL]; exact okL_put (okL_set h g.1) g.2

theorem okL_drop {n : Pt → Prop} {l : List AV} (h : okL n l) (i : Nat) : okL n (l.drop i) := by
  rw [okL_iff] at h ⊢; exact fun v hv => h v (List.mem_of_mem_drop hv)

theorem okL_take {n : Pt → Prop} {l : List AV} (h : okL n l) (i : Nat) : okL n (l.take i) := by
  rw [okL_iff] at h ⊢; exact fun v hv => h v (List.mem_of_mem_take hv)

/-- a row of cells is loaded -/
theorem WR.loadCells {P : Program} {w0 : World} {r : Rho} {h : T AO} {nx : Pt} {w : World} (H : WR P w0 r h nx w) {k : Pt} {vs : List AV} {e : TypeId} (hk : h.find k = some (.cells vs e)) (o n : Nat) (hl : o + n ≤ vs.length) :
    (Go.loadCells ⟨r.blk k, o, none⟩ n).run P w = .ok (concL r ((vs.drop o).take n)).toArray w := by
  obtain ⟨rest, hb, -⟩ := H.block hk
  rw [run_loadCells hb o n (by simp [concL_length]; omega)]
  congr 2
  rw [List.drop_append_of_le_length (by rw [concL_length]; omega), List.take_append_of_le_length (by simp [concL_length]; omega)]
  simp only [concL_map, List.map_take, List.map_drop]

theorem WR.loadOne {P : Program} {w0 : World} {r : Rho} {h : T AO} {nx : Pt} {w : World} (H : WR P w0 r h nx w) {k : Pt} {vs : List AV} {e : TypeId} (hk : h.find k = some (.cells vs e)) {o : Nat} {v : AV} (hv : vs[o]? = some v) :
    (Go.load ⟨r.blk k, o, none⟩).run P w = .ok (conc r v) w := by
  obtain ⟨rest, hb, -⟩ := H.block hk
  refine run_load ?_
  rw [cell_of hb]
  have hlt : o < vs.length := (List.getElem?_eq_some_iff.1 hv).1
  rw [List.getElem?_append_left (by rw [concL_length]; exact hlt), concL_get, hv]; rfl

/-- a row of cells is stored -/
theorem WR.storeCells {P : Program} {w0 : World} {r : Rho} {h : T AO} {nx : Pt} {w : World} (H : WR P w0 r h nx w) {k : Pt} {vs : List AV} {e : TypeId} (hk : h.find k = some (.cells vs e)) (o : Nat) (xs : List AV) (hf : flatL xs) (hx : okL r.has xs) (hl : o + xs.length ≤ vs.length) :
    ∃ w', (Go.storeCells ⟨r.blk k, o, none⟩ (concL r xs)).run P w = .ok () w' ∧ WR P w0 r (h.set (.cells (putL vs o xs) e) k) nx w' ∧ Ev r h w r (h.set (.cells (putL vs o xs) e) k) w' := by
  obtain ⟨rest, hb, hr⟩ := H.block hk
  refine ⟨_, run_storeCells o xs w _ 0 hf hb (by simp [concL_length]; omega), ?_⟩
  refine H.write hk _ _ (okL_put (H.has k _ hk).2.2.1 hx) ⟨rest, ?_, hr⟩
  rw [concL_put, Nat.add_zero, putL_append _ _ _ _ (by simp [concL_length]; omega)]

theorem run_new {α : Type} {P : Program} (o : Obj) (f : Nat → Sem α) (w : World) : (newObj o >>= f).run P w = (f w.heap.size).run P { w with heap := w.heap.push o } := rfl

/-- a row of cells is made -/
theorem WR.newRow {P : Program} {w0 : World} {r : Rho} {h : T AO} {nx : Pt} {w : World} (H : WR P w0 r h nx w) (vs : List AV) (e : TypeId) (hv : okL r.has vs) :
    ∃ w', (Go.newRow e (concL r vs).toArray).run P w = .ok ⟨(r.more nx w.heap.size 0).blk nx, 0, none⟩ w' ∧ WR P w0 (r.more nx w.heap.size 0) (h.set (.cells vs e) nx) nx.succ w' ∧ Ev r h w (r.more nx w.heap.size 0) (h.set (.cells vs e) nx) w' := by
  have hle := Rho.le_more H.fresh w.heap.size 0
  have hok : okO (r.more nx w.heap.size 0).has (.cells vs e) := okL.mono hle.has hv
  refine ⟨_, ?_, H.alloc (.cells vs e) 0 (.cells (concL r vs).toArray e (0, 0)) hok ⟨[], ?_, ?_⟩⟩
  · rw [r.more_blk]; rfl
  · rw [concL_le hle hv]; simp
  · rw [r.more_ext]; simp

end Go.Proofs.Ytfnehpgefcnjgaa.X

/- An executor for closed calls, 4: operands, and what an operation gives. -/
namespace Go.Proofs.Ytfnehpgefcnjgaa.X
open Go.RowKit

/-- an operand: a slot, or a value without addresses -/
inductive AX where
  | t (p : Pt)
  | c (v : AV)

/-- no address in it -/
def Lone (v : AV) (x : Value) : Prop := (∀ r, conc r v = x) ∧ ∀ n, okV n v

/-- x stands for the operand o -/
def Cx : Operand → AX → Prop
  | .tmp t, x => ∃ p, x = .t p ∧ p.toNat = t
  | .const y, x => ∃ v, x = .c v ∧ Lone v y
  | .func f, x => x = .c (.fn (.func f) [] [])
  | .global _, _ => False

/-- what the slots hold -/
def TR (r : Rho) (tm : T AV) (ts : Array Value) : Prop := ∀ p v, tm.find p = some v → ts[p.toNat]? = some (conc r v) ∧ okV r.has v

theorem TR.le {r s : Rho} {tm : T AV} {ts : Array Value} (h : r.Le s) (H : TR r tm ts) : TR s tm ts := fun p v hp => by
  obtain ⟨h1, h2⟩ := H p v hp
  exact ⟨by rw [conc_le h h2]; exact h1, h2.mono h.has⟩

theorem TR.put {r : Rho} {tm : T AV} {ts : Array Value} (H : TR r tm ts) {p : Pt} {v : AV} (hp : p.toNat < ts.size) (hv : okV r.has v) : TR r (tm.set v p) (ts.setIfInBounds p.toNat (conc r v)) := fun q u hq => by
  by_cases e : q = p
  · subst e
    rw [T.find_set] at hq; cases hq
    exact ⟨by simp [hp], hv⟩
  · rw [T.find_set_ne _ _ _ _ e] at hq
    obtain ⟨h1, h2⟩ := H q u hq
    exact ⟨by rw [Array.getElem?_setIfInBounds_ne (fun h => e (Pt.inj h.symm))]; exact h1, h2⟩

def evK (tm : T AV) (x : AX) (c : AV → Prop) : Prop :=
  AX.rec (motive := fun _ => Prop) (fun p => tm.getK p c) (fun v => c v) x

theorem evK_spec {r : Rho} {tm : T AV} {a : Act} {o : Operand} {x : AX} {c : AV → Prop} (hx : Cx o x) (ht : TR r tm a.tmps) (h : evK tm x c) : ∃ v, c v ∧ a.eval o = conc r v ∧ okV r.has v := by
  cases o with
  | tmp t =>
    obtain ⟨p, rfl, rfl⟩ := hx
    obtain ⟨v, hv, hc⟩ := (T.getK_iff c tm p).1 h
    obtain ⟨h1, h2⟩ := ht p v hv
    exact ⟨v, hc, by simp [Act.eval, h1], h2⟩
  | const y =>
    obtain ⟨v, rfl, hv⟩ := hx
    exact ⟨v, h, by simp [Act.eval, hv.1 r], hv.2 _⟩
  | func f =>
    obtain rfl := hx
    exact ⟨_, h, by simp [Act.eval, conc, concL], by simp [okV, okL]⟩
  | global g => exact hx.elim

def evsK (tm : T AV) : List AX → (List AV → Prop) → Prop :=
  fun l => List.rec (motive := fun _ => (List AV → Prop) → Prop) (fun c => c []) (fun x _ ih c => evK tm x fun v => ih fun vs => c (v :: vs)) l

/-- operands, one by one -/
def Cxs : List Operand → List AX → Prop
  | [], [] => True
  | o :: os, x :: xs => Cx o x ∧ Cxs os xs
  | _, _ => False

theorem evsK_spec {r : Rho} {tm : T AV} {a : Act} (ht : TR r tm a.tmps) : ∀ {os : List Operand} {xs : List AX} {c : List AV → Prop}, Cxs os xs → evsK tm xs c → ∃ vs, c vs ∧ os.map a.eval = concL r vs ∧ okL r.has vs
  | [], [], _, _, h => ⟨[], h, by simp [concL], by simp [okL]⟩
  | _ :: _, [], _, h, _ => h.elim
  | [], _ :: _, _, h, _ => h.elim
  | o :: os, x :: xs, c, hc, h => by
    obtain ⟨v, h1, h2, h3⟩ := evK_spec hc.1 ht h
    obtain ⟨vs, g1, g2, g3⟩ := evsK_spec ht hc.2 h1
    exact ⟨v :: vs, g1, by simp [concL, h2, g2], by simp [okL, h3, g3]⟩

/-- a list is gone through, so that it stands written out -/
def forceL {α : Type} (l : List α) (c : List α → Prop) : Prop :=
  List.rec (motive := fun _ => (List α → Prop) → Prop) (fun c => c []) (fun v _ ih c => ih fun l => c (v :: l)) l c

theorem forceL_iff {α : Type} : ∀ (l : List α) (c : List α → Prop), forceL l c ↔ c l
  | [], _ => Iff.rfl
  | v :: l, c => forceL_iff l (fun l => c (v :: l))

def forceN (n : Nat) (c : Nat → Prop) : Prop := Nat.rec (motive := fun _ => Prop) (c 0) (fun m _ => c (Nat.succ m)) n

theorem forceN_iff (n : Nat) (c : Nat → Prop) : forceN n c ↔ c n := by cases n <;> exact Iff.rfl

def forceI (n : Int) (c : Int → Prop) : Prop := Int.rec (motive := fun _ => Prop) (fun m => forceN m fun m => c (.ofNat m)) (fun m => forceN m fun m => c (.negSucc m)) n

theorem forceI_iff (n : Int) (c : Int → Prop) : forceI n c ↔ c n := by
  cases n with
  | ofNat m => exact forceN_iff m (fun m => c (.ofNat m))
  | negSucc m => exact forceN_iff m (fun m => c (.negSucc m))

def forceB (b : Bool) (c : Bool → Prop) : Prop := Bool.rec (motive := fun _ => Prop) (c false) (c true) b

theorem forceB_iff (b : Bool) (c : Bool → Prop) : forceB b c ↔ c b := by cases b <;> exact Iff.rfl

def forceP (p : Pt) (c : Pt → Prop) : Prop :=
  Pt.rec (motive := fun _ => (Pt → Prop) → Prop) (fun c => c .e) (fun _ ih c => ih fun p => c (.z p)) (fun _ ih c => ih fun p => c (.o p)) p c

theorem forceP_iff : ∀ (p : Pt) (c : Pt → Prop), forceP p c ↔ c p
  | .e, _ => Iff.rfl
  | .z p, c => forceP_iff p (fun p => c (.z p))
  | .o p, c => forceP_iff p (fun p => c (.o p))

def cellsA : AV → List AV
  | .agg vs => vs
  | v => [v]

theorem conc_cells (r : Rho) (v : AV) : (conc r v).cells = (concL r (cellsA v)).toArray := by
  cases v <;> simp [conc, Value.cells, cellsA, concL]

theorem okL_cells {n : Pt → Prop} {v : AV} (h : okV n v) : okL n (cellsA v) := by
  cases v <;> first | (simp only [cellsA, okL, and_true]; exact h) | exact h

def flat1 : AV → Bool
  | .agg _ => false
  | .tup _ => false
  | _ => true

def flatB : List AV → Bool
  | [] => true
  | v :: vs => flat1 v && flatB vs

theorem flatB_spec : ∀ {l : List AV}, flatB l = true → flatL l
  | [], _ => trivial
  | v :: vs, h => by
    simp only [flatB, Bool.and_eq_true] at h
    refine ⟨?_, flatB_spec h.2⟩
    cases v <;> first | trivial | (simp [flat1] at h)

/-- what an operation gives, in a world that the trie tells -/
def Yields (P : Program) (w0 : World) (r : Rho) (h : T AO) (w : World) (s : Sem Next) (K : AV → T AO → Pt → Prop) : Prop :=
  ∃ r' h' nx' w' v n, K v h' nx' ∧ s.run P w = .ok n w' ∧ (n = .value (conc r' v) ∨ n = .skip ∧ conc r' v = undef) ∧ WR P w0 r' h' nx' w' ∧ Ev r h w r' h' w' ∧ okV r'.has v

section
variable {P : Program} {w0 : World} {r : Rho} {h : T AO} {nx : Pt} {w : World} {K : AV → T AO → Pt → Prop}

theorem Yields.pure (H : WR P w0 r h nx w) {v : AV} {s : Sem Next} (hk : K v h nx) (hr : s.run P w = .ok (.value (conc r v)) w) (hv : okV r.has v) : Yields P w0 r h w s K :=
  ⟨r, h, nx, w, v, _, hk, hr, .inl rfl, H, .refl r h w, hv⟩

/-- the value of a part of the semantics, as an operation gives it -/
theorem run_value {s : Sem Value} {w w' : World} {v : Value} (h : s.run P w = .ok v w') : ((do pure (Next.value (← s))) : Sem Next).run P w = .ok (.value v) w' := by
  rw [run_ok_bind h]; rfl

theorem run_skip {s : Sem Unit} {w w' : World} (h : s.run P w = .ok () w') : ((do s; pure Next.skip) : Sem Next).run P w = .ok .skip w' := by
  rw [run_ok_bind h]; rfl

theorem Yields.pureV (H : WR P w0 r h nx w) {v : AV} {s : Sem Value} (hk : K v h nx) (hr : s.run P w = .ok (conc r v) w) (hv : okV r.has v) : Yields P w0 r h w (do Pure.pure (Next.value (← s))) K :=
  Yields.pure H hk (run_value hr) hv

end

/-- what is compared: truths, pointers, slices, maps, functions, interface values -/
inductive EK where
  | b | p | s | m | f | i

/-- an operation of the executor -/
inductive AOp where
  | mv (x : AX)
  | pick (c a b : AX)
  | new (vs : List AV) (e : TypeId)
  | box (e : TypeId) (x : AX)
  | build (z : List AV) (ps : List (Nat × Nat × AX))
  | buildS (e : TypeId) (n : Nat) (z : List AV) (ps : List (Nat × Nat × AX))
  | ld1 (x : AX)
  | ldN (n : Nat) (x : AX)
  | st (n : Nat) (a x : AX)
  | nchk (x : AX)
  | fa (o : Nat) (x : AX)
  | fld (n o : Nat) (x : AX)
  | fld1 (o : Nat) (x : AX)
  | ia (n : Nat) (x i : AX)
  | iaA (len n : Nat) (x i : AX)
  | ext (x : AX) (i : Nat)
  | mkf (f : FuncId) (a b : List AX)
  | mki (t : TypeId) (x : AX)
  | ar (op : BinOp) (x y : AX)
  | eq (ek : EK) (neg : Bool) (x y : AX)
  | un (op : UnOp) (x : AX)
  | cvI (k : IntKind) (x : AX)
  | cvS (x : AX)
  | lenS (x : AX)
  | len (x : AX)
  | lenM (x : AX)
  | lenC (x : AX)
  | mkC (x : AX)
  | ixS (x i : AX)
  | cvB (e : TypeId) (x : AX)
  | cvT (x : AX)
  | clr (z : List AV) (x : AX)
  | ix1 (l : Nat) (x i : AX)
  | lk (z : AV) (ok : Bool) (x k : AX)
  | up (x k v : AX)
  | mkS (e : TypeId) (n : Nat) (z : List AV) (l c : AX)
  | sl (n : Nat) (x : AX) (lo hi mx : Option AX)
  | slS (x : AX) (lo hi : Option AX)
  | app (e : TypeId) (n : Nat) (x y : AX)
  | mm (max : Bool) (xs : List AX)
  | mkM

/-- the value of a part of the semantics that gives one at once: an integer or a truth -/
def semV (s : Sem Value) (c : AV → Prop) : Prop :=
  match s with
  | .pure (.int k n) => forceI n fun n => c (.int k n)
  | .pure (.bool b) => forceB b fun b => c (.bool b)
  | _ => False

def eqI : Int → Int → Bool
  | .ofNat x, .ofNat y => Nat.beq x y
  | .negSucc x, .negSucc y => Nat.beq x y
  | _, _ => false

def ltI : Int → Int → Bool
  | .ofNat x, .ofNat y => Nat.blt x y
  | .negSucc x, .negSucc y => Nat.blt y x
  | .negSucc _, .ofNat _ => true
  | .ofNat _, .negSucc _ => false

/-- an integer of its kind -/
def wrapK (k : IntKind) (n : Int) (c : AV → Prop) : Prop :=
  match k, n with
  | .i64, .ofNat m => Bool.rec (motive := fun _ => Prop) (forceI (IntKind.wrap .i64 (.ofNat m)) fun n => c (.int .i64 n)) (forceN m fun m => c (.int .i64 (.ofNat m))) (Nat.blt m 9223372036854775808)
  | k, n => forceI (k.wrap n) fun n => c (.int k n)

/-- two integers of one kind -/
def arI (op : BinOp) (k k' : IntKind) (a b : Int) (c : AV → Prop) : Prop :=
  match op with
  | .add => Bool.rec (motive := fun _ => Prop) False (wrapK k (Int.add a b) c) (decide (k = k'))
  | .sub => Bool.rec (motive := fun _ => Prop) False (wrapK k (Int.sub a b) c) (decide (k = k'))
  | .mul => Bool.rec (motive := fun _ => Prop) False (wrapK k (Int.mul a b) c) (decide (k = k'))
  | .eql => Bool.rec (motive := fun _ => Prop) False (forceB (eqI a b) fun x => c (.bool x)) (decide (k = k'))
  | .neq => Bool.rec (motive := fun _ => Prop) False (forceB (!eqI a b) fun x => c (.bool x)) (decide (k = k'))
  | .lss => Bool.rec (motive := fun _ => Prop) False (forceB (ltI a b) fun x => c (.bool x)) (decide (k = k'))
  | .leq => Bool.rec (motive := fun _ => Prop) False (forceB (!ltI b a) fun x => c (.bool x)) (decide (k = k'))
  | .gtr => Bool.rec (motive := fun _ => Prop) False (forceB (ltI b a) fun x => c (.bool x)) (decide (k = k'))
  | .geq => Bool.rec (motive := fun _ => Prop) False (forceB (!ltI a b) fun x => c (.bool x)) (decide (k = k'))
  | .quo | .rem => Bool.rec (motive := fun _ => Prop) False (semV (Op.intDiv op k a b) c) (decide (k = k'))
  | .and | .or | .xor | .andNot => Bool.rec (motive := fun _ => Prop) False (semV (Op.intBits op k a b) c) (decide (k = k'))
  | .shl | .shr => semV (Op.shift op k a k' b) c

def eqN : List Nat → List Nat → Bool
  | [], [] => true
  | a :: x, b :: y => Nat.beq a b && eqN x y
  | _, _ => false

def ltN : List Nat → List Nat → Bool
  | _, [] => false
  | [], _ :: _ => true
  | a :: x, b :: y => Nat.blt a b || (Nat.beq a b && ltN x y)

/-- two texts -/
def arS (op : BinOp) (a b : List Nat) (c : AV → Prop) : Prop :=
  match op with
  | .add => Bool.rec (motive := fun _ => Prop) False (forceL (a ++ b) fun s => c (.str s)) (Nat.ble (a.length + b.length) 1000000000)
  | .eql => forceB (eqN a b) fun x => c (.bool x)
  | .neq => forceB (!eqN a b) fun x => c (.bool x)
  | .lss => forceB (ltN a b) fun x => c (.bool x)
  | _ => False

/-- is it one? (pointers, and what may be nil) -/
def eqK (ek : EK) (h : T AO) (a b : AV) (c : Bool → Prop) : Prop :=
  match ek, a, b with
  | .b, .bool x, .bool y => forceB (x == y) c
  | .p, .nilp, .nilp => c true
  | .p, .nilp, .ptr _ _ => c false
  | .p, .ptr _ _, .nilp => c false
  | .p, .ptr k o, .ptr k' o' => h.getK k fun x => match x with
    | .cells _ _ => h.getK k' fun y => match y with
      | .cells _ _ => forceB (eqP k k' && Nat.beq o o') c
      | _ => False
    | _ => False
  | .s, .nils, .nils => c true
  | .s, .nils, .sl _ _ _ _ _ => c false
  | .s, .sl _ _ _ _ _, .nils => c false
  | .s, .nils, .slz _ _ _ => c false
  | .s, .slz _ _ _, .nils => c false
  | .m, .nilm, .nilm => c true
  | .m, .nilm, .map _ => c false
  | .m, .map _, .nilm => c false
  | .f, .nilf, .nilf => c true
  | .f, .nilf, .fn _ _ _ => c false
  | .f, .fn _ _ _, .nilf => c false
  | .i, .nili, .nili => c true
  | .i, .nili, .iface _ _ => c false
  | .i, .iface _ _, .nili => c false
  | _, _, _ => False

/-- a bound of a slice expression, at most n -/
def bdK (tm : T AV) (x : Option AX) (d n : Nat) (c : Nat → Prop) : Prop :=
  match x with
  | none => c d
  | some x => evK tm x fun v => match v with
    | .int _ (.ofNat j) => Bool.rec (motive := fun _ => Prop) False (c j) (Nat.ble j n)
    | _ => False

/-- all integers of one kind: the greatest, or the least -/
def mmK (max : Bool) (k : IntKind) : List AV → Int → (AV → Prop) → Prop
  | [], n, c => c (.int k n)
  | .int _ m :: l, n, c => forceB (bif max then ltI n m else ltI m n) fun b => Bool.rec (motive := fun _ => Prop) (mmK max k l n c) (mmK max k l m c) b
  | _, _, _ => False

/-- cells of zeros, so many elements -/
def zerosL (z : List AV) : Nat → List AV
  | 0 => []
  | n + 1 => z ++ zerosL z n

/-- the parts are laid over z -/
def fillK (tm : T AV) : List (Nat × Nat × AX) → List AV → (List AV → Prop) → Prop :=
  fun l => List.rec (motive := fun _ => List AV → (List AV → Prop) → Prop) (fun z c => c z)
    (fun p _ ih z c => evK tm p.2.2 fun v => forceB (Nat.beq (cellsA v).length p.2.1 && Nat.ble (p.1 + p.2.1) z.length) fun b =>
      Bool.rec (motive := fun _ => Prop) False (ih (putL z p.1 (cellsA v)) c) b) l

/-- i is a place below n -/
def atK (i : AV) (n : Nat) (c : Nat → Prop) : Prop :=
  match i with
  | .int _ (.ofNat j) => Bool.rec (motive := fun _ => Prop) False (c j) (Nat.blt j n)
  | _ => False

theorem atK_spec {i : AV} {n : Nat} {c : Nat → Prop} (h : atK i n c) : ∃ k j, i = .int k (Int.ofNat j) ∧ j < n ∧ c j := by
  unfold atK at h
  split at h
  · rename_i k j
    cases hb : Nat.blt j n with
    | false => rw [hb] at h; exact h.elim
    | true => rw [hb] at h; exact ⟨k, j, rfl, by simpa [Nat.blt_eq] using hb, h⟩
  · exact h.elim

/-- the cells that are appended -/
def srcK (h : T AO) (n : Nat) (b : AV) (c : Nat → List AV → Prop) : Prop :=
  match b with
  | .nils => c 0 []
  | .sl k o l _ _ => h.getK k fun x => match x with
    | .cells vs _ => Bool.rec (motive := fun _ => Prop) False (forceL ((vs.drop o).take (l * n)) fun us => c l us) (Nat.ble (o + l * n) vs.length)
    | .frz vs _ => Bool.rec (motive := fun _ => Prop) False (forceL ((vs.drop o).take (l * n)) fun us => c l us) (Nat.ble (o + l * n) vs.length)
    | _ => False
  | .str s => Bool.rec (motive := fun _ => Prop) False (forceL (s.map fun b => AV.int .u8 (.ofNat b)) fun us => forceN s.length fun m => c m us) (Nat.beq n 1)
  | _ => False

/-- append: into the room that is known; into room that there may be, or anew; anew -/
def appK (h : T AO) (nx : Pt) (e : TypeId) (n : Nat) (a b : AV) (K : AV → T AO → Pt → Prop) : Prop :=
  srcK h n b fun m us => match a with
    | .nils => Bool.rec (motive := fun _ => Prop) (Bool.rec (motive := fun _ => Prop) False (h.setK (.cells us e) nx fun h' => forceP nx.succ fun n' => K (.sl nx 0 m m true) h' n') (Nat.ble m 1048576)) (K .nils h nx) (Nat.beq m 0)
    | .sl k o l c op => h.getK k fun x => match x with
      | .cells vs e' => Bool.rec (motive := fun _ => Prop)
          (Bool.rec (motive := fun _ => Prop)
            (Bool.rec (motive := fun _ => Prop) False (forceL ((vs.drop o).take (l * n) ++ us) fun ws => h.setK (.cells ws e) nx fun h' => forceP nx.succ fun n' => forceN (l + m) fun l => K (.sl nx 0 l l true) h' n') (Nat.ble (o + l * n) vs.length && Nat.ble (l + m) 1048576))
            (Bool.rec (motive := fun _ => Prop) False (forceL (vs ++ us) fun ws => (h.del k).setK (.cells ws e) nx fun h' => forceP nx.succ fun n' => forceN (l + m) fun l => K (.sl nx 0 l l true) h' n') (Nat.beq o 0 && Nat.beq l c && Nat.beq (l * n) vs.length && Nat.beq e e' && flatB us && Nat.ble (l + m) 1048576)) op)
          (Bool.rec (motive := fun _ => Prop) False (forceL (putL vs (o + l * n) us) fun ws => h.setK (.cells ws e') k fun h' => forceN (l + m) fun l => K (.sl k o l c op) h' nx) (Nat.ble (o + c * n) vs.length && flatB us))
          (Nat.ble (l + m) c)
      | _ => False
    | _ => False

def oMv (x : AX) (tm : T AV) (h : T AO) (nx : Pt) (K : AV → T AO → Pt → Prop) : Prop :=
  evK tm x fun v => K v h nx

def oPick (c : AX) (a : AX) (b : AX) (tm : T AV) (h : T AO) (nx : Pt) (K : AV → T AO → Pt → Prop) : Prop :=
  evK tm c fun c => match c with
    | .bool true => evK tm a fun v => K v h nx
    | .bool false => evK tm b fun v => K v h nx
    | _ => False

def oNew (vs : List AV) (e : TypeId) (_ : T AV) (h : T AO) (nx : Pt) (K : AV → T AO → Pt → Prop) : Prop :=
  h.setK (.cells vs e) nx fun h' => forceP nx.succ fun n' => K (.ptr nx 0) h' n'

def oBox (e : TypeId) (x : AX) (tm : T AV) (h : T AO) (nx : Pt) (K : AV → T AO → Pt → Prop) : Prop :=
  evK tm x fun v => h.setK (.cells (cellsA v) e) nx fun h' => forceP nx.succ fun n' => K (.ptr nx 0) h' n'

def oBuild (z : List AV) (ps : List (Nat × Nat × AX)) (tm : T AV) (h : T AO) (nx : Pt) (K : AV → T AO → Pt → Prop) : Prop :=
  fillK tm ps z fun vs => forceL vs fun vs => K (.agg vs) h nx

def oBuildS (e : TypeId) (n : Nat) (z : List AV) (ps : List (Nat × Nat × AX)) (tm : T AV) (h : T AO) (nx : Pt) (K : AV → T AO → Pt → Prop) : Prop :=
  fillK tm ps z fun vs => forceL vs fun vs => h.setK (.cells vs e) nx fun h' => forceP nx.succ fun n' => K (.sl nx 0 n n false) h' n'

def oLd1 (x : AX) (tm : T AV) (h : T AO) (nx : Pt) (K : AV → T AO → Pt → Prop) : Prop :=
  evK tm x fun v => match v with
    | .ptr k o => h.getK k fun b => match b with
      | .cells vs _ => match vs[o]? with
        | some u => K u h nx
        | none => False
      | _ => False
    | _ => False

def oLdN (n : Nat) (x : AX) (tm : T AV) (h : T AO) (nx : Pt) (K : AV → T AO → Pt → Prop) : Prop :=
  evK tm x fun v => match v with
    | .ptr k o => h.getK k fun b => match b with
      | .cells vs _ => Bool.rec (motive := fun _ => Prop) False (forceL ((vs.drop o).take n) fun us => K (.agg us) h nx) (Nat.ble (o + n) vs.length)
      | _ => False
    | _ => False

def oSt (n : Nat) (a : AX) (x : AX) (tm : T AV) (h : T AO) (nx : Pt) (K : AV → T AO → Pt → Prop) : Prop :=
  evK tm a fun a => match a with
    | .ptr k o => evK tm x fun x => h.getK k fun b => match b with
      | .cells vs e => Bool.rec (motive := fun _ => Prop) False (forceL (putL vs o (cellsA x)) fun us => h.setK (.cells us e) k fun h' => K (.tup []) h' nx) (Nat.beq (cellsA x).length n && Nat.ble (o + n) vs.length && flatB (cellsA x))
      | _ => False
    | _ => False

def oNchk (x : AX) (tm : T AV) (h : T AO) (nx : Pt) (K : AV → T AO → Pt → Prop) : Prop :=
  evK tm x fun v => match v with
    | .nilp => False
    | .nili => False
    | .nilf => False
    | .fn (.func f) a b => K (.fn (.func f) a b) h nx
    | .fn _ _ _ => False
    | v => K v h nx

def oFa (d : Nat) (x : AX) (tm : T AV) (h : T AO) (nx : Pt) (K : AV → T AO → Pt → Prop) : Prop :=
  evK tm x fun v => match v with
    | .ptr k o => forceN (o + d) fun o => K (.ptr k o) h nx
    | _ => False

def oFld (n : Nat) (o : Nat) (x : AX) (tm : T AV) (h : T AO) (nx : Pt) (K : AV → T AO → Pt → Prop) : Prop :=
  evK tm x fun v => match v with
    | .agg vs => forceL ((vs.drop o).take n) fun us => K (.agg us) h nx
    | _ => False

def oFld1 (o : Nat) (x : AX) (tm : T AV) (h : T AO) (nx : Pt) (K : AV → T AO → Pt → Prop) : Prop :=
  evK tm x fun v => match v with
    | .agg vs => match vs[o]? with
      | some u => K u h nx
      | none => False
    | _ => False

def oIa (n : Nat) (x : AX) (i : AX) (tm : T AV) (h : T AO) (nx : Pt) (K : AV → T AO → Pt → Prop) : Prop :=
  evK tm x fun v => match v with
    | .sl k o l _ _ => evK tm i fun i => atK i l fun j => forceN (o + j * n) fun o => K (.ptr k o) h nx
    | _ => False

def oIaA (len : Nat) (n : Nat) (x : AX) (i : AX) (tm : T AV) (h : T AO) (nx : Pt) (K : AV → T AO → Pt → Prop) : Prop :=
  evK tm x fun v => match v with
    | .ptr k o => evK tm i fun i => atK i len fun j => forceN (o + j * n) fun o => K (.ptr k o) h nx
    | _ => False

def oExt (x : AX) (i : Nat) (tm : T AV) (h : T AO) (nx : Pt) (K : AV → T AO → Pt → Prop) : Prop :=
  evK tm x fun v => match v with
    | .tup vs => match vs[i]? with
      | some u => K u h nx
      | none => False
    | _ => False

def oMkf (f : FuncId) (a : List AX) (b : List AX) (tm : T AV) (h : T AO) (nx : Pt) (K : AV → T AO → Pt → Prop) : Prop :=
  evsK tm a fun a => evsK tm b fun b => K (.fn (.func f) a b) h nx

def oMki (t : TypeId) (x : AX) (tm : T AV) (h : T AO) (nx : Pt) (K : AV → T AO → Pt → Prop) : Prop :=
  evK tm x fun v => K (.iface t v) h nx

def oAr (op : BinOp) (x : AX) (y : AX) (tm : T AV) (h : T AO) (nx : Pt) (K : AV → T AO → Pt → Prop) : Prop :=
  evK tm x fun a => evK tm y fun b => match a, b with
    | .int k a, .int k' b => arI op k k' a b fun v => K v h nx
    | .str a, .str b => arS op a b fun v => K v h nx
    | _, _ => False

def oEq (ek : EK) (neg : Bool) (x : AX) (y : AX) (tm : T AV) (h : T AO) (nx : Pt) (K : AV → T AO → Pt → Prop) : Prop :=
  evK tm x fun a => evK tm y fun b => eqK ek h a b fun x => forceB (neg != x) fun x => K (.bool x) h nx

def oUn (op : UnOp) (x : AX) (tm : T AV) (h : T AO) (nx : Pt) (K : AV → T AO → Pt → Prop) : Prop :=
  evK tm x fun a => match op, a with
    | .not, .bool b => forceB (!b) fun b => K (.bool b) h nx
    | .neg, .int k n => wrapK k (Int.sub 0 n) fun v => K v h nx
    | .xor, .int k n => semV (Op.intBits .xor k (if k.signed then -1 else k.max) n) fun v => K v h nx
    | _, _ => False

def oCvI (k : IntKind) (x : AX) (tm : T AV) (h : T AO) (nx : Pt) (K : AV → T AO → Pt → Prop) : Prop :=
  evK tm x fun a => match a with
    | .int _ n => wrapK k n fun v => K v h nx
    | _ => False

def oCvS (x : AX) (tm : T AV) (h : T AO) (nx : Pt) (K : AV → T AO → Pt → Prop) : Prop :=
  evK tm x fun a => match a with
    | .str s => K (.str s) h nx
    | _ => False

def oLenS (x : AX) (tm : T AV) (h : T AO) (nx : Pt) (K : AV → T AO → Pt → Prop) : Prop :=
  evK tm x fun a => match a with
    | .str s => forceN s.length fun n => K (.int .i64 (.ofNat n)) h nx
    | _ => False

def oLen (x : AX) (tm : T AV) (h : T AO) (nx : Pt) (K : AV → T AO → Pt → Prop) : Prop :=
  evK tm x fun a => match a with
    | .nils => K (.int .i64 (.ofNat 0)) h nx
    | .sl _ _ l _ _ => K (.int .i64 (.ofNat l)) h nx
    | .slz _ _ _ => K (.int .i64 (.ofNat 0)) h nx
    | _ => False

def oLenM (x : AX) (tm : T AV) (h : T AO) (nx : Pt) (K : AV → T AO → Pt → Prop) : Prop :=
  evK tm x fun a => match a with
    | .nilm => K (.int .i64 (.ofNat 0)) h nx
    | .map k => h.getK k fun b => match b with
      | .map es _ => forceN es.length fun n => K (.int .i64 (.ofNat n)) h nx
      | _ => False
    | _ => False

def oLenC (x : AX) (tm : T AV) (h : T AO) (nx : Pt) (K : AV → T AO → Pt → Prop) : Prop :=
  evK tm x fun a => match a with
    | .nilc => K (.int .i64 (.ofNat 0)) h nx
    | .chan k => h.getK k fun b => match b with
      | .chan _ buf => forceN buf.length fun n => K (.int .i64 (.ofNat n)) h nx
      | _ => False
    | _ => False

def oMkC (x : AX) (tm : T AV) (h : T AO) (nx : Pt) (K : AV → T AO → Pt → Prop) : Prop :=
  evK tm x fun a => match a with
    | .int _ (.ofNat n) => Bool.rec (motive := fun _ => Prop) False (h.setK (.chan n []) nx fun h' => forceP nx.succ fun n' => K (.chan nx) h' n') (Nat.ble n 100000)
    | _ => False

def oIxS (x : AX) (i : AX) (tm : T AV) (h : T AO) (nx : Pt) (K : AV → T AO → Pt → Prop) : Prop :=
  evK tm x fun a => match a with
    | .str s => evK tm i fun i => atK i s.length fun j => match s[j]? with
      | some b => forceN (b % 256) fun b => K (.int .u8 (.ofNat b)) h nx
      | none => False
    | _ => False

/-- a string's bytes in a row of their own, with room that is open -/
def oCvB (e : TypeId) (x : AX) (tm : T AV) (h : T AO) (nx : Pt) (K : AV → T AO → Pt → Prop) : Prop :=
  evK tm x fun a => match a with
    | .str s => forceL (s.map fun b => AV.int .u8 (.ofNat b)) fun us => h.setK (.frz us e) nx fun h' => forceP nx.succ fun n' => forceN s.length fun m => K (.sl nx 0 m m true) h' n'
    | _ => False

/-- bytes as a string -/
def bsK (l : List AV) (c : List Nat → Prop) : Prop :=
  List.rec (motive := fun _ => (List Nat → Prop) → Prop) (fun c => c []) (fun v _ ih c => match v with
    | .int .u8 (.ofNat b) => Bool.rec (motive := fun _ => Prop) False (ih fun l => c (b :: l)) (Nat.blt b 256)
    | _ => False) l c

def oCvT (x : AX) (tm : T AV) (h : T AO) (nx : Pt) (K : AV → T AO → Pt → Prop) : Prop :=
  evK tm x fun a => match a with
    | .nils => K (.str []) h nx
    | .sl k o l _ _ => h.getK k fun b => match b with
      | .cells vs _ => Bool.rec (motive := fun _ => Prop) False (bsK ((vs.drop o).take l) fun s => K (.str s) h nx) (Nat.ble (o + l) vs.length)
      | _ => False
    | _ => False

def oClr (z : List AV) (x : AX) (tm : T AV) (h : T AO) (nx : Pt) (K : AV → T AO → Pt → Prop) : Prop :=
  evK tm x fun a => match a with
    | .nils => K (.tup []) h nx
    | .slz _ _ _ => K (.tup []) h nx
    | .sl k o l _ _ => match l with
      | 0 => K (.tup []) h nx
      | l + 1 => h.getK k fun b => match b with
        | .cells vs e => Bool.rec (motive := fun _ => Prop) False (forceL (putL vs o (zerosL z (l + 1))) fun us => h.setK (.cells us e) k fun h' => K (.tup []) h' nx) (Nat.ble (o + (zerosL z (l + 1)).length) vs.length && flatB (zerosL z (l + 1)))
        | _ => False
    | _ => False

def oIx1 (l : Nat) (x : AX) (i : AX) (tm : T AV) (h : T AO) (nx : Pt) (K : AV → T AO → Pt → Prop) : Prop :=
  evK tm x fun a => match a with
    | .agg vs => evK tm i fun i => atK i l fun j => match vs[j]? with
      | some v => K v h nx
      | none => False
    | _ => False

/-- the place of a key among a map's entries -/
def lkE (s : List Nat) (es : List (AV × AV × Nat)) (c : Option AV → Prop) : Prop :=
  List.rec (motive := fun _ => Prop) (c none) (fun e _ ih => match e.1 with
    | .str s' => Bool.rec (motive := fun _ => Prop) ih (c (some e.2.1)) (eqN s s')
    | _ => False) es

def lkR (z : AV) (ok : Bool) (v : Option AV) (c : AV → Prop) : Prop := match v with
  | some v => Bool.rec (motive := fun _ => Prop) (c v) (c (.tup [v, .bool true])) ok
  | none => Bool.rec (motive := fun _ => Prop) (c z) (c (.tup [z, .bool false])) ok

def oLk (z : AV) (ok : Bool) (x k : AX) (tm : T AV) (h : T AO) (nx : Pt) (K : AV → T AO → Pt → Prop) : Prop :=
  evK tm k fun k => match k with
    | .str s => evK tm x fun a => match a with
      | .nilm => lkR z ok none fun v => K v h nx
      | .map m => h.getK m fun b => match b with
        | .map es _ => lkE s es fun v => lkR z ok v fun v => K v h nx
        | _ => False
      | _ => False
    | _ => False

/-- entries with a key's value put in; none, if the key is not there -/
def upE (s : List Nat) (v : AV) (es : List (AV × AV × Nat)) (c : Option (List (AV × AV × Nat)) → Prop) : Prop :=
  List.rec (motive := fun _ => (Option (List (AV × AV × Nat)) → Prop) → Prop) (fun c => c none) (fun e l ih c => match e.1 with
    | .str s' => Bool.rec (motive := fun _ => Prop) (ih fun r => match r with
      | some r => c (some (e :: r))
      | none => c none) (c (some ((.str s, v, e.2.2) :: l))) (eqN s s')
    | _ => False) es c

def oUp (x k v : AX) (tm : T AV) (h : T AO) (nx : Pt) (K : AV → T AO → Pt → Prop) : Prop :=
  evK tm k fun k => match k with
    | .str s => evK tm x fun a => match a with
      | .map m => evK tm v fun v => h.getK m fun b => match b with
        | .map es n => upE s v es fun r => match r with
          | some es' => h.setK (.map es' n) m fun h => K (.tup []) h nx
          | none => forceL (es ++ [(.str s, v, n)]) fun es' => forceN (n + 1) fun n' => h.setK (.map es' n') m fun h => K (.tup []) h nx
        | _ => False
      | _ => False
    | _ => False

def oMkS (e : TypeId) (n : Nat) (z : List AV) (l : AX) (c : AX) (tm : T AV) (h : T AO) (nx : Pt) (K : AV → T AO → Pt → Prop) : Prop :=
  evK tm l fun l => evK tm c fun c => match l, c with
    | .int _ (.ofNat l), .int _ (.ofNat c) => Bool.rec (motive := fun _ => Prop) False (forceL (zerosL z c) fun vs => h.setK (.cells vs e) nx fun h' => forceP nx.succ fun n' => K (.sl nx 0 l c false) h' n') (Nat.ble l c && Nat.ble (n * c) 16777216)
    | _, _ => False

def oSl (n : Nat) (x : AX) (lo : Option AX) (hi : Option AX) (mx : Option AX) (tm : T AV) (h : T AO) (nx : Pt) (K : AV → T AO → Pt → Prop) : Prop :=
  evK tm x fun a => match a with
    | .nils => bdK tm mx 0 0 fun _ => bdK tm hi 0 0 fun _ => bdK tm lo 0 0 fun _ => K .nils h nx
    | .slz k o p => match mx with
      | none => bdK tm hi 0 0 fun _ => bdK tm lo 0 0 fun _ => K (.slz k o p) h nx
      | some _ => False
    | .sl k o l c op => match mx with
      | none => bdK tm hi l c fun q => bdK tm lo 0 q fun p => Bool.rec (motive := fun _ => Prop)
          (Bool.rec (motive := fun _ => Prop) False (forceN (o + p * n) fun o => forceN (q - p) fun l => forceN (c - p) fun c => K (.sl k o l c op) h nx) (Nat.blt p c))
          (Bool.rec (motive := fun _ => Prop) (forceN (q - p) fun l => K (.sl k o l 0 false) h nx) (Bool.rec (motive := fun _ => Prop) False (forceN (o + p * n) fun o' => K (.slz k o o') h nx) (Nat.beq q p)) op) (Nat.beq c p)
      | some mx => bdK tm (some mx) c c fun m => bdK tm hi l m fun q => bdK tm lo 0 q fun p => Bool.rec (motive := fun _ => Prop) (forceN (o + p * n) fun o => forceN (q - p) fun l => forceN (m - p) fun c => K (.sl k o l c false) h nx) (forceN (q - p) fun l => K (.sl k o l 0 false) h nx) (Nat.beq m p)
    | _ => False

def oSlS (x : AX) (lo : Option AX) (hi : Option AX) (tm : T AV) (h : T AO) (nx : Pt) (K : AV → T AO → Pt → Prop) : Prop :=
  evK tm x fun a => match a with
    | .str s => bdK tm hi s.length s.length fun q => bdK tm lo 0 q fun p => forceL ((s.drop p).take (q - p)) fun s => K (.str s) h nx
    | _ => False

def oApp (e : TypeId) (n : Nat) (x : AX) (y : AX) (tm : T AV) (h : T AO) (nx : Pt) (K : AV → T AO → Pt → Prop) : Prop :=
  evK tm x fun a => evK tm y fun b => appK h nx e n a b K

def oMm (max : Bool) (xs : List AX) (tm : T AV) (h : T AO) (nx : Pt) (K : AV → T AO → Pt → Prop) : Prop :=
  evsK tm xs fun vs => match vs with
    | .int k n :: l => mmK max k l n fun v => K v h nx
    | _ => False

def oMkM (_ : T AV) (h : T AO) (nx : Pt) (K : AV → T AO → Pt → Prop) : Prop :=
  h.setK (.map [] 0) nx fun h' => forceP nx.succ fun n' => K (.map nx) h' n'

def stepV (o : AOp) (tm : T AV) (h : T AO) (nx : Pt) (K : AV → T AO → Pt → Prop) : Prop :=
  match o with
  | .mv x => oMv x tm h nx K
  | .pick c a b => oPick c a b tm h nx K
  | .new vs e => oNew vs e tm h nx K
  | .box e x => oBox e x tm h nx K
  | .build z ps => oBuild z ps tm h nx K
  | .buildS e n z ps => oBuildS e n z ps tm h nx K
  | .ld1 x => oLd1 x tm h nx K
  | .ldN n x => oLdN n x tm h nx K
  | .st n a x => oSt n a x tm h nx K
  | .nchk x => oNchk x tm h nx K
  | .fa d x => oFa d x tm h nx K
  | .fld n o x => oFld n o x tm h nx K
  | .fld1 o x => oFld1 o x tm h nx K
  | .ia n x i => oIa n x i tm h nx K
  | .iaA len n x i => oIaA len n x i tm h nx K
  | .ext x i => oExt x i tm h nx K
  | .mkf f a b => oMkf f a b tm h nx K
  | .mki t x => oMki t x tm h nx K
  | .ar op x y => oAr op x y tm h nx K
  | .eq ek neg x y => oEq ek neg x y tm h nx K
  | .un op x => oUn op x tm h nx K
  | .cvI k x => oCvI k x tm h nx K
  | .cvS x => oCvS x tm h nx K
  | .lenS x => oLenS x tm h nx K
  | .len x => oLen x tm h nx K
  | .lenM x => oLenM x tm h nx K
  | .lenC x => oLenC x tm h nx K
  | .mkC x => oMkC x tm h nx K
  | .ixS x i => oIxS x i tm h nx K
  | .cvB e x => oCvB e x tm h nx K
  | .cvT x => oCvT x tm h nx K
  | .clr z x => oClr z x tm h nx K
  | .ix1 l x i => oIx1 l x i tm h nx K
  | .lk z ok x k => oLk z ok x k tm h nx K
  | .up x k v => oUp x k v tm h nx K
  | .mkS e n z l c => oMkS e n z l c tm h nx K
  | .sl n x lo hi mx => oSl n x lo hi mx tm h nx K
  | .slS x lo hi => oSlS x lo hi tm h nx K
  | .app e n x y => oApp e n x y tm h nx K
  | .mm max xs => oMm max xs tm h nx K
  | .mkM => oMkM tm h nx K

end Go.Proofs.Ytfnehpgefcnjgaa.X
