/- What the contracts of the tables lean on. -/
import Derived.Test.YtidggaoacldgkaaGreatDoorProg
import Derived.WalkKit
import Derived.WalkSpells
import Derived.WalkLawsBesides
import Derived.Sort.Grow
import Derived.Maps.OwnSet
import Derived.Deep.RegionHeld3
namespace Go.Proofs.YtidggaoacldgkaaGreatDoor
open Go.RowKit Go.Sort
def Grew (w w':World):Prop:=∃ q os,w'=grow (w.drewN q) os
theorem Grew.refl (w:World):Grew w w:=⟨0,#[],by simp [grow]; rfl⟩
theorem Grew.trans {a b c:World} (h:Grew a b) (k:Grew b c):Grew a c:=by
 obtain ⟨q,os,rfl⟩:=h
 obtain ⟨r,ps,rfl⟩:=k
 exact ⟨q+r,os ++ ps,by rw [← grow_grow,show (grow (a.drewN q) os).drewN r=grow ((a.drewN q).drewN r) os from rfl,World.drewN_drewN]⟩
theorem Grew.alloc {a b:World} (h:Grew a b) (o:Obj):Grew a (b.alloc o):=h.trans ⟨0,#[o],by rw [alloc_eq_grow]; rfl⟩
theorem Grew.drewN {a b:World} (h:Grew a b) (n:Nat):Grew a (b.drewN n):=h.trans ⟨n,#[],by simp⟩
theorem Grew.drew {a b:World} (h:Grew a b):Grew a b.drew:=h.drewN 1
theorem Grew.below {a b:World} (h:Grew a b):Below a.heap.size a b:=by
 obtain ⟨q,os,rfl⟩:=h
 exact ⟨rfl,rfl,rfl,by simp [World.drewN],fun k hk=>by rw [heap_grow_old _ _ (by simpa [World.drewN] using hk)]; rfl⟩
theorem Hid.mk {p:Prop} (h:p):Hid p:=h
theorem heap_set0 {w:World} {b:Nat} {u v x:Value} {t:TypeId} (h:w.heap[b]?=some (.cells #[u,v] t (0,0))):(w.setCell ⟨b,0,none⟩ x).heap[b]?=some (.cells #[x,v] t (0,0)):=by
 rw [setCell_eq]; show (w.heap.modify b _)[b]?=_
 rw [Array.getElem?_modify,if_pos rfl,h]; rfl
theorem alloc_new (w:World) (o:Obj):(w.alloc o).heap[w.heap.size]?=some o:=by
 show (w.heap.push o)[w.heap.size]?=_
 simp
theorem alloc_old {w:World} {b:Nat} {o:Obj} (h:w.heap[b]?=some o) (p:Obj):(w.alloc p).heap[b]?=some o :=
 (Below.heap_alloc w p b (Array.getElem?_eq_some_iff.1 h).1).trans h
theorem box_at {w:World} {o p:Obj}:((w.alloc o).alloc p).heap[w.heap.size]?=some o:=alloc_old (alloc_new w o) p
theorem box_at1 {w:World} {o p:Obj}:((w.alloc o).alloc p).heap[w.heap.size+1]?=some p:=by have:=alloc_new (w.alloc o) p; simpa using this
structure Kept (P:Nat→Prop) (w w':World):Prop where
 os:w'.os=w.os
 tape:w'.tape=w.tape
 output:w'.output=w.output
 size:w.heap.size≤w'.heap.size
 block:∀ k,k<w.heap.size→¬ P k→w'.heap[k]?=w.heap[k]?
theorem Kept.refl (P:Nat→Prop) (w:World):Kept P w w:=⟨rfl,rfl,rfl,Nat.le_refl _,fun _ _ _=>rfl⟩
theorem Kept.trans {P:Nat→Prop} {a b c:World} (h:Kept P a b) (k:Kept P b c):Kept P a c :=
 ⟨k.os.trans h.os,k.tape.trans h.tape,k.output.trans h.output,Nat.le_trans h.size k.size,fun i hi hp=>(k.block i (Nat.lt_of_lt_of_le hi h.size) hp).trans (h.block i hi hp)⟩
theorem Kept.of_below {P:Nat→Prop} {w w':World} (h:RowKit.Below w.heap.size w w'):Kept P w w':=⟨h.os,h.tape,h.output,h.size,fun k hk _=>h.block k hk⟩
theorem Kept.of_grew {P:Nat→Prop} {w w':World} (h:Grew w w'):Kept P w w':=Kept.of_below h.below
theorem Kept.below {P:Nat→Prop} {w w':World} (h:Kept P w w') {B:Nat} (hB:B≤w.heap.size) (hP:∀ k,P k→B≤k):RowKit.Below B w w' :=
 ⟨h.os,h.tape,h.output,h.size,fun k hk=>h.block k (Nat.lt_of_lt_of_le hk hB) fun hp=>Nat.lt_irrefl _ (Nat.lt_of_lt_of_le hk (hP k hp))⟩
theorem Kept.alloc {P:Nat→Prop} {a w:World} (h:Kept P a w) (o:Obj):Kept P a (w.alloc o):=h.trans (Kept.of_below ((Below.refl _ _).alloc (Nat.le_refl _) o))
theorem Kept.drew {P:Nat→Prop} {a w:World} (h:Kept P a w):Kept P a w.drew:=h.trans (Kept.of_below (Below.refl _ _).drew)
theorem Kept.setCell {P:Nat→Prop} {a w:World} (h:Kept P a w) {p:Addr} (hp:P p.block) (u:Value):Kept P a (w.setCell p u) :=
 h.trans ⟨rfl,rfl,rfl,by simp [World.setCell],fun k _ hk=>Below.heap_setCell _ _ _ _ (fun e=>hk (e ▸ hp))⟩
theorem Kept.cell {P:Nat→Prop} {w w':World} (h:Kept P w w') {p:Addr} (hp:p.block<w.heap.size) (hn:¬ P p.block):w'.cell? p=w.cell? p:=World.cell?_of_block (w:=w) (h.block p.block hp hn)
end Go.Proofs.YtidggaoacldgkaaGreatDoor

/- The tables of package sig in memory, and the contract of get. -/
namespace Go.Proofs.YtidggaoacldgkaaGreatDoor
open Go.RowKit Go.Sort
def readM (v:Value):Option (DataW Unit × List MemPlace):=match v with
 | .agg c=>(match c.toList with
  | [.int .i64 p,.int .i64 k]=>some (.agg [.lit (.int .i64 p),.lit (.int .i64 k)],[])
  | _=>none)
 | _=>none
theorem readM_mk (p k:Int):readM (.agg #[.int .i64 p,.int .i64 k])=some (.agg [.lit (.int .i64 p),.lit (.int .i64 k)],[]):=rfl
theorem readM_inv {v:Value} {z:DataW Unit × List MemPlace} (h:readM v=some z):∃ p k:Int,v=.agg #[.int .i64 p,.int .i64 k]∧z=(.agg [.lit (.int .i64 p),.lit (.int .i64 k)],[]):=by
 unfold readM at h
 split at h
 ·rename_i c
  split at h
  ·rename_i p k hc
   cases h
   exact ⟨p,k,by rw [show c=#[.int .i64 p,.int .i64 k] from Array.ext' hc],rfl⟩
  ·cases h
 ·cases h
def keyS (s:ByteArray):Lit:=.string s.data.toList
theorem keyS_of {s:ByteArray} (h:s.size≤maxLen):keyOf Tryz.prog 9 (.string s)=some (keyS s):=by
 unfold keyOf
 simp [Tryz.underlying9,mapKey,h,keyS]
theorem law_str:Maps.Keyed Tryz.prog 9:=Maps.string_keyed Tryz.underlying9
structure Tb (w:World) (mv:Option Nat) (n:Nat) (M:ByteArray→Option (Int × Int)):Prop where
 go:(mv=none∧∀ s,M s=none)∨∃ (b:Nat) (D:DataW Unit),mv=some b∧w.ownsMap Tryz.prog 9 readM b n D∧∀ s:ByteArray,s.size≤maxLen→Maps.has D (keyS s)=(M s).isSome∧∀ x zd,M s=some x→D.atKey (keyS s) zd=.agg [.lit (.int .i64 x.1),.lit (.int .i64 x.2)]
theorem Tb.keep {w w':World} {mv:Option Nat} {n:Nat} {M:ByteArray→Option (Int × Int)} (h:Tb w mv n M) (hb:∀ b,mv=some b→w'.heap[b]?=w.heap[b]?):Tb w' mv n M:=by
 rcases h.go with h | ⟨b,D,h1,⟨es,clock,h2,h3⟩,h4⟩
 ·exact ⟨Or.inl h⟩
 ·exact ⟨Or.inr ⟨b,D,h1,⟨es,clock,(hb b h1).trans h2,h3⟩,h4⟩⟩
theorem Tb.lt {w:World} {b n:Nat} {M:ByteArray→Option (Int × Int)} (h:Tb w (some b) n M):b<w.heap.size:=by
 rcases h.go with ⟨h,-⟩ | ⟨b',D,h1,h2,-⟩
 ·cases h
 ·cases h1; exact h2.lt
theorem zeroM (w:World):(zeroValue 83).run Tryz.prog w=.ok (.agg #[.int .i64 0,.int .i64 0]) w:=by kernel_rfl
theorem Tb.look {w:World} {mv:Option Nat} {n:Nat} {M:ByteArray→Option (Int × Int)} (h:Tb w mv n M) {s:ByteArray} (hs:s.size≤maxLen):∃ p k:Int,(Instr.lookup 71 (.map mv) (.string s) true).run Tryz.prog w=.ok (.tuple #[.agg #[.int .i64 p,.int .i64 k],.bool (M s).isSome]) w∧∀ x,M s=some x→x=(p,k):=by
 rcases h.go with ⟨rfl,hM⟩ | ⟨b,D,rfl,ho,hD⟩
 ·refine ⟨0,0,?_,fun x hx=>by rw [hM s] at hx; cases hx⟩
  rw [Maps.look_nil true law_str Tryz.underlying71 (zeroM w) (keyS_of hs),hM s]
  rfl
 ·obtain ⟨v,ps,hrun,hv⟩:=ho.look_ok law_str Tryz.underlying71 (zeroM w) (readM_mk 0 0) (keyS_of hs)
  obtain ⟨p,k,rfl,hz⟩:=readM_inv hv
  refine ⟨p,k,?_,fun x hx=>?_⟩
  ·rw [hrun,(hD s hs).1]
  ·have h1:=(hD s hs).2 x (.agg [.lit (.int .i64 0),.lit (.int .i64 0)]) hx
   simp only [Prod.mk.injEq] at hz
   rw [h1] at hz
   have h2:=hz.1
   simp only [DataW.agg.injEq,List.cons.injEq,DataW.lit.injEq,Lit.int.injEq,and_true,true_and] at h2
   exact Prod.ext h2.1 h2.2
end Go.Proofs.YtidggaoacldgkaaGreatDoor

/- The contract of the tables' get. -/
namespace Go.Proofs.YtidggaoacldgkaaGreatDoor
open Go.RowKit Go.Sort
theorem cells2f {w:World} {b:Nat} {u v:Value} {t:TypeId} (h:w.heap[b]?=some (.cells #[u,v] t (0,0))):w.cell? ⟨b,0,none⟩=some u∧w.cell? ⟨b,1,none⟩=some v∧b<w.heap.size∧∀ o,w.frozen? ⟨b,o,none⟩=false :=
 ⟨by rw [cell_of_row w b 0 _ _ _ h]; rfl,by rw [cell_of_row w b 1 _ _ _ h]; rfl,(Array.getElem?_eq_some_iff.1 h).1,fun o=>by simp [World.frozen?,h]⟩
set_option maxRecDepth 100000 in
set_option maxHeartbeats 4000000 in
theorem tget_any (sb so n:Nat) (mv:Option Nat) (M:ByteArray→Option (Int × Int)) (s:ByteArray) (w:World) (hc:w.cell? ⟨sb,so,none⟩=some (.map mv)) (hT:Tb w mv n M) (hs:s.size≤maxLen):Calls Tryz.prog 313 #[.pointer (some ⟨sb,so,none⟩),.string s] w fun e w'=>∃ a b:Int,e=.returned (.tuple #[.agg #[.int .i64 a,.int .i64 b],.bool (M s).isSome])∧(∀ x,M s=some x→x=(a,b))∧RowKit.Below w.heap.size w w':=by
 have hsb:sb<w.heap.size:=World.block_lt_of_cell? w _ hc
 obtain ⟨W0,hW0⟩:∃ W0,w.alloc (.cells #[.int .i64 0,.int .i64 0] 83)=W0:=⟨_,rfl⟩
 have hb0:RowKit.Below w.heap.size w W0:=by rw [← hW0]; exact (Below.refl _ _).alloc (Nat.le_refl _) _
 have HX0:Hid (W0.heap[w.heap.size]?=some (.cells #[.int .i64 0,.int .i64 0] 83 (0,0))):=by unfold Hid; rw [← hW0]; exact alloc_new _ _
 have hT0:Tb W0 mv n M:=hT.keep fun b hb=>hb0.block b (by subst hb; exact hT.lt)
 obtain ⟨a,b,hrun,hM⟩:=hT0.look hs
 have hc0:W0.cell? ⟨sb,so,none⟩=some (.map mv):=(hb0.cell (p:=⟨sb,so,none⟩) hsb).trans hc
 have HW0:=Hid.mk hW0
 have HB0:=Hid.mk hb0
 have HM:=Hid.mk hM
 clear hW0 hb0 hT0 hT hM hc
 generalize (M s).isSome=q at *
 go_enter Tryz.func313,Tryz.ntmps313
 obtain ⟨W1,hW1⟩:∃ W1,W0.alloc (.cells #[.int .i64 a,.int .i64 b] 83)=W1:=⟨_,rfl⟩
 have hb1:RowKit.Below W0.heap.size W0 W1:=by rw [← hW1]; exact (Below.refl _ _).alloc (Nat.le_refl _) _
 have hX1:W1.heap[w.heap.size]?=some (.cells #[.int .i64 0,.int .i64 0] 83 (0,0)):=(hb1.block _ (Array.getElem?_eq_some_iff.1 HX0.out).1).trans HX0.out
 have hY1:W1.heap[W0.heap.size]?=some (.cells #[.int .i64 a,.int .i64 b] 83 (0,0)):=by rw [← hW1]; exact alloc_new _ _
 have hne:w.heap.size<W0.heap.size:=(Array.getElem?_eq_some_iff.1 HX0.out).1
 obtain ⟨x0,x1,xl,xf⟩:=cells2f hX1
 obtain ⟨y0,y1,yl,yf⟩:=cells2f hY1
 have HB1:Hid (RowKit.Below w.heap.size w W1):=HB0.out.trans (hb1.mono (Nat.le_of_lt hne))
 have HW1:=Hid.mk hW1
 clear hW1 hb1 hX1 hY1
 go_wp2_with (first | rw [HW0.out] | rw [HW1.out])
 refine bodyPost_ret (v:=.tuple #[.agg #[.int .i64 a,.int .i64 b],.bool q]) (by simp [results,Tryz.results313,go_sem,x0,x1]) rfl ⟨a,b,rfl,HM.out,?_⟩
 exact (HB1.out.setCell (p:=⟨w.heap.size,0,none⟩) (Nat.le_refl _) _).setCell (p:=⟨w.heap.size,1,none⟩) (Nat.le_refl _) _
end Go.Proofs.YtidggaoacldgkaaGreatDoor

/- A name put into a table: the map's part. -/
namespace Go.Proofs.YtidggaoacldgkaaGreatDoor
open Go.RowKit Go.Sort
def updM (M:ByteArray→Option (Int × Int)) (s:ByteArray) (x:Int × Int):ByteArray→Option (Int × Int):=fun s'=>if s'.data.toList=s.data.toList then some x else M s'
theorem keyS_ne {s s':ByteArray} (h:s'.data.toList≠s.data.toList):keyS s'≠keyS s:=by
 unfold keyS
 intro e
 simp only [Lit.string.injEq] at e
 exact h e
theorem keyS_lit {s:ByteArray} (hs:s.size≤maxLen):WideAt.IsKeyLit (keyS s):=law_str.key (keyS_of hs)
theorem Tb.made (w:World):Tb (w.alloc (.map #[] 0)) (some w.heap.size) 0 (fun _=>none) :=
 ⟨Or.inr ⟨_,_,rfl,World.ownsMap_made w Tryz.prog 9 readM,fun s _=>⟨rfl,fun x zd h=>by cases h⟩⟩⟩
theorem Tb.upd {w:World} {b n:Nat} {M:ByteArray→Option (Int × Int)} (h:Tb w (some b) n M) {s:ByteArray} (hs:s.size≤maxLen) (hn:n<maxLen) (p k:Int):∃ w',(Instr.mapUpdate 71 (.map (some b)) (.string s) (.agg #[.int .i64 p,.int .i64 k])).run Tryz.prog w=.ok () w'∧Tb w' (some b) (n+1) (updM M s (p,k))∧w.grownBy w' (some b):=by
 rcases h.go with ⟨h,-⟩ | ⟨b',D,h1,ho,hD⟩
 ·cases h
 ·cases h1
  obtain ⟨w',hrun,ho',hg⟩:=ho.update law_str Tryz.underlying71 hn (keyS_of hs) (readM_mk p k)
  refine ⟨w',hrun,⟨Or.inr ⟨b,_,rfl,ho',fun s' hs'=>?_⟩⟩,hg⟩
  unfold updM
  by_cases he:s'.data.toList=s.data.toList
  ·have hk:keyS s'=keyS s:=by unfold keyS; rw [he]
   rw [if_pos he,hk]
   refine ⟨Maps.has_put_same ho.isMap (keyS_lit hs) _,fun x zd hx=>?_⟩
   simp only [Option.some.injEq] at hx
   subst hx
   exact Maps.atKey_put_same ho.isMap (keyS_lit hs) _ _
  ·rw [if_neg he]
   refine ⟨by rw [Maps.has_put_other (keyS_ne he)]; exact (hD s' hs').1,fun x zd hx=>?_⟩
   rw [Maps.atKey_put_other (keyS_ne he)]
   exact (hD s' hs').2 x zd hx
end Go.Proofs.YtidggaoacldgkaaGreatDoor

/- A region that draws its order and whose last operation waits for all others: a condition S holds behind every operation but that last one. -/
namespace Go.Proofs.YtidggaoacldgkaaGreatDoor
open Go.RowKit Go.Sort
section
variable {P:Program} {ops:Array Oper} {Q:Exit→Act→World→Prop} {md:Region.Mode} {S:World→Prop} {last:Nat}
def wpAnyL (P:Program) (md:Region.Mode) (ops:Array Oper) (Q:Exit→Act→World→Prop) (S:World→Prop) (last:Nat):Nat→Array Bool→Act→World→Prop
 | 0,listed,a,w=>Region.ready md ops listed=[]∧Q .normal a w
 | fuel+1,listed,a,w =>
  (Region.ready md ops listed=[]→Q .normal a w) ∧
  ∀ i ∈ Region.ready md ops listed,wpOp P ops Q i (fun a' w'=>(i≠last→S w')∧wpAnyL P md ops Q S last fuel (listed.setIfInBounds i true) a' w') a w
theorem wpAny_of_last:∀ (fuel:Nat) (listed:Array Bool) (a:Act) (w:World),wpAnyL P md ops Q S last fuel listed a w→wpAny P md ops Q fuel listed a w
 | 0,_,_,_,h=>h
 | fuel+1,_,_,_,h=>⟨h.1,fun i hi=>wpOp_mono (fun a' w' h'=>wpAny_of_last fuel _ a' w' h'.2) (h.2 i hi)⟩
def waits (md:Region.Mode) (ops:Array Oper) (last i:Nat):Bool:=match ops[last]? with
 | some o=>o.after.any fun e=>Region.binds md e&&e.on == i
 | none=>false
theorem waits_spec {i:Nat} {listed:Array Bool} (h:waits md ops last i=true) (hi:i ∈ Region.ready md ops listed):last ∉ Region.ready md ops listed:=by
 intro hl
 obtain ⟨-,o,ho,hall⟩:=mem_ready.1 hl
 unfold waits at h
 rw [ho] at h
 simp only [Array.any_eq_true'] at h
 obtain ⟨e,he,hb⟩:=h
 rw [Bool.and_eq_true] at hb
 have h1:=hall e he hb.1
 have hei:e.on=i:=by simpa using hb.2
 have h0:=(mem_ready.1 hi).1
 rw [hei] at h1
 rcases Nat.lt_or_ge i listed.size with h' | h'
 ·simp [h'] at h0 h1; rw [h0] at h1; cases h1
 ·simp [Array.getElem?_eq_none h'] at h1
theorem wpAnyL_first {i:Nat} {oi:Oper} {v:Value} (hi:ops[i]?=some oi) (hsel:∀ (j:Nat) (o:Oper) cs b,ops[j]?=some o→o.op≠.select cs b)
  (hw:waits md ops last i=true) (hQ:∀ c a w,Q (.panic c) (a.put oi.dst v) w→Q (.panic c) a w) :
  ∀ (fuel:Nat) (listed:Array Bool) (a:Act) (w:World),
   (∀ j oj,ops[j]?=some oj→j≠i→listed.getD j true=false→(∀ e ∈ oj.after,Region.binds md e=true→e.on≠i)→oi.apart ops oj=true) →
   i ∈ Region.ready md ops listed→YieldsIf P ops S oi v a→S w →
   wpAnyL P md ops Q S last fuel (listed.setIfInBounds i true) (a.put oi.dst v) w→wpAnyL P md ops Q S last (fuel+1) listed a w:=by
 intro fuel
 induction fuel with
 | zero =>
  intro listed a w _ hr hy hS H
  refine ⟨fun h=>(by rw [h] at hr; cases hr),fun j hj=>?_⟩
  by_cases hji:j=i
  ·subst hji; exact hy.wpOp hi hS ⟨fun _=>hS,H⟩
  ·have:=ready_mono hj hji
   rw [H.1] at this
   cases this
 | succ fuel ih =>
  intro listed a w hfree hr hy hS H
  refine ⟨fun h=>(by rw [h] at hr; cases hr),fun j hj=>?_⟩
  by_cases hji:j=i
  ·subst hji; exact hy.wpOp hi hS ⟨fun _=>hS,H⟩
  ·have hjl:j≠last:=fun e=>waits_spec hw hr (e ▸ hj)
   have h1:=H.2 j (ready_mono hj hji)
   obtain ⟨hjun,oj,hoj,hall⟩:=mem_ready.1 hj
   have hnot:∀ e ∈ oj.after,Region.binds md e=true→e.on≠i:=fun e he hb heq=>by
    have h1:=hall e he hb
    have h0:=(mem_ready.1 hr).1
    rw [heq] at h1
    rcases Nat.lt_or_ge i listed.size with h' | h'
    ·simp [h'] at h0 h1; rw [h0] at h1; cases h1
    ·simp [Array.getElem?_eq_none h'] at h1
   have h2:=wpOp_putIf hoj (hfree j oj hoj hji hjun hnot) (fun cs b=>hsel i oi cs b hi) (fun cs b=>hsel j oj cs b hoj) hQ hy h1
   have hfree':∀ k ok,ops[k]?=some ok→k≠i→(listed.setIfInBounds j true).getD k true=false →
     (∀ e ∈ ok.after,Region.binds md e=true→e.on≠i)→oi.apart ops ok=true:=fun k ok hk hki hun hno=>by
    refine hfree k ok hk hki ?_ hno
    by_cases hjk:j=k
    ·subst hjk; exact hjun
    ·rw [getD_set_ne true hjk] at hun; exact hun
   refine wpOp_mono (fun a' w' h3=>⟨h3.2.1,ih (listed.setIfInBounds j true) a' w' hfree' (ready_mono hr (Ne.symm hji)) h3.1 (h3.2.1 hjl) ?_⟩) h2
   rw [Array.setIfInBounds_comm _ _ hji]
   exact h3.2.2
theorem wpAnyL_take {i:Nat} {oi:Oper} {v:Value} {fuel:Nat} {listed:Array Bool} {a:Act} {w:World} (hi:ops[i]?=some oi)
  (hs:Region.noSelect ops=true) (hf:Region.free md ops listed i=true) (hr:(Region.ready md ops listed).contains i=true) (hw:waits md ops last i=true)
  (hQ:∀ c a w,Q (.panic c) (a.put oi.dst v) w→Q (.panic c) a w) (hy:YieldsIf P ops S oi v a) (hS:S w)
  (h:wpAnyL P md ops Q S last fuel (listed.setIfInBounds i true) (a.put oi.dst v) w):wpAnyL P md ops Q S last (fuel+1) listed a w :=
 wpAnyL_first hi (Region.noSelect_spec hs) hw hQ fuel listed a w (Region.free_spec hi hf) (by simpa using hr) hy hS h
theorem wpAnyL_done {listed:Array Bool} {a:Act} {w:World} (hr:Region.ready md ops listed=[]) (h:Q .normal a w) :
  ∀ fuel,wpAnyL P md ops Q S last fuel listed a w
 | 0=>⟨hr,h⟩
 | _+1=>⟨fun _=>h,by rw [hr]; simp⟩
theorem wpAnyL_one {i:Nat} {o:Oper} {fuel:Nat} {listed:Array Bool} {a:Act} {w:World} (hr:Region.ready md ops listed=[i]) (ho:ops[i]?=some o)
  (h:∀ K':Act→World→Prop,Shut (∀ a w,S w→(S w→wpAnyL P md ops Q S last fuel (listed.setIfInBounds i true) a w)→K' a w)→if Region.wanted o (yielded ops a.tmps)=true then Oper.wp P o a w K' Q else K' (a.put o.dst undef) w):wpAnyL P md ops Q S last (fuel+1) listed a w :=
 by
 refine ⟨fun h0=>?_,fun j hj=>?_⟩
 ·rw [hr] at h0; cases h0
 ·rw [hr] at hj
  obtain rfl:j=i:=by simpa using hj
  exact wpOp_step ho (fun K' hK=>h K' (fun a w hS hW=>hK a w ⟨fun _=>hS,hW hS⟩))
theorem wpAnyL_last {o:Oper} {fuel:Nat} {listed:Array Bool} {a:Act} {w:World} (hr:Region.ready md ops listed=[last]) (ho:ops[last]?=some o) (hd:Region.ready md ops (listed.setIfInBounds last true)=[])
  (h:∀ K':Act→World→Prop,Shut (∀ a w,Q .normal a w→K' a w)→if Region.wanted o (yielded ops a.tmps)=true then Oper.wp P o a w K' Q else K' (a.put o.dst undef) w):wpAnyL P md ops Q S last (fuel+1) listed a w :=
 by
 refine ⟨fun h0=>?_,fun j hj=>?_⟩
 ·rw [hr] at h0; cases h0
 ·rw [hr] at hj
  obtain rfl:j=last:=by simpa using hj
  exact wpOp_step ho (fun K' hK=>h K' (fun a w hW=>hK a w ⟨fun h=>absurd rfl h,wpAnyL_done hd hW _⟩))
theorem wp_region_last {id:Nat} {a:Act} {w:World} (last:Nat) (hm:P.follows .mixedOrders=true) (hS:S w.drew)
  (h:S w.drew→wpAnyL P .any ops Q S last ops.size (Array.replicate ops.size false) a w.drew):(Code.region id ops true).wp P Q a w :=
 wp_region_any hm (wpAny_of_last _ _ _ _ (h hS))
end
end Go.Proofs.YtidggaoacldgkaaGreatDoor

/- The contract of the tables' put. -/
namespace Go.Proofs.YtidggaoacldgkaaGreatDoor
open Go.RowKit Go.Sort
def Rw (w w':World) (sb:Nat):Prop:=∀ vs t,w.heap[sb]?=some (.cells vs t (0,0))→∃ vs',w'.heap[sb]?=some (.cells vs' t (0,0))
theorem Rw.of {w w':World} {sb:Nat} (h:w'.heap[sb]?=w.heap[sb]?):Rw w w' sb:=fun vs _ e=>⟨vs,h.trans e⟩
theorem Rw.trans {a b c:World} {sb:Nat} (h:Rw a b sb) (k:Rw b c sb):Rw a c sb:=fun vs t e=>let ⟨vs',e'⟩:=h vs t e; k vs' t e'
theorem Rw.setCell (w:World) (sb so:Nat) (u:Value):Rw w (w.setCell ⟨sb,so,none⟩ u) sb:=fun vs t h=>by
 rw [setCell_eq]
 show ∃ vs',(w.heap.modify sb _)[sb]?=_
 rw [Array.getElem?_modify,if_pos rfl,h]
 exact ⟨_,rfl⟩
def PutTo (w:World) (sb so n:Nat) (mv:Option Nat) (M:ByteArray→Option (Int × Int)) (s:ByteArray) (x:Int × Int) (e:Ending) (w':World):Prop :=
 ((M s).isSome=true∧e=.returned (.bool false)∧RowKit.Below w.heap.size w w')∨((M s).isSome=false∧e=.returned (.bool true)∧∃ m,w'.cell? ⟨sb,so,none⟩=some (.map (some m))∧Tb w' (some m) (n+1) (updM M s x)∧m≠sb∧(mv=some m∨mv=none∧w.heap.size≤m)∧Kept (fun k=>k=sb∨mv=some k) w w'∧(∀ o,o≠so→w'.cell? ⟨sb,o,none⟩=w.cell? ⟨sb,o,none⟩)∧(∀ o,w'.frozen? ⟨sb,o,none⟩=w.frozen? ⟨sb,o,none⟩)∧Rw w w' sb)
theorem Tb.mono {w:World} {b n m:Nat} {M:ByteArray→Option (Int × Int)} (h:Tb w (some b) n M) (hn:n≤m):Tb w (some b) m M:=by
 rcases h.go with ⟨h,-⟩ | ⟨b',D,h1,ho,hD⟩
 ·cases h
 ·exact ⟨Or.inr ⟨b',D,h1,ho.mono hn,hD⟩⟩
theorem map_make (w:World):Sem.run Tryz.prog (Instr.makeMap 71 none) w=.ok (.map (some w.heap.size)) (w.alloc (.map #[] 0)):=by kernel_rfl
theorem map_nil (mv:Option Nat) (w:World):Sem.run Tryz.prog (binOp .eql 71 (.map mv) (.map none)) w=.ok (.bool mv.isNone) w:=by
 cases mv with
 | none=>kernel_rfl
 | some b=>kernel_rfl
set_option maxRecDepth 100000 in
set_option maxHeartbeats 4000000 in
theorem tput_any (sb so n:Nat) (mv:Option Nat) (M:ByteArray→Option (Int × Int)) (s:ByteArray) (a c:Int) (w:World) (hc:w.cell? ⟨sb,so,none⟩=some (.map mv)) (hfz:∀ o,w.frozen? ⟨sb,o,none⟩=false) (hT:Tb w mv n M) (hne:mv≠some sb) (hs:s.size≤maxLen) (hn:n<maxLen):Calls Tryz.prog 73 #[.pointer (some ⟨sb,so,none⟩),.string s,.agg #[.int .i64 a,.int .i64 c]] w (PutTo w sb so n mv M s (a,c)):=by
 have hsb:sb<w.heap.size:=World.block_lt_of_cell? w _ hc
 obtain ⟨W0,hW0⟩:∃ W0,w.alloc (.cells #[.int .i64 a,.int .i64 c] 83)=W0:=⟨_,rfl⟩
 have hb0:RowKit.Below w.heap.size w W0:=by rw [← hW0]; exact (Below.refl _ _).alloc (Nat.le_refl _) _
 have hX0:W0.heap[w.heap.size]?=some (.cells #[.int .i64 a,.int .i64 c] 83 (0,0)):=by rw [← hW0]; exact alloc_new _ _
 have hT0:Tb W0 mv n M:=hT.keep fun b hb=>hb0.block b (by subst hb; exact hT.lt)
 obtain ⟨p,k,hrun,-⟩:=hT0.look hs
 have hc0:W0.cell? ⟨sb,so,none⟩=some (.map mv):=(hb0.cell (p:=⟨sb,so,none⟩) hsb).trans hc
 obtain ⟨W1,hW1⟩:∃ W1,W0.alloc (.cells #[.int .i64 p,.int .i64 k] 83)=W1:=⟨_,rfl⟩
 have hl0:w.heap.size<W0.heap.size:=(Array.getElem?_eq_some_iff.1 hX0).1
 have hb1:RowKit.Below W0.heap.size W0 W1:=by rw [← hW1]; exact (Below.refl _ _).alloc (Nat.le_refl _) _
 have hb01:RowKit.Below w.heap.size w W1:=hb0.trans (hb1.mono (Nat.le_of_lt hl0))
 have hX1:W1.heap[w.heap.size]?=some (.cells #[.int .i64 a,.int .i64 c] 83 (0,0)):=(hb1.block _ hl0).trans hX0
 have hT1:Tb W1 mv n M:=hT.keep fun b hb=>hb01.block b (by subst hb; exact hT.lt)
 have hc1:W1.cell? ⟨sb,so,none⟩=some (.map mv):=(hb01.cell (p:=⟨sb,so,none⟩) hsb).trans hc
 have hz1:∀ o,W1.frozen? ⟨sb,o,none⟩=false:=fun o=>(World.frozen?_of_block (a:=⟨sb,o,none⟩) (hb01.block sb hsb)).trans (hfz o)
 obtain ⟨x0,x1,xl,xf⟩:=cells2f hX1
 have hs1:=hb01.size
 have HX1:=Hid.mk hX1
 have HT1:=Hid.mk hT1
 have HB1:=Hid.mk hb01
 have HW0:=Hid.mk hW0
 have HW1:=Hid.mk hW1
 have HFZ:=Hid.mk hfz
 have HQ:Hid (∃ q,(M s).isSome=q):=⟨_,rfl⟩
 obtain ⟨q,hq⟩:=HQ.out
 have HQE:=Hid.mk hq
 rw [hq] at hrun
 have hsd:W1.drew.heap.size=W1.heap.size:=rfl
 clear hW0 hW1 hb0 hb1 hb01 hX0 hX1 hT0 hT hT1 hc hq HQ hfz
 cases q with
 | true =>
  go_enter Tryz.func73,Tryz.ntmps73
  go_wp2_with (first | rw [HW0.out] | rw [HW1.out])
  go_ret
  exact Or.inl ⟨HQE.out,rfl,HB1.out⟩
 | false =>
  cases mv with
  | some b =>
   have hbs:b≠sb:=fun e=>hne (by rw [e])
   have hcmp:=map_nil (some b) W1
   obtain ⟨w2,hrun2,hT2,hg2⟩:=HT1.out.keep (w':=W1.drew) (fun _ _=>rfl) |>.upd hs hn a c
   have HT2:=Hid.mk hT2
   have HG2:=Hid.mk hg2
   have HSS:Hid (W1.drew.cell? ⟨sb,so,none⟩=some (.map (some b))∧W1.drew.cell? ⟨w.heap.size,0,none⟩=some (.int .i64 a)∧W1.drew.cell? ⟨w.heap.size,1,none⟩=some (.int .i64 c)):=⟨hc1,x0,x1⟩
   clear hT2 hg2
   go_enter Tryz.func73,Tryz.ntmps73
   go_wp2_with (first | rw [HW0.out] | rw [HW1.out])
   refine wp_region_last (S:=fun w'=>w'.cell? ⟨sb,so,none⟩=some (.map (some b))∧w'.cell? ⟨w.heap.size,0,none⟩=some (.int .i64 a)∧w'.cell? ⟨w.heap.size,1,none⟩=some (.int .i64 c)) 6 (by kernel_rfl) ?_ (fun hHeld=>?_)
   ·(try dsimp only)
    exact HSS.out
   refine wpAnyL_take (i:=0) (v:=?_) rfl (by kernel_rfl) (by kernel_rfl) (by kernel_rfl) (by kernel_rfl) (fun _ _ _ h=>h) (Or.inl ⟨by rfl,?_⟩) (by assumption) ?_
   rotate_left
   ·(intro w hSw; (try dsimp only at hSw); go_simp; (try with_reducible rfl))
   refine wpAnyL_take (i:=1) (v:=?_) rfl (by kernel_rfl) (by kernel_rfl) (by kernel_rfl) (by kernel_rfl) (fun _ _ _ h=>h) (Or.inl ⟨by rfl,?_⟩) (by assumption) ?_
   rotate_left
   ·(intro w hSw; (try dsimp only at hSw); go_simp; (try with_reducible rfl))
   refine wpAnyL_take (i:=2) (v:=?_) rfl (by kernel_rfl) (by kernel_rfl) (by kernel_rfl) (by kernel_rfl) (fun _ _ _ h=>h) (Or.inl ⟨by rfl,?_⟩) (by assumption) ?_
   rotate_left
   ·(intro w hSw; (try dsimp only at hSw); go_simp; (try with_reducible rfl))
   refine wpAnyL_take (i:=3) (v:=?_) rfl (by kernel_rfl) (by kernel_rfl) (by kernel_rfl) (by kernel_rfl) (fun _ _ _ h=>h) (Or.inl ⟨by rfl,?_⟩) (by assumption) ?_
   rotate_left
   ·(intro w hSw; (try dsimp only at hSw); go_simp; (try with_reducible rfl))
   refine wpAnyL_take (i:=4) (v:=?_) rfl (by kernel_rfl) (by kernel_rfl) (by kernel_rfl) (by kernel_rfl) (fun _ _ _ h=>h) (Or.inl ⟨by rfl,?_⟩) (by assumption) ?_
   rotate_left
   ·(intro w hSw; (try dsimp only at hSw); go_simp; (try with_reducible rfl))
   refine wpAnyL_take (i:=5) (v:=?_) rfl (by kernel_rfl) (by kernel_rfl) (by kernel_rfl) (by kernel_rfl) (fun _ _ _ h=>h) (Or.inl ⟨by rfl,?_⟩) (by assumption) ?_
   rotate_left
   ·(intro w hSw; (try dsimp only at hSw); go_simp; (try with_reducible rfl))
   refine wpAnyL_last (by kernel_rfl) rfl (by kernel_rfl) (fun K hK=>?_)
   go_simp
   refine hK.out _ _ ?_
   clear hK K
   go_wp2
   go_ret
   have e2:w2.heap[sb]?=w.heap[sb]?:=(HG2.out.block sb (by omega) (by intro e; cases e; exact hbs rfl)).trans (HB1.out.block sb hsb)
   refine Or.inr ⟨HQE.out,rfl,b,(World.cell?_of_block (a:=⟨sb,so,none⟩) (e2.trans (HB1.out.block sb hsb).symm)).trans hc1,HT2.out,hbs,Or.inl rfl,⟨HG2.out.os.trans HB1.out.os,HG2.out.tape.trans HB1.out.tape,HG2.out.output.trans HB1.out.output,Nat.le_trans hs1 HG2.out.size,fun j hj hn=>(HG2.out.block j (by omega) (fun e=>hn (Or.inr (by rw [← e])))).trans (HB1.out.block j hj)⟩,fun o _=>World.cell?_of_block (a:=⟨sb,o,none⟩) e2,fun o=>World.frozen?_of_block (a:=⟨sb,o,none⟩) e2,Rw.of e2⟩
  | none =>
   have hM:∀ s,M s=none:=by
    rcases HT1.out.go with ⟨-,h⟩ | ⟨b,D,h,-⟩
    ·exact h
    ·cases h
   have hMe:M=fun _=>none:=funext hM
   have hcmp:=map_nil none W1
   have hmake:=map_make W1
   obtain ⟨W3,hW3⟩:∃ W3,(W1.alloc (.map #[] 0)).setCell ⟨sb,so,none⟩ (.map (some W1.heap.size))=W3:=⟨_,rfl⟩
   have hc2:(W1.alloc (.map #[] 0)).cell? ⟨sb,so,none⟩=some (.map none):=(World.cell?_of_block (a:=⟨sb,so,none⟩) (Below.heap_alloc W1 (.map #[] 0) sb (by omega))).trans hc1
   have hz2:∀ o,(W1.alloc (.map #[] 0)).frozen? ⟨sb,o,none⟩=false:=fun o=>(World.frozen?_of_block (a:=⟨sb,o,none⟩) (Below.heap_alloc W1 (.map #[] 0) sb (by omega))).trans (hz1 o)
   have hsz3:W3.heap.size=W1.heap.size+1:=by rw [← hW3]; simp [World.setCell]
   have hb3:∀ j,j≠sb→W3.heap[j]?=(W1.alloc (.map #[] 0)).heap[j]?:=fun j hj=>by rw [← hW3]; exact Below.heap_setCell _ _ _ _ hj
   have hC3:W3.cell? ⟨sb,so,none⟩=some (.map (some W1.heap.size)):=by rw [← hW3]; exact World.cell?_setCell_same _ _ _ hc2
   have hCO:∀ o,o≠so→W3.cell? ⟨sb,o,none⟩=w.cell? ⟨sb,o,none⟩:=fun o ho=>by
    rw [← hW3,World.cell?_setCell_other _ _ _ _ (by intro e; simp only [Addr.mk.injEq,true_and,and_true] at e; exact ho e.symm)]
    exact (World.cell?_of_block (a:=⟨sb,o,none⟩) (Below.heap_alloc W1 (.map #[] 0) sb (by omega))).trans (HB1.out.cell (p:=⟨sb,o,none⟩) hsb)
   have hZ3:∀ o,W3.frozen? ⟨sb,o,none⟩=false:=fun o=>by rw [← hW3,World.frozen?_setCell]; exact hz2 o
   have hO3:W3.os=W1.os∧W3.tape=W1.tape∧W3.output=W1.output:=by rw [← hW3]; exact ⟨rfl,rfl,rfl⟩
   have hT3:Tb W3 (some W1.heap.size) 0 M:=by rw [hMe]; exact (Tb.made W1).keep fun b hb=>hb3 b (by cases hb; omega)
   obtain ⟨x30,x31,-,-⟩:=cells2f ((hb3 w.heap.size (by omega)).trans ((Below.heap_alloc W1 (.map #[] 0) _ (by omega)).trans HX1.out))
   have h0:(0:Nat)<maxLen:=by omega
   obtain ⟨w3,hrun2,hT2,hg2⟩:=hT3.keep (w':=W3.drew) (fun _ _=>rfl) |>.upd hs h0 a c
   have HT2:Hid (Tb w3 (some W1.heap.size) (n+1) (updM M s (a,c))):=hT2.mono (by omega)
   have HG2:=Hid.mk hg2
   have HSS:Hid (W3.drew.cell? ⟨sb,so,none⟩=some (.map (some W1.heap.size))∧W3.drew.cell? ⟨w.heap.size,0,none⟩=some (.int .i64 a)∧W3.drew.cell? ⟨w.heap.size,1,none⟩=some (.int .i64 c)):=⟨hC3,x30,x31⟩
   have HR3:Hid (Rw W1 W3 sb):=by unfold Hid; rw [← hW3]; exact (Rw.of (Below.heap_alloc W1 (.map #[] 0) sb (by omega))).trans (Rw.setCell _ _ _ _)
   have HW3b:=Hid.mk hb3
   have HC3:=Hid.mk hC3
   have HCO:=Hid.mk hCO
   have HZ3:=Hid.mk hZ3
   have HO3:=Hid.mk hO3
   have HW3:=Hid.mk hW3
   have hs3a:=Nat.le_of_eq hsz3
   have hs3b:=Nat.le_of_eq hsz3.symm
   have hsd3:W3.drew.heap.size≤W3.heap.size:=Nat.le_refl _
   have hsd4:W3.heap.size≤W3.drew.heap.size:=Nat.le_refl _
   clear hT2 hg2 hT3 hb3 hC3 hCO hZ3 hO3 hW3 hsz3 hMe hsd x30 x31
   go_enter Tryz.func73,Tryz.ntmps73
   go_wp2_with (first | rw [HW0.out] | rw [HW1.out] | rw [HW3.out])
   refine wp_region_last (S:=fun w'=>w'.cell? ⟨sb,so,none⟩=some (.map (some W1.heap.size))∧w'.cell? ⟨w.heap.size,0,none⟩=some (.int .i64 a)∧w'.cell? ⟨w.heap.size,1,none⟩=some (.int .i64 c)) 6 (by kernel_rfl) ?_ (fun hHeld=>?_)
   ·(try dsimp only)
    exact HSS.out
   refine wpAnyL_take (i:=0) (v:=?_) rfl (by kernel_rfl) (by kernel_rfl) (by kernel_rfl) (by kernel_rfl) (fun _ _ _ h=>h) (Or.inl ⟨by rfl,?_⟩) (by assumption) ?_
   rotate_left
   ·(intro w hSw; (try dsimp only at hSw); go_simp; (try with_reducible rfl))
   refine wpAnyL_take (i:=1) (v:=?_) rfl (by kernel_rfl) (by kernel_rfl) (by kernel_rfl) (by kernel_rfl) (fun _ _ _ h=>h) (Or.inl ⟨by rfl,?_⟩) (by assumption) ?_
   rotate_left
   ·(intro w hSw; (try dsimp only at hSw); go_simp; (try with_reducible rfl))
   refine wpAnyL_take (i:=2) (v:=?_) rfl (by kernel_rfl) (by kernel_rfl) (by kernel_rfl) (by kernel_rfl) (fun _ _ _ h=>h) (Or.inl ⟨by rfl,?_⟩) (by assumption) ?_
   rotate_left
   ·(intro w hSw; (try dsimp only at hSw); go_simp; (try with_reducible rfl))
   refine wpAnyL_take (i:=3) (v:=?_) rfl (by kernel_rfl) (by kernel_rfl) (by kernel_rfl) (by kernel_rfl) (fun _ _ _ h=>h) (Or.inl ⟨by rfl,?_⟩) (by assumption) ?_
   rotate_left
   ·(intro w hSw; (try dsimp only at hSw); go_simp; (try with_reducible rfl))
   refine wpAnyL_take (i:=4) (v:=?_) rfl (by kernel_rfl) (by kernel_rfl) (by kernel_rfl) (by kernel_rfl) (fun _ _ _ h=>h) (Or.inl ⟨by rfl,?_⟩) (by assumption) ?_
   rotate_left
   ·(intro w hSw; (try dsimp only at hSw); go_simp; (try with_reducible rfl))
   refine wpAnyL_take (i:=5) (v:=?_) rfl (by kernel_rfl) (by kernel_rfl) (by kernel_rfl) (by kernel_rfl) (fun _ _ _ h=>h) (Or.inl ⟨by rfl,?_⟩) (by assumption) ?_
   rotate_left
   ·(intro w hSw; (try dsimp only at hSw); go_simp; (try with_reducible rfl))
   refine wpAnyL_last (by kernel_rfl) rfl (by kernel_rfl) (fun K hK=>?_)
   go_simp
   refine hK.out _ _ ?_
   clear hK K
   go_wp2
   go_ret
   have hg:w3.heap[sb]?=W3.heap[sb]?:=HG2.out.block sb (by omega) (by intro e; cases e; omega)
   have hz:∀ j,j<w.heap.size→j≠sb→w3.heap[j]?=w.heap[j]?:=fun j hj hn=>(HG2.out.block j (by omega) (by intro e; cases e; omega)).trans ((HW3b.out j hn).trans ((Below.heap_alloc _ _ _ (by omega)).trans (HB1.out.block j hj)))
   refine Or.inr ⟨HQE.out,rfl,W1.heap.size,(World.cell?_of_block (a:=⟨sb,so,none⟩) hg).trans HC3.out,HT2.out,by omega,Or.inr ⟨rfl,hs1⟩,⟨HG2.out.os.trans (HO3.out.1.trans HB1.out.os),HG2.out.tape.trans (HO3.out.2.1.trans HB1.out.tape),HG2.out.output.trans (HO3.out.2.2.trans HB1.out.output),by have:=HG2.out.size; omega,fun j hj hn=>hz j hj (fun e=>hn (Or.inl e))⟩,fun o ho=>?_,fun o=>?_,(Rw.of (HB1.out.block sb hsb)).trans (HR3.out.trans (Rw.of hg))⟩
   ·exact (World.cell?_of_block (a:=⟨sb,o,none⟩) hg).trans (HCO.out o ho)
   ·exact (World.frozen?_of_block (a:=⟨sb,o,none⟩) hg).trans ((HZ3.out o).trans (HFZ.out o).symm)
end Go.Proofs.YtidggaoacldgkaaGreatDoor
