/- What the contracts of the tables lean on. -/
import Derived.Test.YtpajcdofelmaaaaGreatDoorProg
import Derived.WalkKit
import Derived.WalkSpells
import Derived.WalkLawsBesides
import Derived.Sort.Grow
import Derived.Maps.OwnSet
namespace Go.Proofs.YtpajcdofelmaaaaGreatDoor
open Go.RowKit Go.Sort
def Grew (w w':World):Prop:=∃ q os,w'=grow (w.drewN q) os
theorem Grew.refl (w:World):Grew w w:=⟨0,#[],by simp [grow]; rfl⟩
theorem Grew.trans {a b c:World} (h:Grew a b) (k:Grew b c):Grew a c:=by
 obtain ⟨q,os,rfl⟩:=h
 obtain ⟨r,ps,rfl⟩:=k
 exact ⟨q+r,os ++ ps,by rw [← grow_grow,show (grow (a.drewN q) os).drewN r=grow ((a.drewN q).drewN r) os from rfl,World.drewN_drewN]⟩
theorem Grew.alloc {a b:World} (h:Grew a b) (o:Obj):Grew a (b.alloc o):=h.trans ⟨0,#[o],by rw [alloc_eq_grow]; rfl⟩
theorem Grew.drewN {a b:World} (h:Grew a b) (n:Nat):Grew a (b.drewN n):=h.trans ⟨n,#[],by simp⟩
theorem Grew.drew {a b:World} (h:Grew a b):Grew a b.drew:=h.drewN 1
theorem Grew.below {a b:World} (h:Grew a b):Below a.heap.size a b:=by
 obtain ⟨q,os,rfl⟩:=h
 exact ⟨rfl,rfl,rfl,by simp [World.drewN],fun k hk=>by rw [heap_grow_old _ _ (by simpa [World.drewN] using hk)]; rfl⟩
theorem Hid.mk {p:Prop} (h:p):Hid p:=h
theorem heap_set0 {w:World} {b:Nat} {u v x:Value} {t:TypeId} (h:w.heap[b]?=some (.cells #[u,v] t (0,0))):(w.setCell ⟨b,0,none⟩ x).heap[b]?=some (.cells #[x,v] t (0,0)):=by
 rw [setCell_eq]; show (w.heap.modify b _)[b]?=_
 rw [Array.getElem?_modify,if_pos rfl,h]; rfl
theorem alloc_new (w:World) (o:Obj):(w.alloc o).heap[w.heap.size]?=some o:=by
 show (w.heap.push o)[w.heap.size]?=_
 simp
theorem alloc_old {w:World} {b:Nat} {o:Obj} (h:w.heap[b]?=some o) (p:Obj):(w.alloc p).heap[b]?=some o :=
 (Below.heap_alloc w p b (Array.getElem?_eq_some_iff.1 h).1).trans h
theorem box_at {w:World} {o p:Obj}:((w.alloc o).alloc p).heap[w.heap.size]?=some o:=alloc_old (alloc_new w o) p
theorem box_at1 {w:World} {o p:Obj}:((w.alloc o).alloc p).heap[w.heap.size+1]?=some p:=by have:=alloc_new (w.alloc o) p; simpa using this
structure Kept (P:Nat→Prop) (w w':World):Prop where
 os:w'.os=w.os
 tape:w'.tape=w.tape
 output:w'.output=w.output
 size:w.heap.size≤w'.heap.size
 block:∀ k,k<w.heap.size→¬ P k→w'.heap[k]?=w.heap[k]?
theorem Kept.refl (P:Nat→Prop) (w:World):Kept P w w:=⟨rfl,rfl,rfl,Nat.le_refl _,fun _ _ _=>rfl⟩
theorem Kept.trans {P:Nat→Prop} {a b c:World} (h:Kept P a b) (k:Kept P b c):Kept P a c :=
 ⟨k.os.trans h.os,k.tape.trans h.tape,k.output.trans h.output,Nat.le_trans h.size k.size,fun i hi hp=>(k.block i (Nat.lt_of_lt_of_le hi h.size) hp).trans (h.block i hi hp)⟩
theorem Kept.of_below {P:Nat→Prop} {w w':World} (h:RowKit.Below w.heap.size w w'):Kept P w w':=⟨h.os,h.tape,h.output,h.size,fun k hk _=>h.block k hk⟩
theorem Kept.of_grew {P:Nat→Prop} {w w':World} (h:Grew w w'):Kept P w w':=Kept.of_below h.below
theorem Kept.below {P:Nat→Prop} {w w':World} (h:Kept P w w') {B:Nat} (hB:B≤w.heap.size) (hP:∀ k,P k→B≤k):RowKit.Below B w w' :=
 ⟨h.os,h.tape,h.output,h.size,fun k hk=>h.block k (Nat.lt_of_lt_of_le hk hB) fun hp=>Nat.lt_irrefl _ (Nat.lt_of_lt_of_le hk (hP k hp))⟩
theorem Kept.alloc {P:Nat→Prop} {a w:World} (h:Kept P a w) (o:Obj):Kept P a (w.alloc o):=h.trans (Kept.of_below ((Below.refl _ _).alloc (Nat.le_refl _) o))
theorem Kept.drew {P:Nat→Prop} {a w:World} (h:Kept P a w):Kept P a w.drew:=h.trans (Kept.of_below (Below.refl _ _).drew)
theorem Kept.setCell {P:Nat→Prop} {a w:World} (h:Kept P a w) {p:Addr} (hp:P p.block) (u:Value):Kept P a (w.setCell p u) :=
 h.trans ⟨rfl,rfl,rfl,by simp [World.setCell],fun k _ hk=>Below.heap_setCell _ _ _ _ (fun e=>hk (e ▸ hp))⟩
theorem Kept.cell {P:Nat→Prop} {w w':World} (h:Kept P w w') {p:Addr} (hp:p.block<w.heap.size) (hn:¬ P p.block):w'.cell? p=w.cell? p:=World.cell?_of_block (w:=w) (h.block p.block hp hn)
end Go.Proofs.YtpajcdofelmaaaaGreatDoor

/- The tables of package sig in memory, and the contract of get. -/
namespace Go.Proofs.YtpajcdofelmaaaaGreatDoor
open Go.RowKit Go.Sort
def readM (v:Value):Option (DataW Unit × List MemPlace):=match v with
 | .agg c=>(match c.toList with
  | [.int .i64 p,.int .i64 k]=>some (.agg [.lit (.int .i64 p),.lit (.int .i64 k)],[])
  | _=>none)
 | _=>none
theorem readM_mk (p k:Int):readM (.agg #[.int .i64 p,.int .i64 k])=some (.agg [.lit (.int .i64 p),.lit (.int .i64 k)],[]):=rfl
theorem readM_inv {v:Value} {z:DataW Unit × List MemPlace} (h:readM v=some z):∃ p k:Int,v=.agg #[.int .i64 p,.int .i64 k]∧z=(.agg [.lit (.int .i64 p),.lit (.int .i64 k)],[]):=by
 unfold readM at h
 split at h
 ·rename_i c
  split at h
  ·rename_i p k hc
   cases h
   exact ⟨p,k,by rw [show c=#[.int .i64 p,.int .i64 k] from Array.ext' hc],rfl⟩
  ·cases h
 ·cases h
def keyS (s:ByteArray):Lit:=.string s.data.toList
theorem keyS_of {s:ByteArray} (h:s.size≤maxLen):keyOf Tryz.prog 9 (.string s)=some (keyS s):=by
 unfold keyOf
 simp [Tryz.underlying9,mapKey,h,keyS]
theorem law_str:Maps.Keyed Tryz.prog 9:=Maps.string_keyed Tryz.underlying9
structure Tb (w:World) (mv:Option Nat) (n:Nat) (M:ByteArray→Option (Int × Int)):Prop where
 go:(mv=none∧∀ s,M s=none)∨∃ (b:Nat) (D:DataW Unit),mv=some b∧w.ownsMap Tryz.prog 9 readM b n D∧∀ s:ByteArray,s.size≤maxLen→Maps.has D (keyS s)=(M s).isSome∧∀ x zd,M s=some x→D.atKey (keyS s) zd=.agg [.lit (.int .i64 x.1),.lit (.int .i64 x.2)]
theorem Tb.keep {w w':World} {mv:Option Nat} {n:Nat} {M:ByteArray→Option (Int × Int)} (h:Tb w mv n M) (hb:∀ b,mv=some b→w'.heap[b]?=w.heap[b]?):Tb w' mv n M:=by
 rcases h.go with h | ⟨b,D,h1,⟨es,clock,h2,h3⟩,h4⟩
 ·exact ⟨Or.inl h⟩
 ·exact ⟨Or.inr ⟨b,D,h1,⟨es,clock,(hb b h1).trans h2,h3⟩,h4⟩⟩
theorem Tb.lt {w:World} {b n:Nat} {M:ByteArray→Option (Int × Int)} (h:Tb w (some b) n M):b<w.heap.size:=by
 rcases h.go with ⟨h,-⟩ | ⟨b',D,h1,h2,-⟩
 ·cases h
 ·cases h1; exact h2.lt
theorem zeroM (w:World):(zeroValue 61).run Tryz.prog w=.ok (.agg #[.int .i64 0,.int .i64 0]) w:=by kernel_rfl
theorem Tb.look {w:World} {mv:Option Nat} {n:Nat} {M:ByteArray→Option (Int × Int)} (h:Tb w mv n M) {s:ByteArray} (hs:s.size≤maxLen):∃ p k:Int,(Instr.lookup 52 (.map mv) (.string s) true).run Tryz.prog w=.ok (.tuple #[.agg #[.int .i64 p,.int .i64 k],.bool (M s).isSome]) w∧∀ x,M s=some x→x=(p,k):=by
 rcases h.go with ⟨rfl,hM⟩ | ⟨b,D,rfl,ho,hD⟩
 ·refine ⟨0,0,?_,fun x hx=>by rw [hM s] at hx; cases hx⟩
  rw [Maps.look_nil true law_str Tryz.underlying52 (zeroM w) (keyS_of hs),hM s]
  rfl
 ·obtain ⟨v,ps,hrun,hv⟩:=ho.look_ok law_str Tryz.underlying52 (zeroM w) (readM_mk 0 0) (keyS_of hs)
  obtain ⟨p,k,rfl,hz⟩:=readM_inv hv
  refine ⟨p,k,?_,fun x hx=>?_⟩
  ·rw [hrun,(hD s hs).1]
  ·have h1:=(hD s hs).2 x (.agg [.lit (.int .i64 0),.lit (.int .i64 0)]) hx
   simp only [Prod.mk.injEq] at hz
   rw [h1] at hz
   have h2:=hz.1
   simp only [DataW.agg.injEq,List.cons.injEq,DataW.lit.injEq,Lit.int.injEq,and_true,true_and] at h2
   exact Prod.ext h2.1 h2.2
end Go.Proofs.YtpajcdofelmaaaaGreatDoor

/- The contract of the tables' get. -/
namespace Go.Proofs.YtpajcdofelmaaaaGreatDoor
open Go.RowKit Go.Sort
theorem cells2f {w:World} {b:Nat} {u v:Value} {t:TypeId} (h:w.heap[b]?=some (.cells #[u,v] t (0,0))):w.cell? ⟨b,0,none⟩=some u∧w.cell? ⟨b,1,none⟩=some v∧b<w.heap.size∧∀ o,w.frozen? ⟨b,o,none⟩=false :=
 ⟨by rw [cell_of_row w b 0 _ _ _ h]; rfl,by rw [cell_of_row w b 1 _ _ _ h]; rfl,(Array.getElem?_eq_some_iff.1 h).1,fun o=>by simp [World.frozen?,h]⟩
set_option maxRecDepth 100000 in
set_option maxHeartbeats 4000000 in
theorem tget_any (sb so n:Nat) (mv:Option Nat) (M:ByteArray→Option (Int × Int)) (s:ByteArray) (w:World) (hc:w.cell? ⟨sb,so,none⟩=some (.map mv)) (hT:Tb w mv n M) (hs:s.size≤maxLen):Calls Tryz.prog 291 #[.pointer (some ⟨sb,so,none⟩),.string s] w fun e w'=>∃ a b:Int,e=.returned (.tuple #[.agg #[.int .i64 a,.int .i64 b],.bool (M s).isSome])∧(∀ x,M s=some x→x=(a,b))∧RowKit.Below w.heap.size w w':=by
 have hsb:sb<w.heap.size:=World.block_lt_of_cell? w _ hc
 obtain ⟨W0,hW0⟩:∃ W0,w.alloc (.cells #[.int .i64 0,.int .i64 0] 61)=W0:=⟨_,rfl⟩
 have hb0:RowKit.Below w.heap.size w W0:=by rw [← hW0]; exact (Below.refl _ _).alloc (Nat.le_refl _) _
 have HX0:Hid (W0.heap[w.heap.size]?=some (.cells #[.int .i64 0,.int .i64 0] 61 (0,0))):=by unfold Hid; rw [← hW0]; exact alloc_new _ _
 have hT0:Tb W0 mv n M:=hT.keep fun b hb=>hb0.block b (by subst hb; exact hT.lt)
 obtain ⟨a,b,hrun,hM⟩:=hT0.look hs
 have hc0:W0.cell? ⟨sb,so,none⟩=some (.map mv):=(hb0.cell (p:=⟨sb,so,none⟩) hsb).trans hc
 have HW0:=Hid.mk hW0
 have HB0:=Hid.mk hb0
 have HM:=Hid.mk hM
 clear hW0 hb0 hT0 hT hM hc
 generalize (M s).isSome=q at *
 go_enter Tryz.func291,Tryz.ntmps291
 obtain ⟨W1,hW1⟩:∃ W1,W0.alloc (.cells #[.int .i64 a,.int .i64 b] 61)=W1:=⟨_,rfl⟩
 have hb1:RowKit.Below W0.heap.size W0 W1:=by rw [← hW1]; exact (Below.refl _ _).alloc (Nat.le_refl _) _
 have hX1:W1.heap[w.heap.size]?=some (.cells #[.int .i64 0,.int .i64 0] 61 (0,0)):=(hb1.block _ (Array.getElem?_eq_some_iff.1 HX0.out).1).trans HX0.out
 have hY1:W1.heap[W0.heap.size]?=some (.cells #[.int .i64 a,.int .i64 b] 61 (0,0)):=by rw [← hW1]; exact alloc_new _ _
 have hne:w.heap.size<W0.heap.size:=(Array.getElem?_eq_some_iff.1 HX0.out).1
 obtain ⟨x0,x1,xl,xf⟩:=cells2f hX1
 obtain ⟨y0,y1,yl,yf⟩:=cells2f hY1
 have HB1:Hid (RowKit.Below w.heap.size w W1):=HB0.out.trans (hb1.mono (Nat.le_of_lt hne))
 have HW1:=Hid.mk hW1
 clear hW1 hb1 hX1 hY1
 go_wp2_with (first | rw [HW0.out] | rw [HW1.out])
 refine bodyPost_ret (v:=.tuple #[.agg #[.int .i64 a,.int .i64 b],.bool q]) (by simp [results,Tryz.results291,go_sem,x0,x1]) rfl ⟨a,b,rfl,HM.out,?_⟩
 exact (HB1.out.setCell (p:=⟨w.heap.size,0,none⟩) (Nat.le_refl _) _).setCell (p:=⟨w.heap.size,1,none⟩) (Nat.le_refl _) _
end Go.Proofs.YtpajcdofelmaaaaGreatDoor

/- A name put into a table: the map's part. -/
namespace Go.Proofs.YtpajcdofelmaaaaGreatDoor
open Go.RowKit Go.Sort
def updM (M:ByteArray→Option (Int × Int)) (s:ByteArray) (x:Int × Int):ByteArray→Option (Int × Int):=fun s'=>if s'.data.toList=s.data.toList then some x else M s'
theorem keyS_ne {s s':ByteArray} (h:s'.data.toList≠s.data.toList):keyS s'≠keyS s:=by
 unfold keyS
 intro e
 simp only [Lit.string.injEq] at e
 exact h e
theorem keyS_lit {s:ByteArray} (hs:s.size≤maxLen):WideAt.IsKeyLit (keyS s):=law_str.key (keyS_of hs)
theorem Tb.made (w:World):Tb (w.alloc (.map #[] 0)) (some w.heap.size) 0 (fun _=>none) :=
 ⟨Or.inr ⟨_,_,rfl,World.ownsMap_made w Tryz.prog 9 readM,fun s _=>⟨rfl,fun x zd h=>by cases h⟩⟩⟩
theorem Tb.upd {w:World} {b n:Nat} {M:ByteArray→Option (Int × Int)} (h:Tb w (some b) n M) {s:ByteArray} (hs:s.size≤maxLen) (hn:n<maxLen) (p k:Int):∃ w',(Instr.mapUpdate 52 (.map (some b)) (.string s) (.agg #[.int .i64 p,.int .i64 k])).run Tryz.prog w=.ok () w'∧Tb w' (some b) (n+1) (updM M s (p,k))∧w.grownBy w' (some b):=by
 rcases h.go with ⟨h,-⟩ | ⟨b',D,h1,ho,hD⟩
 ·cases h
 ·cases h1
  obtain ⟨w',hrun,ho',hg⟩:=ho.update law_str Tryz.underlying52 hn (keyS_of hs) (readM_mk p k)
  refine ⟨w',hrun,⟨Or.inr ⟨b,_,rfl,ho',fun s' hs'=>?_⟩⟩,hg⟩
  unfold updM
  by_cases he:s'.data.toList=s.data.toList
  ·have hk:keyS s'=keyS s:=by unfold keyS; rw [he]
   rw [if_pos he,hk]
   refine ⟨Maps.has_put_same ho.isMap (keyS_lit hs) _,fun x zd hx=>?_⟩
   simp only [Option.some.injEq] at hx
   subst hx
   exact Maps.atKey_put_same ho.isMap (keyS_lit hs) _ _
  ·rw [if_neg he]
   refine ⟨by rw [Maps.has_put_other (keyS_ne he)]; exact (hD s' hs').1,fun x zd hx=>?_⟩
   rw [Maps.atKey_put_other (keyS_ne he)]
   exact (hD s' hs').2 x zd hx
end Go.Proofs.YtpajcdofelmaaaaGreatDoor
