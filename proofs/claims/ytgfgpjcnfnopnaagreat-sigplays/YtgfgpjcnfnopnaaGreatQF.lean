/- The tables of package sig in memory, and the contract of get. -/
import Derived.Maps.OwnSet
import Derived.Test.YtgfgpjcnfnopnaaGreatKD
import Derived.Test.YtgfgpjcnfnopnaaGreatRL
import Derived.Maps.RangeWalk
namespace Go.Proofs.YtgfgpjcnfnopnaaGreat
set_option maxRecDepth 100000
set_option maxHeartbeats 40000000
open Go.RowKit Go.Sort
def readM (v:Value):Option (DataW Unit×List MemPlace):=match v with
 | .agg c=>(match c.toList with
  | [.int .i64 p,.int .i64 k]=>some (.agg [.lit (.int .i64 p),.lit (.int .i64 k)],[])
  | _=>none)
 | _=>none
theorem readM_mk (p k:Int):readM (.agg #[.int .i64 p,.int .i64 k])=some (.agg [.lit (.int .i64 p),.lit (.int .i64 k)],[]):=rfl
theorem readM_inv {v:Value}{z:DataW Unit×List MemPlace}(h:readM v=some z):∃p k:Int,v=.agg #[.int .i64 p,.int .i64 k]∧z=(.agg [.lit (.int .i64 p),.lit (.int .i64 k)],[]):=by
 unfold readM at h
 split at h
 ·rename_i c
  split at h
  ·rename_i p k hc
   cases h
   exact ⟨p,k,by rw [show c=#[.int .i64 p,.int .i64 k] from Array.ext' hc],rfl⟩
  ·cases h
 ·cases h
def keyS (s:ByteArray):Lit:=.string s.data.toList
theorem keyS_of {s:ByteArray}(h:s.size≤maxLen):keyOf Tryz.prog 9 (.string s)=some (keyS s):=by
 unfold keyOf
 simp [Tryz.underlying9,mapKey,h,keyS]
theorem law_str:Maps.Keyed Tryz.prog 9:=Maps.string_keyed Tryz.underlying9
structure Tb (w:World) (mv:Option Nat) (n:Nat) (M:ByteArray→Option (Int×Int)):Prop where
 go:(mv=none∧∀s,M s=none)∨∃(b:Nat) (D:DataW Unit),mv=some b∧w.ownsMap Tryz.prog 9 readM b n D∧∀s:ByteArray,s.size≤maxLen→Maps.has D (keyS s)=(M s).isSome∧∀x zd,M s=some x→D.atKey (keyS s) zd=.agg [.lit (.int .i64 x.1),.lit (.int .i64 x.2)]
theorem Tb.keep {w w':World}{mv:Option Nat}{n:Nat}{M:ByteArray→Option (Int×Int)}(h:Tb w mv n M) (hb:∀b,mv=some b→w'.heap[b]?=w.heap[b]?):Tb w' mv n M:=by
 rcases h.go with h | ⟨b,D,h1,⟨es,clock,h2,h3⟩,h4⟩
 ·exact ⟨Or.inl h⟩
 ·exact ⟨Or.inr ⟨b,D,h1,⟨es,clock,(hb b h1).trans h2,h3⟩,h4⟩⟩
theorem Tb.lt {w:World}{b n:Nat}{M:ByteArray→Option (Int×Int)}(h:Tb w (some b) n M):b<w.heap.size:=by
 rcases h.go with ⟨h,-⟩ | ⟨b',D,h1,h2,-⟩
 ·cases h
 ·cases h1;exact h2.lt
theorem zeroM (w:World):(zeroValue 63).run Tryz.prog w=.ok (.agg #[.int .i64 0,.int .i64 0]) w:=by kernel_rfl
theorem Tb.look {w:World}{mv:Option Nat}{n:Nat}{M:ByteArray→Option (Int×Int)}(h:Tb w mv n M) {s:ByteArray}(hs:s.size≤maxLen):∃p k:Int,(Instr.lookup 54 (.map mv) (.string s) true).run Tryz.prog w=.ok (.tuple #[.agg #[.int .i64 p,.int .i64 k],.bool (M s).isSome]) w∧∀x,M s=some x→x=(p,k):=by
 rcases h.go with ⟨rfl,hM⟩ | ⟨b,D,rfl,ho,hD⟩
 ·refine ⟨0,0,?_,fun x hx=>by rw [hM s] at hx;cases hx⟩
  rw [Maps.look_nil true law_str Tryz.underlying54 (zeroM w) (keyS_of hs),hM s]
  rfl
 ·obtain ⟨v,ps,hrun,hv⟩:=ho.look_ok law_str Tryz.underlying54 (zeroM w) (readM_mk 0 0) (keyS_of hs)
  obtain ⟨p,k,rfl,hz⟩:=readM_inv hv
  refine ⟨p,k,?_,fun x hx=>?_⟩
  ·rw [hrun,(hD s hs).1]
  ·have h1:=(hD s hs).2 x (.agg [.lit (.int .i64 0),.lit (.int .i64 0)]) hx
   simp only [Prod.mk.injEq] at hz
   rw [h1] at hz
   have h2:=hz.1
   simp only [DataW.agg.injEq,List.cons.injEq,DataW.lit.injEq,Lit.int.injEq,and_true,true_and] at h2
   exact Prod.ext h2.1 h2.2
theorem cells2f {w:World}{b:Nat}{u v:Value}{t:TypeId}(h:w.heap[b]?=some (.cells #[u,v] t (0,0))):w.cell? ⟨b,0,none⟩=some u∧w.cell? ⟨b,1,none⟩=some v∧b<w.heap.size∧∀o,w.frozen? ⟨b,o,none⟩=false :=
 ⟨by rw [cell_of_row w b 0 _ _ _ h];rfl,by rw [cell_of_row w b 1 _ _ _ h];rfl,(Array.getElem?_eq_some_iff.1 h).1,fun o=>by simp [World.frozen?,h]⟩
theorem tget_any (sb so n:Nat) (mv:Option Nat) (M:ByteArray→Option (Int×Int)) (s:ByteArray) (w:World) (hc:w.cell? ⟨sb,so,none⟩=some (.map mv)) (hT:Tb w mv n M) (hs:s.size≤maxLen):Calls Tryz.prog 28 #[.pointer (some ⟨sb,so,none⟩),.string s] w fun e w'=>∃a b:Int,e=.returned (.tuple #[.agg #[.int .i64 a,.int .i64 b],.bool (M s).isSome])∧(∀x,M s=some x→x=(a,b))∧RowKit.Below w.heap.size w w':=by
 have hsb:sb<w.heap.size:=World.block_lt_of_cell? w _ hc
 obtain ⟨W0,hW0⟩:∃W0,w.alloc (.cells #[.int .i64 0,.int .i64 0] 63)=W0:=⟨_,rfl⟩
 have hb0:RowKit.Below w.heap.size w W0:=by rw [←hW0];exact (Below.refl _ _).alloc (Nat.le_refl _) _
 have HX0:Hid (W0.heap[w.heap.size]?=some (.cells #[.int .i64 0,.int .i64 0] 63 (0,0))):=by unfold Hid;rw [←hW0];exact alloc_new _ _
 have hT0:Tb W0 mv n M:=hT.keep fun b hb=>hb0.block b (by subst hb;exact hT.lt)
 obtain ⟨a,b,hrun,hM⟩:=hT0.look hs
 have hc0:W0.cell? ⟨sb,so,none⟩=some (.map mv):=(hb0.cell (p:=⟨sb,so,none⟩) hsb).trans hc
 have HW0:=Hid.mk hW0
 have HB0:=Hid.mk hb0
 have HM:=Hid.mk hM
 clear hW0 hb0 hT0 hT hM hc
 generalize (M s).isSome=q at *
 go_enter Tryz.func28,Tryz.ntmps28
 obtain ⟨W1,hW1⟩:∃W1,W0.alloc (.cells #[.int .i64 a,.int .i64 b] 63)=W1:=⟨_,rfl⟩
 have hb1:RowKit.Below W0.heap.size W0 W1:=by rw [←hW1];exact (Below.refl _ _).alloc (Nat.le_refl _) _
 have hX1:W1.heap[w.heap.size]?=some (.cells #[.int .i64 0,.int .i64 0] 63 (0,0)):=(hb1.block _ (Array.getElem?_eq_some_iff.1 HX0.out).1).trans HX0.out
 have hY1:W1.heap[W0.heap.size]?=some (.cells #[.int .i64 a,.int .i64 b] 63 (0,0)):=by rw [←hW1];exact alloc_new _ _
 have hne:w.heap.size<W0.heap.size:=(Array.getElem?_eq_some_iff.1 HX0.out).1
 obtain ⟨x0,x1,xl,xf⟩:=cells2f hX1
 obtain ⟨y0,y1,yl,yf⟩:=cells2f hY1
 have HB1:Hid (RowKit.Below w.heap.size w W1):=HB0.out.trans (hb1.mono (Nat.le_of_lt hne))
 have HW1:=Hid.mk hW1
 clear hW1 hb1 hX1 hY1
 go_wp2_with (first | rw [HW0.out] | rw [HW1.out])
 refine bodyPost_ret (v:=.tuple #[.agg #[.int .i64 a,.int .i64 b],.bool q]) (by simp [results,Tryz.results28,go_sem,x0,x1]) rfl ⟨a,b,rfl,HM.out,?_⟩
 exact (HB1.out.setCell (p:=⟨w.heap.size,0,none⟩) (Nat.le_refl _) _).setCell (p:=⟨w.heap.size,1,none⟩) (Nat.le_refl _) _
def updM (M:ByteArray→Option (Int×Int)) (s:ByteArray) (x:Int×Int):ByteArray→Option (Int×Int):=fun s'=>if s'.data.toList=s.data.toList then some x else M s'
theorem keyS_ne {s s':ByteArray}(h:s'.data.toList≠s.data.toList):keyS s'≠keyS s:=by
 unfold keyS
 intro e
 simp only [Lit.string.injEq] at e
 exact h e
theorem keyS_lit {s:ByteArray}(hs:s.size≤maxLen):WideAt.IsKeyLit (keyS s):=law_str.key (keyS_of hs)
theorem Tb.made (w:World):Tb (w.alloc (.map #[] 0)) (some w.heap.size) 0 (fun _=>none) :=
 ⟨Or.inr ⟨_,_,rfl,World.ownsMap_made w Tryz.prog 9 readM,fun s _=>⟨rfl,fun x zd h=>by cases h⟩⟩⟩
theorem Tb.upd {w:World}{b n:Nat}{M:ByteArray→Option (Int×Int)}(h:Tb w (some b) n M) {s:ByteArray}(hs:s.size≤maxLen) (hn:n<maxLen) (p k:Int):∃w',(Instr.mapUpdate 54 (.map (some b)) (.string s) (.agg #[.int .i64 p,.int .i64 k])).run Tryz.prog w=.ok () w'∧Tb w' (some b) (n+1) (updM M s (p,k))∧w.grownBy w' (some b):=by
 rcases h.go with ⟨h,-⟩ | ⟨b',D,h1,ho,hD⟩
 ·cases h
 ·cases h1
  obtain ⟨w',hrun,ho',hg⟩:=ho.update law_str Tryz.underlying54 hn (keyS_of hs) (readM_mk p k)
  refine ⟨w',hrun,⟨Or.inr ⟨b,_,rfl,ho',fun s' hs'=>?_⟩⟩,hg⟩
  unfold updM
  by_cases he:s'.data.toList=s.data.toList
  ·have hk:keyS s'=keyS s:=by unfold keyS;rw [he]
   rw [if_pos he,hk]
   refine ⟨Maps.has_put_same ho.isMap (keyS_lit hs) _,fun x zd hx=>?_⟩
   simp only [Option.some.injEq] at hx
   subst hx
   exact Maps.atKey_put_same ho.isMap (keyS_lit hs) _ _
  ·rw [if_neg he]
   refine ⟨by rw [Maps.has_put_other (keyS_ne he)];exact (hD s' hs').1,fun x zd hx=>?_⟩
   rw [Maps.atKey_put_other (keyS_ne he)]
   exact (hD s' hs').2 x zd hx
def PutTo (w:World) (sb so n:Nat) (mv:Option Nat) (M:ByteArray→Option (Int×Int)) (s:ByteArray) (x:Int×Int) (e:Ending) (w':World):Prop :=
 ((M s).isSome=true∧e=.returned (.bool false)∧RowKit.Below w.heap.size w w')∨((M s).isSome=false∧e=.returned (.bool true)∧∃m,w'.cell? ⟨sb,so,none⟩=some (.map (some m))∧Tb w' (some m) (n+1) (updM M s x)∧m≠sb∧(mv=some m∨mv=none∧w.heap.size≤m)∧Kept (fun k=>k=sb∨mv=some k) w w'∧(∀o,o≠so→w'.cell? ⟨sb,o,none⟩=w.cell? ⟨sb,o,none⟩)∧(∀o,w'.frozen? ⟨sb,o,none⟩=w.frozen? ⟨sb,o,none⟩))
theorem Tb.mono {w:World}{b n m:Nat}{M:ByteArray→Option (Int×Int)}(h:Tb w (some b) n M) (hn:n≤m):Tb w (some b) m M:=by
 rcases h.go with ⟨h,-⟩ | ⟨b',D,h1,ho,hD⟩
 ·cases h
 ·exact ⟨Or.inr ⟨b',D,h1,ho.mono hn,hD⟩⟩
theorem map_make (w:World):Sem.run Tryz.prog (Instr.makeMap 54 none) w=.ok (.map (some w.heap.size)) (w.alloc (.map #[] 0)):=by kernel_rfl
theorem map_nil (mv:Option Nat) (w:World):Sem.run Tryz.prog (binOp .eql 54 (.map mv) (.map none)) w=.ok (.bool mv.isNone) w:=by
 cases mv with
 | none=>kernel_rfl
 | some b=>kernel_rfl
theorem tput_any (sb so n:Nat) (mv:Option Nat) (M:ByteArray→Option (Int×Int)) (s:ByteArray) (a c:Int) (w:World) (hc:w.cell? ⟨sb,so,none⟩=some (.map mv)) (hfz:∀o,w.frozen? ⟨sb,o,none⟩=false) (hT:Tb w mv n M) (hne:mv≠some sb) (hs:s.size≤maxLen) (hn:n<maxLen):Calls Tryz.prog 40 #[.pointer (some ⟨sb,so,none⟩),.string s,.agg #[.int .i64 a,.int .i64 c]] w (PutTo w sb so n mv M s (a,c)):=by
 have hsb:sb<w.heap.size:=World.block_lt_of_cell? w _ hc
 obtain ⟨W0,hW0⟩:∃W0,w.alloc (.cells #[.int .i64 a,.int .i64 c] 63)=W0:=⟨_,rfl⟩
 have hb0:RowKit.Below w.heap.size w W0:=by rw [←hW0];exact (Below.refl _ _).alloc (Nat.le_refl _) _
 have hX0:W0.heap[w.heap.size]?=some (.cells #[.int .i64 a,.int .i64 c] 63 (0,0)):=by rw [←hW0];exact alloc_new _ _
 have hT0:Tb W0 mv n M:=hT.keep fun b hb=>hb0.block b (by subst hb;exact hT.lt)
 obtain ⟨p,k,hrun,-⟩:=hT0.look hs
 have hc0:W0.cell? ⟨sb,so,none⟩=some (.map mv):=(hb0.cell (p:=⟨sb,so,none⟩) hsb).trans hc
 obtain ⟨W1,hW1⟩:∃W1,W0.alloc (.cells #[.int .i64 p,.int .i64 k] 63)=W1:=⟨_,rfl⟩
 have hl0:w.heap.size<W0.heap.size:=(Array.getElem?_eq_some_iff.1 hX0).1
 have hb1:RowKit.Below W0.heap.size W0 W1:=by rw [←hW1];exact (Below.refl _ _).alloc (Nat.le_refl _) _
 have hb01:RowKit.Below w.heap.size w W1:=hb0.trans (hb1.mono (Nat.le_of_lt hl0))
 have hX1:W1.heap[w.heap.size]?=some (.cells #[.int .i64 a,.int .i64 c] 63 (0,0)):=(hb1.block _ hl0).trans hX0
 have hT1:Tb W1 mv n M:=hT.keep fun b hb=>hb01.block b (by subst hb;exact hT.lt)
 have hc1:W1.cell? ⟨sb,so,none⟩=some (.map mv):=(hb01.cell (p:=⟨sb,so,none⟩) hsb).trans hc
 have hz1:∀o,W1.frozen? ⟨sb,o,none⟩=false:=fun o=>(World.frozen?_of_block (a:=⟨sb,o,none⟩) (hb01.block sb hsb)).trans (hfz o)
 obtain ⟨x0,x1,xl,xf⟩:=cells2f hX1
 have hs1:=hb01.size
 have HX1:=Hid.mk hX1
 have HT1:=Hid.mk hT1
 have HB1:=Hid.mk hb01
 have HW0:=Hid.mk hW0
 have HW1:=Hid.mk hW1
 have HFZ:=Hid.mk hfz
 have HQ:Hid (∃q,(M s).isSome=q):=⟨_,rfl⟩
 obtain ⟨q,hq⟩:=HQ.out
 have HQE:=Hid.mk hq
 rw [hq] at hrun
 have hsd:W1.drew.heap.size=W1.heap.size:=rfl
 clear hW0 hW1 hb0 hb1 hb01 hX0 hX1 hT0 hT hT1 hc hq HQ hfz
 cases q with
 | true =>
  go_enter Tryz.func40,Tryz.ntmps40
  go_wp2_with (first | rw [HW0.out] | rw [HW1.out])
  go_ret
  exact Or.inl ⟨HQE.out,rfl,HB1.out⟩
 | false =>
  cases mv with
  | some b =>
   have hbs:b≠sb:=fun e=>hne (by rw [e])
   have hcmp:=map_nil (some b) W1
   obtain ⟨w2,hrun2,hT2,hg2⟩:=HT1.out.keep (w':=W1.drew) (fun _ _=>rfl) |>.upd hs hn a c
   have HT2:=Hid.mk hT2
   have HG2:=Hid.mk hg2
   have HSS:Hid (W1.drew.cell? ⟨sb,so,none⟩=some (.map (some b))∧W1.drew.cell? ⟨w.heap.size,0,none⟩=some (.int .i64 a)∧W1.drew.cell? ⟨w.heap.size,1,none⟩=some (.int .i64 c)):=⟨hc1,x0,x1⟩
   clear hT2 hg2
   go_enter Tryz.func40,Tryz.ntmps40
   go_wp2_with (first | rw [HW0.out] | rw [HW1.out])
   refine wp_region_last (S:=fun w'=>w'.cell? ⟨sb,so,none⟩=some (.map (some b))∧w'.cell? ⟨w.heap.size,0,none⟩=some (.int .i64 a)∧w'.cell? ⟨w.heap.size,1,none⟩=some (.int .i64 c)) 6 (by kernel_rfl) ?_ (fun hHeld=>?_)
   ·(try dsimp only)
    exact HSS.out
   refine tkL (i:=0) (v:=?_) rfl (hy:=(Or.inl ⟨by rfl,?_⟩)) (h:=?_)
   rotate_left
   ·(intro w hSw;(try dsimp only at hSw);go_simp;(try with_reducible rfl))
   refine tkL (i:=1) (v:=?_) rfl (hy:=(Or.inl ⟨by rfl,?_⟩)) (h:=?_)
   rotate_left
   ·(intro w hSw;(try dsimp only at hSw);go_simp;(try with_reducible rfl))
   refine tkL (i:=2) (v:=?_) rfl (hy:=(Or.inl ⟨by rfl,?_⟩)) (h:=?_)
   rotate_left
   ·(intro w hSw;(try dsimp only at hSw);go_simp;(try with_reducible rfl))
   refine tkL (i:=3) (v:=?_) rfl (hy:=(Or.inl ⟨by rfl,?_⟩)) (h:=?_)
   rotate_left
   ·(intro w hSw;(try dsimp only at hSw);go_simp;(try with_reducible rfl))
   refine tkL (i:=4) (v:=?_) rfl (hy:=(Or.inl ⟨by rfl,?_⟩)) (h:=?_)
   rotate_left
   ·(intro w hSw;(try dsimp only at hSw);go_simp;(try with_reducible rfl))
   refine tkL (i:=5) (v:=?_) rfl (hy:=(Or.inl ⟨by rfl,?_⟩)) (h:=?_)
   rotate_left
   ·(intro w hSw;(try dsimp only at hSw);go_simp;(try with_reducible rfl))
   refine wpAnyL_last (by kernel_rfl) rfl (by kernel_rfl) (fun K hK=>?_)
   go_simp
   refine hK.out _ _ ?_
   clear hK K
   go_wp2
   go_ret
   have e2:w2.heap[sb]?=w.heap[sb]?:=(HG2.out.block sb (by omega) (by intro e;cases e;exact hbs rfl)).trans (HB1.out.block sb hsb)
   refine Or.inr ⟨HQE.out,rfl,b,(World.cell?_of_block (a:=⟨sb,so,none⟩) (e2.trans (HB1.out.block sb hsb).symm)).trans hc1,HT2.out,hbs,Or.inl rfl,⟨HG2.out.os.trans HB1.out.os,HG2.out.tape.trans HB1.out.tape,HG2.out.output.trans HB1.out.output,Nat.le_trans hs1 HG2.out.size,fun j hj hn=>(HG2.out.block j (by omega) (fun e=>hn (Or.inr (by rw [←e])))).trans (HB1.out.block j hj)⟩,fun o _=>World.cell?_of_block (a:=⟨sb,o,none⟩) e2,fun o=>World.frozen?_of_block (a:=⟨sb,o,none⟩) e2⟩
  | none =>
   have hM:∀s,M s=none:=by
    rcases HT1.out.go with ⟨-,h⟩ | ⟨b,D,h,-⟩
    ·exact h
    ·cases h
   have hMe:M=fun _=>none:=funext hM
   have hcmp:=map_nil none W1
   have hmake:=map_make W1
   obtain ⟨W3,hW3⟩:∃W3,(W1.alloc (.map #[] 0)).setCell ⟨sb,so,none⟩ (.map (some W1.heap.size))=W3:=⟨_,rfl⟩
   have hc2:(W1.alloc (.map #[] 0)).cell? ⟨sb,so,none⟩=some (.map none):=(World.cell?_of_block (a:=⟨sb,so,none⟩) (Below.heap_alloc W1 (.map #[] 0) sb (by omega))).trans hc1
   have hz2:∀o,(W1.alloc (.map #[] 0)).frozen? ⟨sb,o,none⟩=false:=fun o=>(World.frozen?_of_block (a:=⟨sb,o,none⟩) (Below.heap_alloc W1 (.map #[] 0) sb (by omega))).trans (hz1 o)
   have hsz3:W3.heap.size=W1.heap.size+1:=by rw [←hW3];simp [World.setCell]
   have hb3:∀j,j≠sb→W3.heap[j]?=(W1.alloc (.map #[] 0)).heap[j]?:=fun j hj=>by rw [←hW3];exact Below.heap_setCell _ _ _ _ hj
   have hC3:W3.cell? ⟨sb,so,none⟩=some (.map (some W1.heap.size)):=by rw [←hW3];exact World.cell?_setCell_same _ _ _ hc2
   have hCO:∀o,o≠so→W3.cell? ⟨sb,o,none⟩=w.cell? ⟨sb,o,none⟩:=fun o ho=>by
    rw [←hW3,World.cell?_setCell_other _ _ _ _ (by intro e;simp only [Addr.mk.injEq,true_and,and_true] at e;exact ho e.symm)]
    exact (World.cell?_of_block (a:=⟨sb,o,none⟩) (Below.heap_alloc W1 (.map #[] 0) sb (by omega))).trans (HB1.out.cell (p:=⟨sb,o,none⟩) hsb)
   have hZ3:∀o,W3.frozen? ⟨sb,o,none⟩=false:=fun o=>by rw [←hW3,World.frozen?_setCell];exact hz2 o
   have hO3:W3.os=W1.os∧W3.tape=W1.tape∧W3.output=W1.output:=by rw [←hW3];exact ⟨rfl,rfl,rfl⟩
   have hT3:Tb W3 (some W1.heap.size) 0 M:=by rw [hMe];exact (Tb.made W1).keep fun b hb=>hb3 b (by cases hb;omega)
   obtain ⟨x30,x31,-,-⟩:=cells2f ((hb3 w.heap.size (by omega)).trans ((Below.heap_alloc W1 (.map #[] 0) _ (by omega)).trans HX1.out))
   have h0:(0:Nat)<maxLen:=by omega
   obtain ⟨w3,hrun2,hT2,hg2⟩:=hT3.keep (w':=W3.drew) (fun _ _=>rfl) |>.upd hs h0 a c
   have HT2:Hid (Tb w3 (some W1.heap.size) (n+1) (updM M s (a,c))):=hT2.mono (by omega)
   have HG2:=Hid.mk hg2
   have HSS:Hid (W3.drew.cell? ⟨sb,so,none⟩=some (.map (some W1.heap.size))∧W3.drew.cell? ⟨w.heap.size,0,none⟩=some (.int .i64 a)∧W3.drew.cell? ⟨w.heap.size,1,none⟩=some (.int .i64 c)):=⟨hC3,x30,x31⟩
   have HW3b:=Hid.mk hb3
   have HC3:=Hid.mk hC3
   have HCO:=Hid.mk hCO
   have HZ3:=Hid.mk hZ3
   have HO3:=Hid.mk hO3
   have HW3:=Hid.mk hW3
   have hs3a:=Nat.le_of_eq hsz3
   have hs3b:=Nat.le_of_eq hsz3.symm
   have hsd3:W3.drew.heap.size≤W3.heap.size:=Nat.le_refl _
   have hsd4:W3.heap.size≤W3.drew.heap.size:=Nat.le_refl _
   clear hT2 hg2 hT3 hb3 hC3 hCO hZ3 hO3 hW3 hsz3 hMe hsd x30 x31
   go_enter Tryz.func40,Tryz.ntmps40
   go_wp2_with (first | rw [HW0.out] | rw [HW1.out] | rw [HW3.out])
   refine wp_region_last (S:=fun w'=>w'.cell? ⟨sb,so,none⟩=some (.map (some W1.heap.size))∧w'.cell? ⟨w.heap.size,0,none⟩=some (.int .i64 a)∧w'.cell? ⟨w.heap.size,1,none⟩=some (.int .i64 c)) 6 (by kernel_rfl) ?_ (fun hHeld=>?_)
   ·(try dsimp only)
    exact HSS.out
   refine tkL (i:=0) (v:=?_) rfl (hy:=(Or.inl ⟨by rfl,?_⟩)) (h:=?_)
   rotate_left
   ·(intro w hSw;(try dsimp only at hSw);go_simp;(try with_reducible rfl))
   refine tkL (i:=1) (v:=?_) rfl (hy:=(Or.inl ⟨by rfl,?_⟩)) (h:=?_)
   rotate_left
   ·(intro w hSw;(try dsimp only at hSw);go_simp;(try with_reducible rfl))
   refine tkL (i:=2) (v:=?_) rfl (hy:=(Or.inl ⟨by rfl,?_⟩)) (h:=?_)
   rotate_left
   ·(intro w hSw;(try dsimp only at hSw);go_simp;(try with_reducible rfl))
   refine tkL (i:=3) (v:=?_) rfl (hy:=(Or.inl ⟨by rfl,?_⟩)) (h:=?_)
   rotate_left
   ·(intro w hSw;(try dsimp only at hSw);go_simp;(try with_reducible rfl))
   refine tkL (i:=4) (v:=?_) rfl (hy:=(Or.inl ⟨by rfl,?_⟩)) (h:=?_)
   rotate_left
   ·(intro w hSw;(try dsimp only at hSw);go_simp;(try with_reducible rfl))
   refine tkL (i:=5) (v:=?_) rfl (hy:=(Or.inl ⟨by rfl,?_⟩)) (h:=?_)
   rotate_left
   ·(intro w hSw;(try dsimp only at hSw);go_simp;(try with_reducible rfl))
   refine wpAnyL_last (by kernel_rfl) rfl (by kernel_rfl) (fun K hK=>?_)
   go_simp
   refine hK.out _ _ ?_
   clear hK K
   go_wp2
   go_ret
   have hg:w3.heap[sb]?=W3.heap[sb]?:=HG2.out.block sb (by omega) (by intro e;cases e;omega)
   have hz:∀j,j<w.heap.size→j≠sb→w3.heap[j]?=w.heap[j]?:=fun j hj hn=>(HG2.out.block j (by omega) (by intro e;cases e;omega)).trans ((HW3b.out j hn).trans ((Below.heap_alloc _ _ _ (by omega)).trans (HB1.out.block j hj)))
   refine Or.inr ⟨HQE.out,rfl,W1.heap.size,(World.cell?_of_block (a:=⟨sb,so,none⟩) hg).trans HC3.out,HT2.out,by omega,Or.inr ⟨rfl,hs1⟩,⟨HG2.out.os.trans (HO3.out.1.trans HB1.out.os),HG2.out.tape.trans (HO3.out.2.1.trans HB1.out.tape),HG2.out.output.trans (HO3.out.2.2.trans HB1.out.output),by have:=HG2.out.size;omega,fun j hj hn=>hz j hj (fun e=>hn (Or.inl e))⟩,fun o ho=>?_,fun o=>?_⟩
   ·exact (World.cell?_of_block (a:=⟨sb,o,none⟩) hg).trans (HCO.out o ho)
   ·exact (World.frozen?_of_block (a:=⟨sb,o,none⟩) hg).trans ((HZ3.out o).trans (HFZ.out o).symm)
theorem keyS_inv {key:Value}{kl:Lit}(h:keyOf Tryz.prog 9 key=some kl):∃s:ByteArray,key=.string s:=by
 unfold keyOf at h
 cases key<;>simp [Tryz.underlying9,mapKey] at h
 exact ⟨_,rfl⟩
theorem keyS_is {s:ByteArray}{kl:Lit}(h:keyOf Tryz.prog 9 (.string s)=some kl):s.size≤maxLen∧kl=keyS s:=by
 unfold keyOf at h
 simp [Tryz.underlying9,mapKey] at h
 exact ⟨h.1,h.2.symm⟩
theorem keyS_one {s s':ByteArray}(h:keyS s'=keyS s):s'=s:=by
 unfold keyS at h
 simp only [Lit.string.injEq] at h
 cases s;cases s'
 exact congrArg ByteArray.mk (Array.ext' h)
theorem ranges_has {w:World}{b r n cnt:Nat}{D:DataW Unit}{left:Lit→Bool}{kl:Lit}(h:w.ranges Tryz.prog 9 readM b r n D left cnt) (hk:WideAt.IsKeyLit kl) (hl:left kl=true):Maps.has D kl=true:=by
 obtain ⟨es,clock,since,seen,c0,-,-,-,rfl,-,-,-,-,hl2,-⟩:=h
 obtain ⟨x,hx,he⟩:=hl2 kl hl
 rw [Maps.has_eq,List.any_eq_true]
 exact ⟨_,mem_sorted.2 (List.mem_map.2 ⟨x,hx,rfl⟩),by rw [he];exact WideAt.sameKey_self hk⟩
def MeetOut (M N:ByteArray→Option (Int×Int)) (e:Ending):Prop:=∃q:Bool,e=.returned (.bool q)∧(q=true↔∃s:ByteArray,s.size≤maxLen∧(N s).isSome=true∧(M s).isSome=true)
theorem tmeets_any (sb so n nm mb:Nat) (mv:Option Nat) (M N:ByteArray→Option (Int×Int)) (w:World) (hc:w.cell? ⟨sb,so,none⟩=some (.map mv)) (hT:Tb w mv n M) (hN:Tb w (some mb) nm N):Calls Tryz.prog 39 #[.pointer (some ⟨sb,so,none⟩),.agg #[.map (some mb)]] w fun e w'=>MeetOut M N e∧RowKit.Below w.heap.size w w':=by
 have hsb:sb<w.heap.size:=World.block_lt_of_cell? w _ hc
 have hmb:=hN.lt
 obtain ⟨W0,hW0⟩:∃W0,w.alloc (.cells #[.map (some mb)] 56)=W0:=⟨_,rfl⟩
 have hb0:RowKit.Below w.heap.size w W0:=by rw [←hW0];exact (Below.refl _ _).alloc (Nat.le_refl _) _
 have hX0:W0.heap[w.heap.size]?=some (.cells #[.map (some mb)] 56 (0,0)):=by rw [←hW0];exact alloc_new _ _
 have x0:W0.cell? ⟨w.heap.size,0,none⟩=some (.map (some mb)):=by rw [cell_of_row W0 _ 0 _ _ _ hX0];rfl
 have hs0:W0.heap.size=w.heap.size+1:=by rw [←hW0];simp
 have hs0a:=Nat.le_of_eq hs0
 have hs0b:=Nat.le_of_eq hs0.symm
 have hN0:Tb W0 (some mb) nm N:=hN.keep fun b hb=>hb0.block b (by cases hb;exact hmb)
 obtain ⟨D,ho0,hD⟩:∃D,W0.ownsMap Tryz.prog 9 readM mb nm D∧∀s:ByteArray,s.size≤maxLen→Maps.has D (keyS s)=(N s).isSome∧∀x zd,N s=some x→D.atKey (keyS s) zd=.agg [.lit (.int .i64 x.1),.lit (.int .i64 x.2)]:=by
  rcases hN0.go with ⟨h,-⟩ | ⟨b,D,h1,h2,h3⟩
  ·cases h
  ·cases h1;exact ⟨D,h2,h3⟩
 have HD:=Hid.mk hD
 have HO0:=Hid.mk ho0
 have HC:=Hid.mk hc
 have HT:=Hid.mk hT
 have HB0:=Hid.mk hb0
 have HW0:=Hid.mk hW0
 clear hc hT hN hN0 hb0 hX0 hW0 hs0 hD ho0
 go_enter Tryz.func39,Tryz.ntmps39
 go_wp2_with (first | rw [HW0.out] | (at_range;refine wpList_range_own _ rfl _ 54 rfl 9 63 law_str Tryz.underlying54 _ mb nm D rfl HO0.out ?_;intro W1 hrg1 hg1 hs1;have HRG1:=Hid.mk hrg1;have HG1:=Hid.mk hg1;have hs1a:=Nat.le_of_eq hs1;have hs1b:=Nat.le_of_eq hs1.symm;clear hrg1 hg1 hs1))
 clear x0
 go_frame
 go_loopw [5] (fun _ wr=>∃(left:Lit→Bool) (cnt:Nat),wr.ranges Tryz.prog 9 readM mb W0.heap.size nm D left cnt∧RowKit.Below w.heap.size w wr∧W0.heap.size<wr.heap.size∧∀s:ByteArray,s.size≤maxLen→(N s).isSome=true→left (keyS s)=false→(M s).isSome=false) (fun _ wr=>wr.rangeLeft mb W0.heap.size)
 case atStart=>exact ⟨_,_,HRG1.out,HB0.out.trans ⟨HG1.out.os,HG1.out.tape,HG1.out.output,HG1.out.size,fun k hk=>HG1.out.block k (by omega) (by simp)⟩,by omega,fun s hs h1 h2=>by rw [(HD.out s hs).1,h1] at h2;cases h2⟩
 case round =>
  obtain ⟨left,cnt,hrg,hb,hsz,hsub⟩:=hrel
  have HB:=Hid.mk hb
  have HSUB:=Hid.mk hsub
  have hcr:wr.cell? ⟨sb,so,none⟩=some (.map mv):=(hb.cell (p:=⟨sb,so,none⟩) hsb).trans HC.out
  rcases hrg.next law_str 0 with ⟨h0,hl,hrun⟩ | ⟨key,v,kl,y,w2,cnt2,hkey,hlk,hv,-,hrun,hrg2,hlt2,hg2,hsz2,hen⟩
  ·have HL:=Hid.mk hl
   clear hrg hb hsub hl
   go_wp2
   go_ret
   refine ⟨⟨false,rfl,⟨fun h=>(by cases h),fun ⟨s,h1,h2,h3⟩=>?_⟩⟩,HB.out⟩
   rw [HSUB.out s h1 h2 (HL.out _)] at h3
   cases h3
  ·obtain ⟨s,rfl⟩:=keyS_inv hkey
   obtain ⟨hs,rfl⟩:=keyS_is hkey
   obtain ⟨p,k,rfl,-⟩:=readM_inv hv
   have HRG2:=Hid.mk hrg2
   have HRG:=Hid.mk hrg
   have hb2:RowKit.Below w.heap.size w w2:=hb.trans ⟨hg2.os,hg2.tape,hg2.output,hg2.size,fun j hj=>hg2.block j (by omega) (by intro e;cases e;omega)⟩
   have HB2:=Hid.mk hb2
   have hT2:Tb w2 mv n M:=HT.out.keep fun b hb=>hb2.block b (by subst hb;exact HT.out.lt)
   obtain ⟨p2,k2,hrun2,-⟩:=hT2.look hs
   have hcr2:w2.cell? ⟨sb,so,none⟩=some (.map mv):=(hb2.cell (p:=⟨sb,so,none⟩) hsb).trans HC.out
   have HNS:Hid ((N s).isSome=true):=by
    unfold Hid
    rw [←(HD.out s hs).1]
    exact ranges_has hrg (keyS_lit hs) hlk
   obtain ⟨W2,hW2⟩:∃W2,w2.alloc (.cells #[.int .i64 p2,.int .i64 k2] 63)=W2:=⟨_,rfl⟩
   have hb3:RowKit.Below w.heap.size w W2:=by rw [←hW2];exact hb2.alloc (hb2.size) _
   have hrg3:W2.ranges Tryz.prog 9 readM mb W0.heap.size nm D (fun z=>left z&&!z.sameKey (keyS s)) cnt2:=by rw [←hW2];exact hrg2.alloc _
   have hs3:w2.heap.size≤W2.heap.size:=by rw [←hW2];simp
   have HB3:=Hid.mk hb3
   have HRG3:=Hid.mk hrg3
   have HW2:=Hid.mk hW2
   have HQ:Hid (∃q,(M s).isSome=q):=⟨_,rfl⟩
   obtain ⟨q,hq⟩:=HQ.out
   have HQE:=Hid.mk hq
   rw [hq] at hrun2
   have hltm:cnt2<cnt:=hlt2
   clear hrg hb hsub hrg2 hg2 hb2 hT2 hb3 hrg3 hW2 hq HQ hkey hlk hv
   cases q with
   | true =>
    go_wp2_with (rw [HW2.out])
    go_ret
    exact ⟨⟨true,rfl,fun _=>⟨s,hs,HNS.out,HQE.out⟩,fun _=>rfl⟩,HB3.out⟩
   | false =>
    go_wp2_with (rw [HW2.out])
    refine ⟨⟨_,_,HRG3.out,HB3.out,by omega,fun s' hs' h1 h2=>?_⟩,by rw [HRG3.out.left_eq,HRG.out.left_eq];omega⟩
    cases hl:left (keyS s') with
    | false=>exact HSUB.out s' hs' h1 hl
    | true =>
     rw [hl,Bool.true_and,Bool.not_eq_false'] at h2
     obtain rfl:s'=s:=keyS_one (WideAt.sameKey_eq h2)
     exact HQE.out
end Go.Proofs.YtgfgpjcnfnopnaaGreat
