/- The contract of the reference's Get. -/
import Derived.Test.YtgfgpjcnfnopnaaGreatQYA
namespace Go.Proofs.YtgfgpjcnfnopnaaGreat
open Go.RowKit Go.Sort Go.Lib
theorem kind_name {d:Dl}{s:ByteArray}(h:d.name=s):kindIn d s=some d.kind:=by
 unfold kindIn namesD
 simp [h]
theorem OwnD.ctors {d:Dl}(h:OwnD d) (hk:d.kind≠3):d.ctors=[]:=by
 have hcl:=congrArg Dl.ctors h.clean
 unfold cleanD at hcl
 simp only [if_neg hk] at hcl
 exact hcl.symm
theorem kind_plain {d:Dl}{s:ByteArray}(ho:OwnD d) (h:d.name≠s) (hk:d.kind≠3):kindIn d s=none:=by
 unfold kindIn namesD
 rw [ho.ctors hk]
 simp [h,hk]
theorem kind_elim {d:Dl}{s:ByteArray}(h:d.name≠s) (hk:d.kind=3) (he:d.name++elimB=s):kindIn d s=some 5:=by
 unfold kindIn namesD
 simp [h,hk,he]
theorem find_ctor {s:ByteArray}:∀(cs:List (ByteArray×Tm)) (n j:Nat),(∀i c,cs[i]?=some c→i<j→c.1≠s)→(∀c,cs[j]?=some c→c.1=s)→j<cs.length→(((cs.zipIdx n).map fun c=>((c.1.1,4+2*(c.2:Int)):ByteArray×Int)).find? fun x=>decide (x.1=s))=some (s,4+2*((n+j:Nat):Int))
 | [],n,j,_,_,hl=>by simp at hl
 | c::cs,n,0,_,h2,_=>by
  have:=h2 c rfl
  simp [this]
 | c::cs,n,j+1,h1,h2,hl=>by
  have hne:=h1 0 c rfl (by omega)
  rw [List.zipIdx_cons,List.map_cons,List.find?_cons_of_neg (by simpa using hne),find_ctor cs (n+1) j (fun i x hi hj=>h1 (i+1) x (by simpa using hi) (by omega)) (fun x hx=>h2 x (by simpa using hx)) (by simpa using hl)]
  rw [show n+1+j=n+(j+1) by omega]
theorem kind_ctor {d:Dl}{s:ByteArray}{j:Nat}(h:d.name≠s) (hk:d.kind=3) (he:d.name++elimB≠s) (h1:∀i c,d.ctors[i]?=some c→i<j→c.1≠s) (h2:∀c,d.ctors[j]?=some c→c.1=s) (hj:j<d.ctors.length):kindIn d s=some (4+2*(j:Int)):=by
 unfold kindIn namesD
 rw [List.find?_cons_of_neg (by simpa using h),if_pos hk,List.cons_append,List.nil_append,List.find?_cons_of_neg (by simpa using he),find_ctor d.ctors 0 j h1 h2 hj]
 simp
theorem kind_none {d:Dl}{s:ByteArray}(h:d.name≠s) (hk:d.kind=3) (he:d.name++elimB≠s) (h1:∀c∈d.ctors,c.1≠s):kindIn d s=none:=by
 unfold kindIn namesD
 rw [List.find?_cons_of_neg (by simpa using h),if_pos hk,List.cons_append,List.nil_append,List.find?_cons_of_neg (by simpa using he),List.find?_eq_none.2]
 ·rfl
 ·intro x hx
  obtain ⟨c,hc,rfl⟩:=List.mem_map.1 hx
  simpa using h1 c.1 (List.fst_mem_of_mem_zipIdx hc)
theorem toList_loop2 (b:ByteArray):∀(k i:Nat) (r:List UInt8),b.size - i=k→ByteArray.toList.loop b i r=r.reverse++b.data.toList.drop i
 | 0,i,r,h=>by
  rw [ByteArray.toList.loop,if_neg (by omega),List.drop_eq_nil_of_le (by rw [Array.length_toList];show b.size≤i;omega),List.append_nil]
 | k+1,i,r,h=>by
  have hi:i<b.size:=by omega
  have hi':i<b.data.toList.length:=by rw [Array.length_toList];exact hi
  rw [ByteArray.toList.loop,if_pos hi,toList_loop2 b k (i+1) _ (by omega),List.reverse_cons,List.append_assoc,List.drop_eq_getElem_cons hi']
  have e:b.get! i=b.data.toList[i]:=by
   cases b with
   | mk d=>simp only [ByteArray.get!];rw [Array.getElem_toList];exact getElem!_pos d i hi
  rw [e]
  rfl
theorem toList_data2 (b:ByteArray):b.toList=b.data.toList:=by
 rw [ByteArray.toList,toList_loop2 b _ 0 [] rfl]
 rfl
theorem toList_ne {a b:ByteArray}(h:a≠b):(a.toList==b.toList)=false:=by
 rw [beq_eq_false_iff_ne]
 intro e
 rw [toList_data2,toList_data2] at e
 cases a;cases b
 exact h (congrArg ByteArray.mk (Array.ext' e))
set_option maxRecDepth 100000 in
set_option maxHeartbeats 8000000 in
theorem rGet_any (ds:List Dl) (rb:Nat) (la:Option Addr) (lc:Nat) (s:ByteArray) (w:World) (hc:w.cell? ⟨rb,0,none⟩=some (.slice la ds.length lc)) (hL:DL w la ds) (hown:∀d∈ds,OwnD d) (hlen:ds.length≤500):Calls Tryz.prog 14 #[.pointer (some ⟨rb,0,none⟩),.string s] w fun e w'=>∃zs:List Value,zs.length=17∧(∀v∈zs,v.oneCell'=true)∧e=.returned (.tuple #[.agg zs.toArray,.int .i64 (rget ds s).2])∧DV w' (.agg zs.toArray) (rget ds s).1∧RowKit.Below w.heap.size w w':=by
 have mx:=mixed
 have hrb:rb<w.heap.size:=World.block_lt_of_cell? w _ hc
 obtain ⟨zz,hzz⟩:∃zz:List Value,zz=[.int .i64 0,.string { data:=#[] },.int .i64 0,.int .i64 0,.int .i64 0,.bool false,.string { data:=#[] },.slice none 0 0,.slice none 0 0,.int .i64 0,.int .i64 0,.bool false,.string { data:=#[] },.slice none 0 0,.slice none 0 0,.int .i64 0,.slice none 0 0]:=⟨_,rfl⟩
 have hza:zz.toArray=#[.int .i64 0,.string { data:=#[] },.int .i64 0,.int .i64 0,.int .i64 0,.bool false,.string { data:=#[] },.slice none 0 0,.slice none 0 0,.int .i64 0,.int .i64 0,.bool false,.string { data:=#[] },.slice none 0 0,.slice none 0 0,.int .i64 0,.slice none 0 0]:=by rw [hzz]
 have hzl:zz.length=17:=by rw [hzz];rfl
 have hzt:zz.toArray.size=17:=by rw [hzz];rfl
 have HZE:Hid (∀W P,ED W P zz zeroD):=fun W P=>by rw [hzz];exact zeroD_ed W P
 obtain ⟨W0,hW0⟩:∃W0,w.alloc (.cells #[.int .i64 0,.string { data:=#[] },.int .i64 0,.int .i64 0,.int .i64 0,.bool false,.string { data:=#[] },.slice none 0 0,.slice none 0 0,.int .i64 0,.int .i64 0,.bool false,.string { data:=#[] },.slice none 0 0,.slice none 0 0,.int .i64 0,.slice none 0 0] 39)=W0:=⟨_,rfl⟩
 have hb0:RowKit.Below w.heap.size w W0:=by rw [←hW0];exact (Below.refl _ _).alloc (Nat.le_refl _) _
 have HR0:Hid (W0.heap[w.heap.size]?=some (.cells zz.toArray 39 (0,0))):=by unfold Hid;rw [←hW0,hza];exact alloc_new _ _
 obtain ⟨GR,hGR⟩:∃GR,rget ds s=GR:=⟨_,rfl⟩
 rw [hGR]
 have HGR:=Hid.mk hGR
 have HZA:=Hid.mk hza
 have HW0:=Hid.mk hW0
 have HB0:=Hid.mk hb0
 have HL:=Hid.mk hL
 have HOWN:=Hid.mk hown
 have HC:=Hid.mk hc
 clear hb0 hW0 hL hown hc hzz hza hGR
 go_enter Tryz.func14,Tryz.ntmps14
 go_wp2_with (rw [HW0.out])
 go_loopw [6] (fun i wr=>∃k:Nat,k≤ds.length∧i=.int .i64 k∧GR=rget (ds.drop k) s∧wr.heap[w.heap.size]?=some (.cells zz.toArray 39 (0,0))∧RowKit.Below w.heap.size w wr) (fun i _=>ds.length - (intOf i).toNat)
 case atStart=>exact ⟨0,Nat.zero_le _,rfl,HGR.out.symm,HR0.out,HB0.out⟩
 case round =>
  obtain ⟨k,hk,rfl,hget,hR,hb⟩:=hrel
  have HGET:=Hid.mk hget
  have HR:=Hid.mk hR
  have HBR:=Hid.mk hb
  have hsr:=hb.size
  have hsR:=heap_lt hR
  have hcr:wr.cell? ⟨rb,0,none⟩=some (.slice la ds.length lc):=(hb.cell (p:=⟨rb,0,none⟩) hrb).trans HC.out
  clear hget hR hb
  by_cases hlt:k<ds.length
  ·obtain ⟨lb,lo,rfl,hlb,hds⟩:=HL.out.resolve_left (by intro e;rw [e] at hlt;simp at hlt)
   obtain ⟨xs,hxl,hcr2,hco,hdv⟩:=(hds k _ (List.getElem?_eq_getElem hlt)).go
   have hOD:=HOWN.out _ (List.getElem_mem hlt)
   have HDR:Hid (ds.drop k=ds[k]::ds.drop (k+1)):=List.drop_eq_getElem_cons hlt
   generalize ds[k]=d at *
   obtain ⟨kd,nm,lv,ty,val,pr,cs⟩:=d
   obtain ⟨t0,t1,t2,t3,t4,t5,t6,t7,t8,t9,v0,v1,v2,v3,v4,v5,v6,v7,v8,v9,ca,cc,hz,htt,htv,hck⟩:=hdv.go
   have hca:xs.toArray=#[.int .i64 kd,.string nm,.int .i64 lv,.int .i64 t0,.int .i64 t1,.bool t2,.string t3,.slice t4 t5 t6,.slice t7 t8 t9,.int .i64 v0,.int .i64 v1,.bool v2,.string v3,.slice v4 v5 v6,.slice v7 v8 v9,.int .i64 pr,.slice ca cs.length cc]:=by simpa using hz
   have hcs:xs=[.int .i64 kd,.string nm,.int .i64 lv,.int .i64 t0,.int .i64 t1,.bool t2,.string t3,.slice t4 t5 t6,.slice t7 t8 t9,.int .i64 v0,.int .i64 v1,.bool v2,.string v3,.slice v4 v5 v6,.slice v7 v8 v9,.int .i64 pr,.slice ca cs.length cc]:=by have:=congrArg Array.toList hca;simpa using this
   have hx0:xs[0]?=some (.int .i64 kd):=by rw [hcs];rfl
   have hx1:xs[1]?=some (.string nm):=by rw [hcs];rfl
   have hx16:xs[16]?=some (.slice ca cs.length cc):=by rw [hcs];rfl
   have hck':CK wr ca cs:=(show CK w ca cs from hck).on HBR.out
   have hn60:nm.size≤60:=hOD.right.name.2
   have hn5:¬9223372036854775807<nm.size+5:=by omega
   have hcl500:cs.length<1000:=by
    by_cases e3:kd=3
    ·have:=hOD.right.len e3;simp only at this;omega
    ·have:=hOD.ctors e3
     simp only at this
     rw [this];decide
   clear hz htt htv hca hcs
   have HM:Hid (wr.rangeAt lb (lo+k*17) xs):=fun j v hj=>(HBR.out.cell (p:=⟨lb,lo+k*17+j,none⟩) hlb).trans (hcr2 j v hj)
   have hxt:xs.toArray.size=17:=by simp [hxl]
   have HXT:Hid ((#[.int .i64 0,.string { data:=#[] },.int .i64 0,.int .i64 0,.int .i64 0,.bool false,.string { data:=#[] },.slice none 0 0,.slice none 0 0,.int .i64 0,.int .i64 0,.bool false,.string { data:=#[] },.slice none 0 0,.slice none 0 0,.int .i64 0,.slice none 0 0]:Array Value).size=xs.toArray.size):=by unfold Hid;rw [hxt];rfl
   have HS1:Hid ((Tryz.prog.info? 39).map (·.size)=some xs.length):=by unfold Hid;rw [hxl];kernel_rfl
   have HSA:Hid ((Tryz.prog.info? 39).map (·.size)=some xs.toArray.size):=by unfold Hid;rw [hxt];kernel_rfl
   have HONE:Hid (xs.toArray.all (·.oneCell')=true):=all_oneCell_toArray hco
   have hxo:=Hid.mk hco
   obtain ⟨W2,hW2⟩:∃W2,wr.alloc (.cells xs.toArray 39)=W2:=⟨_,rfl⟩
   have hb2:RowKit.Below wr.heap.size wr W2:=by rw [←hW2];exact (Below.refl _ _).alloc (Nat.le_refl _) _
   have hX2:W2.heap[wr.heap.size]?=some (.cells xs.toArray 39 (0,0)):=by rw [←hW2];exact alloc_new _ _
   have HW2:=Hid.mk hW2
   have HB2:Hid (RowKit.Below w.heap.size w W2):=HBR.out.trans (hb2.mono hsr)
   have HCK:Hid (CK W2 ca cs):=hck'.on hb2
   have HDV:Hid (DV w (.agg xs.toArray) (⟨kd,nm,lv,ty,val,pr,cs⟩:Dl)):=hdv
   have HOD:=Hid.mk hOD
   have zk:(k:Int)<(ds.length:Int):=by omega
   have hslt:=heap_lt hX2
   have q0:W2.cell? ⟨wr.heap.size,0,none⟩=some (.int .i64 kd):=by rw [cell_of_row _ _ 0 _ _ _ hX2];simpa using hx0
   have q1:W2.cell? ⟨wr.heap.size,1,none⟩=some (.string nm):=by rw [cell_of_row _ _ 1 _ _ _ hX2];simpa using hx1
   have q16:W2.cell? ⟨wr.heap.size,16,none⟩=some (.slice ca cs.length cc):=by rw [cell_of_row _ _ 16 _ _ _ hX2];simpa using hx16
   have hRW:W2.heap[w.heap.size]?=some (.cells zz.toArray 39 (0,0)):=(hb2.block _ hsR).trans HR.out
   have HRW:=Hid.mk hRW
   have HTH:Hid (W2.there w.heap.size 0 xs.toArray.size):=by unfold Hid;rw [hxt];exact there_of hRW hzt 0 17 (Nat.le_refl 17)
   have hR3:(W2.setCells w.heap.size 0 xs.toArray.toList).heap[w.heap.size]?=some (.cells xs.toArray 39 (0,0)):=sets_whole (c':=xs.toArray) hRW (by rw [hxt];exact hzt)
   have HB3:Hid (RowKit.Below w.heap.size w (W2.setCells w.heap.size 0 xs.toArray.toList)):=below_sets HB2.out (Nat.le_refl _) _
   have HLD:=Hid.mk (run_loadVar_mid (P:=Tryz.prog) (W2.setCells w.heap.size 0 xs.toArray.toList) w.heap.size 0 39 xs _ (range_of (pre:=[]) (post:=[]) hR3 (by simp) rfl) Tryz.underlying39 rfl HS1.out)
   have HDV3:Hid (DV (W2.setCells w.heap.size 0 xs.toArray.toList) (.agg xs.toArray) (⟨kd,nm,lv,ty,val,pr,cs⟩:Dl)):=HDV.out.on HB3.out
   have HMX:Hid (W2.rangeAt wr.heap.size 0 xs):=range_of (pre:=[]) (post:=[]) hX2 (by simp) rfl
   have HX2:=Hid.mk hX2
   have HX00:=Hid.mk hx0
   clear hR3 hds hcr2 hco hdv hck hck' hW2 hb2 hX2 hOD hRW hx0 hx1 hx16
   by_cases hnm:nm=s
   ·have HKI:Hid (GR=((⟨kd,nm,lv,ty,val,pr,cs⟩:Dl),kd)):=by unfold Hid;rw [HGET.out,HDR.out];unfold rget;rw [kind_name (d:=(⟨kd,nm,lv,ty,val,pr,cs⟩:Dl)) hnm]
    subst hnm
    have hRd:W2.drew.heap[w.heap.size]?=some (.cells zz.toArray 39 (0,0)):=HRW.out
    have hR3d:(W2.drew.setCells w.heap.size 0 xs.toArray.toList).heap[w.heap.size]?=some (.cells xs.toArray 39 (0,0)):=sets_whole (c':=xs.toArray) hRd (by rw [hxt];exact hzt)
    have hX2d:W2.drew.heap[wr.heap.size]?=some (.cells xs.toArray 39 (0,0)):=HX2.out
    have HB3d:Hid (RowKit.Below w.heap.size w (W2.drew.setCells w.heap.size 0 xs.toArray.toList)):=below_sets HB2.out.drew (Nat.le_refl _) _
    have HLDd:=Hid.mk (run_loadVar_mid (P:=Tryz.prog) (W2.drew.setCells w.heap.size 0 xs.toArray.toList) w.heap.size 0 39 xs _ (range_of (pre:=[]) (post:=[]) hR3d (by simp) rfl) Tryz.underlying39 rfl HS1.out)
    have HDV3d:Hid (DV (W2.drew.setCells w.heap.size 0 xs.toArray.toList) (.agg xs.toArray) (⟨kd,nm,lv,ty,val,pr,cs⟩:Dl)):=HDV.out.on HB3d.out
    have HS3d:Hid ((W2.drew.setCells w.heap.size 0 xs.toArray.toList).rangeAt wr.heap.size 0 xs∧(W2.drew.setCells w.heap.size 0 xs.toArray.toList).cell? ⟨wr.heap.size,0,none⟩=some (.int .i64 kd)):=by
     have h:=((sets_heap w.heap.size xs.toArray.toList 0 W2.drew).2 wr.heap.size (by omega)).trans hX2d
     exact ⟨range_of (pre:=[]) (post:=[]) h (by simp) rfl,by rw [cell_of_row _ _ 0 _ _ _ h];simpa using HX00.out⟩
    clear hRd hR3d hX2d
    go_wp2_with (first | (refine wpList_load_mid rfl 39 _ rfl lb (lo+k*17) rfl xs _ HM.out Tryz.underlying39 rfl HS1.out ?_) | (refine wpList_store_new rfl 39 _ _ rfl rfl rfl HSA.out HXT.out HONE.out ?_;rw [HW2.out]))
    refine wp_region_late (S:=fun w'=>w'.rangeAt wr.heap.size 0 xs∧w'.cell? ⟨wr.heap.size,0,none⟩=some (.int .i64 kd)) (fun i=>i==4) mx ?_ (fun hHeld=>?_)
    ·(try dsimp only)
     exact ⟨HMX.out,q0⟩
    refine tkE (i:=0) (v:=.agg xs.toArray) (d:=some 29) rfl (hy:=(yieldsIf_load_mid (by kernel_rfl) 39 (.tmp 7) rfl wr.heap.size 0 (by kernel_rfl) xs _ (fun w hSw=>hSw.1) Tryz.underlying39 rfl HS1.out)) (h:=?_)
    refine tkE (i:=1) (v:=.pointer (some ⟨wr.heap.size,0,none⟩)) (d:=some 30) rfl (hy:=(Or.inl ⟨by kernel_rfl,fun w hSw=>by go_simp⟩)) (h:=?_)
    refine tkE (i:=2) (v:=.int .i64 kd) (d:=some 31) rfl (hy:=(Or.inl ⟨by kernel_rfl,fun w hSw=>by go_simp⟩)) (h:=?_)
    refine nx1 (i:=3) (h:=?_)
    refine ⟨_,rfl,fun K hK=>?_⟩
    refine ite_go (by kernel_rfl) ?_
    refine wp_store_mid 39 (.tmp 4) (.tmp 29) rfl w.heap.size 0 xs.toArray (by kernel_rfl) (by kernel_rfl) HTH.out HSA.out HONE.out (hK.out _ _ (fun _=>HS3d.out) (fun _=>?_))
    clear hK K
    refine nx1 (i:=4) (h:=?_)
    refine ⟨_,rfl,fun K hK=>?_⟩
    go_simp
    refine hK.out _ _ (fun h=>by cases h) (fun _=>?_)
    clear hK K
    refine wpAnyM_done (by kernel_rfl) ?_ _
    go_wp2
    refine bodyPost_ret (v:=.tuple #[.agg xs.toArray,.int .i64 kd]) (results_two Tryz.results14 (by kernel_rfl) HLDd.out (by kernel_rfl)) rfl ?_
    rw [HKI.out]
    exact ⟨xs,hxl,hxo.out,rfl,HDV3d.out,HB3d.out⟩
   have HNM:=Hid.mk hnm
   have hnb:=toList_ne hnm
   clear hnm
   by_cases hk3:kd=3
   rotate_left
   ·have hk3':(kd==3)=false:=by simpa using hk3
    have hk4:(kd != 3)=true:=by simpa using hk3
    have HKI:Hid (GR=rget (ds.drop (k+1)) s):=by unfold Hid;rw [HGET.out,HDR.out];conv=>lhs;unfold rget;rw [kind_plain (d:=(⟨kd,nm,lv,ty,val,pr,cs⟩:Dl)) HOD.out HNM.out hk3]
    have HK3:=Hid.mk hk3
    clear hk3
    go_wp2_with (first | (refine wpList_load_mid rfl 39 _ rfl lb (lo+k*17) rfl xs _ HM.out Tryz.underlying39 rfl HS1.out ?_) | (refine wpList_store_new rfl 39 _ _ rfl rfl rfl HSA.out HXT.out HONE.out ?_;rw [HW2.out]))
    exact ⟨⟨k+1,hlt,by go_num,HKI.out,HRW.out,HB2.out⟩,by simp [intOf];omega⟩
   have HK3:=Hid.mk hk3
   subst hk3
   by_cases hel:nm++elimB=s
   ·have HKI:Hid (GR=((⟨3,nm,lv,ty,val,pr,cs⟩:Dl),5)):=by unfold Hid;rw [HGET.out,HDR.out];unfold rget;rw [kind_elim (d:=(⟨3,nm,lv,ty,val,pr,cs⟩:Dl)) HNM.out rfl hel]
    have hel2:((nm++(⟨#[46,101,108,105,109]⟩:ByteArray)).toList==s.toList)=true:=by rw [←hel];exact beq_self_eq_true _
    have HEL:=Hid.mk hel
    clear hel
    go_wp2_with (first | (refine wpList_load_mid rfl 39 _ rfl lb (lo+k*17) rfl xs _ HM.out Tryz.underlying39 rfl HS1.out ?_) | (refine wpList_load_mid rfl 39 _ rfl wr.heap.size 0 rfl xs _ HMX.out Tryz.underlying39 rfl HS1.out ?_) | (refine wpList_store_new rfl 39 _ _ rfl rfl rfl HSA.out HXT.out HONE.out ?_;rw [HW2.out]) | (refine wpList_store_mid rfl 39 _ _ rfl w.heap.size 0 xs.toArray rfl rfl HTH.out HSA.out HONE.out ?_))
    refine bodyPost_ret (v:=.tuple #[.agg xs.toArray,.int .i64 5]) (results_two Tryz.results14 (by kernel_rfl) HLD.out (by kernel_rfl)) rfl ?_
    rw [HKI.out]
    exact ⟨xs,hxl,hxo.out,rfl,HDV3.out,HB3.out⟩
   have HEL:=Hid.mk hel
   have hel2:((nm++(⟨#[46,101,108,105,109]⟩:ByteArray)).toList==s.toList)=false:=toList_ne hel
   clear hel
   obtain ⟨WR,rfl⟩:∃W,W=wr:=⟨_,rfl⟩
   go_wp2_with (first | (refine wpList_load_mid rfl 39 _ rfl lb (lo+k*17) rfl xs _ HM.out Tryz.underlying39 rfl HS1.out ?_) | (refine wpList_store_new rfl 39 _ _ rfl rfl rfl HSA.out HXT.out HONE.out ?_;rw [HW2.out]))
   go_loopw [8] (fun i wr'=>∃j:Nat,j≤cs.length∧i=.int .i64 j∧(∀n c,cs[n]?=some c→n<j→c.1≠s)∧wr'=W2) (fun i _=>cs.length - (intOf i).toNat)
   case atStart=>exact ⟨0,Nat.zero_le _,rfl,fun _ _ _ h=>absurd h (Nat.not_lt_zero _),rfl⟩
   case round =>
    obtain ⟨j,hj,rfl,hbef,hwr⟩:=hrel
    subst hwr
    have HBEF:=Hid.mk hbef
    clear hbef
    by_cases hjl:j<cs.length
    ·obtain ⟨cb,co,rfl,hcb,hcc⟩:=HCK.out.resolve_left (by intro e;rw [e] at hjl;simp at hjl)
     have hcj:=(hcc j _ (List.getElem?_eq_getElem hjl)).1
     have zj:(j:Int)<(cs.length:Int):=by omega
     clear hcc
     by_cases hcn:cs[j].1=s
     ·have hcb2:(cs[j].1.toList==s.toList)=true:=by rw [hcn];exact beq_self_eq_true _
      have HKI:Hid (GR=((⟨3,nm,lv,ty,val,pr,cs⟩:Dl),4+2*(j:Int))):=by unfold Hid;rw [HGET.out,HDR.out];unfold rget;rw [kind_ctor (d:=(⟨3,nm,lv,ty,val,pr,cs⟩:Dl)) (j:=j) HNM.out rfl HEL.out HBEF.out (fun c hc=>by rw [List.getElem?_eq_getElem hjl] at hc;rw [←Option.some.inj hc];exact hcn) hjl]
      have hw1:IntKind.i64.wrap (2*(j:Int))=2*(j:Int):=Go.IntWalk.i64_in _ (by omega)
      have hw2:IntKind.i64.wrap (4+2*(j:Int))=4+2*(j:Int):=Go.IntWalk.i64_in _ (by omega)
      clear hcn
      generalize cs[j].1=cn at *
      go_wp2_with (first | (refine wpList_load_mid rfl 39 _ rfl lb (lo+k*17) rfl xs _ HM.out Tryz.underlying39 rfl HS1.out ?_) | (refine wpList_load_mid rfl 39 _ rfl WR.heap.size 0 rfl xs _ HMX.out Tryz.underlying39 rfl HS1.out ?_) | (refine wpList_store_new rfl 39 _ _ rfl rfl rfl HSA.out HXT.out HONE.out ?_;rw [HW2.out]) | (refine wpList_store_mid rfl 39 _ _ rfl w.heap.size 0 xs.toArray rfl rfl HTH.out HSA.out HONE.out ?_))
      refine bodyPost_ret (v:=.tuple #[.agg xs.toArray,.int .i64 (4+2*(j:Int))]) (results_two Tryz.results14 (by kernel_rfl) HLD.out (by kernel_rfl)) rfl ?_
      rw [HKI.out]
      exact ⟨xs,hxl,hxo.out,rfl,HDV3.out,HB3.out⟩
     ·have hcb2:=toList_ne hcn
      have HNX:Hid (∀n c,cs[n]?=some c→n<j+1→c.1≠s):=fun n c hn hlt'=>by
       by_cases e:n<j
       ·exact HBEF.out n c hn e
       ·have:n=j:=by omega
        subst this
        rw [List.getElem?_eq_getElem hjl] at hn
        rw [←Option.some.inj hn];exact hcn
      clear hcn
      generalize cs[j].1=cn at *
      go_wp2_with fail
      exact ⟨⟨j+1,hjl,by go_num,HNX.out,by trivial⟩,by simp [intOf];omega⟩
    ·have zj:¬(j:Int)<(cs.length:Int):=by omega
     have HKI:Hid (GR=rget (ds.drop (k+1)) s):=by
      unfold Hid;rw [HGET.out,HDR.out]
      conv=>lhs;unfold rget;rw [kind_none (d:=(⟨3,nm,lv,ty,val,pr,cs⟩:Dl)) HNM.out rfl HEL.out (fun c hc=>by
       have hc':c∈cs:=hc
       obtain ⟨n,hn⟩:=List.getElem?_of_mem hc'
       exact HBEF.out n c hn (by have:=(List.getElem?_eq_some_iff.1 hn).1;omega))]
     go_wp2_with fail
     exact ⟨⟨k+1,hlt,by go_num,HKI.out,HRW.out,HB2.out⟩,by simp [intOf];omega⟩
  ·have HKE:Hid (GR=(zeroD,0)):=by
    unfold Hid
    rw [HGET.out,List.drop_of_length_le (by omega)]
    rfl
   have HTH:Hid (wr.there w.heap.size 0 zz.toArray.size):=there_of HR.out rfl 0 _ (by omega)
   have HSY:Hid ((Tryz.prog.info? 39).map (·.size)=some zz.toArray.size):=by unfold Hid;rw [hzt];kernel_rfl
   have HSZ:Hid ((Tryz.prog.info? 39).map (·.size)=some zz.length):=by unfold Hid;rw [hzl];kernel_rfl
   have HON:Hid (zz.toArray.all (·.oneCell')=true):=all_oneCell_toArray (HZE.out wr (fun _=>false)).cell
   have hR3:(wr.setCells w.heap.size 0 zz.toArray.toList).heap[w.heap.size]?=some (.cells zz.toArray 39 (0,0)):=sets_whole (c:=zz.toArray) (c':=zz.toArray) HR.out rfl
   have HB3:Hid (RowKit.Below w.heap.size w (wr.setCells w.heap.size 0 zz.toArray.toList)):=below_sets HBR.out (Nat.le_refl _) _
   have HLZ:=Hid.mk (run_loadVar_mid (P:=Tryz.prog) (wr.setCells w.heap.size 0 zz.toArray.toList) w.heap.size 0 39 zz _ (range_of (pre:=[]) (post:=[]) hR3 (by simp) rfl) Tryz.underlying39 rfl HSZ.out)
   have zk:¬(k:Int)<(ds.length:Int):=by omega
   clear hR3
   go_wp2_with (first | (rw [←HZA.out];refine wpList_store_mid rfl 39 _ _ rfl w.heap.size 0 zz.toArray rfl rfl HTH.out HSY.out HON.out ?_))
   refine bodyPost_ret (v:=.tuple #[.agg zz.toArray,.int .i64 0]) (results_two Tryz.results14 (by kernel_rfl) HLZ.out (by kernel_rfl)) rfl ?_
   rw [HKE.out]
   exact ⟨zz,hzl,(HZE.out wr (fun _=>false)).cell,rfl,(HZE.out _ (fun _=>false)).val,HB3.out⟩
end Go.Proofs.YtgfgpjcnfnopnaaGreat
