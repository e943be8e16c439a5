/- An executor for closed calls, 36: the tables' join and meets do what is told of them. -/
import Derived.Test.YtidggaoacldgkaaGreatDoorXRA
namespace Go.Proofs.YtidggaoacldgkaaGreatDoor.X
open Go.RowKit
section
variable {P:Program} {w0:World} {r:Rho} {h:T AO} {nx:Pt} {w w':World}
theorem row_ext {b:Nat} {e:TypeId} {vs:Array Value} {l:List Value} (hb:w.heap[b]?=some (.cells vs e (0,0))) (hc:∀ o,w.cell? ⟨b,o,none⟩=l[o]?):vs=l.toArray:=by
 apply Array.ext_getElem?
 intro i
 have:=hc i
 rw [cell_of_row _ _ _ _ _ _ hb] at this
 rw [this,List.getElem?_toArray]
theorem look_key {s:List Nat} {v:AV}:∀ {es:List (AV × AV × Nat)},look s es=some v→∃ e ∈ es,e.1=.str s
 | [],hx=>by simp [look] at hx
 | e :: l,hx=>by
  simp only [look] at hx
  split at hx
  ·rename_i s' hs'
   cases hb:eqN s s' with
   | true=>exact ⟨e,List.mem_cons_self ..,by rw [hs',eqN_eqL hb]⟩
   | false =>
    rw [hb] at hx
    obtain ⟨e',he',q⟩:=look_key (es:=l) hx
    exact ⟨e',List.mem_cons_of_mem _ he',q⟩
  ·cases hx
theorem MofE_key {es:List (AV × AV × Nat)} {s:ByteArray} (hs:(MofE es s).isSome=true):∃ e ∈ es,e.1=.str (natsOf s):=by
 obtain ⟨x,hx⟩:=Option.isSome_iff_exists.1 hs
 exact look_key (MofE_iff.1 (show MofE es s=some (x.1,x.2) from hx))
theorem MofE_big {es:List (AV × AV × Nat)} (hok:okEs es=true) {s:ByteArray} (hs:¬ s.size≤maxLen):MofE es s=none:=by
 cases hm:MofE es s with
 | none=>rfl
 | some x =>
  exfalso
  obtain ⟨e,he,q⟩:=MofE_key (es:=es) (s:=s) (by rw [hm]; rfl)
  obtain ⟨s',p,k,g1,-,g3⟩:=okE_spec (okEs_mem hok e he)
  rw [q] at g1
  cases g1
  have:(natsOf s).length=s.size:=by unfold natsOf; rw [List.length_map]; rfl
  have hmax:(1000:Nat)≤maxLen:=by decide
  omega
theorem MofE_none {es:List (AV × AV × Nat)} {s:ByteArray} (hl:look (natsOf s) es=none):MofE es s=none:=by
 unfold MofE
 rw [hl]
theorem strs {es:List (AV × AV × Nat)} (hok:okEs es=true):∀ e ∈ es,∃ s,e.1=.str s:=fun e he=>by
 obtain ⟨s,p,k,g,-⟩:=okE_spec (okEs_mem hok e he); exact ⟨s,g⟩
theorem join_M {es1 es2:List (AV × AV × Nat)} (h1:okEs es1=true) (hd:disB es1 es2=true) (s:ByteArray):joinM (MofE es1) (MofE es2) s=MofE (es1 ++ es2) s:=by
 unfold joinM
 by_cases hN:(MofE es2 s).isSome=true
 ·rw [if_pos hN]
  obtain ⟨e,he,q⟩:=MofE_key hN
  have hn:=disB_spec hd e he _ q
  unfold MofE
  rw [look_app (strs h1),hn]
 ·rw [if_neg hN]
  have hN':MofE es2 s=none:=by cases hm:MofE es2 s with | none=>rfl | some x=>rw [hm] at hN; exact absurd rfl hN
  unfold MofE at hN' ⊢
  rw [look_app (strs h1)]
  cases look (natsOf s) es1 with
  | some v=>rfl
  | none=>exact hN'.symm
theorem fst_nodup {es1 es2:List (AV × AV × Nat)} (h1:(es1.map Prod.fst).Nodup) (h2:(es2.map Prod.fst).Nodup) (hs1:∀ e ∈ es1,∃ s,e.1=.str s) (hs:∀ e ∈ es2,∃ s,e.1=.str s) (hd:disB es1 es2=true):((es1 ++ es2).map Prod.fst).Nodup:=by
 rw [List.map_append,List.nodup_append]
 refine ⟨h1,h2,fun x hx y hy e=>?_⟩
 obtain ⟨e2,he2,rfl⟩:=List.mem_map.1 hy
 obtain ⟨e1,he1,rfl⟩:=List.mem_map.1 hx
 obtain ⟨s,hs⟩:=hs e2 he2
 have:=disB_spec hd e2 he2 s hs
 have h3:=(look_mem hs1 h1 (s:=s) (v:=e1.2.1)).2 (List.mem_map.2 ⟨e1,he1,by simp [KV,e,hs]⟩)
 rw [this] at h3; cases h3
end
set_option maxRecDepth 100000 in
theorem join_sem:FunSem Tryz.prog 31 joinAF:=by
 intro w0 ch hcur hch args h nx K r w R hk hE H ha hR _
 obtain ⟨a0,a1,tm,rfl,hq⟩:=two_args (c:=fun a0 a1 tm=>_) hk
 clear hk
 have hk:=hq
 clear hq
 split at hk
 ·rename_i kt ot m2
  obtain ⟨bt,hbt,hk⟩:=(T.getK_iff _ _ _).1 hk
  split at hk
  ·rename_i cs e
   obtain ⟨b2,hb2,hk⟩:=(T.getK_iff _ _ _).1 hk
   split at hk
   ·rename_i es2 c2
    refine ⟨⟨_,_,Tryz.func31,by kernel_rfl,rfl⟩,?_⟩
    obtain ⟨at1,at2,at3,at4⟩:=H.has kt _ hbt
    obtain ⟨am1,am2,am3,am4⟩:=H.has m2 _ hb2
    have hargs:(concL r [AV.ptr kt ot,AV.agg [AV.map m2]]).toArray=#[.pointer (some ⟨r.blk kt,ot,none⟩),.agg #[.map (some (r.blk m2))]]:=by simp [concL,conc]
    rw [hargs]
    split at hk
    ·rename_i m1 hcs
     obtain ⟨b1,hb1,hk⟩:=(T.getK_iff _ _ _).1 hk
     split at hk
     ·rename_i es1 c1
      obtain ⟨hchk,hk⟩:=brec hk
      simp only [Bool.and_eq_true,Bool.not_eq_true'] at hchk
      obtain ⟨⟨⟨⟨⟨⟨⟨k1,k2⟩,k3⟩,k4⟩,k5⟩,k6⟩,k7⟩,k8⟩:=hchk
      have k7:=Nat.le_of_ble_eq_true k7
      have k8:=Nat.le_of_ble_eq_true k8
      rw [forceL_iff,T.setK_iff] at hk
      obtain ⟨an1,an2,an3,an4⟩:=H.has m1 _ hb1
      have n1:m1≠kt:=fun e=>by rw [e,eqP_refl] at k4; cases k4
      have n2:m2≠m1:=fun e=>by rw [e,eqP_refl] at k5; cases k5
      have n3:m2≠kt:=fun e=>by rw [e,eqP_refl] at k6; cases k6
      obtain ⟨hc,hfz⟩:=cell_of_BR at4 hcs
      have hc:w.cell? ⟨r.blk kt,ot,none⟩=some (.map (some (r.blk m1))):=by rw [hc]; simp only [conc]
      have hmax:(2000:Nat)<maxLen:=by decide
      have hT:=tb_of_BR (n:=1000) an4 (okS_of an3) k1 k7 (by omega)
      have hN:=tb_of_BR (n:=1000) am4 (okS_of am3) k2 k8 (by omega)
      obtain ⟨es1',-,hb1',M1,-⟩:=an4
      obtain ⟨es2',-,hb2',M2,-⟩:=am4
      refine (tjoin_any (r.blk kt) ot 1000 1000 (r.blk m2) (some (r.blk m1)) (MofE es1) (MofE es2) w hc hfz hT hN (fun e=>n1 (H.apart m1 kt _ _ hb1 hbt (Option.some.inj e))) (fun e=>n2 (H.apart m1 m2 _ _ hb1 hb2 (Option.some.inj e)).symm) (fun e=>n3 (H.apart m2 kt _ _ hb2 hbt e)) (by omega) (fun s hs=>MofE_big k2 hs) (fun s hs=>MofE_big k1 hs) (fun s hs=>by
       obtain ⟨e,he,q⟩:=MofE_key hs
       exact MofE_none (disB_spec k3 e he _ q))).mono ?_
      rintro ed w' ⟨rfl,mv',hc',hT',-,hmv',hK,hoc,hfz',hrw⟩
      have hmv:mv'=some (r.blk m1):=by
       rcases hmv' with e | ⟨e,-⟩
       ·exact e
       ·cases e
      subst hmv
      have hTn:=Tb.congr hT' (N:=MofE (es1 ++ es2)) (fun s _=>join_M k1 k3 s) (fun s hs=>MofE_big (okEs_app k1 k2) hs)
      have hSt:okS (es1 ++ es2):=fun e he=>by
       rcases List.mem_append.1 he with he | he
       ·exact okS_of an3 e he
       ·exact okS_of am3 e he
      have hoo:okO r.has (.map (es1 ++ es2) 0):=fun e he=>by
       rcases List.mem_append.1 he with he | he
       ·exact an3 e he
       ·exact am3 e he
      have hbr:=BR_of_tb (P:=Tryz.prog) (r:=r) (k:=m1) (c:=0) hTn hSt (okEs_app k1 k2) (fst_nodup M1.nodup M2.nodup M1.str M2.str k3)
      have hBel:Below w0.heap.size w0 w':=H.below.trans (hK.below H.below.size (by
       rintro k (rfl | e)
       ·exact at2
       ·cases e; exact an2))
      have hblk:∀ k o,h.find k=some o→k≠kt→k≠m1→w'.heap[r.blk k]?=w.heap[r.blk k]?:=fun k o hko q1 q2=>hK.block _ (H.lt hko) (by
       rintro (e | e)
       ·exact q1 (H.apart k kt _ _ hko hbt e)
       ·exact q2 (H.apart k m1 _ _ hko hb1 (Option.some.inj e).symm))
      have hkt:w'.heap[r.blk kt]?=w.heap[r.blk kt]?:=by
       obtain ⟨rest,hcl,-⟩:=at4
       obtain ⟨vs',hvs⟩:=hrw _ _ hcl
       rw [hvs,hcl]
       have:vs'=(concL r cs ++ rest).toArray:=row_ext hvs fun o=>by
        by_cases ho:o=ot
        ·subst ho
         rw [hc',← hc,cell_of_row _ _ _ _ _ _ hcl,List.getElem?_toArray]
        ·rw [hoc o ho,cell_of_row _ _ _ _ _ _ hcl,List.getElem?_toArray]
       rw [this]
      have hWR:WR Tryz.prog w0 r (h.set (.map (es1 ++ es2) 0) m1) nx w':=H.turn hBel fun k o hko=>by
       by_cases q:k=m1
       ·subst q
        rw [T.find_set] at hko; cases hko
        exact .inr ⟨⟨_,hb1⟩,hoo,hbr⟩
       ·rw [T.find_set_ne _ _ _ _ q] at hko
        by_cases q2:k=kt
        ·subst q2
         exact .inl ⟨hko,hkt⟩
        ·exact .inl ⟨hko,hblk k o hko q2 q⟩
      have hEv:Ev r h w r (h.set (.map (es1 ++ es2) 0) m1) w':=⟨.refl r,hK.size,fun b hb hn=>hK.block b hb (by
       rintro (e | e)
       ·exact hn kt _ hbt e.symm
       ·exact hn m1 _ hb1 (Option.some.inj e)),fun k o hko=>by
       by_cases q:k=m1
       ·subst q; exact .inr ⟨k,_,hb1,rfl⟩
       ·rw [T.find_set_ne _ _ _ _ q] at hko; exact .inr ⟨k,o,hko,rfl⟩⟩
      have:=hR (.tup []) _ nx r w' hk hWR hEv (by simp [okV,okL])
      simpa [conc,concL] using this
     ·exact hk.elim
    ·rename_i hcs
     obtain ⟨hchk,hk⟩:=brec hk
     simp only [Bool.and_eq_true,Bool.not_eq_true'] at hchk
     obtain ⟨⟨⟨k1,k2⟩,k3⟩,k4⟩:=hchk
     have k3:=Nat.le_of_ble_eq_true k3
     have k4:=Nat.le_of_ble_eq_true k4
     rw [T.setK_iff,forceL_iff,T.setK_iff,succK_iff] at hk
     have n3:m2≠kt:=fun e=>by rw [e,eqP_refl] at k2; cases k2
     obtain ⟨hc,hfz⟩:=cell_of_BR at4 hcs
     have hc:w.cell? ⟨r.blk kt,ot,none⟩=some (.map none):=by rw [hc]; simp only [conc]
     have hmax:(2000:Nat)<maxLen:=by decide
     have hT:Tb w none 0 (fun _=>none):=⟨.inl ⟨rfl,fun _=>rfl⟩⟩
     have hN:=tb_of_BR (n:=1000) am4 (okS_of am3) k1 k3 (by omega)
     have hS2:=okS_of am3
     obtain ⟨es2',-,hb2',M2,-⟩:=am4
     refine (tjoin_any (r.blk kt) ot 0 1000 (r.blk m2) none (fun _=>none) (MofE es2) w hc hfz hT hN (fun e=>by cases e) (fun e=>by cases e) (fun e=>n3 (H.apart m2 kt _ _ hb2 hbt e)) (by omega) (fun s hs=>MofE_big k1 hs) (fun s hs=>rfl) (fun s hs=>rfl)).mono ?_
     rintro ed w' ⟨rfl,mv',hc',hT',-,hmv',hK,hoc,hfz',hrw⟩
     have hJ:∀ s,joinM (fun _=>none) (MofE es2) s=MofE es2 s:=fun s=>by
      unfold joinM
      by_cases q:(MofE es2 s).isSome=true
      ·rw [if_pos q]
      ·rw [if_neg q]
       cases hm:MofE es2 s with
       | none=>rfl
       | some x=>rw [hm] at q; exact absurd rfl q
     have hTn:=Tb.congr hT' (N:=MofE es2) (fun s _=>hJ s) (fun s hs=>MofE_big k1 hs)
     obtain ⟨m,hmv,hmn⟩:∃ m,mv'=some m∧w.heap.size≤m:=by
      rcases hmv' with e | ⟨-,m,e,hm⟩
      ·exfalso
       rw [e] at hTn
       rcases hTn.go with ⟨-,hno⟩ | ⟨b,D,q,-⟩
       ·match es2,k4,k1,hS2,M2,hno with
        | [],k4,_,_,_,_=>simp at k4
        | e0 :: l,_,k1,hS2,M2,hno =>
         obtain ⟨s,p,k,g1,g2,-⟩:=okE_spec (okEs_mem k1 e0 (List.mem_cons_self ..))
         have hl:=(look_mem M2.str M2.nodup (s:=s) (v:=e0.2.1)).2 (List.mem_map.2 ⟨e0,List.mem_cons_self ..,by simp [KV,g1]⟩)
         have:=hno (bytesOf s)
         rw [show MofE (e0 :: l) (bytesOf s)=some (p,k) from MofE_iff.2 (by rw [nats_bytes (hS2 e0 (List.mem_cons_self ..) s g1),hl,g2])] at this
         cases this
       ·cases q
      ·exact ⟨m,e,hm⟩
     subst hmv
     have hfr:=H.fresh
     have hle:=Rho.le_more hfr m 0
     have hbr:=BR_of_tb (P:=Tryz.prog) (r:=r.more nx m 0) (k:=nx) (c:=0) hTn hS2 k1 M2.nodup
     have hBel:Below w0.heap.size w0 w':=H.below.trans (hK.below H.below.size (by
      rintro k (rfl | e)
      ·exact at2
      ·cases e))
     have hblk:∀ k o,h.find k=some o→k≠kt→w'.heap[r.blk k]?=w.heap[r.blk k]?:=fun k o hko q1=>hK.block _ (H.lt hko) (by
      rintro (e | e)
      ·exact q1 (H.apart k kt _ _ hko hbt e)
      ·cases e)
     have hdel:∀ k o,(h.del kt).find k=some o→k≠kt∧h.find k=some o:=fun k o hko=>by
      by_cases q:k=kt
      ·subst q; rw [T.find_del] at hko; cases hko
      ·rw [T.find_del_ne _ _ _ q] at hko; exact ⟨q,hko⟩
     have W1:WR Tryz.prog w0 r (h.del kt) nx w':=H.turn hBel fun k o hko=>.inl ⟨(hdel k o hko).2,hblk k o (hdel k o hko).2 (hdel k o hko).1⟩
     have W2:=W1.adopt (nx':=nx.succ) hfr H.unset (.map es2 0) m 0 (okO.mono hle.has am3) hbr (Nat.le_trans H.below.size hmn) (fun k o hko=>by have:=H.lt (hdel k o hko).2; omega) (by rw [Pt.toNat_succ]; omega) (by rw [Pt.toNat_succ]; omega)
     have hktb:(r.more nx m 0).blk kt=r.blk kt:=hle.blk kt at1
     have hkx:kt≠nx:=fun e=>hfr (e ▸ at1)
     have hbc:BR Tryz.prog (r.more nx m 0) kt (.cells (putL cs ot [.map nx]) e) (w'.heap[(r.more nx m 0).blk kt]?):=by
      obtain ⟨rest,hcl,hrl⟩:=at4
      obtain ⟨vs',hvs⟩:=hrw _ _ hcl
      rw [hktb,hvs]
      refine ⟨rest,?_,by rw [hle.ext kt at1]; exact hrl⟩
      congr 2
      have hot:ot<cs.length:=(List.getElem?_eq_some_iff.1 hcs).1
      have hcl':concL (r.more nx m 0) (putL cs ot [.map nx])=(concL r cs).set ot (.map (some m)):=by
       show concL (r.more nx m 0) (cs.set ot (.map nx))=_
       rw [concL_map,List.map_set,← concL_map,concL_le hle at3]
       simp only [conc,r.more_blk]
      rw [hcl']
      refine row_ext hvs fun o=>?_
      have hlen:ot<(concL r cs).length:=by rw [concL_length]; exact hot
      by_cases ho:o=ot
      ·subst ho
       rw [hc',List.getElem?_append_left (by simpa using hlen)]
       simp [hlen]
      ·rw [hoc o ho,cell_of_row _ _ _ _ _ _ hcl,List.getElem?_toArray,← List.set_append_left _ _ hlen,List.getElem?_set_ne (fun e=>ho e.symm)]
     have W3:=W2.back (n:=kt) (ob:=.cells (putL cs ot [.map nx]) e) (.inr at1) (by
      show okL _ (cs.set ot (.map nx))
      rw [okL_iff]
      intro v hv
      rcases List.mem_or_eq_of_mem_set hv with hv | rfl
      ·exact ((okL_iff _ _).1 (okL.mono hle.has at3)) v hv
      ·simp only [okV]; exact .inl rfl) hbc (by rw [hktb]; exact at2) (fun k o hko q=>by
      by_cases q1:k=nx
      ·subst q1
       rw [r.more_blk,hktb] at q
       have:=H.lt hbt
       omega
      ·rw [T.find_set_ne _ _ _ _ q1] at hko
       obtain ⟨q2,hko⟩:=hdel k o hko
       rw [hle.blk k (H.has k o hko).1,hktb] at q
       exact H.apart k kt _ _ hko hbt q)
     have hsub:∀ k o,((h.set (.map es2 0) nx).set (.cells (putL cs ot [.map nx]) e) kt).find k=some o→(((h.del kt).set (.map es2 0) nx).set (.cells (putL cs ot [.map nx]) e) kt).find k=some o:=fun k o hko=>by
      by_cases q:k=kt
      ·subst q; rw [T.find_set] at hko ⊢; exact hko
      ·rw [T.find_set_ne _ _ _ _ q] at hko ⊢
       by_cases q1:k=nx
       ·subst q1; rw [T.find_set] at hko ⊢; exact hko
       ·rw [T.find_set_ne _ _ _ _ q1] at hko ⊢
        rw [T.find_del_ne _ _ _ q]; exact hko
     have hEv:Ev r h w (r.more nx m 0) ((h.set (.map es2 0) nx).set (.cells (putL cs ot [.map nx]) e) kt) w':=⟨hle,hK.size,fun b hb hn=>hK.block b hb (by
      rintro (e | e)
      ·exact hn kt _ hbt e.symm
      ·cases e),fun k o hko=>by
      by_cases q:k=kt
      ·subst q; exact .inr ⟨k,_,hbt,hktb.symm⟩
      ·rw [T.find_set_ne _ _ _ _ q] at hko
       by_cases q1:k=nx
       ·subst q1; rw [r.more_blk]; exact .inl hmn
       ·rw [T.find_set_ne _ _ _ _ q1] at hko
        exact .inr ⟨k,o,hko,(hle.blk k (H.has k o hko).1).symm⟩⟩
     have:=hR (.tup []) _ nx.succ _ w' hk (W3.sub hsub) hEv (by simp [okV,okL])
     simpa [conc,concL] using this
    ·exact hk.elim
   ·exact hk.elim
  ·exact hk.elim
 ·exact hk.elim
set_option maxRecDepth 100000 in
theorem meets_sem:FunSem Tryz.prog 72 meetsAF:=by
 intro w0 ch hcur hch args h nx K r w R hk hE H ha hR _
 obtain ⟨a0,a1,tm,rfl,hq⟩:=two_args (c:=fun a0 a1 tm=>_) hk
 clear hk
 have hk:=hq
 clear hq
 split at hk
 ·rename_i kt ot m2
  obtain ⟨bt,hbt,hk⟩:=(T.getK_iff _ _ _).1 hk
  split at hk
  ·rename_i cs e
   obtain ⟨b2,hb2,hk⟩:=(T.getK_iff _ _ _).1 hk
   split at hk
   ·rename_i es2 c2
    refine ⟨⟨_,_,Tryz.func72,by kernel_rfl,rfl⟩,?_⟩
    obtain ⟨at1,at2,at3,at4⟩:=H.has kt _ hbt
    obtain ⟨am1,am2,am3,am4⟩:=H.has m2 _ hb2
    have hargs:(concL r [AV.ptr kt ot,AV.agg [AV.map m2]]).toArray=#[.pointer (some ⟨r.blk kt,ot,none⟩),.agg #[.map (some (r.blk m2))]]:=by simp [concL,conc]
    rw [hargs]
    have hmax:(2000:Nat)<maxLen:=by decide
    have fin:∀ (q:Bool) (w':World),(tm.setK (.bool q) meetP fun tm=>retK meetsAF.res K .ret tm h nx)→Below w.heap.size w w'→R (.returned (.bool q)) w':=fun q w' hk hB=>by
     rw [S.setK_iff] at hk
     have hk:(tm.set (.bool q) meetP).getK meetP fun v=>K v h nx:=hk
     rw [S.getK_iff,S.find_set] at hk
     obtain ⟨v,hv,hk⟩:=hk
     cases hv
     have hWR:WR Tryz.prog w0 r h nx w':=H.turn (H.below.trans (hB.mono H.below.size)) fun k o hko=>.inl ⟨hko,hB.block _ (H.lt hko)⟩
     have:=hR (.bool q) h nx r w' hk hWR ⟨.refl r,hB.size,fun b hb _=>hB.block b hb,fun k o hko=>.inr ⟨k,o,hko,rfl⟩⟩ (by simp [okV])
     simpa [conc] using this
    split at hk
    ·rename_i m1 hcs
     obtain ⟨b1,hb1,hk⟩:=(T.getK_iff _ _ _).1 hk
     split at hk
     ·rename_i es1 c1
      obtain ⟨hchk,hk⟩:=brec hk
      simp only [Bool.and_eq_true] at hchk
      obtain ⟨⟨⟨k1,k2⟩,k3⟩,k4⟩:=hchk
      have k3:=Nat.le_of_ble_eq_true k3
      have k4:=Nat.le_of_ble_eq_true k4
      obtain ⟨an1,an2,an3,an4⟩:=H.has m1 _ hb1
      obtain ⟨hc,-⟩:=cell_of_BR at4 hcs
      have hc:w.cell? ⟨r.blk kt,ot,none⟩=some (.map (some (r.blk m1))):=by rw [hc]; simp only [conc]
      have hT:=tb_of_BR (n:=1000) an4 (okS_of an3) k1 k3 (by omega)
      have hN:=tb_of_BR (n:=1000) am4 (okS_of am3) k2 k4 (by omega)
      have hS2:=okS_of am3
      obtain ⟨es1',-,hb1',M1,-⟩:=an4
      obtain ⟨es2',-,hb2',M2,-⟩:=am4
      refine (tmeets_any (r.blk kt) ot 1000 1000 (r.blk m2) (some (r.blk m1)) (MofE es1) (MofE es2) w hc hT hN).mono ?_
      rintro ed w' ⟨⟨q,rfl,hq⟩,hB⟩
      have hqd:q=!(disB es1 es2):=by
       cases hd:disB es1 es2 with
       | true =>
        cases q with
        | false=>rfl
        | true =>
         exfalso
         obtain ⟨s,hs,s1,s2⟩:=hq.1 rfl
         obtain ⟨e',he',g⟩:=MofE_key s1
         rw [MofE_none (disB_spec hd e' he' _ g)] at s2
         cases s2
       | false =>
        refine hq.2 ?_
        clear hk fin
        have:∀ l:List (AV × AV × Nat),(∀ e ∈ l,e ∈ es2)→disB es1 l=false→∃ e ∈ es2,∃ s,e.1=.str s∧(look s es1).isSome=true:=by
         intro l
         induction l with
         | nil=>intro _ h; simp [disB] at h
         | cons x l ih =>
          intro hl h
          simp only [disB,Bool.and_eq_false_iff] at h
          rcases h with h | h
          ·obtain ⟨s,hs⟩:=M2.str x (hl x (List.mem_cons_self ..))
           rw [hs] at h
           have h:(look s es1).isNone=false:=h
           exact ⟨x,hl x (List.mem_cons_self ..),s,hs,by cases hlk:look s es1 with | none=>rw [hlk] at h; cases h | some v=>rfl⟩
          ·exact ih (fun e he=>hl e (List.mem_cons_of_mem _ he)) h
        obtain ⟨e',he',s,g1,g2⟩:=this es2 (fun _ h=>h) hd
        obtain ⟨s',p,k,f1,f2,f3⟩:=okE_spec (okEs_mem k2 e' he')
        rw [g1] at f1
        cases f1
        have hb:=hS2 e' he' s g1
        have hl2:=(look_mem M2.str M2.nodup (s:=s) (v:=e'.2.1)).2 (List.mem_map.2 ⟨e',he',by simp [KV,g1]⟩)
        obtain ⟨v,hv⟩:=Option.isSome_iff_exists.1 g2
        obtain ⟨e1,he1,gg⟩:=List.mem_map.1 ((look_mem M1.str M1.nodup).1 hv)
        simp only [KV,Prod.mk.injEq] at gg
        obtain ⟨s1,p1,q1,f4,f5,-⟩:=okE_spec (okEs_mem k1 e1 he1)
        refine ⟨bytesOf s,?_,?_,?_⟩
        ·have:(bytesOf s).size=s.length:=by simp [bytesOf,ByteArray.size]
         rw [this]; omega
        ·rw [show MofE es2 (bytesOf s)=some (p,k) from MofE_iff.2 (by rw [nats_bytes hb,hl2,f2])]; rfl
        ·rw [show MofE es1 (bytesOf s)=some (p1,q1) from MofE_iff.2 (by rw [nats_bytes hb,hv,← gg.2,f5])]; rfl
      rw [hqd]
      cases hd:disB es1 es2 with
      | true=>rw [hd] at hk; exact fin false w' hk hB
      | false=>rw [hd] at hk; exact fin true w' hk hB
     ·exact hk.elim
    ·rename_i hcs
     obtain ⟨hchk,hk⟩:=brec hk
     simp only [Bool.and_eq_true] at hchk
     obtain ⟨k2,k4⟩:=hchk
     have k4:=Nat.le_of_ble_eq_true k4
     obtain ⟨hc,-⟩:=cell_of_BR at4 hcs
     have hc:w.cell? ⟨r.blk kt,ot,none⟩=some (.map none):=by rw [hc]; simp only [conc]
     have hT:Tb w none 0 (fun _=>none):=⟨.inl ⟨rfl,fun _=>rfl⟩⟩
     have hN:=tb_of_BR (n:=1000) am4 (okS_of am3) k2 k4 (by omega)
     refine (tmeets_any (r.blk kt) ot 0 1000 (r.blk m2) none (fun _=>none) (MofE es2) w hc hT hN).mono ?_
     rintro ed w' ⟨⟨q,rfl,hq⟩,hB⟩
     have hqd:q=false:=by
      cases q with
      | false=>rfl
      | true=>obtain ⟨s,-,-,s2⟩:=hq.1 rfl; cases s2
     rw [hqd]
     exact fin false w' hk hB
    ·exact hk.elim
   ·exact hk.elim
  ·exact hk.elim
 ·exact hk.elim
end Go.Proofs.YtidggaoacldgkaaGreatDoor.X
