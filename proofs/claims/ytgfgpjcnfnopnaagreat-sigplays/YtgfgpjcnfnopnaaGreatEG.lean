/- The contracts of the reference's num, text and level. -/
import Derived.Test.YtgfgpjcnfnopnaaGreatEC
import Derived.Lib.AppendStr
import Derived.Deep.RegionHeld3
namespace Go.Proofs.YtgfgpjcnfnopnaaGreat
set_option maxRecDepth 100000
set_option maxHeartbeats 40000000
open Go.RowKit Go.Sort Go.Lib
structure GrwV (v v':Value) (w w':World):Prop where
 kept:Kept (fun k=>v.ownBlock=some k) w w'
 row:∀k,v'.ownBlock=some k→v.ownBlock=some k∨w.heap.size≤k
theorem GrwV.refl (v:Value) (w:World):GrwV v v w w:=⟨Kept.refl _ _,fun _ h=>Or.inl h⟩
theorem GrwV.trans {v x y:Value}{a b c:World}(h:GrwV v x a b) (k:GrwV x y b c):GrwV v y a c:=by
 refine ⟨⟨k.kept.os.trans h.kept.os,k.kept.tape.trans h.kept.tape,k.kept.output.trans h.kept.output,Nat.le_trans h.kept.size k.kept.size,fun i hi hp=>?_⟩,fun i hi=>?_⟩
 ·refine (k.kept.block i (Nat.lt_of_lt_of_le hi h.kept.size) fun hq=>?_).trans (h.kept.block i hi hp)
  rcases h.row i hq with hq | hq
  ·exact hp hq
  ·omega
 ·rcases k.row i hi with hq | hq
  ·exact h.row i hq
  ·have:=h.kept.size;exact Or.inr (by omega)
theorem GrwV.below (v:Value) {w w':World}(h:RowKit.Below w.heap.size w w'):GrwV v v w w':=⟨Kept.of_below h,fun _ h=>Or.inl h⟩
theorem GrwV.toBelow {v v':Value}{w w':World}{B:Nat}{bs:List UInt8}(h:GrwV v v' w w') (hO:OY B w v bs) (hB:B≤w.heap.size):RowKit.Below B w w':=h.kept.below hB fun _ hk=>(hO.lt hk).1
theorem GrwV.box {v v':Value}{B k:Nat}{w w1 w':World}{bs:List UInt8}{o:Obj}(h:GrwV v v' w1 w') (hO:OY B w v bs) (hk:w1.heap[k]?=some o) (hkw:w.heap.size≤k):w'.heap[k]?=some o :=
 (h.kept.block k (Array.getElem?_eq_some_iff.1 hk).1 fun hp=>by have:=(hO.lt hp).2;omega).trans hk
theorem numB_len (k:Nat):∀n,n<128 ^ (k+1)→(numB n).length≤k+1:=by
 induction k with
 | zero=>intro n hn;rw [numB_small (by simpa using hn)];simp
 | succ k ih =>
  intro n hn
  by_cases h:n<128
  ·rw [numB_small h];simp
  ·rw [numB_big (by omega),List.length_cons]
   have:=ih (n / 128) (by rw [Nat.div_lt_iff_lt_mul (by decide)];exact hn)
   omega
theorem numB_9 {n:Nat}(h:n<9223372036854775808):(numB n).length≤9:=numB_len 8 n (by omega)
def RfPost (B:Nat) (v:Value) (bs news:List UInt8) (w:World) (e:Ending) (w':World):Prop:=∃v',e=.returned v'∧OY B w' v' (bs++news)∧GrwV v v' w w'
theorem add128 (m:Nat):((m:Int) % 128)+128=((UInt8.ofNat (m % 128+128)).toNat:Int):=by
 rw [UInt8.toNat_ofNat_of_lt' (by show m % 128+128<256;omega)]
 omega
theorem small128 {m:Nat}(h:m<128):(m:Int)=((UInt8.ofNat m).toNat:Int):=by
 rw [UInt8.toNat_ofNat_of_lt' (by show m<256;omega)]
theorem GrwV.app {g cap:Nat}{v u:Value}{w wr w':World}{o:Obj}(h:GrwV v u w wr) (hg:(wr.alloc o).grownBy w' u.ownBlock) (hat:u.ownBlock=some g∨g=(wr.alloc o).heap.size) (n:Nat):GrwV v (.slice (some ⟨g,0,none⟩) n cap) w w':=by
 refine h.trans ⟨⟨hg.os,hg.tape,hg.output,by have:=hg.size;simp at this;omega,fun k hk hp=>?_⟩,fun k hk=>?_⟩
 ·exact (hg.block k (by simp;omega) (fun e=>hp e.symm)).trans (Below.heap_alloc _ _ _ hk)
 ·simp only [Value.ownBlock,Option.some.injEq] at hk
  subst hk
  rcases hat with h | h
  ·exact Or.inl h
  ·simp at h;exact Or.inr (by omega)
theorem rnum_any (B:Nat) (v:Value) (bs:List UInt8) (n:Nat) (w:World) (hO:OY B w v bs) (hB:B≤w.heap.size) (hn:n<9223372036854775808) (hl:bs.length≤70368744170000):Calls Tryz.prog 57 #[v,.int .i64 (n:Int)] w (RfPost B v bs (numB n) w):=by
 have hn9:=numB_9 hn
 go_enter Tryz.func57,Tryz.ntmps57
 go_wp2
 go_loopw [0,1] (fun u i wr=>∃(m:Nat) (done:List UInt8),i=.int .i64 m∧m≤n∧numB n=done++numB m∧OY B wr u (bs++done)∧GrwV v u w wr) (fun _ i _=>(intOf i).toNat)
 case atStart=>exact ⟨n,[],rfl,Nat.le_refl _,rfl,by simpa using hO,GrwV.refl _ _⟩
 case round =>
  obtain ⟨m,done,rfl,hm,hd,hOr,hgr⟩:=hrel
  have hdl:done.length≤8:=by
   have h1:=congrArg List.length hd
   rw [List.length_append] at h1
   have h2:0<(numB m).length:=by
    cases h:numB m with
    | nil=>exact absurd h (numB_ne m)
    | cons a l=>simp
   omega
  have HD:=Hid.mk hd
  have HO:=Hid.mk hOr
  have HG:=Hid.mk hgr
  have hsz:=hgr.kept.size
  clear hd hOr hgr
  by_cases hbig:128≤m
  ·have HS1:Hid (BL (wr.alloc (.cells #[.int .u8 ((m:Int) % 128+128)] 5)) (some ⟨wr.heap.size,0,none⟩) [UInt8.ofNat (m % 128+128)]):=by unfold Hid;rw [add128 m];exact news1 _
   have HO1:Hid (OY B (wr.alloc (.cells #[.int .u8 ((m:Int) % 128+128)] 5)) _ (bs++done)):=HO.out.alloc _
   have hB1:B≤(wr.alloc (.cells #[.int .u8 ((m:Int) % 128+128)] 5)).heap.size:=by simp;omega
   go_wp2_with (at_builtin;refine wpList_appB rfl _ _ rfl B _ (bs++done) [UInt8.ofNat (m % 128+128)] ⟨wr.heap.size,0,none⟩ 1 1 rfl rfl rfl HO1.out HS1.out (by simp) (by simp;omega) hB1 ?_;intro g7 c7 W7 hown7 hgr7 hat7;have HOWN7:=Hid.mk hown7;have HG7:=Hid.mk (GrwV.app (cap:=c7) HG.out hgr7 hat7 (bs++done++[UInt8.ofNat (m % 128+128)]).length);clear hown7 hgr7 hat7)
   have hlen:(bs++done++[UInt8.ofNat (m % 128+128)]).length=bs.length+(done.length+1):=by simp
   have h7:=HOWN7.out
   have g7':=HG7.out
   rw [hlen] at h7 g7'
   refine ⟨⟨m / 128,done++[UInt8.ofNat (m % 128+128)],by rw [Int.natCast_ediv];rfl,by omega,?_,by rw [←List.append_assoc];exact h7,g7'⟩,by simp [intOf];omega⟩
   rw [HD.out,numB_big hbig,List.append_assoc];rfl
  ·have hbig':m<128:=by omega
   have HS1:Hid (BL (wr.alloc (.cells #[.int .u8 (m:Int)] 5)) (some ⟨wr.heap.size,0,none⟩) [UInt8.ofNat m]):=by unfold Hid;rw [small128 hbig'];exact news1 _
   have HO1:Hid (OY B (wr.alloc (.cells #[.int .u8 (m:Int)] 5)) _ (bs++done)):=HO.out.alloc _
   have hB1:B≤(wr.alloc (.cells #[.int .u8 (m:Int)] 5)).heap.size:=by simp;omega
   go_wp2_with (at_builtin;refine wpList_appB rfl _ _ rfl B _ (bs++done) [UInt8.ofNat m] ⟨wr.heap.size,0,none⟩ 1 1 rfl rfl rfl HO1.out HS1.out (by simp) (by simp;omega) hB1 ?_;intro g7 c7 W7 hown7 hgr7 hat7;have HOWN7:=Hid.mk hown7;have HG7:=Hid.mk (GrwV.app (cap:=c7) HG.out hgr7 hat7 (bs++done++[UInt8.ofNat m]).length);clear hown7 hgr7 hat7)
   have hlen:(bs++done++[UInt8.ofNat m]).length=bs.length+(done.length+1):=by simp
   have h7:=HOWN7.out
   have g7':=HG7.out
   rw [hlen] at h7 g7'
   go_ret
   refine ⟨_,rfl,?_,g7'⟩
   rw [HD.out,numB_small hbig',←List.append_assoc]
   exact h7
theorem appS_any {w:World}{ops:Array Oper}{rest:List Oper}{o:Oper}{a:Act}{Q:Exit→Act→World→Prop}(hgd:o.guard=none) (s x:Operand) (ho:o.op=.call { callee:=.builtin .append,args:=#[s,x],argTypes:=#[78,9] })
  (B:Nat) (v:Value) (bs:List UInt8) (nm:ByteArray) (hs:a.eval s=v) (hx:a.eval x=.string nm) (hO:OY B w v bs) (hne:0<nm.size) (hl:bs.length+nm.size≤70368744177664) (hB:B≤w.heap.size)
  (h:∀v' w',OY B w' v' (bs++nm.data.toList)→GrwV v v' w w'→wpList Tryz.prog ops Q rest (a.put o.dst v') w'):wpList Tryz.prog ops Q (o::rest) a w:=by
 obtain ⟨i0,hi,hz0,hz1,hz2⟩:=info_parts8 infoU8
 refine wpList_plain hgd fun K hK=>?_
 obtain ⟨v',w',hr,h2,h3,-⟩:=run_append_own_string (P:=Tryz.prog) w B 78 9 o.type 5 i0 Tryz.underlying78 Tryz.underlying9 hi hz0 hz1 hz2 v bs.length (flatB bs) hO nm (by unfold maxLen;omega) (by omega) hB
 have hloc:v'.ownBlock=v.ownBlock∨v'.ownBlock=some w.heap.size:=by
  rcases hO.2 with ⟨rfl,hn⟩ | ⟨g,cap,cur,rfl,hbg,hg,hnc,hcm,hcs,htake⟩
  ·have hr1:=run_append_nil_string (P:=Tryz.prog) w 78 9 o.type 5 i0 (.int .u8 0) Tryz.underlying78 Tryz.underlying9 hi hz0 nm (by omega) (by omega) (by rw [hz2];omega)
   rw [hr1] at hr
   simp only [Result.ok.injEq] at hr
   rw [←hr.1]
   exact Or.inr rfl
  ·by_cases hroom:bs.length+nm.size≤cap
   ·have hr1:=run_append_room_string (P:=Tryz.prog) w 78 9 o.type 5 i0 Tryz.underlying78 Tryz.underlying9 hi hz1 g bs.length cap cur hg nm hroom (by omega)
    rw [hr1] at hr
    simp only [Result.ok.injEq] at hr
    rw [←hr.1]
    exact Or.inl rfl
   ·have holds:∀j u,(flatB bs)[j]?=some u→w.cell? ((⟨g,0,none⟩:Addr).add j)=some u:=World.ownsRow.cells (show w.ownsRow B 5 1 _ bs.length (flatB bs) from hO) (g:=g) rfl
    have hr1:=run_append_grow_string (P:=Tryz.prog) w 78 9 o.type 5 i0 (.int .u8 0) Tryz.underlying78 Tryz.underlying9 hi hz0 ⟨g,0,none⟩ bs.length cap (flatB bs) (by rw [hz1,flatB_length];omega) holds nm (by omega) (by omega) (by rw [hz2];exact growslice_fits (by omega) (by omega))
    rw [hr1] at hr
    simp only [Result.ok.injEq] at hr
    rw [←hr.1]
    exact Or.inr rfl
 unfold Oper.wp execOp
 simp only [ho,resolve,invoke,builtin,Sem.run_bind,Sem.run_pure,Result.andThen_ok,List.map_toArray,List.map_cons,List.map_nil,hs,hx,hr]
 refine hK _ _ (h v' w' ?_ ⟨⟨h3.os,h3.tape,h3.output,h3.size,fun k hk hp=>h3.block k hk (fun e=>hp e.symm)⟩,fun k hk=>?_⟩)
 ·unfold OY
  rw [List.length_append,flatB_append]
  have e1:nm.data.toList.length=nm.size:=rfl
  have e2:flatB nm.data.toList=strCells nm:=by simp [flatB,strCells]
  rw [e1,e2]
  exact h2
 ·rcases hloc with h | h
  ·exact Or.inl (by rw [←h];exact hk)
  ·rw [h] at hk
   simp only [Option.some.injEq] at hk
   exact Or.inr (by omega)
theorem rtext_any (B:Nat) (v:Value) (bs:List UInt8) (nm:ByteArray) (w:World) (hO:OY B w v bs) (hB:B≤w.heap.size) (hm0:0<nm.size) (hm:nm.size≤1000000000) (hl:bs.length≤70000000000000):Calls Tryz.prog 58 #[v,.string nm] w (RfPost B v bs (nameB nm) w):=by
 have HC:=rnum_any B v bs nm.size w hO hB (by omega) (by omega)
 have hn9:=numB_9 (n:=nm.size) (by omega)
 go_enter Tryz.func58,Tryz.ntmps58
 go_wp2_with fail
 refine HC.mono ?_
 rintro e w1 ⟨v1,rfl,hO1,hg1⟩
 have HO1:=Hid.mk hO1
 have HG1:=Hid.mk hg1
 have hsz:=hg1.kept.size
 clear hO1 hg1 HC
 go_wp2_with (at_builtin;refine appS_any rfl _ _ rfl B v1 (bs++numB nm.size) nm rfl rfl HO1.out hm0 (by simp;omega) (by omega) ?_;intro v2 w2 hO2 hg2;have HO2:=Hid.mk hO2;have HG2:=Hid.mk (HG1.out.trans hg2);clear hO2 hg2)
 go_ret
 refine ⟨_,rfl,?_,HG2.out⟩
 unfold nameB
 rw [←List.append_assoc]
 exact HO2.out
theorem varB_len {p:Int×Int}(h:0≤p.1∧p.1≤1000∧0≤p.2∧p.2≤1000):(varB p).length≤18:=by
 unfold varB
 rw [List.length_append]
 have h1:=numB_9 (n:=p.1.toNat) (by omega)
 have h2:=numB_9 (n:=p.2.toNat) (by omega)
 omega
theorem flat_len {α:Type}{f:α→List UInt8}{c:Nat}:∀{xs:List α},(∀x∈xs,(f x).length≤c)→(xs.flatMap f).length≤xs.length*c
 | [],_=>by simp
 | x::xs,h=>by
  rw [List.flatMap_cons,List.length_append,List.length_cons,Nat.succ_mul]
  have h1:=h x (by simp)
  have h2:=flat_len (xs:=xs) fun y hy=>h y (by simp [hy])
  omega
theorem levB_len {l:LvT}(h:rightL l):(levB l).length≤1200:=by
 unfold levB
 rw [List.length_append,List.length_append]
 have h1:=numB_9 (n:=l.1.toNat) (by have:=h.2.1;omega)
 have h2:=numB_9 (n:=l.2.length) (by have:=h.2.2.1;omega)
 have h3:=flat_len (c:=18) (f:=varB) fun p hp=>varB_len (h.2.2.2 p hp)
 have h4:=h.2.2.1
 omega
theorem rlevel_any (w0:World) (v:Value) (bs:List UInt8) (n:Int) (xs:List (Int×Int)) (a:Option Addr) (cap:Nat) (w:World) (hb0:RowKit.Below w0.heap.size w0 w) (hO:OY w0.heap.size w v bs) (hS:SL w0 a xs) (hr:rightL (n,xs)) (hl:bs.length≤70000000000000):Calls Tryz.prog 77 #[v,.agg #[.int .i64 n,.slice a xs.length cap]] w (RfPost w0.heap.size v bs (levB (n,xs)) w):=by
 obtain ⟨hn0,hn1,hxl,hxs⟩:=hr
 simp only at hn0 hn1 hxl hxs
 obtain ⟨W0,hW0⟩:∃W0,w.alloc (.cells #[.int .i64 n,.slice a xs.length cap] 75)=W0:=⟨_,rfl⟩
 have hb:RowKit.Below w.heap.size w W0:=by rw [←hW0];exact (Below.refl _ _).alloc (Nat.le_refl _) _
 have HX0:Hid (W0.heap[w.heap.size]?=some (.cells #[.int .i64 n,.slice a xs.length cap] 75 (0,0))):=by unfold Hid;rw [←hW0];exact alloc_new _ _
 have HG0:Hid (GrwV v v w W0):=GrwV.below v hb
 have HB00:Hid (RowKit.Below w0.heap.size w0 W0):=hb0.trans (hb.mono hb0.size)
 have HO0:Hid (OY w0.heap.size W0 v bs):=hO.move fun k hk=>hb.block k (hO.lt hk).2
 have HOD:Hid (OY w0.heap.size W0.drew v bs):=HO0.out.move fun k _=>rfl
 have HC0:=Hid.mk (rnum_any w0.heap.size v bs n.toNat W0.drew HOD.out HB00.out.size (by omega) (by omega))
 rw [show ((n.toNat:Nat):Int)=n by omega] at HC0
 have hn9:=numB_9 (n:=n.toNat) (by omega)
 have hx9:=numB_9 (n:=xs.length) (by omega)
 have HXS:=Hid.mk hxs
 have HS:=Hid.mk hS
 have HO:=Hid.mk hO
 have HW0:=Hid.mk hW0
 obtain ⟨r0,r1,-,-,r4⟩:=cells2 HX0.out
 have hB0s:=HB00.out.size
 clear hO hb0 hb hS hxs hW0
 go_enter Tryz.func77,Tryz.ntmps77
 go_wp2_with fail
 rw [HW0.out]
 refine wp_region_held_drew (S:=fun w'=>w'.cell? ⟨w.heap.size,0,none⟩=some (.int .i64 n)∧w'.cell? ⟨w.heap.size,1,none⟩=some (.slice a xs.length cap)) (by kernel_rfl) ?_ (fun hHeld=>?_)
 ·(try dsimp only)
  exact ⟨r0,r1⟩
 refine wpAnyH_take (i:=0) (v:=?_) rfl (by kernel_rfl) (by kernel_rfl) (by kernel_rfl) (fun _ _ _ h=>h) (Or.inl ⟨by rfl,?_⟩) (by assumption) ?_
 rotate_left
 ·(intro w hSw;(try dsimp only at hSw);go_simp;(try with_reducible rfl))
 refine wpAnyH_take (i:=1) (v:=?_) rfl (by kernel_rfl) (by kernel_rfl) (by kernel_rfl) (fun _ _ _ h=>h) (Or.inl ⟨by rfl,?_⟩) (by assumption) ?_
 rotate_left
 ·(intro w hSw;(try dsimp only at hSw);go_simp;(try with_reducible rfl))
 refine wpAnyH_take (i:=2) (v:=?_) rfl (by kernel_rfl) (by kernel_rfl) (by kernel_rfl) (fun _ _ _ h=>h) (Or.inl ⟨by rfl,?_⟩) (by assumption) ?_
 rotate_left
 ·(intro w hSw;(try dsimp only at hSw);go_simp;(try with_reducible rfl))
 refine wpAnyH_take (i:=4) (v:=?_) rfl (by kernel_rfl) (by kernel_rfl) (by kernel_rfl) (fun _ _ _ h=>h) (Or.inl ⟨by rfl,?_⟩) (by assumption) ?_
 rotate_left
 ·(intro w hSw;(try dsimp only at hSw);go_simp;(try with_reducible rfl))
 refine wpAnyH_take (i:=5) (v:=?_) rfl (by kernel_rfl) (by kernel_rfl) (by kernel_rfl) (fun _ _ _ h=>h) (Or.inl ⟨by rfl,?_⟩) (by assumption) ?_
 rotate_left
 ·(intro w hSw;(try dsimp only at hSw);go_simp;(try with_reducible rfl))
 refine wpAnyH_take (i:=6) (v:=?_) rfl (by kernel_rfl) (by kernel_rfl) (by kernel_rfl) (fun _ _ _ h=>h) (Or.inl ⟨by rfl,?_⟩) (by assumption) ?_
 rotate_left
 ·(intro w hSw;(try dsimp only at hSw);go_simp;(try with_reducible rfl))
 refine wpAnyH_ready (rs:=[3]) (by kernel_rfl) (by simp) ?_
 refine AllReadyH.cons rfl (fun K hK=>?_) AllReadyH.nil
 go_simp
 go_at_call 57
 refine HC0.out.mono ?_
 rintro e w1 ⟨v1,rfl,hO1,hg1⟩
 have HO1:=Hid.mk hO1
 have hsz1:=hg1.kept.size
 have HG1:Hid (GrwV v v1 W0 w1):=(GrwV.below v (Below.refl _ W0).drew).trans hg1
 clear r0 r1
 obtain ⟨r0,r1,-,-,r4⟩:=cells2 (HG1.out.box HO.out HX0.out (Nat.le_refl _))
 have HC1:=rnum_any w0.heap.size v1 (bs++numB n.toNat) xs.length w1 hO1 (Nat.le_trans hB0s hsz1) (by omega) (by simp;omega)
 clear hO1 hg1
 dsimp only
 refine hK.out _ _ ?_ (fun hHeld=>?_)
 ·(try dsimp only)
  exact ⟨r0,r1⟩
 clear hK K
 refine wpAnyH_ready (rs:=[7]) (by kernel_rfl) (by simp) ?_
 refine AllReadyH.cons rfl (fun K hK=>?_) AllReadyH.nil
 go_simp
 go_at_call 57
 refine HC1.mono ?_
 rintro e w2 ⟨v2,rfl,hO2,hg2⟩
 have HO2:=Hid.mk hO2
 have HG2:Hid (GrwV v v2 W0 w2):=HG1.out.trans hg2
 clear r0 r1 HC1
 obtain ⟨r0,r1,-,-,r4⟩:=cells2 (HG2.out.box HO.out HX0.out (Nat.le_refl _))
 clear hO2 hg2
 dsimp only
 refine hK.out _ _ ?_ (fun hHeld=>?_)
 ·(try dsimp only)
  exact ⟨r0,r1⟩
 clear hK K
 refine wpAnyH_take (i:=8) (v:=?_) rfl (by kernel_rfl) (by kernel_rfl) (by kernel_rfl) (fun _ _ _ h=>h) (Or.inl ⟨by rfl,?_⟩) (by assumption) ?_
 rotate_left
 ·(intro w hSw;(try dsimp only at hSw);go_simp;(try with_reducible rfl))
 refine wpAnyH_done (by kernel_rfl) ?_ _
 clear HC0 hHeld
 go_wp2
 go_loopw [0,5] (fun u i wr=>∃k:Nat,k≤xs.length∧i=.int .i64 k∧OY w0.heap.size wr u (bs++numB n.toNat++numB xs.length++(xs.take k).flatMap varB)∧GrwV v u W0 wr) (fun _ i _=>xs.length - (intOf i).toNat)
 case atStart=>exact ⟨0,Nat.zero_le _,rfl,by simpa using HO2.out,HG2.out⟩
 case round =>
  obtain ⟨k,hk,rfl,hOr,hgr⟩:=hrel
  have HOR:=Hid.mk hOr
  have HGR:=Hid.mk hgr
  have HBR:Hid (RowKit.Below w0.heap.size w0 wr):=HB00.out.trans (hgr.toBelow HO0.out HB00.out.size)
  obtain ⟨s0,s1,-,-,s4⟩:=cells2 (hgr.box HO.out HX0.out (Nat.le_refl _))
  clear hOr hgr r0 r1 r4
  by_cases hlt:k<xs.length
  ·obtain ⟨b,off,x,y,rfl,hbl0,e0,e1,hxy⟩:=HS.out.at hlt
   obtain ⟨hx0,hx1,hy0,hy1⟩:=HXS.out (x,y) (List.mem_of_getElem? hxy.out)
   have c0:=(HBR.out.cell (p:=⟨b,off+k*2,none⟩) hbl0).trans e0
   have c1:=(HBR.out.cell (p:=⟨b,off+k*2+1,none⟩) hbl0).trans e1
   have hlk:(bs++numB n.toNat++numB xs.length++(xs.take k).flatMap varB).length≤70000000002000:=by
    have h1:=flat_len (c:=18) (f:=varB) (xs:=xs.take k) fun p hp=>varB_len (HXS.out p (List.mem_of_mem_take hp))
    simp only [List.length_append,List.length_take] at h1 ⊢
    omega
   have hy9:=numB_9 (n:=x.toNat) (by omega)
   have HN1:=Hid.mk (rnum_any w0.heap.size u0 _ x.toNat wr.drew (HOR.out.move fun k _=>rfl) HBR.out.size (by omega) (by omega))
   rw [show ((x.toNat:Nat):Int)=x by omega] at HN1
   go_wp2_with fail
   refine wp_region_held_drew (S:=fun w'=>w'.cell? ⟨w.heap.size,1,none⟩=some (.slice (some ⟨b,off,none⟩) xs.length cap)∧w'.cell? ⟨b,off+k*2,none⟩=some (.int .i64 x)∧w'.cell? ⟨b,off+k*2+1,none⟩=some (.int .i64 y)) (by kernel_rfl) ?_ (fun hHeld=>?_)
   ·(try dsimp only)
    exact ⟨s1,c0,c1⟩
   refine wpAnyH_take (i:=0) (v:=?_) rfl (by kernel_rfl) (by kernel_rfl) (by kernel_rfl) (fun _ _ _ h=>h) (Or.inl ⟨by rfl,?_⟩) (by assumption) ?_
   rotate_left
   ·(intro w hSw;(try dsimp only at hSw);go_simp;(try with_reducible rfl))
   refine wpAnyH_take (i:=1) (v:=?_) rfl (by kernel_rfl) (by kernel_rfl) (by kernel_rfl) (fun _ _ _ h=>h) (Or.inl ⟨by rfl,?_⟩) (by assumption) ?_
   rotate_left
   ·(intro w hSw;(try dsimp only at hSw);go_simp;(try with_reducible rfl))
   refine wpAnyH_take (i:=2) (v:=?_) rfl (by kernel_rfl) (by kernel_rfl) (by kernel_rfl) (fun _ _ _ h=>h) (Or.inl ⟨by rfl,?_⟩) (by assumption) ?_
   rotate_left
   ·(intro w hSw;(try dsimp only at hSw);go_simp;(try with_reducible rfl))
   refine wpAnyH_take (i:=3) (v:=?_) rfl (by kernel_rfl) (by kernel_rfl) (by kernel_rfl) (fun _ _ _ h=>h) (Or.inl ⟨by rfl,?_⟩) (by assumption) ?_
   rotate_left
   ·(intro w hSw;(try dsimp only at hSw);go_simp;(try with_reducible rfl))
   refine wpAnyH_take (i:=4) (v:=?_) rfl (by kernel_rfl) (by kernel_rfl) (by kernel_rfl) (fun _ _ _ h=>h) (Or.inl ⟨by rfl,?_⟩) (by assumption) ?_
   rotate_left
   ·(intro w hSw;(try dsimp only at hSw);go_simp;(try with_reducible rfl))
   refine wpAnyH_take (i:=5) (v:=?_) rfl (by kernel_rfl) (by kernel_rfl) (by kernel_rfl) (fun _ _ _ h=>h) (Or.inl ⟨by rfl,?_⟩) (by assumption) ?_
   rotate_left
   ·(intro w hSw;(try dsimp only at hSw);go_simp;(try with_reducible rfl))
   refine wpAnyH_take (i:=6) (v:=?_) rfl (by kernel_rfl) (by kernel_rfl) (by kernel_rfl) (fun _ _ _ h=>h) (Or.inl ⟨by rfl,?_⟩) (by assumption) ?_
   rotate_left
   ·(intro w hSw;(try dsimp only at hSw);go_simp;(try with_reducible rfl))
   refine wpAnyH_take (i:=8) (v:=?_) rfl (by kernel_rfl) (by kernel_rfl) (by kernel_rfl) (fun _ _ _ h=>h) (Or.inl ⟨by rfl,?_⟩) (by assumption) ?_
   rotate_left
   ·(intro w hSw;(try dsimp only at hSw);go_simp;(try with_reducible rfl))
   refine wpAnyH_take (i:=9) (v:=?_) rfl (by kernel_rfl) (by kernel_rfl) (by kernel_rfl) (fun _ _ _ h=>h) (Or.inl ⟨by rfl,?_⟩) (by assumption) ?_
   rotate_left
   ·(intro w hSw;(try dsimp only at hSw);go_simp;(try with_reducible rfl))
   refine wpAnyH_take (i:=10) (v:=?_) rfl (by kernel_rfl) (by kernel_rfl) (by kernel_rfl) (fun _ _ _ h=>h) (Or.inl ⟨by rfl,?_⟩) (by assumption) ?_
   rotate_left
   ·(intro w hSw;(try dsimp only at hSw);go_simp;(try with_reducible rfl))
   refine wpAnyH_take (i:=11) (v:=?_) rfl (by kernel_rfl) (by kernel_rfl) (by kernel_rfl) (fun _ _ _ h=>h) (Or.inl ⟨by rfl,?_⟩) (by assumption) ?_
   rotate_left
   ·(intro w hSw;(try dsimp only at hSw);go_simp;(try with_reducible rfl))
   refine wpAnyH_take (i:=12) (v:=?_) rfl (by kernel_rfl) (by kernel_rfl) (by kernel_rfl) (fun _ _ _ h=>h) (Or.inl ⟨by rfl,?_⟩) (by assumption) ?_
   rotate_left
   ·(intro w hSw;(try dsimp only at hSw);go_simp;(try with_reducible rfl))
   refine wpAnyH_take (i:=13) (v:=?_) rfl (by kernel_rfl) (by kernel_rfl) (by kernel_rfl) (fun _ _ _ h=>h) (Or.inl ⟨by rfl,?_⟩) (by assumption) ?_
   rotate_left
   ·(intro w hSw;(try dsimp only at hSw);go_simp;(try with_reducible rfl))
   refine wpAnyH_ready (rs:=[7]) (by kernel_rfl) (by simp) ?_
   refine AllReadyH.cons rfl (fun K hK=>?_) AllReadyH.nil
   go_simp
   go_at_call 57
   refine HN1.out.mono ?_
   rintro e w3 ⟨v3,rfl,hO3,hg3⟩
   have HG3:Hid (GrwV v v3 W0 w3):=HGR.out.trans ((GrwV.below u0 (Below.refl _ wr).drew).trans hg3)
   have hB3:=HB00.out.trans (HG3.out.toBelow HO0.out HB00.out.size)
   have hs1:=(cells2 (HG3.out.box HO.out HX0.out (Nat.le_refl _))).2.1
   have hc0:=(hB3.cell (p:=⟨b,off+k*2,none⟩) hbl0).trans e0
   have hc1:=(hB3.cell (p:=⟨b,off+k*2+1,none⟩) hbl0).trans e1
   have HN2:=Hid.mk (rnum_any w0.heap.size v3 _ y.toNat w3 hO3 hB3.size (by omega) (by rw [List.length_append];omega))
   rw [show ((y.toNat:Nat):Int)=y by omega] at HN2
   have hO3':=Hid.mk hO3
   clear hO3 hg3 hB3 s1 c0 c1
   dsimp only
   refine hK.out _ _ ?_ (fun hHeld=>?_)
   ·(try dsimp only)
    exact ⟨hs1,hc0,hc1⟩
   clear hK K
   refine wpAnyH_ready (rs:=[14]) (by kernel_rfl) (by simp) ?_
   refine AllReadyH.cons rfl (fun K hK=>?_) AllReadyH.nil
   go_simp
   go_at_call 57
   refine HN2.out.mono ?_
   rintro e w4 ⟨v4,rfl,hO4,hg4⟩
   have HO4:=Hid.mk hO4
   have HG4:Hid (GrwV v v4 W0 w4):=HG3.out.trans hg4
   have hB4:=HB00.out.trans (HG4.out.toBelow HO0.out HB00.out.size)
   have ks1:=(cells2 (HG4.out.box HO.out HX0.out (Nat.le_refl _))).2.1
   have kc0:=(hB4.cell (p:=⟨b,off+k*2,none⟩) hbl0).trans e0
   have kc1:=(hB4.cell (p:=⟨b,off+k*2+1,none⟩) hbl0).trans e1
   clear hO4 hg4 hB4 hs1 hc0 hc1
   dsimp only
   refine hK.out _ _ ?_ (fun hHeld=>?_)
   ·(try dsimp only)
    exact ⟨ks1,kc0,kc1⟩
   clear hK K
   refine wpAnyH_take (i:=15) (v:=?_) rfl (by kernel_rfl) (by kernel_rfl) (by kernel_rfl) (fun _ _ _ h=>h) (Or.inl ⟨by rfl,?_⟩) (by assumption) ?_
   rotate_left
   ·(intro w hSw;(try dsimp only at hSw);go_simp;(try with_reducible rfl))
   refine wpAnyH_done (by kernel_rfl) ?_ _
   clear hHeld ks1 kc0 kc1
   go_wp2
   refine ⟨⟨k+1,hlt,by go_num,?_,HG4.out⟩,by simp [intOf];omega⟩
   rw [flatMap_take hxy.out]
   unfold varB
   rw [←List.append_assoc,←List.append_assoc]
   exact HO4.out
  ·obtain rfl:k=xs.length:=by omega
   go_wp2
   go_ret
   refine ⟨_,rfl,?_,HG0.out.trans HGR.out⟩
   have:=HOR.out
   rw [List.take_length] at this
   unfold levB
   rw [←List.append_assoc,←List.append_assoc]
   exact this
end Go.Proofs.YtgfgpjcnfnopnaaGreat
