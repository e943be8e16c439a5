/- An executor for closed calls, 9: comparing addresses and nils; new slices and maps; slice expressions. -/
import Derived.Test.YtidggaoacldgkaaGreatDoorXH
namespace Go.Proofs.YtidggaoacldgkaaGreatDoor.X
open Go.RowKit
section
variable {P:Program} {w0:World} {r:Rho} {h:T AO} {nx:Pt} {w:World} {K:AV→T AO→Pt→Prop} {tm:S} {a:Act} {o:Oper}
theorem run_sameAddr {b b' i i':Nat} {c c':Array Value} {e e':TypeId} (hb:w.heap[b]?=some (.cells c e (0,0))) (hb':w.heap[b']?=some (.cells c' e' (0,0))) :
    (sameAddr ⟨b,i,none⟩ ⟨b',i',none⟩).run P w=.ok (decide (b=b')&&decide (i=i')) w:=by
  unfold sameAddr
  by_cases hE:b=b'
  · subst hE
    simp only [beq_self_eq_true,if_true]
    show Result.ok _ w=_
    congr 1
    rw [Bool.eq_iff_iff]
    simp
  · have hbe:(b == b')=false:=by simpa using hE
    simp only [hbe,Bool.false_eq_true,if_false,decide_eq_false hE,Bool.false_and]
    have fz:∀ j,w.frozen? ⟨b,j,none⟩=false:=fun j=>by simp [World.frozen?,hb]
    have fz':∀ j,w.frozen? ⟨b',j,none⟩=false:=fun j=>by simp [World.frozen?,hb']
    have sh:w.shape? b=some (e,c.size):=by simp [World.shape?,hb]
    have sh':w.shape? b'=some (e',c'.size):=by simp [World.shape?,hb']
    have F:∀ {α:Type} (x:Addr) (f:Bool→Sem α),(frozen x >>= f).run P w=(f (w.frozen? x)).run P w:=fun _ _=>rfl
    have S:∀ {α:Type} (x:Nat) (f:Option (TypeId × Nat)→Sem α),(shape x >>= f).run P w=(f (w.shape? x)).run P w:=fun _ _=>rfl
    have V:(noView ⟨b,i,none⟩).run P w=.ok () w:=by
      unfold noView viewAt
      rw [run_bind,S,sh]; rfl
    have V':(noView ⟨b',i',none⟩).run P w=.ok () w:=by
      unfold noView viewAt
      rw [run_bind,S,sh']; rfl
    have G:(stringish ⟨b,i,none⟩).run P w=.ok false w:=by
      unfold stringish
      rw [F,fz]
      simp only [Bool.false_eq_true,if_false]
      rw [S,sh]
      simp only []
      show Result.ok (w.frozen? ⟨b,c.size,none⟩) w=_
      rw [fz]
    have G':(stringish ⟨b',i',none⟩).run P w=.ok false w:=by
      unfold stringish
      rw [F,fz']
      simp only [Bool.false_eq_true,if_false]
      rw [S,sh']
      simp only []
      show Result.ok (w.frozen? ⟨b',c'.size,none⟩) w=_
      rw [fz']
    have M:(mayBeOne ⟨b,i,none⟩ ⟨b',i',none⟩).run P w=.ok false w:=by
      unfold mayBeOne
      rw [run_ok_bind G,run_ok_bind G']
      simp only []
      rfl
    rw [F,fz]
    simp only [Bool.false_and]
    rw [F]
    simp only [Bool.false_eq_true,if_false]
    rw [run_ok_bind V,run_ok_bind V',run_ok_bind M]
    rfl
theorem eqK_spec {ek:EK} {t:TypeId} {d:TypeDesc} {x y:Operand} {u v:AV} {c:Bool→Prop} (H:WR P w0 r h nx w) (hu:P.underlying t=some d) (hd:EqT P x y ek d) (hk:eqK ek h u v c) :
    ∃ b,c b∧(Op.equal t (conc r u) (conc r v)).run P w=.ok b w∧(∀ cs,conc r u≠.agg cs)∧(conc r u≠.nilIface∨isConst x∨isConst y) ∧
      binOp .eql t (conc r u) (conc r v)=(do pure (.bool (← Op.equal t (conc r u) (conc r v))))∧binOp .neq t (conc r u) (conc r v)=(do pure (.bool (!(← Op.equal t (conc r u) (conc r v))))):=by
  unfold eqK at hk
  split at hk
  · cases d <;> first | exact hd.elim | skip
    rw [forceB_iff] at hk
    refine ⟨_,hk,?_,by simp [conc],.inl (by simp [conc]),by simp only [conc]; rfl,by simp only [conc]; rfl⟩
    rw [Op.equal,show Op.maxDepth=9999+1 from rfl,Op.equalIn,run_ok_bind (run_underlying hu)]; simp only [conc]; rfl
  · cases d <;> first | exact hd.elim | skip
    refine ⟨_,hk,?_,by simp [conc],.inl (by simp [conc]),by simp only [conc]; rfl,by simp only [conc]; rfl⟩
    rw [Op.equal,show Op.maxDepth=9999+1 from rfl,Op.equalIn,run_ok_bind (run_underlying hu)]; simp only [conc]; rfl
  · cases d <;> first | exact hd.elim | skip
    refine ⟨_,hk,?_,by simp [conc],.inl (by simp [conc]),by simp only [conc]; rfl,by simp only [conc]; rfl⟩
    rw [Op.equal,show Op.maxDepth=9999+1 from rfl,Op.equalIn,run_ok_bind (run_underlying hu)]; simp only [conc]; rfl
  · cases d <;> first | exact hd.elim | skip
    refine ⟨_,hk,?_,by simp [conc],.inl (by simp [conc]),by simp only [conc]; rfl,by simp only [conc]; rfl⟩
    rw [Op.equal,show Op.maxDepth=9999+1 from rfl,Op.equalIn,run_ok_bind (run_underlying hu)]; simp only [conc]; rfl
  · rename_i k i k' i'
    cases d <;> first | exact hd.elim | skip
    rename_i e
    obtain ⟨j,hj,hz⟩:=hd
    obtain ⟨b,hb,hk⟩:=(T.getK_iff _ _ _).1 hk
    split at hk
    · rename_i vs e1
      obtain ⟨b',hb',hk⟩:=(T.getK_iff _ _ _).1 hk
      split at hk
      · rename_i vs' e2
        rw [forceB_iff] at hk
        refine ⟨_,hk,?_,by simp [conc],.inl (by simp [conc]),by simp only [conc]; rfl,by simp only [conc]; rfl⟩
        obtain ⟨_,g1,-⟩:=H.block hb
        obtain ⟨_,g2,-⟩:=H.block hb'
        rw [Op.equal,show Op.maxDepth=9999+1 from rfl,Op.equalIn,run_ok_bind (run_underlying hu)]
        simp only [conc]
        rw [run_ok_bind (run_sizeOf hj),if_pos hz,run_sameAddr g1 g2]
        congr 1
        rw [Bool.eq_iff_iff]
        simp only [Bool.and_eq_true,decide_eq_true_eq,Nat.beq_eq]
        refine and_congr_left fun _=>⟨fun he=>?_,fun he=>?_⟩
        · rw [H.apart k k' _ _ hb hb' he]; exact eqP_refl _
        · rw [eqP_spec he]
      · exact hk.elim
    · exact hk.elim
  all_goals first
    | exact hk.elim
    | (cases d <;> first | exact hd.elim | skip
       refine ⟨_,hk,?_,by simp [conc],by first | exact Or.inr hd | exact Or.inl (by simp [conc]),by simp only [conc]; rfl,by simp only [conc]; rfl⟩
       rw [Op.equal,show Op.maxDepth=9999+1 from rfl,Op.equalIn,run_ok_bind (run_underlying hu)]; simp only [conc]; rfl)
theorem s_eq (H:WR P w0 r h nx w) (ht:TR r tm a.tmps) {op:BinOp} {ek:EK} {neg:Bool} {t u:TypeId} {d:TypeDesc} {x y:Operand} {x' y':AX} (hop':op=.eql∧neg=false∨op=.neq∧neg=true) (hu:P.underlying t=some d) (hd:EqT P x y ek d) (hx:Cx x x') (hy:Cx y y') (hop:o.op=.binOp op t x y u) (hk:stepV (.eq ek neg x' y') tm h nx K):Yields P w0 r h w (execOp a.eval o) K:=by
  simp only [stepV,oEq] at hk
  obtain ⟨v,h1,h2,h3⟩:=evK_spec hx ht hk
  obtain ⟨v',h1,h4,h5⟩:=evK_spec hy ht h1
  obtain ⟨b,h1,e1,e2,e3,e4,e5⟩:=eqK_spec H hu hd h1
  rw [forceB_iff] at h1
  simp only [execOp,hop]
  refine Yields.pureV H h1 ?_ (by simp [okV])
  rw [h2,h4,run_ok_bind (run_eqGuard e2 e3)]
  rcases hop' with ⟨rfl,rfl⟩ | ⟨rfl,rfl⟩
  · rw [e4,run_ok_bind e1]; simp only [conc]; cases b <;> rfl
  · rw [e5,run_ok_bind e1]; simp only [conc]; cases b <;> rfl
theorem s_mkM (H:WR P w0 r h nx w) {t:TypeId} (hop:o.op=.makeMap t none) (hk:stepV .mkM tm h nx K):Yields P w0 r h w (execOp a.eval o) K:=by
  simp only [stepV,oMkM] at hk
  obtain ⟨h1,h2⟩:=H.alloc (.map [] 0) 0 (.map #[] 0) (by simp [okO]) ⟨[],0,rfl,.nil,.nil⟩
  refine ⟨_,_,_,_,.map nx,_,setK_forceP hk,?_,.inl rfl,h1,h2,?_⟩
  · simp only [execOp,hop]
    refine run_value ?_
    simp only [conc]
    rw [r.more_blk]; rfl
  · exact Or.inl rfl
theorem bdK_spec (ht:TR r tm a.tmps) {x:Option Operand} {x':Option AX} {d n:Nat} {c:Nat→Prop} (hx:Cxo x x') (hk:bdK tm x' d n c):(x=none∧c d)∨∃ y k j,x=some y∧a.eval y=.int k (Int.ofNat j)∧j≤n∧c j:=by
  cases x with
  | none =>
    cases x' with
    | none=>exact .inl ⟨rfl,hk⟩
    | some _=>exact hx.elim
  | some y =>
    cases x' with
    | none=>exact hx.elim
    | some y' =>
      simp only [bdK] at hk
      obtain ⟨v,h1,h2,h3⟩:=evK_spec hx ht hk
      split at h1
      · rename_i k j
        obtain ⟨hl,h1⟩:=brec h1
        exact .inr ⟨y,k,j,rfl,by rw [h2]; simp only [conc],Nat.le_of_ble_eq_true hl,h1⟩
      · exact h1.elim
theorem run_sliceBound {k:IntKind} {j n:Nat} {code:BoundsCode} (h:j≤n):(Instr.sliceBound (.int k (Int.ofNat j)) n code).run P w=.ok j w:=by
  unfold Instr.sliceBound
  simp only [asIntOf]
  rw [run_ok_bind (run_pure P _ w)]
  simp only []
  rw [if_pos (by constructor <;> simp <;> omega)]
  rfl
theorem s_slS (H:WR P w0 r h nx w) (ht:TR r tm a.tmps) {t:TypeId} {x:Operand} {lo hi:Option Operand} {x':AX} {lo' hi':Option AX} (hu:P.underlying t=some .string) (hx:Cx x x') (hlo:Cxo lo lo') (hhi:Cxo hi hi') (hop:o.op=.slice t x lo hi none) (hk:stepV (.slS x' lo' hi') tm h nx K):Yields P w0 r h w (execOp a.eval o) K:=by
  simp only [stepV,oSlS] at hk
  obtain ⟨v,h1,h2,h3⟩:=evK_spec hx ht hk
  split at h1
  · rename_i s
    simp only [okV] at h3
    have key:∀ p q,p≤q→q≤s.length→(Instr.sliceBounds false (bytesOf s).size (bytesOf s).size (lo.map a.eval) (hi.map a.eval) none).run P w=.ok (p,q,(bytesOf s).size) w→(forceL ((s.drop p).take (q - p)) fun s=>K (.str s) h nx)→Yields P w0 r h w (execOp a.eval o) K:=by
      intro p q hpq hq hr hK
      rw [forceL_iff] at hK
      simp only [execOp,hop]
      refine Yields.pureV H hK ?_ (by simp only [okV]; exact fun b hb=>h3 b (List.mem_of_mem_drop (List.mem_of_mem_take hb)))
      unfold Instr.sliceAt
      rw [run_ok_bind (run_underlying hu)]
      simp only []
      unfold Instr.slice
      rw [run_ok_bind (run_underlying hu),h2]
      simp only [conc,Option.map_none,Option.isSome_none,Bool.false_eq_true,if_false]
      rw [run_ok_bind hr]
      show Result.ok (Value.string ((bytesOf s).extract p q)) w=_
      congr 2
      apply ByteArray.ext
      rw [ByteArray.data_extract]
      simp [bytesOf,List.map_take,List.map_drop,List.extract_eq_take_drop]
    rcases bdK_spec ht hhi h1 with ⟨rfl,h1⟩ | ⟨y,k,q,rfl,hy,hq,h1⟩
    · rcases bdK_spec ht hlo h1 with ⟨rfl,h1⟩ | ⟨y',k',p,rfl,hy',hp,h1⟩
      · refine key 0 s.length (Nat.zero_le _) (Nat.le_refl _) ?_ h1
        rw [bytes_size]; rfl
      · refine key p s.length hp (Nat.le_refl _) ?_ h1
        rw [bytes_size]
        simp only [Option.map_some,Option.map_none,hy',Instr.sliceBounds]
        rw [run_ok_bind (run_pure P _ w),run_ok_bind (run_pure P _ w),run_ok_bind (run_sliceBound hp)]
        rfl
    · rcases bdK_spec ht hlo h1 with ⟨rfl,h1⟩ | ⟨y',k',p,rfl,hy',hp,h1⟩
      · refine key 0 q (Nat.zero_le _) hq ?_ h1
        rw [bytes_size]
        simp only [Option.map_some,Option.map_none,hy,Instr.sliceBounds]
        rw [run_ok_bind (run_pure P _ w),run_ok_bind (run_sliceBound hq),run_ok_bind (run_pure P _ w)]
        rfl
      · refine key p q hp hq ?_ h1
        rw [bytes_size]
        simp only [Option.map_some,hy,hy',Instr.sliceBounds]
        rw [run_ok_bind (run_pure P _ w),run_ok_bind (run_sliceBound hq),run_ok_bind (run_sliceBound hp)]
        rfl
  · exact h1.elim
end
end Go.Proofs.YtidggaoacldgkaaGreatDoor.X

/- An executor for closed calls, 10: slice expressions, make. -/
namespace Go.Proofs.YtidggaoacldgkaaGreatDoor.X
open Go.RowKit
section
variable {P:Program} {w0:World} {r:Rho} {h:T AO} {nx:Pt} {w:World} {K:AV→T AO→Pt→Prop} {tm:S} {a:Act} {o:Oper}
theorem run_bounds {len cap p q m:Nat} {lo hi mx:Option Value}
  (hm:(mx=none∧m=cap)∨∃ k,mx=some (.int k (Int.ofNat m))∧m≤cap)
  (hq:(hi=none∧mx=none∧q=len)∨∃ k,hi=some (.int k (Int.ofNat q))∧q≤m)
  (hp:(lo=none∧p=0)∨∃ k,lo=some (.int k (Int.ofNat p))∧p≤q):(Instr.sliceBounds true len cap lo hi mx).run P w=.ok (p,q,m) w:=by
 unfold Instr.sliceBounds
 rcases hm with ⟨rfl,rfl⟩ | ⟨km,rfl,hm⟩
 ·rcases hq with ⟨rfl,-,rfl⟩ | ⟨kq,rfl,hq⟩
  ·rcases hp with ⟨rfl,rfl⟩ | ⟨kp,rfl,hp⟩
   ·rfl
   ·simp only []
    rw [run_ok_bind (run_pure P _ w),run_ok_bind (run_pure P _ w),run_ok_bind (run_sliceBound hp)]; rfl
  ·rcases hp with ⟨rfl,rfl⟩ | ⟨kp,rfl,hp⟩
   ·simp only []
    rw [run_ok_bind (run_pure P _ w),run_ok_bind (run_sliceBound hq)]; rfl
   ·simp only []
    rw [run_ok_bind (run_pure P _ w),run_ok_bind (run_sliceBound hq),run_ok_bind (run_sliceBound hp)]; rfl
 ·rcases hq with ⟨-,h,-⟩ | ⟨kq,rfl,hq⟩
  ·cases h
  ·rcases hp with ⟨rfl,rfl⟩ | ⟨kp,rfl,hp⟩
   ·simp only []
    rw [run_ok_bind (run_sliceBound hm),run_ok_bind (run_sliceBound hq)]; rfl
   ·simp only []
    rw [run_ok_bind (run_sliceBound hm),run_ok_bind (run_sliceBound hq),run_ok_bind (run_sliceBound hp)]; rfl
theorem run_slice {t e:TypeId} {j:TypeInfo} {x:Value} {A:Option Addr} {len cap p q m:Nat} {lo hi mx:Option Value} (hu:P.underlying t=some (.slice e)) (hj:P.info? e=some j) (hx:x=.slice A len cap)
  (hb:(Instr.sliceBounds true len cap lo hi mx).run P w=.ok (p,q,m) w):(Instr.sliceAt t x lo hi mx).run P w=.ok (.slice (if m=p then A else A.map (·.add (p*j.size))) (q - p) (m - p)) w:=by
 subst hx
 unfold Instr.sliceAt
 rw [run_ok_bind (run_underlying hu)]
 simp only []
 unfold Instr.slice
 rw [run_ok_bind (run_underlying hu)]
 simp only []
 rw [run_ok_bind hb,run_ok_bind (run_sizeOf hj)]
 rfl
theorem bd_some (ht:TR r tm a.tmps) {x:Option Operand} {x':Option AX} {d n:Nat} {c:Nat→Prop} (hx:Cxo x x') (hk:bdK tm x' d n c):∃ m,c m∧((x.map a.eval=none∧m=d)∨∃ k,x.map a.eval=some (.int k (Int.ofNat m))∧m≤n):=by
 rcases bdK_spec ht hx hk with ⟨rfl,h1⟩ | ⟨y,k,j,rfl,hy,hj,h1⟩
 ·exact ⟨d,h1,.inl ⟨rfl,rfl⟩⟩
 ·exact ⟨j,h1,.inr ⟨k,by simp [hy],hj⟩⟩
theorem s_sl (H:WR P w0 r h nx w) (ht:TR r tm a.tmps) {t e:TypeId} {j:TypeInfo} {x:Operand} {lo hi mx:Option Operand} {x':AX} {lo' hi' mx':Option AX} (hu:P.underlying t=some (.slice e)) (hj:P.info? e=some j) (hx:Cx x x') (hlo:Cxo lo lo') (hhi:Cxo hi hi') (hmx:Cxo mx mx') (hmh:mx≠none→hi≠none) (hop:o.op=.slice t x lo hi mx) (hk:stepV (.sl j.size x' lo' hi' mx') tm h nx K):Yields P w0 r h w (execOp a.eval o) K:=by
 simp only [stepV,oSl] at hk
 obtain ⟨v,h1,h2,h3⟩:=evK_spec hx ht hk
 have fin:∀ u:AV,K u h nx→okV r.has u→(Instr.sliceAt t (conc r v) (lo.map a.eval) (hi.map a.eval) (mx.map a.eval)).run P w=.ok (conc r u) w→Yields P w0 r h w (execOp a.eval o) K:=fun u hK hok hr=>by
  simp only [execOp,hop]
  refine Yields.pureV H hK ?_ hok
  rw [h2]; exact hr
 have hnn:∀ {α:Type} (f:Operand→α),mx.map f≠none→hi.map f≠none:=fun f hm hh=>hmh (by simpa using hm) (by simpa using hh)
 split at h1
 ·
  obtain ⟨m,h1,em⟩:=bd_some ht hmx h1
  obtain ⟨q,h1,eq⟩:=bd_some ht hhi h1
  obtain ⟨p,h1,ep⟩:=bd_some ht hlo h1
  have m0:m=0:=by rcases em with ⟨-,e⟩ | ⟨k,-,e⟩ <;> omega
  have q0:q=0:=by rcases eq with ⟨-,e⟩ | ⟨k,-,e⟩ <;> omega
  have p0:p=0:=by rcases ep with ⟨-,e⟩ | ⟨k,-,e⟩ <;> omega
  subst m0 q0 p0
  refine fin _ h1 (by simp [okV]) ?_
  rw [run_slice (A:=none) (len:=0) (cap:=0) (p:=0) (q:=0) (m:=0) hu hj (by simp only [conc]) (run_bounds ?_ ?_ ?_)]
  ·simp [conc]
  ·exact em
  ·rcases eq with ⟨e,-⟩ | ⟨k,e,-⟩
   ·by_cases hm:mx.map a.eval=none
    ·exact .inl ⟨e,hm,rfl⟩
    ·exact absurd e (hnn _ hm)
   ·exact .inr ⟨k,e,Nat.le_refl _⟩
  ·rcases ep with ⟨e,-⟩ | ⟨k,e,-⟩
   ·exact .inl ⟨e,rfl⟩
   ·exact .inr ⟨k,e,Nat.le_refl _⟩
 ·
  rename_i k i i'
  split at h1
  ·have mn:mx.map a.eval=none:=by cases mx with | none=>rfl | some _=>exact hmx.elim
   obtain ⟨q,h1,eq⟩:=bd_some ht hhi h1
   obtain ⟨p,h1,ep⟩:=bd_some ht hlo h1
   have q0:q=0:=by rcases eq with ⟨-,e⟩ | ⟨k,-,e⟩ <;> omega
   have p0:p=0:=by rcases ep with ⟨-,e⟩ | ⟨k,-,e⟩ <;> omega
   subst q0 p0
   refine fin _ h1 h3 ?_
   rw [run_slice (A:=some ⟨r.blk k,if r.ext k=0 then i else i',none⟩) (len:=0) (cap:=r.ext k) (p:=0) (q:=0) (m:=r.ext k) hu hj (by simp only [conc]) (run_bounds (.inl ⟨mn,rfl⟩) ?_ ?_)]
   ·simp only [conc,Option.map_some,Nat.zero_mul,add_none,Nat.add_zero,Nat.sub_zero]
    split <;> rfl
   ·rcases eq with ⟨e,-⟩ | ⟨k,e,-⟩
    ·exact .inl ⟨e,mn,rfl⟩
    ·exact .inr ⟨k,e,Nat.zero_le _⟩
   ·rcases ep with ⟨e,-⟩ | ⟨k,e,-⟩
    ·exact .inl ⟨e,rfl⟩
    ·exact .inr ⟨k,e,Nat.le_refl _⟩
  ·exact h1.elim
 ·rename_i k i l c op
  simp only [okV] at h3
  split at h1
  ·
   have mn:mx.map a.eval=none:=by cases mx with | none=>rfl | some _=>exact hmx.elim
   obtain ⟨q,h1,eq⟩:=bd_some ht hhi h1
   obtain ⟨p,h1,ep⟩:=bd_some ht hlo h1
   have hpq:p≤q:=by rcases ep with ⟨-,e⟩ | ⟨k,-,e⟩ <;> omega
   have B:∀ C,c≤C→(Instr.sliceBounds true l C (lo.map a.eval) (hi.map a.eval) (mx.map a.eval)).run P w=.ok (p,q,C) w:=by
    intro C hC
    refine run_bounds (.inl ⟨mn,rfl⟩) ?_ ?_
    ·rcases eq with ⟨e,e'⟩ | ⟨k,e,e'⟩
     ·exact .inl ⟨e,mn,e'⟩
     ·exact .inr ⟨k,e,by omega⟩
    ·rcases ep with ⟨e,e'⟩ | ⟨k,e,-⟩
     ·exact .inl ⟨e,e'⟩
     ·exact .inr ⟨k,e,hpq⟩
   cases hb:Nat.beq c p with
   | false =>
    rw [hb] at h1
    obtain ⟨hlt,h1⟩:=brec h1
    have hlt:p<c:=by simpa [Nat.blt_eq] using hlt
    rw [forceN_iff,forceN_iff,forceN_iff] at h1
    refine fin _ h1 (by simp only [okV]; exact h3) ?_
    cases op with
    | false =>
     rw [run_slice (A:=some ⟨r.blk k,i,none⟩) (len:=l) (cap:=c) (p:=p) (q:=q) (m:=c) hu hj (by simp [conc]) (B c (Nat.le_refl _))]
     rw [if_neg (by omega)]
     simp [conc,add_none]
    | true =>
     rw [run_slice (A:=some ⟨r.blk k,i,none⟩) (len:=l) (cap:=c+r.ext k) (p:=p) (q:=q) (m:=c+r.ext k) hu hj (by simp [conc]) (B _ (Nat.le_add_right _ _))]
     rw [if_neg (by omega)]
     simp only [conc,if_true,Option.map_some,add_none]
     congr 2; omega
   | true =>
    rw [hb] at h1
    have hcp:c=p:=Nat.eq_of_beq_eq_true hb
    cases op with
    | false =>
     have h1:forceN (q - p) fun l=>K (.sl k i l 0 false) h nx:=h1
     rw [forceN_iff] at h1
     refine fin _ h1 (by simp only [okV]; exact h3) ?_
     rw [run_slice (A:=some ⟨r.blk k,i,none⟩) (len:=l) (cap:=c) (p:=p) (q:=q) (m:=c) hu hj (by simp [conc]) (B c (Nat.le_refl _))]
     rw [if_pos hcp,hcp]
     simp [conc]
    | true =>
     obtain ⟨hqp,h1⟩:=brec h1
     have hqp:=Nat.eq_of_beq_eq_true hqp
     rw [forceN_iff] at h1
     refine fin _ h1 (by simp only [okV]; exact h3) ?_
     rw [run_slice (A:=some ⟨r.blk k,i,none⟩) (len:=l) (cap:=c+r.ext k) (p:=p) (q:=q) (m:=c+r.ext k) hu hj (by simp [conc]) (B _ (Nat.le_add_right _ _))]
     simp only [conc,Option.map_some,add_none]
     have e1:q - p=0:=by omega
     have e2:c+r.ext k - p=r.ext k:=by omega
     rw [e1,e2]
     by_cases he:r.ext k=0
     ·rw [if_pos (by omega),if_pos he]
     ·rw [if_neg (by omega),if_neg he]
  ·
   rename_i mx1
   obtain ⟨m,h1,em⟩:=bd_some ht hmx h1
   obtain ⟨q,h1,eq⟩:=bd_some ht hhi h1
   obtain ⟨p,h1,ep⟩:=bd_some ht hlo h1
   have mn:mx.map a.eval≠none:=by cases mx with | none=>exact hmx.elim | some _=>simp
   have hpq:p≤q:=by rcases ep with ⟨-,e⟩ | ⟨k,-,e⟩ <;> omega
   obtain ⟨km,em,hmc⟩:∃ k,mx.map a.eval=some (.int k (Int.ofNat m))∧m≤c:=em.resolve_left fun e=>mn e.1
   obtain ⟨kq,eq,hqm⟩:∃ k,hi.map a.eval=some (.int k (Int.ofNat q))∧q≤m:=eq.resolve_left fun e=>hnn _ mn e.1
   have B:∀ C,c≤C→(Instr.sliceBounds true l C (lo.map a.eval) (hi.map a.eval) (mx.map a.eval)).run P w=.ok (p,q,m) w:=by
    intro C hC
    refine run_bounds (.inr ⟨km,em,by omega⟩) (.inr ⟨kq,eq,hqm⟩) ?_
    rcases ep with ⟨e,e'⟩ | ⟨k,e,-⟩
    ·exact .inl ⟨e,e'⟩
    ·exact .inr ⟨k,e,hpq⟩
   have R:(Instr.sliceAt t (conc r (.sl k i l c op)) (lo.map a.eval) (hi.map a.eval) (mx.map a.eval)).run P w=.ok (.slice (if m=p then some ⟨r.blk k,i,none⟩ else some ⟨r.blk k,i+p*j.size,none⟩) (q - p) (m - p)) w:=by
    rw [run_slice (A:=some ⟨r.blk k,i,none⟩) (len:=l) (cap:=if op=true then c+r.ext k else c) (p:=p) (q:=q) (m:=m) hu hj (by simp [conc]) (B _ (by split <;> omega))]
    simp [add_none]
   cases hb:Nat.beq m p with
   | false =>
    rw [hb] at h1
    have hmp:m≠p:=fun e=>by rw [e,Nat.beq_refl] at hb; cases hb
    have h1:forceN (i+p*j.size) fun o=>forceN (q - p) fun l=>forceN (m - p) fun c=>K (.sl k o l c false) h nx:=h1
    rw [forceN_iff,forceN_iff,forceN_iff] at h1
    refine fin _ h1 (by simp only [okV]; exact h3) ?_
    rw [R,if_neg hmp]
    simp [conc]
   | true =>
    rw [hb] at h1
    have hmp:m=p:=Nat.eq_of_beq_eq_true hb
    have h1:forceN (q - p) fun l=>K (.sl k i l 0 false) h nx:=h1
    rw [forceN_iff] at h1
    refine fin _ h1 (by simp only [okV]; exact h3) ?_
    rw [R,if_pos hmp,hmp]
    simp [conc]
 ·exact h1.elim
end
end Go.Proofs.YtidggaoacldgkaaGreatDoor.X

/- An executor for closed calls, 11: make of slices, append. -/
namespace Go.Proofs.YtidggaoacldgkaaGreatDoor.X
open Go.RowKit
theorem zerosL_get (z:List AV) (hz:0<z.length):∀ (c i:Nat),(zerosL z c)[i]?=if i<c*z.length then z[i % z.length]? else none
 | 0,i=>by simp [zerosL]
 | c+1,i=>by
  rw [zerosL]
  by_cases hi:i<z.length
  ·rw [List.getElem?_append_left hi,if_pos (by rw [Nat.succ_mul]; omega),Nat.mod_eq_of_lt hi]
  ·rw [List.getElem?_append_right (by omega),zerosL_get z hz c]
   have e:(i - z.length) % z.length=i % z.length:=by
    have:i=(i - z.length)+z.length:=by omega
    rw [this,Nat.add_mod_right,Nat.add_sub_cancel]
   rw [e]
   have:i - z.length<c*z.length↔i<(c+1)*z.length:=by rw [Nat.succ_mul]; omega
   simp only [this]
theorem okL_zeros {n:Pt→Prop} {z:List AV} (h:okL n z):∀ c,okL n (zerosL z c)
 | 0=>by simp [zerosL,okL]
 | c+1=>by rw [zerosL,okL_append]; exact ⟨h,okL_zeros h c⟩
theorem zeros_real {z:Value} {v:AV} {r:Rho} (hv:Lone v z) (h0:0<(cellsA v).length) (c:Nat):(concL r (zerosL (cellsA v) c)).toArray=(Array.range (c*(cellsA v).length)).map (z.cells[· % z.cells.size]!):=by
 have hzc:z.cells=(concL r (cellsA v)).toArray:=by rw [← hv.1 r,conc_cells]
 apply Array.ext_getElem?
 intro i
 have hs:z.cells.size=(cellsA v).length:=by rw [hzc]; simp [concL_length]
 rw [Array.getElem?_map,List.getElem?_toArray,concL_get,zerosL_get _ h0]
 by_cases hi:i<c*(cellsA v).length
 ·rw [if_pos hi]
  have hm:i % (cellsA v).length<(cellsA v).length:=Nat.mod_lt _ h0
  have hr:(Array.range (c*(cellsA v).length))[i]?=some i:=by simp [hi]
  rw [hr]
  simp only [Option.map_some,hs]
  rw [List.getElem?_eq_getElem hm]
  simp only [Option.map_some]
  congr 1
  have h3:z.cells[i % (cellsA v).length]?=some (conc r (cellsA v)[i % (cellsA v).length]):=by
   rw [hzc,List.getElem?_toArray,concL_get,List.getElem?_eq_getElem hm]; rfl
  rw [getElem!_def,h3]
 ·rw [if_neg hi]
  have hr:(Array.range (c*(cellsA v).length))[i]?=none:=by simp; omega
  rw [hr]; rfl
section
variable {P:Program} {w0:World} {r:Rho} {h:T AO} {nx:Pt} {w:World} {K:AV→T AO→Pt→Prop} {tm:S} {a:Act} {o:Oper}
theorem wrap_small {n:Nat} (h:n≤1000000000000):IntKind.i64.wrap (Int.ofNat n)=Int.ofNat n:=by
 have e1:(Int.ofNat n) % (2 ^ 64:Int)=Int.ofNat n:=Int.emod_eq_of_lt (by simp) (by simp; omega)
 have e2:¬ ((Int.ofNat n:Int)≥(2 ^ 63:Int)):=by simp; omega
 show (if (IntKind.i64.signed&&decide ((Int.ofNat n) % (2 ^ 64:Int)≥(2 ^ 63:Int)))=true then (Int.ofNat n) % (2 ^ 64:Int) - (2 ^ 64:Int) else (Int.ofNat n) % (2 ^ 64:Int))=_
 rw [e1]
 simp only [e2,decide_false,Bool.and_false,Bool.false_eq_true,if_false]
theorem run_askRoom {n:Nat}:(askRoom n).run P w=.ok () w:=by
 unfold askRoom; split <;> rfl
theorem s_mkS (H:WR P w0 r h nx w) (ht:TR r tm a.tmps) {t e:TypeId} {j:TypeInfo} {z:Value} {v:AV} {l c:Operand} {l' c':AX} (hu:P.underlying t=some (.slice e)) (hj:P.info? e=some j) (hz:j.zero=some z) (hv:Lone v z) (hl:(cellsA v).length=j.size) (h0:0<j.size) (hby:j.bytes≤1048576) (hx:Cx l l') (hy:Cx c c') (hop:o.op=.makeSlice t l c) (hk:stepV (.mkS e j.size (cellsA v) l' c') tm h nx K):Yields P w0 r h w (execOp a.eval o) K:=by
 simp only [stepV,oMkS] at hk
 obtain ⟨u,h1,h2,h3⟩:=evK_spec hx ht hk
 obtain ⟨u',h1,h4,h5⟩:=evK_spec hy ht h1
 split at h1
 ·rename_i k1 l1 k2 c1 _
  obtain ⟨hb,h1⟩:=brec h1
  rw [forceL_iff] at h1
  simp only [Bool.and_eq_true,Nat.ble_eq] at hb
  have hc:c1≤16777216:=Nat.le_trans (Nat.le_mul_of_pos_left _ h0) hb.2
  refine Yields.slice H (okL_zeros (okL_cells (hv.2 _)) c1) (setK_forceP h1) fun x w' hx=>?_
  simp only [execOp,hop]
  refine run_value ?_
  unfold Instr.makeSlice
  rw [run_ok_bind (run_underlying hu),h2,h4]
  simp only [conc,asInt,asIntOf]
  have I:∀ (k:IntKind) (n:Int),((do Pure.pure (← (Pure.pure (k,n):Sem (IntKind × Int))).2):Sem Int).run P w=.ok n w:=fun _ _=>rfl
  rw [run_ok_bind (I _ _),run_ok_bind (I _ _),run_ok_bind (run_typeInfo hj)]
  rw [wrap_small (n:=l1) (by omega),wrap_small (n:=c1) (by omega)]
  have hbc:(j.bytes:Int)*(Int.ofNat c1)≤2 ^ 48:=by
   have e1:j.bytes*c1≤17592186044416:=Nat.mul_le_mul hby hc
   have e2:((j.bytes*c1:Nat):Int)≤((17592186044416:Nat):Int):=Int.ofNat_le.2 e1
   rw [Int.natCast_mul] at e2
   exact Int.le_trans e2 (by decide)
  rw [if_neg (by
   simp only [Bool.or_eq_true,decide_eq_true_eq,Int.ofNat_eq_natCast,not_or] at hbc ⊢
   refine ⟨⟨?_,?_⟩,?_⟩ <;> omega)]
  rw [run_ok_bind run_askRoom,run_ok_bind (run_sizeOf hj)]
  simp only [Int.toNat_natCast,Int.ofNat_eq_natCast]
  by_cases hn:c1*j.size=0
  ·have hc0:c1=0:=by rcases Nat.mul_eq_zero.1 hn with e | e <;> omega
   subst hc0
   rw [if_pos hn,run_ok_bind (run_pure P _ w)]
   rw [Nat.zero_mul,show ∀ f:Nat→Value,(Array.range 0).map f=#[] from fun f=>by rw [show (Array.range 0)=#[] from rfl]; exact Array.map_empty]
   have hx:(newRow e #[]).run P w=.ok x w':=by simpa [zerosL,concL] using hx
   rw [run_ok_bind hx]; rfl
  ·rw [if_neg hn,run_ok_bind (run_zeroValue hj hz),run_ok_bind (run_pure P _ w)]
   rw [← hl,← zeros_real (r:=r) hv (by omega) c1,run_ok_bind hx]; rfl
 ·exact h1.elim
end
end Go.Proofs.YtidggaoacldgkaaGreatDoor.X
