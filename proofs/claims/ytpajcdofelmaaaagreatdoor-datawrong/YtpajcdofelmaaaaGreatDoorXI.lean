/- An executor for closed calls, 9: comparing addresses and nils; new slices and maps; slice expressions. -/
import Derived.Test.YtpajcdofelmaaaaGreatDoorXH
namespace Go.Proofs.YtpajcdofelmaaaaGreatDoor.X
open Go.RowKit
section
variable {P:Program} {w0:World} {r:Rho} {h:T AO} {nx:Pt} {w:World} {K:AV→T AO→Pt→Prop} {tm:S} {a:Act} {o:Oper}
theorem run_sameAddr {b b' i i':Nat} {c c':Array Value} {e e':TypeId} (hb:w.heap[b]?=some (.cells c e (0,0))) (hb':w.heap[b']?=some (.cells c' e' (0,0))) :
    (sameAddr ⟨b,i,none⟩ ⟨b',i',none⟩).run P w=.ok (decide (b=b')&&decide (i=i')) w:=by
  unfold sameAddr
  by_cases hE:b=b'
  · subst hE
    simp only [beq_self_eq_true,if_true]
    show Result.ok _ w=_
    congr 1
    rw [Bool.eq_iff_iff]
    simp
  · have hbe:(b == b')=false:=by simpa using hE
    simp only [hbe,Bool.false_eq_true,if_false,decide_eq_false hE,Bool.false_and]
    have fz:∀ j,w.frozen? ⟨b,j,none⟩=false:=fun j=>by simp [World.frozen?,hb]
    have fz':∀ j,w.frozen? ⟨b',j,none⟩=false:=fun j=>by simp [World.frozen?,hb']
    have sh:w.shape? b=some (e,c.size):=by simp [World.shape?,hb]
    have sh':w.shape? b'=some (e',c'.size):=by simp [World.shape?,hb']
    have F:∀ {α:Type} (x:Addr) (f:Bool→Sem α),(frozen x >>= f).run P w=(f (w.frozen? x)).run P w:=fun _ _=>rfl
    have S:∀ {α:Type} (x:Nat) (f:Option (TypeId × Nat)→Sem α),(shape x >>= f).run P w=(f (w.shape? x)).run P w:=fun _ _=>rfl
    have V:(noView ⟨b,i,none⟩).run P w=.ok () w:=by
      unfold noView viewAt
      rw [run_bind,S,sh]; rfl
    have V':(noView ⟨b',i',none⟩).run P w=.ok () w:=by
      unfold noView viewAt
      rw [run_bind,S,sh']; rfl
    have G:(stringish ⟨b,i,none⟩).run P w=.ok false w:=by
      unfold stringish
      rw [F,fz]
      simp only [Bool.false_eq_true,if_false]
      rw [S,sh]
      simp only []
      show Result.ok (w.frozen? ⟨b,c.size,none⟩) w=_
      rw [fz]
    have G':(stringish ⟨b',i',none⟩).run P w=.ok false w:=by
      unfold stringish
      rw [F,fz']
      simp only [Bool.false_eq_true,if_false]
      rw [S,sh']
      simp only []
      show Result.ok (w.frozen? ⟨b',c'.size,none⟩) w=_
      rw [fz']
    have M:(mayBeOne ⟨b,i,none⟩ ⟨b',i',none⟩).run P w=.ok false w:=by
      unfold mayBeOne
      rw [run_ok_bind G,run_ok_bind G']
      simp only []
      rfl
    rw [F,fz]
    simp only [Bool.false_and]
    rw [F]
    simp only [Bool.false_eq_true,if_false]
    rw [run_ok_bind V,run_ok_bind V',run_ok_bind M]
    rfl
theorem eqK_spec {ek:EK} {t:TypeId} {d:TypeDesc} {x y:Operand} {u v:AV} {c:Bool→Prop} (H:WR P w0 r h nx w) (hu:P.underlying t=some d) (hd:EqT P x y ek d) (hk:eqK ek h u v c) :
    ∃ b,c b∧(Op.equal t (conc r u) (conc r v)).run P w=.ok b w∧(∀ cs,conc r u≠.agg cs)∧(conc r u≠.nilIface∨isConst x∨isConst y) ∧
      binOp .eql t (conc r u) (conc r v)=(do pure (.bool (← Op.equal t (conc r u) (conc r v))))∧binOp .neq t (conc r u) (conc r v)=(do pure (.bool (!(← Op.equal t (conc r u) (conc r v))))):=by
  unfold eqK at hk
  split at hk
  · cases d <;> first | exact hd.elim | skip
    rw [forceB_iff] at hk
    refine ⟨_,hk,?_,by simp [conc],.inl (by simp [conc]),by simp only [conc]; rfl,by simp only [conc]; rfl⟩
    rw [Op.equal,show Op.maxDepth=9999+1 from rfl,Op.equalIn,run_ok_bind (run_underlying hu)]; simp only [conc]; rfl
  · cases d <;> first | exact hd.elim | skip
    refine ⟨_,hk,?_,by simp [conc],.inl (by simp [conc]),by simp only [conc]; rfl,by simp only [conc]; rfl⟩
    rw [Op.equal,show Op.maxDepth=9999+1 from rfl,Op.equalIn,run_ok_bind (run_underlying hu)]; simp only [conc]; rfl
  · cases d <;> first | exact hd.elim | skip
    refine ⟨_,hk,?_,by simp [conc],.inl (by simp [conc]),by simp only [conc]; rfl,by simp only [conc]; rfl⟩
    rw [Op.equal,show Op.maxDepth=9999+1 from rfl,Op.equalIn,run_ok_bind (run_underlying hu)]; simp only [conc]; rfl
  · cases d <;> first | exact hd.elim | skip
    refine ⟨_,hk,?_,by simp [conc],.inl (by simp [conc]),by simp only [conc]; rfl,by simp only [conc]; rfl⟩
    rw [Op.equal,show Op.maxDepth=9999+1 from rfl,Op.equalIn,run_ok_bind (run_underlying hu)]; simp only [conc]; rfl
  · rename_i k i k' i'
    cases d <;> first | exact hd.elim | skip
    rename_i e
    obtain ⟨j,hj,hz⟩:=hd
    obtain ⟨b,hb,hk⟩:=(T.getK_iff _ _ _).1 hk
    split at hk
    · rename_i vs e1
      obtain ⟨b',hb',hk⟩:=(T.getK_iff _ _ _).1 hk
      split at hk
      · rename_i vs' e2
        rw [forceB_iff] at hk
        refine ⟨_,hk,?_,by simp [conc],.inl (by simp [conc]),by simp only [conc]; rfl,by simp only [conc]; rfl⟩
        obtain ⟨_,g1,-⟩:=H.block hb
        obtain ⟨_,g2,-⟩:=H.block hb'
        rw [Op.equal,show Op.maxDepth=9999+1 from rfl,Op.equalIn,run_ok_bind (run_underlying hu)]
        simp only [conc]
        rw [run_ok_bind (run_sizeOf hj),if_pos hz,run_sameAddr g1 g2]
        congr 1
        rw [Bool.eq_iff_iff]
        simp only [Bool.and_eq_true,decide_eq_true_eq,Nat.beq_eq]
        refine and_congr_left fun _=>⟨fun he=>?_,fun he=>?_⟩
        · rw [H.apart k k' _ _ hb hb' he]; exact eqP_refl _
        · rw [eqP_spec he]
      · exact hk.elim
    · exact hk.elim
  all_goals first
    | exact hk.elim
    | (cases d <;> first | exact hd.elim | skip
       refine ⟨_,hk,?_,by simp [conc],by first | exact Or.inr hd | exact Or.inl (by simp [conc]),by simp only [conc]; rfl,by simp only [conc]; rfl⟩
       rw [Op.equal,show Op.maxDepth=9999+1 from rfl,Op.equalIn,run_ok_bind (run_underlying hu)]; simp only [conc]; rfl)
theorem s_eq (H:WR P w0 r h nx w) (ht:TR r tm a.tmps) {op:BinOp} {ek:EK} {neg:Bool} {t u:TypeId} {d:TypeDesc} {x y:Operand} {x' y':AX} (hop':op=.eql∧neg=false∨op=.neq∧neg=true) (hu:P.underlying t=some d) (hd:EqT P x y ek d) (hx:Cx x x') (hy:Cx y y') (hop:o.op=.binOp op t x y u) (hk:stepV (.eq ek neg x' y') tm h nx K):Yields P w0 r h w (execOp a.eval o) K:=by
  simp only [stepV,oEq] at hk
  obtain ⟨v,h1,h2,h3⟩:=evK_spec hx ht hk
  obtain ⟨v',h1,h4,h5⟩:=evK_spec hy ht h1
  obtain ⟨b,h1,e1,e2,e3,e4,e5⟩:=eqK_spec H hu hd h1
  rw [forceB_iff] at h1
  simp only [execOp,hop]
  refine Yields.pureV H h1 ?_ (by simp [okV])
  rw [h2,h4,run_ok_bind (run_eqGuard e2 e3)]
  rcases hop' with ⟨rfl,rfl⟩ | ⟨rfl,rfl⟩
  · rw [e4,run_ok_bind e1]; simp only [conc]; cases b <;> rfl
  · rw [e5,run_ok_bind e1]; simp only [conc]; cases b <;> rfl
theorem s_mkM (H:WR P w0 r h nx w) {t:TypeId} (hop:o.op=.makeMap t none) (hk:stepV .mkM tm h nx K):Yields P w0 r h w (execOp a.eval o) K:=by
  simp only [stepV,oMkM] at hk
  obtain ⟨h1,h2⟩:=H.alloc (.map [] 0) 0 (.map #[] 0) (by simp [okO]) ⟨[],0,rfl,.nil,.nil⟩
  refine ⟨_,_,_,_,.map nx,_,setK_forceP hk,?_,.inl rfl,h1,h2,?_⟩
  · simp only [execOp,hop]
    refine run_value ?_
    simp only [conc]
    rw [r.more_blk]; rfl
  · exact Or.inl rfl
theorem bdK_spec (ht:TR r tm a.tmps) {x:Option Operand} {x':Option AX} {d n:Nat} {c:Nat→Prop} (hx:Cxo x x') (hk:bdK tm x' d n c):(x=none∧c d)∨∃ y k j,x=some y∧a.eval y=.int k (Int.ofNat j)∧j≤n∧c j:=by
  cases x with
  | none =>
    cases x' with
    | none=>exact .inl ⟨rfl,hk⟩
    | some _=>exact hx.elim
  | some y =>
    cases x' with
    | none=>exact hx.elim
    | some y' =>
      simp only [bdK] at hk
      obtain ⟨v,h1,h2,h3⟩:=evK_spec hx ht hk
      split at h1
      · rename_i k j
        obtain ⟨hl,h1⟩:=brec h1
        exact .inr ⟨y,k,j,rfl,by rw [h2]; simp only [conc],Nat.le_of_ble_eq_true hl,h1⟩
      · exact h1.elim
theorem run_sliceBound {k:IntKind} {j n:Nat} {code:BoundsCode} (h:j≤n):(Instr.sliceBound (.int k (Int.ofNat j)) n code).run P w=.ok j w:=by
  unfold Instr.sliceBound
  simp only [asIntOf]
  rw [run_ok_bind (run_pure P _ w)]
  simp only []
  rw [if_pos (by constructor <;> simp <;> omega)]
  rfl
theorem s_slS (H:WR P w0 r h nx w) (ht:TR r tm a.tmps) {t:TypeId} {x:Operand} {lo hi:Option Operand} {x':AX} {lo' hi':Option AX} (hu:P.underlying t=some .string) (hx:Cx x x') (hlo:Cxo lo lo') (hhi:Cxo hi hi') (hop:o.op=.slice t x lo hi none) (hk:stepV (.slS x' lo' hi') tm h nx K):Yields P w0 r h w (execOp a.eval o) K:=by
  simp only [stepV,oSlS] at hk
  obtain ⟨v,h1,h2,h3⟩:=evK_spec hx ht hk
  split at h1
  · rename_i s
    simp only [okV] at h3
    have key:∀ p q,p≤q→q≤s.length→(Instr.sliceBounds false (bytesOf s).size (bytesOf s).size (lo.map a.eval) (hi.map a.eval) none).run P w=.ok (p,q,(bytesOf s).size) w→(forceL ((s.drop p).take (q - p)) fun s=>K (.str s) h nx)→Yields P w0 r h w (execOp a.eval o) K:=by
      intro p q hpq hq hr hK
      rw [forceL_iff] at hK
      simp only [execOp,hop]
      refine Yields.pureV H hK ?_ (by simp only [okV]; exact fun b hb=>h3 b (List.mem_of_mem_drop (List.mem_of_mem_take hb)))
      unfold Instr.sliceAt
      rw [run_ok_bind (run_underlying hu)]
      simp only []
      unfold Instr.slice
      rw [run_ok_bind (run_underlying hu),h2]
      simp only [conc,Option.map_none,Option.isSome_none,Bool.false_eq_true,if_false]
      rw [run_ok_bind hr]
      show Result.ok (Value.string ((bytesOf s).extract p q)) w=_
      congr 2
      apply ByteArray.ext
      rw [ByteArray.data_extract]
      simp [bytesOf,List.map_take,List.map_drop,List.extract_eq_take_drop]
    rcases bdK_spec ht hhi h1 with ⟨rfl,h1⟩ | ⟨y,k,q,rfl,hy,hq,h1⟩
    · rcases bdK_spec ht hlo h1 with ⟨rfl,h1⟩ | ⟨y',k',p,rfl,hy',hp,h1⟩
      · refine key 0 s.length (Nat.zero_le _) (Nat.le_refl _) ?_ h1
        rw [bytes_size]; rfl
      · refine key p s.length hp (Nat.le_refl _) ?_ h1
        rw [bytes_size]
        simp only [Option.map_some,Option.map_none,hy',Instr.sliceBounds]
        rw [run_ok_bind (run_pure P _ w),run_ok_bind (run_pure P _ w),run_ok_bind (run_sliceBound hp)]
        rfl
    · rcases bdK_spec ht hlo h1 with ⟨rfl,h1⟩ | ⟨y',k',p,rfl,hy',hp,h1⟩
      · refine key 0 q (Nat.zero_le _) hq ?_ h1
        rw [bytes_size]
        simp only [Option.map_some,Option.map_none,hy,Instr.sliceBounds]
        rw [run_ok_bind (run_pure P _ w),run_ok_bind (run_sliceBound hq),run_ok_bind (run_pure P _ w)]
        rfl
      · refine key p q hp hq ?_ h1
        rw [bytes_size]
        simp only [Option.map_some,hy,hy',Instr.sliceBounds]
        rw [run_ok_bind (run_pure P _ w),run_ok_bind (run_sliceBound hq),run_ok_bind (run_sliceBound hp)]
        rfl
  · exact h1.elim
end
end Go.Proofs.YtpajcdofelmaaaaGreatDoor.X
