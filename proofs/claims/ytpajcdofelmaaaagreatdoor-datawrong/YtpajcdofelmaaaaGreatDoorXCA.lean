/- An executor for closed calls, 15b: code in frames of calls and of rounds (none that begins a package). -/
import Derived.Test.YtpajcdofelmaaaaGreatDoorXPL
import Derived.RangeFuncNested
import Derived.OrdersIn
namespace Go.Proofs.YtpajcdofelmaaaaGreatDoor.X
open Go.RowKit
def Wr (ro:Option Nat):Fence:={ Fence.wide with round:=ro }
section
variable {P:Program} {ro:Option Nat} {Q:Exit→Act→World→Prop} {a:Act} {w:World}
theorem wr_calm {m:Machine}:m.fenced P (Wr ro):=fenced_wide P m
theorem wr_room (n:Nat):(Wr ro).room n:=fun d hd=>by simp [Wr,Fence.wide] at hd
def WpN (P:Program) (ro:Option Nat) (c:Code) (Q:Exit→Act→World→Prop) (a:Act) (w:World):Prop :=
 ∀ (b:Frame) (k:List Item) (cs:List Frame),(b.kind == CallKind.early)=false→b.roundOf=ro→∃ e a' w',Q e a' w'∧ArrivesIn (Machine.fenced P (Wr ro)) P (lone (b.atR a (.code c :: k)) cs w) b k cs e a' w'
theorem WpN.of {c:Code} (h:c.wpIn (Wr ro) 0 P Q a w):WpN P ro c Q a w:=fun b k cs _ hb=>h b k cs hb trivial (wr_room _)
theorem arrives_by {m m':Machine} {b:Frame} {x:Item} {k:List Item} {cs:List Frame} {e:Exit} (hx:x.plain=true) (hs:step P m=.next m') (he:e≠.normal) (h:ArrivesIn (Machine.fenced P (Wr ro)) P m' b (x :: k) cs e a w):ArrivesIn (Machine.fenced P (Wr ro)) P m b k cs e a w :=
 .of_steps (.one wr_calm hs) (.pass hx (fun _ _=>.inl he) h)
theorem WpN.seq {x y:Code} (h:WpN P ro x (Exit.then (WpN P ro y Q) Q) a w):WpN P ro (.seq x y) Q a w:=fun b k cs hk hb=>by
 obtain ⟨e,a₁,w₁,hq,harr⟩:=h b (.code y :: k) cs hk hb
 by_cases he:e=.normal
 ·subst he
  obtain ⟨e₂,a₂,w₂,q₂,r₂⟩:=hq b k cs hk hb
  exact ⟨e₂,a₂,w₂,q₂,.of_steps (.head wr_calm stepR_seq harr) r₂⟩
 ·refine ⟨e,a₁,w₁,?_,arrives_by (x:=.code y) rfl stepR_seq he harr⟩
  cases e <;> first | exact hq | exact absurd rfl he
theorem WpN.cond {c:Operand} {x y:Code} {t:Bool} (hc:a.eval c=.bool t) (h:WpN P ro (if t then x else y) Q a w):WpN P ro (.cond c x y) Q a w:=fun b k cs hk hb=>by
 obtain ⟨e,a',w',q,r⟩:=h b k cs hk hb
 exact ⟨e,a',w',q,.of_steps (.one wr_calm (stepR_cond hc)) r⟩
theorem WpN.block {id:Nat} {c:Code} (h:WpN P ro c (Exit.inBlock id Q) a w):WpN P ro (.block id c) Q a w:=fun b k cs hk hb=>by
 obtain ⟨e,a₁,w₁,hq,harr⟩:=h b (.inBlock id :: k) cs hk hb
 have g0:∀ l,gotoIn l (.inBlock id :: k)=gotoIn l k:=fun l=>by simp [gotoIn]
 cases e with
 | normal=>exact ⟨.normal,a₁,w₁,hq,.head wr_calm stepR_block (StepsIn.trans harr (.one wr_calm stepR_inBlock))⟩
 | exit j =>
  by_cases e:j=id
  ·subst e
   simp only [Exit.inBlock,if_true] at hq
   exact ⟨.normal,a₁,w₁,hq,.head wr_calm stepR_block (harr.1 k (by simp [exitTo]))⟩
  ·simp only [Exit.inBlock,e,if_false] at hq
   have hx:exitTo j (.inBlock id :: k)=exitTo j k:=by
    have:(id == j)=false:=by simpa using fun h:id=j=>e h.symm
    simp [exitTo,this]
   refine ⟨.exit j,a₁,w₁,hq,fun k' hk'=>.head wr_calm stepR_block (harr.1 k' (hx.trans hk')),fun hr hk'=>?_⟩
   obtain ⟨k₁,h1,h2⟩:=harr.2 hr (hx.trans hk')
   exact ⟨k₁,h1,.head wr_calm stepR_block h2⟩
 | goto l =>
  refine ⟨.goto l,a₁,w₁,hq,fun k' hk'=>.head wr_calm stepR_block (harr.1 k' ((g0 l).trans hk')),fun hr hk'=>?_⟩
  obtain ⟨k₁,h1,h2⟩:=harr.2 hr ((g0 l).trans hk')
  exact ⟨k₁,h1,.head wr_calm stepR_block h2⟩
 | ret=>exact ⟨_,a₁,w₁,hq,.of_steps (.one wr_calm stepR_block) harr⟩
 | panic ch=>exact ⟨_,a₁,w₁,hq,.of_steps (.one wr_calm stepR_block) harr⟩
 | outgrown=>exact ⟨_,a₁,w₁,hq,.of_steps (.one wr_calm stepR_block) harr⟩
theorem callsN {f:FuncId} {fn:Func} {c:Code} {args:Array Value} {R:Ending→World→Prop} (hf:P.funcs[f]?=some fn) (hb:fn.body=some c)
  (h:WpN P none c (bodyPostM (Wr none) 0 P fn R) { tmps:=args ++ Array.replicate (fn.ntmps - args.size) undef,defers:=[] } w):CallsIn (Wr none) 0 P f args w R:=by
 refine ⟨trivial,fun cs _=>?_⟩
 let b:Frame:={ (default:Frame) with fn:=f,kind:=.normal,roundOf:=none }
 have hent:Frame.enter P f args .normal=b.atR { tmps:=args ++ Array.replicate (fn.ntmps - args.size) undef,defers:=[] } [.code c]:=by simp [Frame.enter,Frame.atR,hf,hb,b]
 obtain ⟨e,a',w',hq,harr⟩:=h b [] cs rfl rfl
 rw [← hent] at harr
 have out:∀ (u:FrameMode) (todo:List Item),StepsIn (Machine.fenced P (Wr none)) P (lone (Frame.enter P f args .normal) cs w) (lone { b.atR a' todo with mode:=u } cs w')→LeavesInM (Wr none) 0 P fn a'.tmps R a'.defers u w' →
   ∃ e w'' fr,R e w''∧ComesIn (Machine.fenced P (Wr none)) P (lone (Frame.enter P f args .normal) cs w) (lone fr cs w'') e∧fr.fn=f∧fr.leaving P w'' e:=fun u todo hs hl=>by
  obtain ⟨e',w'',fr',g1,g2,g3,g4⟩:=leaves_stepsInM a'.defers u w' { b.atR a' todo with mode:=u } cs rfl rfl rfl hf rfl trivial (wr_room _) hl
  exact ⟨e',w'',fr',g1,ComesIn.of_steps hs g2,g3,g4⟩
 cases e with
 | normal=>exact out .returning [] (StepsIn.trans harr (.one wr_calm (stepR_end rfl))) hq
 | ret=>obtain ⟨todo,hs⟩:=harr.1 rfl; exact out .returning todo hs hq
 | panic ch=>obtain ⟨todo,hs⟩:=harr; exact out (.panicking ch) todo hs hq
 | exit id=>exact hq.elim
 | goto l=>exact hq.elim
 | outgrown=>exact ⟨.outgrown,w',b,hq,harr.resolve_left (by simp [b]),rfl,trivial⟩
theorem roundN {l:Nat} {f:FuncId} {tmps:Array Value} {assign body:Code} {R:Ending→World→Prop}
  (h:WpN P (some l) assign (Exit.then (fun a₁ w₁=>∃ w₂,(Instr.beginRound l).run P w₁=.ok () w₂∧WpN P (some l) body (roundPost P l R) a₁ w₂) (fun _ _ _=>False)) { tmps:=tmps,defers:=[] } w) :
  RoundIn Fence.wide 0 P l f tmps assign body w R:=by
 refine ⟨trivial,fun c cs _=>?_⟩
 let b:Frame:={ (default:Frame) with fn:=f,kind:=.normal,roundOf:=some l }
 have h0:Frame.round l f tmps assign body .normal=b.atR { tmps:=tmps,defers:=[] } [.code assign,.beginRound,.code body]:=by simp [Frame.round,Frame.atR,b]
 obtain ⟨e,a₁,w₁,hq,harr⟩:=h b [.beginRound,.code body] (c :: cs) rfl rfl
 rw [← h0] at harr
 cases e with
 | normal =>
  obtain ⟨w₂,hbr,hbody⟩:=hq
  have s1:StepsIn (Machine.fenced P (Wr (some l))) P (lone (b.atR a₁ [.beginRound,.code body]) (c :: cs) w₁) (lone (b.atR a₁ [.code body]) (c :: cs) w₂):=.one wr_calm (stepR_beginRound rfl hbr)
  have s2:=StepsIn.trans harr s1
  obtain ⟨e₂,a₂,w₃,hq₂,harr₂⟩:=hbody b [] (c :: cs) rfl rfl
  cases e₂ with
  | normal =>
   obtain ⟨v,w₄,hend,hR⟩:=hq₂
   exact ⟨.returned v,w₄,hR,StepsIn.trans s2 (StepsIn.trans harr₂ (.one wr_calm (stepR_round_end rfl rfl hend)))⟩
  | ret =>
   obtain ⟨v,w₄,hend,hR⟩:=hq₂
   obtain ⟨k₁,hs⟩:=harr₂.2 rfl
   exact ⟨.returned v,w₄,hR,StepsIn.trans s2 (StepsIn.trans hs (.one wr_calm (stepR_round_ret rfl rfl hend)))⟩
  | exit id =>
   obtain ⟨v,w₄,hend,hR⟩:=hq₂
   obtain ⟨k₁,hk,hs⟩:=harr₂.2 rfl rfl
   exact ⟨.returned v,w₄,hR,StepsIn.trans s2 (StepsIn.trans hs (.one wr_calm (stepR_round_exit rfl rfl hk hend)))⟩
  | goto t =>
   obtain ⟨v,w₄,hend,hR⟩:=hq₂
   obtain ⟨k₁,hk,hs⟩:=harr₂.2 rfl rfl
   exact ⟨.returned v,w₄,hR,StepsIn.trans s2 (StepsIn.trans hs (.one wr_calm (stepR_round_goto rfl rfl hk hend)))⟩
  | panic ch=>exact hq₂.elim
  | outgrown=>exact hq₂.elim
 | _=>exact hq.elim
end
end Go.Proofs.YtpajcdofelmaaaaGreatDoor.X

/- An executor for closed calls, 15c: channels of one goroutine: sending where there is room, asking where nothing waits or something does. -/
namespace Go.Proofs.YtpajcdofelmaaaaGreatDoor.X
open Go.RowKit
variable {P:Program}
abbrev gone:Goroutine:={ frame:=(default:Goroutine).frame,callers:=(default:Goroutine).callers,status:=.finished,dying:=(default:Goroutine).dying,offers:=(default:Goroutine).offers }
theorem step_lone_comm {fr fr':Frame} {cs:List Frame} {w w':World} {g':Goroutine} {cases:Array CommCase} {blocking:Bool} {shape:CommShape} {es:Array Event}
  (hs:stepG P true { frame:=fr,callers:=cs,status:=.running,dying:=none } w=.comm g' cases blocking shape w es)
  (hc:(communicate P { timers:=#[],alone:=none,slice:=none } #[gone] 0 g' cases blocking shape w).1=.next (lone fr' cs w')) :
  step P (lone fr cs w)=.next (lone fr' cs w'):=by
 rw [step,stepT,move_lone]
 simp [runT,lone,Array.swapAt!, hs]
 exact hc
theorem comm_send {fr:Frame} {cs:List Frame} {w:World} {r cap sent rcvd:Nat} {buf:Array Value} {tm:Bool} {v z:Value} (hh:w.heap[r]?=some (.chan cap buf false sent rcvd tm)) (hroom:buf.size<cap) :
  (communicate P { timers:=#[],alone:=none,slice:=none } #[gone] 0 { frame:=fr,callers:=cs,status:=.running,dying:=none } #[{ chan:=.chan (some r),send:=some v,zero:=z }] true .send w).1 =
   .next (lone (fr.finish undef) cs { w with heap:=w.heap.setIfInBounds r (.chan cap (buf.push v) false (sent+1) rcvd tm) }):=by
 have hp:partners #[gone] r false=[]:=by
  unfold partners
  simp [gone]
 unfold communicate
 simp [hh,ways,hp,hroom,choose,Question.forced,Sem.run,lone,Goroutine.finishComm,commResult,go_sem]
theorem comm_recv {fr:Frame} {cs:List Frame} {w:World} {r cap sent rcvd:Nat} {buf:Array Value} {tm:Bool} {z:Value} (hh:w.heap[r]?=some (.chan cap buf false sent rcvd tm)) (hroom:0<buf.size) :
  (communicate P { timers:=#[],alone:=none,slice:=none } #[gone] 0 { frame:=fr,callers:=cs,status:=.running,dying:=none } #[{ chan:=.chan (some r),send:=none,zero:=z }] false .select w).1 =
   .next (lone (fr.finish (.tuple #[.int .i64 0,.bool true,buf.getD 0 undef])) cs { w with heap:=w.heap.setIfInBounds r (.chan cap (buf.extract 1 buf.size) false sent (rcvd+1) tm) }):=by
 have hp:partners #[gone] r true=[]:=by
  unfold partners
  simp [gone]
 unfold communicate
 simp [hh,ways,hp,hroom,choose,Question.forced,Sem.run,lone,Goroutine.finishComm,commResult,go_sem]
theorem comm_none {fr:Frame} {cs:List Frame} {w:World} {r cap sent rcvd:Nat} {tm:Bool} {z:Value} (hh:w.heap[r]?=some (.chan cap #[] false sent rcvd tm)) :
  (communicate P { timers:=#[],alone:=none,slice:=none } #[gone] 0 { frame:=fr,callers:=cs,status:=.running,dying:=none } #[{ chan:=.chan (some r),send:=none,zero:=z }] false .select w).1 =
   .next (lone (fr.finish (.tuple #[.int .i64 (-1),.bool false,z])) cs w):=by
 have hp:partners #[gone] r true=[]:=by
  unfold partners
  simp [gone]
 unfold communicate
 simp [hh,ways,hp,lone,Goroutine.finishComm,commResult,go_sem]
theorem comm_put {fr:Frame} {cs:List Frame} {w:World} {r cap sent rcvd:Nat} {buf:Array Value} {tm:Bool} {v z:Value} (hh:w.heap[r]?=some (.chan cap buf false sent rcvd tm)) (hroom:buf.size<cap) :
  (communicate P { timers:=#[],alone:=none,slice:=none } #[gone] 0 { frame:=fr,callers:=cs,status:=.running,dying:=none } #[{ chan:=.chan (some r),send:=some v,zero:=z }] false .select w).1 =
   .next (lone (fr.finish (.tuple #[.int .i64 0,.bool false])) cs { w with heap:=w.heap.setIfInBounds r (.chan cap (buf.push v) false (sent+1) rcvd tm) }):=by
 have hp:partners #[gone] r false=[]:=by
  unfold partners
  simp [gone]
 unfold communicate
 simp [hh,ways,hp,hroom,choose,Question.forced,Sem.run,lone,Goroutine.finishComm,commResult,go_sem]
theorem comm_full {fr:Frame} {cs:List Frame} {w:World} {r cap sent rcvd:Nat} {buf:Array Value} {tm:Bool} {v z:Value} (hh:w.heap[r]?=some (.chan cap buf false sent rcvd tm)) (hroom:¬ buf.size<cap) :
  (communicate P { timers:=#[],alone:=none,slice:=none } #[gone] 0 { frame:=fr,callers:=cs,status:=.running,dying:=none } #[{ chan:=.chan (some r),send:=some v,zero:=z }] false .select w).1 =
   .next (lone (fr.finish (.tuple #[.int .i64 (-1),.bool false])) cs w):=by
 have hp:partners #[gone] r false=[]:=by
  unfold partners
  simp [gone]
 unfold communicate
 simp [hh,ways,hp,hroom,lone,Goroutine.finishComm,commResult,go_sem]
section
variable {b:Frame} {a:Act} {k:List Item} {cs:List Frame} {w w':World} {ops:Array Oper} {i:Nat} {rest:List Nat} {o:Oper}
theorem step_value {v:Value} (ho:ops[i]?=some o) (hw:Region.wanted o (yielded ops a.tmps)=true) (hr:(o.semAt b.roundOf a.eval).run P w=.ok (.value v) w') :
  step P (lone (b.atR a (.inRegion ops (i :: rest) :: k)) cs w)=.next (lone (b.atR (a.put o.dst v) (.inRegion ops rest :: k)) cs w'):=by
 have hf:=Frame.finish_atR b a ops i rest k v
 rw [ho] at hf
 simp only [Option.bind_some] at hf
 rw [← hf]
 refine step_lone_go ?_
 rw [stepGR_op ho hw]
 simp [stepG.apply,Sem.runT_eq,hr,GStep.bare_after]
theorem step_skipped (ho:ops[i]?=some o) (hw:Region.wanted o (yielded ops a.tmps)=true) (hr:(o.semAt b.roundOf a.eval).run P w=.ok .skip w') :
  step P (lone (b.atR a (.inRegion ops (i :: rest) :: k)) cs w)=.next (lone (b.atR (a.put o.dst undef) (.inRegion ops rest :: k)) cs w'):=by
 have hf:=Frame.finish_atR b a ops i rest k undef
 rw [ho] at hf
 simp only [Option.bind_some] at hf
 rw [← hf]
 refine step_lone_go ?_
 rw [stepGR_op ho hw]
 simp [stepG.apply,Sem.runT_eq,hr,GStep.bare_after]
theorem step_comm {cases:Array CommCase} {blocking:Bool} {shape:CommShape} {v:Value} (hk:(b.kind == CallKind.early)=false) (ho:ops[i]?=some o) (hw:Region.wanted o (yielded ops a.tmps)=true) (hr:(o.semAt b.roundOf a.eval).run P w=.ok (.comm cases blocking shape) w)
  (hc:∀ fr:Frame,(communicate P { timers:=#[],alone:=none,slice:=none } #[gone] 0 { frame:=fr,callers:=cs,status:=.running,dying:=none } cases blocking shape w).1=.next (lone (fr.finish v) cs w')) :
  step P (lone (b.atR a (.inRegion ops (i :: rest) :: k)) cs w)=.next (lone (b.atR (a.put o.dst v) (.inRegion ops rest :: k)) cs w'):=by
 have hf:=Frame.finish_atR b a ops i rest k v
 rw [ho] at hf
 simp only [Option.bind_some] at hf
 rw [← hf]
 have hs:=stepGR_op (P:=P) (b:=b) (a:=a) (k:=k) (cs:=cs) (w:=w) (rest:=rest) ho hw
 have hs2:∃ es,stepG.apply P true (b.atR a (.inRegion ops (i :: rest) :: k)) cs none (o.semAt b.roundOf a.eval) w=.comm { frame:=b.atR a (.inRegion ops (i :: rest) :: k),callers:=cs,status:=.running,dying:=none } cases blocking shape w es:=by
  have hk':(b.kind == CallKind.early)=false:=hk
  simp [stepG.apply,hr,Frame.atR,hk',GStep.after]
 obtain ⟨es,hs2⟩:=hs2
 exact step_lone_comm (hs.trans hs2) (hc _)
end
end Go.Proofs.YtpajcdofelmaaaaGreatDoor.X
