/- An executor for closed calls, 15c: channels of one goroutine: sending where there is room, asking where nothing waits or something does. -/
import Derived.Test.YtphfjjopeghhnaaGreatXPN
namespace Go.Proofs.YtphfjjopeghhnaaGreat.X
open Go.RowKit
variable {P:Program}
abbrev gone:Goroutine:={ frame:=(default:Goroutine).frame,callers:=(default:Goroutine).callers,status:=.finished,dying:=(default:Goroutine).dying,offers:=(default:Goroutine).offers }
theorem step_lone_comm {fr fr':Frame} {cs:List Frame} {w w':World} {g':Goroutine} {cases:Array CommCase} {blocking:Bool} {shape:CommShape} {es:Array Event}
  (hs:stepG P true { frame:=fr,callers:=cs,status:=.running,dying:=none } w=.comm g' cases blocking shape w es)
  (hc:(communicate P { timers:=#[],alone:=none,slice:=none } #[gone] 0 g' cases blocking shape w).1=.next (lone fr' cs w')) :
  step P (lone fr cs w)=.next (lone fr' cs w'):=by
 rw [step,stepT,move_lone]
 simp [runT,lone,Array.swapAt!, hs]
 exact hc
theorem comm_send {fr:Frame} {cs:List Frame} {w:World} {r cap sent rcvd:Nat} {buf:Array Value} {tm:Bool} {v z:Value} (hh:w.heap[r]?=some (.chan cap buf false sent rcvd tm)) (hroom:buf.size<cap) :
  (communicate P { timers:=#[],alone:=none,slice:=none } #[gone] 0 { frame:=fr,callers:=cs,status:=.running,dying:=none } #[{ chan:=.chan (some r),send:=some v,zero:=z }] true .send w).1 =
   .next (lone (fr.finish undef) cs { w with heap:=w.heap.setIfInBounds r (.chan cap (buf.push v) false (sent+1) rcvd tm) }):=by
 have hp:partners #[gone] r false=[]:=by
  unfold partners
  simp [gone]
 unfold communicate
 simp [hh,ways,hp,hroom,choose,Question.forced,Sem.run,lone,Goroutine.finishComm,commResult,go_sem]
theorem comm_recv {fr:Frame} {cs:List Frame} {w:World} {r cap sent rcvd:Nat} {buf:Array Value} {tm:Bool} {z:Value} (hh:w.heap[r]?=some (.chan cap buf false sent rcvd tm)) (hroom:0<buf.size) :
  (communicate P { timers:=#[],alone:=none,slice:=none } #[gone] 0 { frame:=fr,callers:=cs,status:=.running,dying:=none } #[{ chan:=.chan (some r),send:=none,zero:=z }] false .select w).1 =
   .next (lone (fr.finish (.tuple #[.int .i64 0,.bool true,buf.getD 0 undef])) cs { w with heap:=w.heap.setIfInBounds r (.chan cap (buf.extract 1 buf.size) false sent (rcvd+1) tm) }):=by
 have hp:partners #[gone] r true=[]:=by
  unfold partners
  simp [gone]
 unfold communicate
 simp [hh,ways,hp,hroom,choose,Question.forced,Sem.run,lone,Goroutine.finishComm,commResult,go_sem]
theorem comm_none {fr:Frame} {cs:List Frame} {w:World} {r cap sent rcvd:Nat} {tm:Bool} {z:Value} (hh:w.heap[r]?=some (.chan cap #[] false sent rcvd tm)) :
  (communicate P { timers:=#[],alone:=none,slice:=none } #[gone] 0 { frame:=fr,callers:=cs,status:=.running,dying:=none } #[{ chan:=.chan (some r),send:=none,zero:=z }] false .select w).1 =
   .next (lone (fr.finish (.tuple #[.int .i64 (-1),.bool false,z])) cs w):=by
 have hp:partners #[gone] r true=[]:=by
  unfold partners
  simp [gone]
 unfold communicate
 simp [hh,ways,hp,lone,Goroutine.finishComm,commResult,go_sem]
theorem comm_put {fr:Frame} {cs:List Frame} {w:World} {r cap sent rcvd:Nat} {buf:Array Value} {tm:Bool} {v z:Value} (hh:w.heap[r]?=some (.chan cap buf false sent rcvd tm)) (hroom:buf.size<cap) :
  (communicate P { timers:=#[],alone:=none,slice:=none } #[gone] 0 { frame:=fr,callers:=cs,status:=.running,dying:=none } #[{ chan:=.chan (some r),send:=some v,zero:=z }] false .select w).1 =
   .next (lone (fr.finish (.tuple #[.int .i64 0,.bool false])) cs { w with heap:=w.heap.setIfInBounds r (.chan cap (buf.push v) false (sent+1) rcvd tm) }):=by
 have hp:partners #[gone] r false=[]:=by
  unfold partners
  simp [gone]
 unfold communicate
 simp [hh,ways,hp,hroom,choose,Question.forced,Sem.run,lone,Goroutine.finishComm,commResult,go_sem]
theorem comm_full {fr:Frame} {cs:List Frame} {w:World} {r cap sent rcvd:Nat} {buf:Array Value} {tm:Bool} {v z:Value} (hh:w.heap[r]?=some (.chan cap buf false sent rcvd tm)) (hroom:¬ buf.size<cap) :
  (communicate P { timers:=#[],alone:=none,slice:=none } #[gone] 0 { frame:=fr,callers:=cs,status:=.running,dying:=none } #[{ chan:=.chan (some r),send:=some v,zero:=z }] false .select w).1 =
   .next (lone (fr.finish (.tuple #[.int .i64 (-1),.bool false])) cs w):=by
 have hp:partners #[gone] r false=[]:=by
  unfold partners
  simp [gone]
 unfold communicate
 simp [hh,ways,hp,hroom,lone,Goroutine.finishComm,commResult,go_sem]
section
variable {b:Frame} {a:Act} {k:List Item} {cs:List Frame} {w w':World} {ops:Array Oper} {i:Nat} {rest:List Nat} {o:Oper}
theorem step_value {v:Value} (ho:ops[i]?=some o) (hw:Region.wanted o (yielded ops a.tmps)=true) (hr:(o.semAt b.roundOf a.eval).run P w=.ok (.value v) w') :
  step P (lone (b.atR a (.inRegion ops (i :: rest) :: k)) cs w)=.next (lone (b.atR (a.put o.dst v) (.inRegion ops rest :: k)) cs w'):=by
 have hf:=Frame.finish_atR b a ops i rest k v
 rw [ho] at hf
 simp only [Option.bind_some] at hf
 rw [← hf]
 refine step_lone_go ?_
 rw [stepGR_op ho hw]
 simp [stepG.apply,Sem.runT_eq,hr,GStep.bare_after]
theorem step_skipped (ho:ops[i]?=some o) (hw:Region.wanted o (yielded ops a.tmps)=true) (hr:(o.semAt b.roundOf a.eval).run P w=.ok .skip w') :
  step P (lone (b.atR a (.inRegion ops (i :: rest) :: k)) cs w)=.next (lone (b.atR (a.put o.dst undef) (.inRegion ops rest :: k)) cs w'):=by
 have hf:=Frame.finish_atR b a ops i rest k undef
 rw [ho] at hf
 simp only [Option.bind_some] at hf
 rw [← hf]
 refine step_lone_go ?_
 rw [stepGR_op ho hw]
 simp [stepG.apply,Sem.runT_eq,hr,GStep.bare_after]
theorem step_comm {cases:Array CommCase} {blocking:Bool} {shape:CommShape} {v:Value} (hk:(b.kind == CallKind.early)=false) (ho:ops[i]?=some o) (hw:Region.wanted o (yielded ops a.tmps)=true) (hr:(o.semAt b.roundOf a.eval).run P w=.ok (.comm cases blocking shape) w)
  (hc:∀ fr:Frame,(communicate P { timers:=#[],alone:=none,slice:=none } #[gone] 0 { frame:=fr,callers:=cs,status:=.running,dying:=none } cases blocking shape w).1=.next (lone (fr.finish v) cs w')) :
  step P (lone (b.atR a (.inRegion ops (i :: rest) :: k)) cs w)=.next (lone (b.atR (a.put o.dst v) (.inRegion ops rest :: k)) cs w'):=by
 have hf:=Frame.finish_atR b a ops i rest k v
 rw [ho] at hf
 simp only [Option.bind_some] at hf
 rw [← hf]
 have hs:=stepGR_op (P:=P) (b:=b) (a:=a) (k:=k) (cs:=cs) (w:=w) (rest:=rest) ho hw
 have hs2:∃ es,stepG.apply P true (b.atR a (.inRegion ops (i :: rest) :: k)) cs none (o.semAt b.roundOf a.eval) w=.comm { frame:=b.atR a (.inRegion ops (i :: rest) :: k),callers:=cs,status:=.running,dying:=none } cases blocking shape w es:=by
  have hk':(b.kind == CallKind.early)=false:=hk
  simp [stepG.apply,hr,Frame.atR,hk',GStep.after]
 obtain ⟨es,hs2⟩:=hs2
 exact step_lone_comm (hs.trans hs2) (hc _)
end
end Go.Proofs.YtphfjjopeghhnaaGreat.X
