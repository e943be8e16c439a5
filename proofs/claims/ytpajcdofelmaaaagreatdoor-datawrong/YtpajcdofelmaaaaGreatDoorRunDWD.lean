/- What is computed of DataWrong. -/
import Derived.Test.YtpajcdofelmaaaaGreatDoorTab2
namespace Go.Proofs.YtpajcdofelmaaaaGreatDoor.X
def vdw (l:List AV):Prop:=callN funs2 100000 .l p3 l .l .e isT
def rdw (which:Nat):Prop:=vdw [.int .i64 (.ofNat which)]
end Go.Proofs.YtpajcdofelmaaaaGreatDoor.X
