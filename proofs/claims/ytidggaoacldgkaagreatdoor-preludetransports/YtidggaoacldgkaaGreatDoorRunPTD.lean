/- What is computed of PreludeTransports. -/
import Derived.Test.YtidggaoacldgkaaGreatDoorTab2
namespace Go.Proofs.YtidggaoacldgkaaGreatDoor.X
def vpt (l:List AV):Prop:=callN funs2 100000 .l p3 l .l .e isT
def rpt (n:Nat):Prop:=vpt [.int .i64 (.ofNat n)]
end Go.Proofs.YtidggaoacldgkaaGreatDoor.X
