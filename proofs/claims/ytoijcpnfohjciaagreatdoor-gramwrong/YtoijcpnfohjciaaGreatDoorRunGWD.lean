/- What is computed of GramWrong. -/
import Derived.Test.YtoijcpnfohjciaaGreatDoorTab2
namespace Go.Proofs.YtoijcpnfohjciaaGreatDoor.X
def vgw (l:List AV):Prop:=callN funs2 100000 .l p3 l .l .e isT
def rgw (which:Nat):Prop:=vgw [.int .i64 (.ofNat which)]
end Go.Proofs.YtoijcpnfohjciaaGreatDoor.X
