/- What is computed of GramDeep. -/
import Derived.Test.YtoijcpnfohjciaaGreatDoorTab2
namespace Go.Proofs.YtoijcpnfohjciaaGreatDoor.X
def vgd (l:List AV):Prop:=callN funs2 100000 .l p4 l .l .e isT
def rgd (n:Nat) (modules:Bool):Prop:=vgd [.int .i64 (.ofNat n),.bool modules]
end Go.Proofs.YtoijcpnfohjciaaGreatDoor.X
