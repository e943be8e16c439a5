/- What is computed of GramBinds. -/
import Derived.Test.YtoijcpnfohjciaaGreatDoorTab2
namespace Go.Proofs.YtoijcpnfohjciaaGreatDoor.X
def vgb (l:List AV):Prop:=callN funs2 100000 .l p5 l .l .e isT
def rgb (n:Nat) (form:Nat) (hid:Bool):Prop:=vgb [.int .i64 (.ofNat n),.int .i64 (.ofNat form),.bool hid]
end Go.Proofs.YtoijcpnfohjciaaGreatDoor.X
