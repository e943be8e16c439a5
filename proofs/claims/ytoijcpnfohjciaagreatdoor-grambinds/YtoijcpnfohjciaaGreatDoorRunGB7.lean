/- GramBinds, computed. -/
import Derived.Test.YtoijcpnfohjciaaGreatDoorRunGBD
namespace Go.Proofs.YtoijcpnfohjciaaGreatDoor.X
set_option maxRecDepth 1000000
theorem gb2x0x1:rgb 2 0 true=True:=by kernel_rfl
theorem gb2x1x0:rgb 2 1 false=True:=by kernel_rfl
theorem gb4x2x1:rgb 4 2 true=True:=by kernel_rfl
theorem gb5x0x0:rgb 5 0 false=True:=by kernel_rfl
theorem gb7x1x1:rgb 7 1 true=True:=by kernel_rfl
theorem gb7x2x0:rgb 7 2 false=True:=by kernel_rfl
theorem gb10x0x1:rgb 10 0 true=True:=by kernel_rfl
theorem gb10x1x0:rgb 10 1 false=True:=by kernel_rfl
theorem gb12x2x1:rgb 12 2 true=True:=by kernel_rfl
theorem gb13x0x0:rgb 13 0 false=True:=by kernel_rfl
theorem gb15x1x1:rgb 15 1 true=True:=by kernel_rfl
theorem gb15x2x0:rgb 15 2 false=True:=by kernel_rfl
theorem gb18x0x1:rgb 18 0 true=True:=by kernel_rfl
theorem gb18x1x0:rgb 18 1 false=True:=by kernel_rfl
theorem gb20x2x1:rgb 20 2 true=True:=by kernel_rfl
theorem gbn1x3 (q:Nat) (hid:Bool):vgb [.int .i64 (.ofNat 3),.int .i64 (.negSucc q),.bool hid]=True:=by kernel_rfl
theorem gbn1x7 (q:Nat) (hid:Bool):vgb [.int .i64 (.ofNat 7),.int .i64 (.negSucc q),.bool hid]=True:=by kernel_rfl
theorem gbn1x11 (q:Nat) (hid:Bool):vgb [.int .i64 (.ofNat 11),.int .i64 (.negSucc q),.bool hid]=True:=by kernel_rfl
theorem gbn1x15 (q:Nat) (hid:Bool):vgb [.int .i64 (.ofNat 15),.int .i64 (.negSucc q),.bool hid]=True:=by kernel_rfl
theorem gbn1x19 (q:Nat) (hid:Bool):vgb [.int .i64 (.ofNat 19),.int .i64 (.negSucc q),.bool hid]=True:=by kernel_rfl
end Go.Proofs.YtoijcpnfohjciaaGreatDoor.X
