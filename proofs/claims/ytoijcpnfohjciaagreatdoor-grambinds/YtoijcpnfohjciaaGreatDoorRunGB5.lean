/- GramBinds, computed. -/
import Derived.Test.YtoijcpnfohjciaaGreatDoorRunGBD
namespace Go.Proofs.YtoijcpnfohjciaaGreatDoor.X
set_option maxRecDepth 1000000
theorem gb1x2x1:rgb 1 2 true=True:=by kernel_rfl
theorem gb2x2x0:rgb 2 2 false=True:=by kernel_rfl
theorem gb4x1x1:rgb 4 1 true=True:=by kernel_rfl
theorem gb5x1x0:rgb 5 1 false=True:=by kernel_rfl
theorem gb7x0x1:rgb 7 0 true=True:=by kernel_rfl
theorem gb8x0x0:rgb 8 0 false=True:=by kernel_rfl
theorem gb9x2x1:rgb 9 2 true=True:=by kernel_rfl
theorem gb10x2x0:rgb 10 2 false=True:=by kernel_rfl
theorem gb12x1x1:rgb 12 1 true=True:=by kernel_rfl
theorem gb13x1x0:rgb 13 1 false=True:=by kernel_rfl
theorem gb15x0x1:rgb 15 0 true=True:=by kernel_rfl
theorem gb16x0x0:rgb 16 0 false=True:=by kernel_rfl
theorem gb17x2x1:rgb 17 2 true=True:=by kernel_rfl
theorem gb18x2x0:rgb 18 2 false=True:=by kernel_rfl
theorem gb20x1x1:rgb 20 1 true=True:=by kernel_rfl
theorem gbn1x2 (q:Nat) (hid:Bool):vgb [.int .i64 (.ofNat 2),.int .i64 (.negSucc q),.bool hid]=True:=by kernel_rfl
theorem gbn1x6 (q:Nat) (hid:Bool):vgb [.int .i64 (.ofNat 6),.int .i64 (.negSucc q),.bool hid]=True:=by kernel_rfl
theorem gbn1x10 (q:Nat) (hid:Bool):vgb [.int .i64 (.ofNat 10),.int .i64 (.negSucc q),.bool hid]=True:=by kernel_rfl
theorem gbn1x14 (q:Nat) (hid:Bool):vgb [.int .i64 (.ofNat 14),.int .i64 (.negSucc q),.bool hid]=True:=by kernel_rfl
theorem gbn1x18 (q:Nat) (hid:Bool):vgb [.int .i64 (.ofNat 18),.int .i64 (.negSucc q),.bool hid]=True:=by kernel_rfl
end Go.Proofs.YtoijcpnfohjciaaGreatDoor.X
