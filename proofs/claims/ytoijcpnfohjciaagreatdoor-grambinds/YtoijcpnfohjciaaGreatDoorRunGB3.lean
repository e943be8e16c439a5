/- GramBinds, computed. -/
import Derived.Test.YtoijcpnfohjciaaGreatDoorRunGBD
namespace Go.Proofs.YtoijcpnfohjciaaGreatDoor.X
set_option maxRecDepth 1000000
theorem gb1x1x1:rgb 1 1 true=True:=by kernel_rfl
theorem gb3x0x0:rgb 3 0 false=True:=by kernel_rfl
theorem gb4x0x1:rgb 4 0 true=True:=by kernel_rfl
theorem gb5x2x0:rgb 5 2 false=True:=by kernel_rfl
theorem gb6x2x1:rgb 6 2 true=True:=by kernel_rfl
theorem gb8x1x0:rgb 8 1 false=True:=by kernel_rfl
theorem gb9x1x1:rgb 9 1 true=True:=by kernel_rfl
theorem gb11x0x0:rgb 11 0 false=True:=by kernel_rfl
theorem gb12x0x1:rgb 12 0 true=True:=by kernel_rfl
theorem gb13x2x0:rgb 13 2 false=True:=by kernel_rfl
theorem gb14x2x1:rgb 14 2 true=True:=by kernel_rfl
theorem gb16x1x0:rgb 16 1 false=True:=by kernel_rfl
theorem gb17x1x1:rgb 17 1 true=True:=by kernel_rfl
theorem gb19x0x0:rgb 19 0 false=True:=by kernel_rfl
theorem gb20x0x1:rgb 20 0 true=True:=by kernel_rfl
theorem gbn1x1 (q:Nat) (hid:Bool):vgb [.int .i64 (.ofNat 1),.int .i64 (.negSucc q),.bool hid]=True:=by kernel_rfl
theorem gbn1x5 (q:Nat) (hid:Bool):vgb [.int .i64 (.ofNat 5),.int .i64 (.negSucc q),.bool hid]=True:=by kernel_rfl
theorem gbn1x9 (q:Nat) (hid:Bool):vgb [.int .i64 (.ofNat 9),.int .i64 (.negSucc q),.bool hid]=True:=by kernel_rfl
theorem gbn1x13 (q:Nat) (hid:Bool):vgb [.int .i64 (.ofNat 13),.int .i64 (.negSucc q),.bool hid]=True:=by kernel_rfl
theorem gbn1x17 (q:Nat) (hid:Bool):vgb [.int .i64 (.ofNat 17),.int .i64 (.negSucc q),.bool hid]=True:=by kernel_rfl
end Go.Proofs.YtoijcpnfohjciaaGreatDoor.X
