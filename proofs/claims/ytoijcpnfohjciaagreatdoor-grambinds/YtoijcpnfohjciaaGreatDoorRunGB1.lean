/- GramBinds, computed. -/
import Derived.Test.YtoijcpnfohjciaaGreatDoorRunGBD
namespace Go.Proofs.YtoijcpnfohjciaaGreatDoor.X
set_option maxRecDepth 1000000
theorem gb1x0x1:rgb 1 0 true=True:=by kernel_rfl
theorem gb3x1x0:rgb 3 1 false=True:=by kernel_rfl
theorem gb3x2x1:rgb 3 2 true=True:=by kernel_rfl
theorem gb6x0x0:rgb 6 0 false=True:=by kernel_rfl
theorem gb6x1x1:rgb 6 1 true=True:=by kernel_rfl
theorem gb8x2x0:rgb 8 2 false=True:=by kernel_rfl
theorem gb9x0x1:rgb 9 0 true=True:=by kernel_rfl
theorem gb11x1x0:rgb 11 1 false=True:=by kernel_rfl
theorem gb11x2x1:rgb 11 2 true=True:=by kernel_rfl
theorem gb14x0x0:rgb 14 0 false=True:=by kernel_rfl
theorem gb14x1x1:rgb 14 1 true=True:=by kernel_rfl
theorem gb16x2x0:rgb 16 2 false=True:=by kernel_rfl
theorem gb17x0x1:rgb 17 0 true=True:=by kernel_rfl
theorem gb19x1x0:rgb 19 1 false=True:=by kernel_rfl
theorem gb19x2x1:rgb 19 2 true=True:=by kernel_rfl
theorem gbf0 (q:Nat) (form:Int) (hid:Bool):vgb [.int .i64 (.ofNat (q+21)),.int .i64 form,.bool hid]=True:=by kernel_rfl
theorem gbn1x4 (q:Nat) (hid:Bool):vgb [.int .i64 (.ofNat 4),.int .i64 (.negSucc q),.bool hid]=True:=by kernel_rfl
theorem gbn1x8 (q:Nat) (hid:Bool):vgb [.int .i64 (.ofNat 8),.int .i64 (.negSucc q),.bool hid]=True:=by kernel_rfl
theorem gbn1x12 (q:Nat) (hid:Bool):vgb [.int .i64 (.ofNat 12),.int .i64 (.negSucc q),.bool hid]=True:=by kernel_rfl
theorem gbn1x16 (q:Nat) (hid:Bool):vgb [.int .i64 (.ofNat 16),.int .i64 (.negSucc q),.bool hid]=True:=by kernel_rfl
theorem gbn1x20 (q:Nat) (hid:Bool):vgb [.int .i64 (.ofNat 20),.int .i64 (.negSucc q),.bool hid]=True:=by kernel_rfl
end Go.Proofs.YtoijcpnfohjciaaGreatDoor.X
