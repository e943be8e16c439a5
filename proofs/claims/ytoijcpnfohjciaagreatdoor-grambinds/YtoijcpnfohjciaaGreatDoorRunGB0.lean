/- GramBinds, computed. -/
import Derived.Test.YtoijcpnfohjciaaGreatDoorRunGBD
namespace Go.Proofs.YtoijcpnfohjciaaGreatDoor.X
set_option maxRecDepth 1000000
theorem gb1x0x0:rgb 1 0 false=True:=by kernel_rfl
theorem gb3x1x1:rgb 3 1 true=True:=by kernel_rfl
theorem gb3x2x0:rgb 3 2 false=True:=by kernel_rfl
theorem gb6x0x1:rgb 6 0 true=True:=by kernel_rfl
theorem gb6x1x0:rgb 6 1 false=True:=by kernel_rfl
theorem gb8x2x1:rgb 8 2 true=True:=by kernel_rfl
theorem gb9x0x0:rgb 9 0 false=True:=by kernel_rfl
theorem gb11x1x1:rgb 11 1 true=True:=by kernel_rfl
theorem gb11x2x0:rgb 11 2 false=True:=by kernel_rfl
theorem gb14x0x1:rgb 14 0 true=True:=by kernel_rfl
theorem gb14x1x0:rgb 14 1 false=True:=by kernel_rfl
theorem gb16x2x1:rgb 16 2 true=True:=by kernel_rfl
theorem gb17x0x0:rgb 17 0 false=True:=by kernel_rfl
theorem gb19x1x1:rgb 19 1 true=True:=by kernel_rfl
theorem gb19x2x0:rgb 19 2 false=True:=by kernel_rfl
theorem gbn0 (q:Nat) (form:Int) (hid:Bool):vgb [.int .i64 (.negSucc q),.int .i64 form,.bool hid]=True:=by kernel_rfl
theorem gbf1x3 (q:Nat) (hid:Bool):vgb [.int .i64 (.ofNat 3),.int .i64 (.ofNat (q+3)),.bool hid]=True:=by kernel_rfl
theorem gbf1x7 (q:Nat) (hid:Bool):vgb [.int .i64 (.ofNat 7),.int .i64 (.ofNat (q+3)),.bool hid]=True:=by kernel_rfl
theorem gbf1x11 (q:Nat) (hid:Bool):vgb [.int .i64 (.ofNat 11),.int .i64 (.ofNat (q+3)),.bool hid]=True:=by kernel_rfl
theorem gbf1x15 (q:Nat) (hid:Bool):vgb [.int .i64 (.ofNat 15),.int .i64 (.ofNat (q+3)),.bool hid]=True:=by kernel_rfl
theorem gbf1x19 (q:Nat) (hid:Bool):vgb [.int .i64 (.ofNat 19),.int .i64 (.ofNat (q+3)),.bool hid]=True:=by kernel_rfl
end Go.Proofs.YtoijcpnfohjciaaGreatDoor.X
