/- GramBinds, computed. -/
import Derived.Test.YtoijcpnfohjciaaGreatDoorRunGBD
namespace Go.Proofs.YtoijcpnfohjciaaGreatDoor.X
set_option maxRecDepth 1000000
theorem gb1x1x0:rgb 1 1 false=True:=by kernel_rfl
theorem gb3x0x1:rgb 3 0 true=True:=by kernel_rfl
theorem gb4x0x0:rgb 4 0 false=True:=by kernel_rfl
theorem gb5x2x1:rgb 5 2 true=True:=by kernel_rfl
theorem gb6x2x0:rgb 6 2 false=True:=by kernel_rfl
theorem gb8x1x1:rgb 8 1 true=True:=by kernel_rfl
theorem gb9x1x0:rgb 9 1 false=True:=by kernel_rfl
theorem gb11x0x1:rgb 11 0 true=True:=by kernel_rfl
theorem gb12x0x0:rgb 12 0 false=True:=by kernel_rfl
theorem gb13x2x1:rgb 13 2 true=True:=by kernel_rfl
theorem gb14x2x0:rgb 14 2 false=True:=by kernel_rfl
theorem gb16x1x1:rgb 16 1 true=True:=by kernel_rfl
theorem gb17x1x0:rgb 17 1 false=True:=by kernel_rfl
theorem gb19x0x1:rgb 19 0 true=True:=by kernel_rfl
theorem gb20x0x0:rgb 20 0 false=True:=by kernel_rfl
theorem gbl0x0 (form:Int) (hid:Bool):vgb [.int .i64 (.ofNat 0),.int .i64 form,.bool hid]=True:=by kernel_rfl
theorem gbf1x4 (q:Nat) (hid:Bool):vgb [.int .i64 (.ofNat 4),.int .i64 (.ofNat (q+3)),.bool hid]=True:=by kernel_rfl
theorem gbf1x8 (q:Nat) (hid:Bool):vgb [.int .i64 (.ofNat 8),.int .i64 (.ofNat (q+3)),.bool hid]=True:=by kernel_rfl
theorem gbf1x12 (q:Nat) (hid:Bool):vgb [.int .i64 (.ofNat 12),.int .i64 (.ofNat (q+3)),.bool hid]=True:=by kernel_rfl
theorem gbf1x16 (q:Nat) (hid:Bool):vgb [.int .i64 (.ofNat 16),.int .i64 (.ofNat (q+3)),.bool hid]=True:=by kernel_rfl
theorem gbf1x20 (q:Nat) (hid:Bool):vgb [.int .i64 (.ofNat 20),.int .i64 (.ofNat (q+3)),.bool hid]=True:=by kernel_rfl
end Go.Proofs.YtoijcpnfohjciaaGreatDoor.X
