/- GramBinds, computed. -/
import Derived.Test.YtoijcpnfohjciaaGreatDoorRunGBD
namespace Go.Proofs.YtoijcpnfohjciaaGreatDoor.X
set_option maxRecDepth 1000000
theorem gb1x2x0:rgb 1 2 false=True:=by kernel_rfl
theorem gb2x2x1:rgb 2 2 true=True:=by kernel_rfl
theorem gb4x1x0:rgb 4 1 false=True:=by kernel_rfl
theorem gb5x1x1:rgb 5 1 true=True:=by kernel_rfl
theorem gb7x0x0:rgb 7 0 false=True:=by kernel_rfl
theorem gb8x0x1:rgb 8 0 true=True:=by kernel_rfl
theorem gb9x2x0:rgb 9 2 false=True:=by kernel_rfl
theorem gb10x2x1:rgb 10 2 true=True:=by kernel_rfl
theorem gb12x1x0:rgb 12 1 false=True:=by kernel_rfl
theorem gb13x1x1:rgb 13 1 true=True:=by kernel_rfl
theorem gb15x0x0:rgb 15 0 false=True:=by kernel_rfl
theorem gb16x0x1:rgb 16 0 true=True:=by kernel_rfl
theorem gb17x2x0:rgb 17 2 false=True:=by kernel_rfl
theorem gb18x2x1:rgb 18 2 true=True:=by kernel_rfl
theorem gb20x1x0:rgb 20 1 false=True:=by kernel_rfl
theorem gbf1x1 (q:Nat) (hid:Bool):vgb [.int .i64 (.ofNat 1),.int .i64 (.ofNat (q+3)),.bool hid]=True:=by kernel_rfl
theorem gbf1x5 (q:Nat) (hid:Bool):vgb [.int .i64 (.ofNat 5),.int .i64 (.ofNat (q+3)),.bool hid]=True:=by kernel_rfl
theorem gbf1x9 (q:Nat) (hid:Bool):vgb [.int .i64 (.ofNat 9),.int .i64 (.ofNat (q+3)),.bool hid]=True:=by kernel_rfl
theorem gbf1x13 (q:Nat) (hid:Bool):vgb [.int .i64 (.ofNat 13),.int .i64 (.ofNat (q+3)),.bool hid]=True:=by kernel_rfl
theorem gbf1x17 (q:Nat) (hid:Bool):vgb [.int .i64 (.ofNat 17),.int .i64 (.ofNat (q+3)),.bool hid]=True:=by kernel_rfl
end Go.Proofs.YtoijcpnfohjciaaGreatDoor.X
