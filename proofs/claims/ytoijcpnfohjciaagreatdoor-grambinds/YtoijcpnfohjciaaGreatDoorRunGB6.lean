/- GramBinds, computed. -/
import Derived.Test.YtoijcpnfohjciaaGreatDoorRunGBD
namespace Go.Proofs.YtoijcpnfohjciaaGreatDoor.X
set_option maxRecDepth 1000000
theorem gb2x0x0:rgb 2 0 false=True:=by kernel_rfl
theorem gb2x1x1:rgb 2 1 true=True:=by kernel_rfl
theorem gb4x2x0:rgb 4 2 false=True:=by kernel_rfl
theorem gb5x0x1:rgb 5 0 true=True:=by kernel_rfl
theorem gb7x1x0:rgb 7 1 false=True:=by kernel_rfl
theorem gb7x2x1:rgb 7 2 true=True:=by kernel_rfl
theorem gb10x0x0:rgb 10 0 false=True:=by kernel_rfl
theorem gb10x1x1:rgb 10 1 true=True:=by kernel_rfl
theorem gb12x2x0:rgb 12 2 false=True:=by kernel_rfl
theorem gb13x0x1:rgb 13 0 true=True:=by kernel_rfl
theorem gb15x1x0:rgb 15 1 false=True:=by kernel_rfl
theorem gb15x2x1:rgb 15 2 true=True:=by kernel_rfl
theorem gb18x0x0:rgb 18 0 false=True:=by kernel_rfl
theorem gb18x1x1:rgb 18 1 true=True:=by kernel_rfl
theorem gb20x2x0:rgb 20 2 false=True:=by kernel_rfl
theorem gbf1x2 (q:Nat) (hid:Bool):vgb [.int .i64 (.ofNat 2),.int .i64 (.ofNat (q+3)),.bool hid]=True:=by kernel_rfl
theorem gbf1x6 (q:Nat) (hid:Bool):vgb [.int .i64 (.ofNat 6),.int .i64 (.ofNat (q+3)),.bool hid]=True:=by kernel_rfl
theorem gbf1x10 (q:Nat) (hid:Bool):vgb [.int .i64 (.ofNat 10),.int .i64 (.ofNat (q+3)),.bool hid]=True:=by kernel_rfl
theorem gbf1x14 (q:Nat) (hid:Bool):vgb [.int .i64 (.ofNat 14),.int .i64 (.ofNat (q+3)),.bool hid]=True:=by kernel_rfl
theorem gbf1x18 (q:Nat) (hid:Bool):vgb [.int .i64 (.ofNat 18),.int .i64 (.ofNat (q+3)),.bool hid]=True:=by kernel_rfl
end Go.Proofs.YtoijcpnfohjciaaGreatDoor.X
