/- KernelVars, computed. -/
import Derived.Test.YtcakhpfonailhaaGreatDoorRunKVD
namespace Go.Proofs.YtcakhpfonailhaaGreatDoor.X
set_option maxRecDepth 1000000
theorem kv1x12:rkv 1 12=True:=by kernel_rfl
theorem kv1x19:rkv 1 19=True:=by kernel_rfl
theorem kv2x3:rkv 2 3=True:=by kernel_rfl
theorem kv2x10:rkv 2 10=True:=by kernel_rfl
theorem kv2x35:rkv 2 35=True:=by kernel_rfl
theorem kv3x1:rkv 3 1=True:=by kernel_rfl
theorem kv3x26:rkv 3 26=True:=by kernel_rfl
theorem kv3x33:rkv 3 33=True:=by kernel_rfl
theorem kv4x17:rkv 4 17=True:=by kernel_rfl
theorem kv4x24:rkv 4 24=True:=by kernel_rfl
theorem kv5x8:rkv 5 8=True:=by kernel_rfl
theorem kv5x15:rkv 5 15=True:=by kernel_rfl
theorem kv5x40:rkv 5 40=True:=by kernel_rfl
theorem kv6x6:rkv 6 6=True:=by kernel_rfl
theorem kv6x31:rkv 6 31=True:=by kernel_rfl
theorem kv6x38:rkv 6 38=True:=by kernel_rfl
theorem kv7x22:rkv 7 22=True:=by kernel_rfl
theorem kv7x29:rkv 7 29=True:=by kernel_rfl
theorem kv8x13:rkv 8 13=True:=by kernel_rfl
theorem kv8x20:rkv 8 20=True:=by kernel_rfl
theorem kv9x4:rkv 9 4=True:=by kernel_rfl
theorem kv9x11:rkv 9 11=True:=by kernel_rfl
theorem kv9x36:rkv 9 36=True:=by kernel_rfl
theorem kv10x2:rkv 10 2=True:=by kernel_rfl
theorem kv10x27:rkv 10 27=True:=by kernel_rfl
theorem kv10x34:rkv 10 34=True:=by kernel_rfl
theorem kv11x18:rkv 11 18=True:=by kernel_rfl
theorem kv11x25:rkv 11 25=True:=by kernel_rfl
theorem kv12x9:rkv 12 9=True:=by kernel_rfl
theorem kv12x16:rkv 12 16=True:=by kernel_rfl
theorem kv13x0:rkv 13 0=True:=by kernel_rfl
theorem kv13x7:rkv 13 7=True:=by kernel_rfl
theorem kv13x32:rkv 13 32=True:=by kernel_rfl
theorem kv13x39:rkv 13 39=True:=by kernel_rfl
theorem kv14x23:rkv 14 23=True:=by kernel_rfl
theorem kv14x30:rkv 14 30=True:=by kernel_rfl
theorem kv15x14:rkv 15 14=True:=by kernel_rfl
theorem kv15x21:rkv 15 21=True:=by kernel_rfl
theorem kv16x5:rkv 16 5=True:=by kernel_rfl
theorem kv16x12:rkv 16 12=True:=by kernel_rfl
theorem kv16x37:rkv 16 37=True:=by kernel_rfl
theorem kv17x3:rkv 17 3=True:=by kernel_rfl
theorem kv17x28:rkv 17 28=True:=by kernel_rfl
theorem kv17x35:rkv 17 35=True:=by kernel_rfl
theorem kv18x19:rkv 18 19=True:=by kernel_rfl
theorem kv18x26:rkv 18 26=True:=by kernel_rfl
theorem kv19x10:rkv 19 10=True:=by kernel_rfl
theorem kv19x17:rkv 19 17=True:=by kernel_rfl
theorem kv20x1:rkv 20 1=True:=by kernel_rfl
theorem kv20x8:rkv 20 8=True:=by kernel_rfl
theorem kv20x33:rkv 20 33=True:=by kernel_rfl
theorem kv20x40:rkv 20 40=True:=by kernel_rfl
theorem kv21x24:rkv 21 24=True:=by kernel_rfl
theorem kv21x31:rkv 21 31=True:=by kernel_rfl
theorem kv22x15:rkv 22 15=True:=by kernel_rfl
theorem kv22x22:rkv 22 22=True:=by kernel_rfl
theorem kv23x6:rkv 23 6=True:=by kernel_rfl
theorem kv23x13:rkv 23 13=True:=by kernel_rfl
theorem kv23x38:rkv 23 38=True:=by kernel_rfl
theorem kv24x4:rkv 24 4=True:=by kernel_rfl
theorem kv24x29:rkv 24 29=True:=by kernel_rfl
theorem kv24x36:rkv 24 36=True:=by kernel_rfl
theorem kv25x20:rkv 25 20=True:=by kernel_rfl
theorem kv25x27:rkv 25 27=True:=by kernel_rfl
theorem kv26x11:rkv 26 11=True:=by kernel_rfl
theorem kv26x18:rkv 26 18=True:=by kernel_rfl
theorem kv27x2:rkv 27 2=True:=by kernel_rfl
theorem kv27x9:rkv 27 9=True:=by kernel_rfl
theorem kv27x34:rkv 27 34=True:=by kernel_rfl
theorem kv28x0:rkv 28 0=True:=by kernel_rfl
theorem kv28x25:rkv 28 25=True:=by kernel_rfl
theorem kv28x32:rkv 28 32=True:=by kernel_rfl
theorem kv29x16:rkv 29 16=True:=by kernel_rfl
theorem kv29x23:rkv 29 23=True:=by kernel_rfl
theorem kv30x7:rkv 30 7=True:=by kernel_rfl
theorem kv30x14:rkv 30 14=True:=by kernel_rfl
theorem kv30x39:rkv 30 39=True:=by kernel_rfl
theorem kvf1x5 (q:Nat):vkv [.int .i64 (.ofNat 5),.int .i64 (.ofNat (q+41))]=True:=by kernel_rfl
theorem kvf1x13 (q:Nat):vkv [.int .i64 (.ofNat 13),.int .i64 (.ofNat (q+41))]=True:=by kernel_rfl
theorem kvf1x21 (q:Nat):vkv [.int .i64 (.ofNat 21),.int .i64 (.ofNat (q+41))]=True:=by kernel_rfl
theorem kvf1x29 (q:Nat):vkv [.int .i64 (.ofNat 29),.int .i64 (.ofNat (q+41))]=True:=by kernel_rfl
end Go.Proofs.YtcakhpfonailhaaGreatDoor.X
