/- KernelVars, computed. -/
import Derived.Test.YtcakhpfonailhaaGreatDoorRunKVD
namespace Go.Proofs.YtcakhpfonailhaaGreatDoor.X
set_option maxRecDepth 1000000
theorem kv1x4:rkv 1 4=True:=by kernel_rfl
theorem kv1x27:rkv 1 27=True:=by kernel_rfl
theorem kv1x36:rkv 1 36=True:=by kernel_rfl
theorem kv2x18:rkv 2 18=True:=by kernel_rfl
theorem kv2x27:rkv 2 27=True:=by kernel_rfl
theorem kv3x9:rkv 3 9=True:=by kernel_rfl
theorem kv3x18:rkv 3 18=True:=by kernel_rfl
theorem kv4x0:rkv 4 0=True:=by kernel_rfl
theorem kv4x9:rkv 4 9=True:=by kernel_rfl
theorem kv4x32:rkv 4 32=True:=by kernel_rfl
theorem kv5x0:rkv 5 0=True:=by kernel_rfl
theorem kv5x23:rkv 5 23=True:=by kernel_rfl
theorem kv5x32:rkv 5 32=True:=by kernel_rfl
theorem kv6x14:rkv 6 14=True:=by kernel_rfl
theorem kv6x23:rkv 6 23=True:=by kernel_rfl
theorem kv7x5:rkv 7 5=True:=by kernel_rfl
theorem kv7x14:rkv 7 14=True:=by kernel_rfl
theorem kv7x37:rkv 7 37=True:=by kernel_rfl
theorem kv8x5:rkv 8 5=True:=by kernel_rfl
theorem kv8x28:rkv 8 28=True:=by kernel_rfl
theorem kv8x37:rkv 8 37=True:=by kernel_rfl
theorem kv9x19:rkv 9 19=True:=by kernel_rfl
theorem kv9x28:rkv 9 28=True:=by kernel_rfl
theorem kv10x10:rkv 10 10=True:=by kernel_rfl
theorem kv10x19:rkv 10 19=True:=by kernel_rfl
theorem kv11x1:rkv 11 1=True:=by kernel_rfl
theorem kv11x10:rkv 11 10=True:=by kernel_rfl
theorem kv11x33:rkv 11 33=True:=by kernel_rfl
theorem kv12x1:rkv 12 1=True:=by kernel_rfl
theorem kv12x24:rkv 12 24=True:=by kernel_rfl
theorem kv12x33:rkv 12 33=True:=by kernel_rfl
theorem kv13x15:rkv 13 15=True:=by kernel_rfl
theorem kv13x24:rkv 13 24=True:=by kernel_rfl
theorem kv14x6:rkv 14 6=True:=by kernel_rfl
theorem kv14x15:rkv 14 15=True:=by kernel_rfl
theorem kv14x38:rkv 14 38=True:=by kernel_rfl
theorem kv15x6:rkv 15 6=True:=by kernel_rfl
theorem kv15x29:rkv 15 29=True:=by kernel_rfl
theorem kv15x38:rkv 15 38=True:=by kernel_rfl
theorem kv16x20:rkv 16 20=True:=by kernel_rfl
theorem kv16x29:rkv 16 29=True:=by kernel_rfl
theorem kv17x11:rkv 17 11=True:=by kernel_rfl
theorem kv17x20:rkv 17 20=True:=by kernel_rfl
theorem kv18x2:rkv 18 2=True:=by kernel_rfl
theorem kv18x11:rkv 18 11=True:=by kernel_rfl
theorem kv18x34:rkv 18 34=True:=by kernel_rfl
theorem kv19x2:rkv 19 2=True:=by kernel_rfl
theorem kv19x25:rkv 19 25=True:=by kernel_rfl
theorem kv19x34:rkv 19 34=True:=by kernel_rfl
theorem kv20x16:rkv 20 16=True:=by kernel_rfl
theorem kv20x25:rkv 20 25=True:=by kernel_rfl
theorem kv21x7:rkv 21 7=True:=by kernel_rfl
theorem kv21x16:rkv 21 16=True:=by kernel_rfl
theorem kv21x39:rkv 21 39=True:=by kernel_rfl
theorem kv22x7:rkv 22 7=True:=by kernel_rfl
theorem kv22x30:rkv 22 30=True:=by kernel_rfl
theorem kv22x39:rkv 22 39=True:=by kernel_rfl
theorem kv23x21:rkv 23 21=True:=by kernel_rfl
theorem kv23x30:rkv 23 30=True:=by kernel_rfl
theorem kv24x12:rkv 24 12=True:=by kernel_rfl
theorem kv24x21:rkv 24 21=True:=by kernel_rfl
theorem kv25x3:rkv 25 3=True:=by kernel_rfl
theorem kv25x12:rkv 25 12=True:=by kernel_rfl
theorem kv25x35:rkv 25 35=True:=by kernel_rfl
theorem kv26x3:rkv 26 3=True:=by kernel_rfl
theorem kv26x26:rkv 26 26=True:=by kernel_rfl
theorem kv26x35:rkv 26 35=True:=by kernel_rfl
theorem kv27x17:rkv 27 17=True:=by kernel_rfl
theorem kv27x26:rkv 27 26=True:=by kernel_rfl
theorem kv28x8:rkv 28 8=True:=by kernel_rfl
theorem kv28x17:rkv 28 17=True:=by kernel_rfl
theorem kv28x40:rkv 28 40=True:=by kernel_rfl
theorem kv29x8:rkv 29 8=True:=by kernel_rfl
theorem kv29x31:rkv 29 31=True:=by kernel_rfl
theorem kv29x40:rkv 29 40=True:=by kernel_rfl
theorem kv30x22:rkv 30 22=True:=by kernel_rfl
theorem kv30x31:rkv 30 31=True:=by kernel_rfl
theorem kvf1x1 (q:Nat):vkv [.int .i64 (.ofNat 1),.int .i64 (.ofNat (q+41))]=True:=by kernel_rfl
theorem kvf1x9 (q:Nat):vkv [.int .i64 (.ofNat 9),.int .i64 (.ofNat (q+41))]=True:=by kernel_rfl
theorem kvf1x17 (q:Nat):vkv [.int .i64 (.ofNat 17),.int .i64 (.ofNat (q+41))]=True:=by kernel_rfl
theorem kvf1x25 (q:Nat):vkv [.int .i64 (.ofNat 25),.int .i64 (.ofNat (q+41))]=True:=by kernel_rfl
end Go.Proofs.YtcakhpfonailhaaGreatDoor.X
