/- KernelVars, computed. -/
import Derived.Test.YtcakhpfonailhaaGreatDoorRunKVD
namespace Go.Proofs.YtcakhpfonailhaaGreatDoor.X
set_option maxRecDepth 1000000
theorem kv1x8:rkv 1 8=True:=by kernel_rfl
theorem kv1x23:rkv 1 23=True:=by kernel_rfl
theorem kv1x40:rkv 1 40=True:=by kernel_rfl
theorem kv2x14:rkv 2 14=True:=by kernel_rfl
theorem kv2x31:rkv 2 31=True:=by kernel_rfl
theorem kv3x5:rkv 3 5=True:=by kernel_rfl
theorem kv3x22:rkv 3 22=True:=by kernel_rfl
theorem kv3x37:rkv 3 37=True:=by kernel_rfl
theorem kv4x13:rkv 4 13=True:=by kernel_rfl
theorem kv4x28:rkv 4 28=True:=by kernel_rfl
theorem kv5x4:rkv 5 4=True:=by kernel_rfl
theorem kv5x19:rkv 5 19=True:=by kernel_rfl
theorem kv5x36:rkv 5 36=True:=by kernel_rfl
theorem kv6x10:rkv 6 10=True:=by kernel_rfl
theorem kv6x27:rkv 6 27=True:=by kernel_rfl
theorem kv7x1:rkv 7 1=True:=by kernel_rfl
theorem kv7x18:rkv 7 18=True:=by kernel_rfl
theorem kv7x33:rkv 7 33=True:=by kernel_rfl
theorem kv8x9:rkv 8 9=True:=by kernel_rfl
theorem kv8x24:rkv 8 24=True:=by kernel_rfl
theorem kv9x0:rkv 9 0=True:=by kernel_rfl
theorem kv9x15:rkv 9 15=True:=by kernel_rfl
theorem kv9x32:rkv 9 32=True:=by kernel_rfl
theorem kv10x6:rkv 10 6=True:=by kernel_rfl
theorem kv10x23:rkv 10 23=True:=by kernel_rfl
theorem kv10x38:rkv 10 38=True:=by kernel_rfl
theorem kv11x14:rkv 11 14=True:=by kernel_rfl
theorem kv11x29:rkv 11 29=True:=by kernel_rfl
theorem kv12x5:rkv 12 5=True:=by kernel_rfl
theorem kv12x20:rkv 12 20=True:=by kernel_rfl
theorem kv12x37:rkv 12 37=True:=by kernel_rfl
theorem kv13x11:rkv 13 11=True:=by kernel_rfl
theorem kv13x28:rkv 13 28=True:=by kernel_rfl
theorem kv14x2:rkv 14 2=True:=by kernel_rfl
theorem kv14x19:rkv 14 19=True:=by kernel_rfl
theorem kv14x34:rkv 14 34=True:=by kernel_rfl
theorem kv15x10:rkv 15 10=True:=by kernel_rfl
theorem kv15x25:rkv 15 25=True:=by kernel_rfl
theorem kv16x1:rkv 16 1=True:=by kernel_rfl
theorem kv16x16:rkv 16 16=True:=by kernel_rfl
theorem kv16x33:rkv 16 33=True:=by kernel_rfl
theorem kv17x7:rkv 17 7=True:=by kernel_rfl
theorem kv17x24:rkv 17 24=True:=by kernel_rfl
theorem kv17x39:rkv 17 39=True:=by kernel_rfl
theorem kv18x15:rkv 18 15=True:=by kernel_rfl
theorem kv18x30:rkv 18 30=True:=by kernel_rfl
theorem kv19x6:rkv 19 6=True:=by kernel_rfl
theorem kv19x21:rkv 19 21=True:=by kernel_rfl
theorem kv19x38:rkv 19 38=True:=by kernel_rfl
theorem kv20x12:rkv 20 12=True:=by kernel_rfl
theorem kv20x29:rkv 20 29=True:=by kernel_rfl
theorem kv21x3:rkv 21 3=True:=by kernel_rfl
theorem kv21x20:rkv 21 20=True:=by kernel_rfl
theorem kv21x35:rkv 21 35=True:=by kernel_rfl
theorem kv22x11:rkv 22 11=True:=by kernel_rfl
theorem kv22x26:rkv 22 26=True:=by kernel_rfl
theorem kv23x2:rkv 23 2=True:=by kernel_rfl
theorem kv23x17:rkv 23 17=True:=by kernel_rfl
theorem kv23x34:rkv 23 34=True:=by kernel_rfl
theorem kv24x8:rkv 24 8=True:=by kernel_rfl
theorem kv24x25:rkv 24 25=True:=by kernel_rfl
theorem kv24x40:rkv 24 40=True:=by kernel_rfl
theorem kv25x16:rkv 25 16=True:=by kernel_rfl
theorem kv25x31:rkv 25 31=True:=by kernel_rfl
theorem kv26x7:rkv 26 7=True:=by kernel_rfl
theorem kv26x22:rkv 26 22=True:=by kernel_rfl
theorem kv26x39:rkv 26 39=True:=by kernel_rfl
theorem kv27x13:rkv 27 13=True:=by kernel_rfl
theorem kv27x30:rkv 27 30=True:=by kernel_rfl
theorem kv28x4:rkv 28 4=True:=by kernel_rfl
theorem kv28x21:rkv 28 21=True:=by kernel_rfl
theorem kv28x36:rkv 28 36=True:=by kernel_rfl
theorem kv29x12:rkv 29 12=True:=by kernel_rfl
theorem kv29x27:rkv 29 27=True:=by kernel_rfl
theorem kv30x3:rkv 30 3=True:=by kernel_rfl
theorem kv30x18:rkv 30 18=True:=by kernel_rfl
theorem kv30x35:rkv 30 35=True:=by kernel_rfl
theorem kvf1x3 (q:Nat):vkv [.int .i64 (.ofNat 3),.int .i64 (.ofNat (q+41))]=True:=by kernel_rfl
theorem kvf1x11 (q:Nat):vkv [.int .i64 (.ofNat 11),.int .i64 (.ofNat (q+41))]=True:=by kernel_rfl
theorem kvf1x19 (q:Nat):vkv [.int .i64 (.ofNat 19),.int .i64 (.ofNat (q+41))]=True:=by kernel_rfl
theorem kvf1x27 (q:Nat):vkv [.int .i64 (.ofNat 27),.int .i64 (.ofNat (q+41))]=True:=by kernel_rfl
end Go.Proofs.YtcakhpfonailhaaGreatDoor.X
