/- KernelVars, computed. -/
import Derived.Test.YtcakhpfonailhaaGreatDoorRunKVD
namespace Go.Proofs.YtcakhpfonailhaaGreatDoor.X
set_option maxRecDepth 1000000
theorem kv1x6:rkv 1 6=True:=by kernel_rfl
theorem kv1x25:rkv 1 25=True:=by kernel_rfl
theorem kv1x38:rkv 1 38=True:=by kernel_rfl
theorem kv2x16:rkv 2 16=True:=by kernel_rfl
theorem kv2x29:rkv 2 29=True:=by kernel_rfl
theorem kv3x7:rkv 3 7=True:=by kernel_rfl
theorem kv3x20:rkv 3 20=True:=by kernel_rfl
theorem kv3x39:rkv 3 39=True:=by kernel_rfl
theorem kv4x11:rkv 4 11=True:=by kernel_rfl
theorem kv4x30:rkv 4 30=True:=by kernel_rfl
theorem kv5x2:rkv 5 2=True:=by kernel_rfl
theorem kv5x21:rkv 5 21=True:=by kernel_rfl
theorem kv5x34:rkv 5 34=True:=by kernel_rfl
theorem kv6x12:rkv 6 12=True:=by kernel_rfl
theorem kv6x25:rkv 6 25=True:=by kernel_rfl
theorem kv7x3:rkv 7 3=True:=by kernel_rfl
theorem kv7x16:rkv 7 16=True:=by kernel_rfl
theorem kv7x35:rkv 7 35=True:=by kernel_rfl
theorem kv8x7:rkv 8 7=True:=by kernel_rfl
theorem kv8x26:rkv 8 26=True:=by kernel_rfl
theorem kv8x39:rkv 8 39=True:=by kernel_rfl
theorem kv9x17:rkv 9 17=True:=by kernel_rfl
theorem kv9x30:rkv 9 30=True:=by kernel_rfl
theorem kv10x8:rkv 10 8=True:=by kernel_rfl
theorem kv10x21:rkv 10 21=True:=by kernel_rfl
theorem kv10x40:rkv 10 40=True:=by kernel_rfl
theorem kv11x12:rkv 11 12=True:=by kernel_rfl
theorem kv11x31:rkv 11 31=True:=by kernel_rfl
theorem kv12x3:rkv 12 3=True:=by kernel_rfl
theorem kv12x22:rkv 12 22=True:=by kernel_rfl
theorem kv12x35:rkv 12 35=True:=by kernel_rfl
theorem kv13x13:rkv 13 13=True:=by kernel_rfl
theorem kv13x26:rkv 13 26=True:=by kernel_rfl
theorem kv14x4:rkv 14 4=True:=by kernel_rfl
theorem kv14x17:rkv 14 17=True:=by kernel_rfl
theorem kv14x36:rkv 14 36=True:=by kernel_rfl
theorem kv15x8:rkv 15 8=True:=by kernel_rfl
theorem kv15x27:rkv 15 27=True:=by kernel_rfl
theorem kv15x40:rkv 15 40=True:=by kernel_rfl
theorem kv16x18:rkv 16 18=True:=by kernel_rfl
theorem kv16x31:rkv 16 31=True:=by kernel_rfl
theorem kv17x9:rkv 17 9=True:=by kernel_rfl
theorem kv17x22:rkv 17 22=True:=by kernel_rfl
theorem kv18x0:rkv 18 0=True:=by kernel_rfl
theorem kv18x13:rkv 18 13=True:=by kernel_rfl
theorem kv18x32:rkv 18 32=True:=by kernel_rfl
theorem kv19x4:rkv 19 4=True:=by kernel_rfl
theorem kv19x23:rkv 19 23=True:=by kernel_rfl
theorem kv19x36:rkv 19 36=True:=by kernel_rfl
theorem kv20x14:rkv 20 14=True:=by kernel_rfl
theorem kv20x27:rkv 20 27=True:=by kernel_rfl
theorem kv21x5:rkv 21 5=True:=by kernel_rfl
theorem kv21x18:rkv 21 18=True:=by kernel_rfl
theorem kv21x37:rkv 21 37=True:=by kernel_rfl
theorem kv22x9:rkv 22 9=True:=by kernel_rfl
theorem kv22x28:rkv 22 28=True:=by kernel_rfl
theorem kv23x0:rkv 23 0=True:=by kernel_rfl
theorem kv23x19:rkv 23 19=True:=by kernel_rfl
theorem kv23x32:rkv 23 32=True:=by kernel_rfl
theorem kv24x10:rkv 24 10=True:=by kernel_rfl
theorem kv24x23:rkv 24 23=True:=by kernel_rfl
theorem kv25x1:rkv 25 1=True:=by kernel_rfl
theorem kv25x14:rkv 25 14=True:=by kernel_rfl
theorem kv25x33:rkv 25 33=True:=by kernel_rfl
theorem kv26x5:rkv 26 5=True:=by kernel_rfl
theorem kv26x24:rkv 26 24=True:=by kernel_rfl
theorem kv26x37:rkv 26 37=True:=by kernel_rfl
theorem kv27x15:rkv 27 15=True:=by kernel_rfl
theorem kv27x28:rkv 27 28=True:=by kernel_rfl
theorem kv28x6:rkv 28 6=True:=by kernel_rfl
theorem kv28x19:rkv 28 19=True:=by kernel_rfl
theorem kv28x38:rkv 28 38=True:=by kernel_rfl
theorem kv29x10:rkv 29 10=True:=by kernel_rfl
theorem kv29x29:rkv 29 29=True:=by kernel_rfl
theorem kv30x1:rkv 30 1=True:=by kernel_rfl
theorem kv30x20:rkv 30 20=True:=by kernel_rfl
theorem kv30x33:rkv 30 33=True:=by kernel_rfl
theorem kvf1x2 (q:Nat):vkv [.int .i64 (.ofNat 2),.int .i64 (.ofNat (q+41))]=True:=by kernel_rfl
theorem kvf1x10 (q:Nat):vkv [.int .i64 (.ofNat 10),.int .i64 (.ofNat (q+41))]=True:=by kernel_rfl
theorem kvf1x18 (q:Nat):vkv [.int .i64 (.ofNat 18),.int .i64 (.ofNat (q+41))]=True:=by kernel_rfl
theorem kvf1x26 (q:Nat):vkv [.int .i64 (.ofNat 26),.int .i64 (.ofNat (q+41))]=True:=by kernel_rfl
end Go.Proofs.YtcakhpfonailhaaGreatDoor.X
