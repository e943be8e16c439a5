/- KernelVars, computed. -/
import Derived.Test.YtcakhpfonailhaaGreatDoorRunKVD
namespace Go.Proofs.YtcakhpfonailhaaGreatDoor.X
set_option maxRecDepth 1000000
theorem kv1x10:rkv 1 10=True:=by kernel_rfl
theorem kv1x21:rkv 1 21=True:=by kernel_rfl
theorem kv2x1:rkv 2 1=True:=by kernel_rfl
theorem kv2x12:rkv 2 12=True:=by kernel_rfl
theorem kv2x33:rkv 2 33=True:=by kernel_rfl
theorem kv3x3:rkv 3 3=True:=by kernel_rfl
theorem kv3x24:rkv 3 24=True:=by kernel_rfl
theorem kv3x35:rkv 3 35=True:=by kernel_rfl
theorem kv4x15:rkv 4 15=True:=by kernel_rfl
theorem kv4x26:rkv 4 26=True:=by kernel_rfl
theorem kv5x6:rkv 5 6=True:=by kernel_rfl
theorem kv5x17:rkv 5 17=True:=by kernel_rfl
theorem kv5x38:rkv 5 38=True:=by kernel_rfl
theorem kv6x8:rkv 6 8=True:=by kernel_rfl
theorem kv6x29:rkv 6 29=True:=by kernel_rfl
theorem kv6x40:rkv 6 40=True:=by kernel_rfl
theorem kv7x20:rkv 7 20=True:=by kernel_rfl
theorem kv7x31:rkv 7 31=True:=by kernel_rfl
theorem kv8x11:rkv 8 11=True:=by kernel_rfl
theorem kv8x22:rkv 8 22=True:=by kernel_rfl
theorem kv9x2:rkv 9 2=True:=by kernel_rfl
theorem kv9x13:rkv 9 13=True:=by kernel_rfl
theorem kv9x34:rkv 9 34=True:=by kernel_rfl
theorem kv10x4:rkv 10 4=True:=by kernel_rfl
theorem kv10x25:rkv 10 25=True:=by kernel_rfl
theorem kv10x36:rkv 10 36=True:=by kernel_rfl
theorem kv11x16:rkv 11 16=True:=by kernel_rfl
theorem kv11x27:rkv 11 27=True:=by kernel_rfl
theorem kv12x7:rkv 12 7=True:=by kernel_rfl
theorem kv12x18:rkv 12 18=True:=by kernel_rfl
theorem kv12x39:rkv 12 39=True:=by kernel_rfl
theorem kv13x9:rkv 13 9=True:=by kernel_rfl
theorem kv13x30:rkv 13 30=True:=by kernel_rfl
theorem kv14x0:rkv 14 0=True:=by kernel_rfl
theorem kv14x21:rkv 14 21=True:=by kernel_rfl
theorem kv14x32:rkv 14 32=True:=by kernel_rfl
theorem kv15x12:rkv 15 12=True:=by kernel_rfl
theorem kv15x23:rkv 15 23=True:=by kernel_rfl
theorem kv16x3:rkv 16 3=True:=by kernel_rfl
theorem kv16x14:rkv 16 14=True:=by kernel_rfl
theorem kv16x35:rkv 16 35=True:=by kernel_rfl
theorem kv17x5:rkv 17 5=True:=by kernel_rfl
theorem kv17x26:rkv 17 26=True:=by kernel_rfl
theorem kv17x37:rkv 17 37=True:=by kernel_rfl
theorem kv18x17:rkv 18 17=True:=by kernel_rfl
theorem kv18x28:rkv 18 28=True:=by kernel_rfl
theorem kv19x8:rkv 19 8=True:=by kernel_rfl
theorem kv19x19:rkv 19 19=True:=by kernel_rfl
theorem kv19x40:rkv 19 40=True:=by kernel_rfl
theorem kv20x10:rkv 20 10=True:=by kernel_rfl
theorem kv20x31:rkv 20 31=True:=by kernel_rfl
theorem kv21x1:rkv 21 1=True:=by kernel_rfl
theorem kv21x22:rkv 21 22=True:=by kernel_rfl
theorem kv21x33:rkv 21 33=True:=by kernel_rfl
theorem kv22x13:rkv 22 13=True:=by kernel_rfl
theorem kv22x24:rkv 22 24=True:=by kernel_rfl
theorem kv23x4:rkv 23 4=True:=by kernel_rfl
theorem kv23x15:rkv 23 15=True:=by kernel_rfl
theorem kv23x36:rkv 23 36=True:=by kernel_rfl
theorem kv24x6:rkv 24 6=True:=by kernel_rfl
theorem kv24x27:rkv 24 27=True:=by kernel_rfl
theorem kv24x38:rkv 24 38=True:=by kernel_rfl
theorem kv25x18:rkv 25 18=True:=by kernel_rfl
theorem kv25x29:rkv 25 29=True:=by kernel_rfl
theorem kv26x9:rkv 26 9=True:=by kernel_rfl
theorem kv26x20:rkv 26 20=True:=by kernel_rfl
theorem kv27x0:rkv 27 0=True:=by kernel_rfl
theorem kv27x11:rkv 27 11=True:=by kernel_rfl
theorem kv27x32:rkv 27 32=True:=by kernel_rfl
theorem kv28x2:rkv 28 2=True:=by kernel_rfl
theorem kv28x23:rkv 28 23=True:=by kernel_rfl
theorem kv28x34:rkv 28 34=True:=by kernel_rfl
theorem kv29x14:rkv 29 14=True:=by kernel_rfl
theorem kv29x25:rkv 29 25=True:=by kernel_rfl
theorem kv30x5:rkv 30 5=True:=by kernel_rfl
theorem kv30x16:rkv 30 16=True:=by kernel_rfl
theorem kv30x37:rkv 30 37=True:=by kernel_rfl
theorem kvf1x4 (q:Nat):vkv [.int .i64 (.ofNat 4),.int .i64 (.ofNat (q+41))]=True:=by kernel_rfl
theorem kvf1x12 (q:Nat):vkv [.int .i64 (.ofNat 12),.int .i64 (.ofNat (q+41))]=True:=by kernel_rfl
theorem kvf1x20 (q:Nat):vkv [.int .i64 (.ofNat 20),.int .i64 (.ofNat (q+41))]=True:=by kernel_rfl
theorem kvf1x28 (q:Nat):vkv [.int .i64 (.ofNat 28),.int .i64 (.ofNat (q+41))]=True:=by kernel_rfl
end Go.Proofs.YtcakhpfonailhaaGreatDoor.X
