/- KernelVars, computed. -/
import Derived.Test.YtcakhpfonailhaaGreatDoorRunKVD
namespace Go.Proofs.YtcakhpfonailhaaGreatDoor.X
set_option maxRecDepth 1000000
theorem kv1x14:rkv 1 14=True:=by kernel_rfl
theorem kv1x17:rkv 1 17=True:=by kernel_rfl
theorem kv2x5:rkv 2 5=True:=by kernel_rfl
theorem kv2x8:rkv 2 8=True:=by kernel_rfl
theorem kv2x37:rkv 2 37=True:=by kernel_rfl
theorem kv2x40:rkv 2 40=True:=by kernel_rfl
theorem kv3x28:rkv 3 28=True:=by kernel_rfl
theorem kv3x31:rkv 3 31=True:=by kernel_rfl
theorem kv4x19:rkv 4 19=True:=by kernel_rfl
theorem kv4x22:rkv 4 22=True:=by kernel_rfl
theorem kv5x10:rkv 5 10=True:=by kernel_rfl
theorem kv5x13:rkv 5 13=True:=by kernel_rfl
theorem kv6x1:rkv 6 1=True:=by kernel_rfl
theorem kv6x4:rkv 6 4=True:=by kernel_rfl
theorem kv6x33:rkv 6 33=True:=by kernel_rfl
theorem kv6x36:rkv 6 36=True:=by kernel_rfl
theorem kv7x24:rkv 7 24=True:=by kernel_rfl
theorem kv7x27:rkv 7 27=True:=by kernel_rfl
theorem kv8x15:rkv 8 15=True:=by kernel_rfl
theorem kv8x18:rkv 8 18=True:=by kernel_rfl
theorem kv9x6:rkv 9 6=True:=by kernel_rfl
theorem kv9x9:rkv 9 9=True:=by kernel_rfl
theorem kv9x38:rkv 9 38=True:=by kernel_rfl
theorem kv10x0:rkv 10 0=True:=by kernel_rfl
theorem kv10x29:rkv 10 29=True:=by kernel_rfl
theorem kv10x32:rkv 10 32=True:=by kernel_rfl
theorem kv11x20:rkv 11 20=True:=by kernel_rfl
theorem kv11x23:rkv 11 23=True:=by kernel_rfl
theorem kv12x11:rkv 12 11=True:=by kernel_rfl
theorem kv12x14:rkv 12 14=True:=by kernel_rfl
theorem kv13x2:rkv 13 2=True:=by kernel_rfl
theorem kv13x5:rkv 13 5=True:=by kernel_rfl
theorem kv13x34:rkv 13 34=True:=by kernel_rfl
theorem kv13x37:rkv 13 37=True:=by kernel_rfl
theorem kv14x25:rkv 14 25=True:=by kernel_rfl
theorem kv14x28:rkv 14 28=True:=by kernel_rfl
theorem kv15x16:rkv 15 16=True:=by kernel_rfl
theorem kv15x19:rkv 15 19=True:=by kernel_rfl
theorem kv16x7:rkv 16 7=True:=by kernel_rfl
theorem kv16x10:rkv 16 10=True:=by kernel_rfl
theorem kv16x39:rkv 16 39=True:=by kernel_rfl
theorem kv17x1:rkv 17 1=True:=by kernel_rfl
theorem kv17x30:rkv 17 30=True:=by kernel_rfl
theorem kv17x33:rkv 17 33=True:=by kernel_rfl
theorem kv18x21:rkv 18 21=True:=by kernel_rfl
theorem kv18x24:rkv 18 24=True:=by kernel_rfl
theorem kv19x12:rkv 19 12=True:=by kernel_rfl
theorem kv19x15:rkv 19 15=True:=by kernel_rfl
theorem kv20x3:rkv 20 3=True:=by kernel_rfl
theorem kv20x6:rkv 20 6=True:=by kernel_rfl
theorem kv20x35:rkv 20 35=True:=by kernel_rfl
theorem kv20x38:rkv 20 38=True:=by kernel_rfl
theorem kv21x26:rkv 21 26=True:=by kernel_rfl
theorem kv21x29:rkv 21 29=True:=by kernel_rfl
theorem kv22x17:rkv 22 17=True:=by kernel_rfl
theorem kv22x20:rkv 22 20=True:=by kernel_rfl
theorem kv23x8:rkv 23 8=True:=by kernel_rfl
theorem kv23x11:rkv 23 11=True:=by kernel_rfl
theorem kv23x40:rkv 23 40=True:=by kernel_rfl
theorem kv24x2:rkv 24 2=True:=by kernel_rfl
theorem kv24x31:rkv 24 31=True:=by kernel_rfl
theorem kv24x34:rkv 24 34=True:=by kernel_rfl
theorem kv25x22:rkv 25 22=True:=by kernel_rfl
theorem kv25x25:rkv 25 25=True:=by kernel_rfl
theorem kv26x13:rkv 26 13=True:=by kernel_rfl
theorem kv26x16:rkv 26 16=True:=by kernel_rfl
theorem kv27x4:rkv 27 4=True:=by kernel_rfl
theorem kv27x7:rkv 27 7=True:=by kernel_rfl
theorem kv27x36:rkv 27 36=True:=by kernel_rfl
theorem kv27x39:rkv 27 39=True:=by kernel_rfl
theorem kv28x27:rkv 28 27=True:=by kernel_rfl
theorem kv28x30:rkv 28 30=True:=by kernel_rfl
theorem kv29x18:rkv 29 18=True:=by kernel_rfl
theorem kv29x21:rkv 29 21=True:=by kernel_rfl
theorem kv30x9:rkv 30 9=True:=by kernel_rfl
theorem kv30x12:rkv 30 12=True:=by kernel_rfl
theorem kvf1x6 (q:Nat):vkv [.int .i64 (.ofNat 6),.int .i64 (.ofNat (q+41))]=True:=by kernel_rfl
theorem kvf1x14 (q:Nat):vkv [.int .i64 (.ofNat 14),.int .i64 (.ofNat (q+41))]=True:=by kernel_rfl
theorem kvf1x22 (q:Nat):vkv [.int .i64 (.ofNat 22),.int .i64 (.ofNat (q+41))]=True:=by kernel_rfl
theorem kvf1x30 (q:Nat):vkv [.int .i64 (.ofNat 30),.int .i64 (.ofNat (q+41))]=True:=by kernel_rfl
end Go.Proofs.YtcakhpfonailhaaGreatDoor.X
