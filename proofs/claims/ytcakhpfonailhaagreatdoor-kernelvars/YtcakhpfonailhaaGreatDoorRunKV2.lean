/- KernelVars, computed. -/
import Derived.Test.YtcakhpfonailhaaGreatDoorRunKVD
namespace Go.Proofs.YtcakhpfonailhaaGreatDoor.X
set_option maxRecDepth 1000000
theorem kv1x2:rkv 1 2=True:=by kernel_rfl
theorem kv1x29:rkv 1 29=True:=by kernel_rfl
theorem kv1x34:rkv 1 34=True:=by kernel_rfl
theorem kv2x20:rkv 2 20=True:=by kernel_rfl
theorem kv2x25:rkv 2 25=True:=by kernel_rfl
theorem kv3x11:rkv 3 11=True:=by kernel_rfl
theorem kv3x16:rkv 3 16=True:=by kernel_rfl
theorem kv4x2:rkv 4 2=True:=by kernel_rfl
theorem kv4x7:rkv 4 7=True:=by kernel_rfl
theorem kv4x34:rkv 4 34=True:=by kernel_rfl
theorem kv4x39:rkv 4 39=True:=by kernel_rfl
theorem kv5x25:rkv 5 25=True:=by kernel_rfl
theorem kv5x30:rkv 5 30=True:=by kernel_rfl
theorem kv6x16:rkv 6 16=True:=by kernel_rfl
theorem kv6x21:rkv 6 21=True:=by kernel_rfl
theorem kv7x7:rkv 7 7=True:=by kernel_rfl
theorem kv7x12:rkv 7 12=True:=by kernel_rfl
theorem kv7x39:rkv 7 39=True:=by kernel_rfl
theorem kv8x3:rkv 8 3=True:=by kernel_rfl
theorem kv8x30:rkv 8 30=True:=by kernel_rfl
theorem kv8x35:rkv 8 35=True:=by kernel_rfl
theorem kv9x21:rkv 9 21=True:=by kernel_rfl
theorem kv9x26:rkv 9 26=True:=by kernel_rfl
theorem kv10x12:rkv 10 12=True:=by kernel_rfl
theorem kv10x17:rkv 10 17=True:=by kernel_rfl
theorem kv11x3:rkv 11 3=True:=by kernel_rfl
theorem kv11x8:rkv 11 8=True:=by kernel_rfl
theorem kv11x35:rkv 11 35=True:=by kernel_rfl
theorem kv11x40:rkv 11 40=True:=by kernel_rfl
theorem kv12x26:rkv 12 26=True:=by kernel_rfl
theorem kv12x31:rkv 12 31=True:=by kernel_rfl
theorem kv13x17:rkv 13 17=True:=by kernel_rfl
theorem kv13x22:rkv 13 22=True:=by kernel_rfl
theorem kv14x8:rkv 14 8=True:=by kernel_rfl
theorem kv14x13:rkv 14 13=True:=by kernel_rfl
theorem kv14x40:rkv 14 40=True:=by kernel_rfl
theorem kv15x4:rkv 15 4=True:=by kernel_rfl
theorem kv15x31:rkv 15 31=True:=by kernel_rfl
theorem kv15x36:rkv 15 36=True:=by kernel_rfl
theorem kv16x22:rkv 16 22=True:=by kernel_rfl
theorem kv16x27:rkv 16 27=True:=by kernel_rfl
theorem kv17x13:rkv 17 13=True:=by kernel_rfl
theorem kv17x18:rkv 17 18=True:=by kernel_rfl
theorem kv18x4:rkv 18 4=True:=by kernel_rfl
theorem kv18x9:rkv 18 9=True:=by kernel_rfl
theorem kv18x36:rkv 18 36=True:=by kernel_rfl
theorem kv19x0:rkv 19 0=True:=by kernel_rfl
theorem kv19x27:rkv 19 27=True:=by kernel_rfl
theorem kv19x32:rkv 19 32=True:=by kernel_rfl
theorem kv20x18:rkv 20 18=True:=by kernel_rfl
theorem kv20x23:rkv 20 23=True:=by kernel_rfl
theorem kv21x9:rkv 21 9=True:=by kernel_rfl
theorem kv21x14:rkv 21 14=True:=by kernel_rfl
theorem kv22x0:rkv 22 0=True:=by kernel_rfl
theorem kv22x5:rkv 22 5=True:=by kernel_rfl
theorem kv22x32:rkv 22 32=True:=by kernel_rfl
theorem kv22x37:rkv 22 37=True:=by kernel_rfl
theorem kv23x23:rkv 23 23=True:=by kernel_rfl
theorem kv23x28:rkv 23 28=True:=by kernel_rfl
theorem kv24x14:rkv 24 14=True:=by kernel_rfl
theorem kv24x19:rkv 24 19=True:=by kernel_rfl
theorem kv25x5:rkv 25 5=True:=by kernel_rfl
theorem kv25x10:rkv 25 10=True:=by kernel_rfl
theorem kv25x37:rkv 25 37=True:=by kernel_rfl
theorem kv26x1:rkv 26 1=True:=by kernel_rfl
theorem kv26x28:rkv 26 28=True:=by kernel_rfl
theorem kv26x33:rkv 26 33=True:=by kernel_rfl
theorem kv27x19:rkv 27 19=True:=by kernel_rfl
theorem kv27x24:rkv 27 24=True:=by kernel_rfl
theorem kv28x10:rkv 28 10=True:=by kernel_rfl
theorem kv28x15:rkv 28 15=True:=by kernel_rfl
theorem kv29x1:rkv 29 1=True:=by kernel_rfl
theorem kv29x6:rkv 29 6=True:=by kernel_rfl
theorem kv29x33:rkv 29 33=True:=by kernel_rfl
theorem kv29x38:rkv 29 38=True:=by kernel_rfl
theorem kv30x24:rkv 30 24=True:=by kernel_rfl
theorem kv30x29:rkv 30 29=True:=by kernel_rfl
theorem kvl0x0 (k:Int):vkv [.int .i64 (.ofNat 0),.int .i64 k]=True:=by kernel_rfl
theorem kvf1x8 (q:Nat):vkv [.int .i64 (.ofNat 8),.int .i64 (.ofNat (q+41))]=True:=by kernel_rfl
theorem kvf1x16 (q:Nat):vkv [.int .i64 (.ofNat 16),.int .i64 (.ofNat (q+41))]=True:=by kernel_rfl
theorem kvf1x24 (q:Nat):vkv [.int .i64 (.ofNat 24),.int .i64 (.ofNat (q+41))]=True:=by kernel_rfl
end Go.Proofs.YtcakhpfonailhaaGreatDoor.X
