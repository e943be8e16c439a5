/- KernelVars, computed. -/
import Derived.Test.YtcakhpfonailhaaGreatDoorRunKVD
namespace Go.Proofs.YtcakhpfonailhaaGreatDoor.X
set_option maxRecDepth 1000000
theorem kv1x0:rkv 1 0=True:=by kernel_rfl
theorem kv1x31:rkv 1 31=True:=by kernel_rfl
theorem kv1x32:rkv 1 32=True:=by kernel_rfl
theorem kv2x22:rkv 2 22=True:=by kernel_rfl
theorem kv2x23:rkv 2 23=True:=by kernel_rfl
theorem kv3x13:rkv 3 13=True:=by kernel_rfl
theorem kv3x14:rkv 3 14=True:=by kernel_rfl
theorem kv4x4:rkv 4 4=True:=by kernel_rfl
theorem kv4x5:rkv 4 5=True:=by kernel_rfl
theorem kv4x36:rkv 4 36=True:=by kernel_rfl
theorem kv4x37:rkv 4 37=True:=by kernel_rfl
theorem kv5x27:rkv 5 27=True:=by kernel_rfl
theorem kv5x28:rkv 5 28=True:=by kernel_rfl
theorem kv6x18:rkv 6 18=True:=by kernel_rfl
theorem kv6x19:rkv 6 19=True:=by kernel_rfl
theorem kv7x9:rkv 7 9=True:=by kernel_rfl
theorem kv7x10:rkv 7 10=True:=by kernel_rfl
theorem kv8x0:rkv 8 0=True:=by kernel_rfl
theorem kv8x1:rkv 8 1=True:=by kernel_rfl
theorem kv8x32:rkv 8 32=True:=by kernel_rfl
theorem kv8x33:rkv 8 33=True:=by kernel_rfl
theorem kv9x23:rkv 9 23=True:=by kernel_rfl
theorem kv9x24:rkv 9 24=True:=by kernel_rfl
theorem kv10x14:rkv 10 14=True:=by kernel_rfl
theorem kv10x15:rkv 10 15=True:=by kernel_rfl
theorem kv11x5:rkv 11 5=True:=by kernel_rfl
theorem kv11x6:rkv 11 6=True:=by kernel_rfl
theorem kv11x37:rkv 11 37=True:=by kernel_rfl
theorem kv11x38:rkv 11 38=True:=by kernel_rfl
theorem kv12x28:rkv 12 28=True:=by kernel_rfl
theorem kv12x29:rkv 12 29=True:=by kernel_rfl
theorem kv13x19:rkv 13 19=True:=by kernel_rfl
theorem kv13x20:rkv 13 20=True:=by kernel_rfl
theorem kv14x10:rkv 14 10=True:=by kernel_rfl
theorem kv14x11:rkv 14 11=True:=by kernel_rfl
theorem kv15x1:rkv 15 1=True:=by kernel_rfl
theorem kv15x2:rkv 15 2=True:=by kernel_rfl
theorem kv15x33:rkv 15 33=True:=by kernel_rfl
theorem kv15x34:rkv 15 34=True:=by kernel_rfl
theorem kv16x24:rkv 16 24=True:=by kernel_rfl
theorem kv16x25:rkv 16 25=True:=by kernel_rfl
theorem kv17x15:rkv 17 15=True:=by kernel_rfl
theorem kv17x16:rkv 17 16=True:=by kernel_rfl
theorem kv18x6:rkv 18 6=True:=by kernel_rfl
theorem kv18x7:rkv 18 7=True:=by kernel_rfl
theorem kv18x38:rkv 18 38=True:=by kernel_rfl
theorem kv18x39:rkv 18 39=True:=by kernel_rfl
theorem kv19x29:rkv 19 29=True:=by kernel_rfl
theorem kv19x30:rkv 19 30=True:=by kernel_rfl
theorem kv20x20:rkv 20 20=True:=by kernel_rfl
theorem kv20x21:rkv 20 21=True:=by kernel_rfl
theorem kv21x11:rkv 21 11=True:=by kernel_rfl
theorem kv21x12:rkv 21 12=True:=by kernel_rfl
theorem kv22x2:rkv 22 2=True:=by kernel_rfl
theorem kv22x3:rkv 22 3=True:=by kernel_rfl
theorem kv22x34:rkv 22 34=True:=by kernel_rfl
theorem kv22x35:rkv 22 35=True:=by kernel_rfl
theorem kv23x25:rkv 23 25=True:=by kernel_rfl
theorem kv23x26:rkv 23 26=True:=by kernel_rfl
theorem kv24x16:rkv 24 16=True:=by kernel_rfl
theorem kv24x17:rkv 24 17=True:=by kernel_rfl
theorem kv25x7:rkv 25 7=True:=by kernel_rfl
theorem kv25x8:rkv 25 8=True:=by kernel_rfl
theorem kv25x39:rkv 25 39=True:=by kernel_rfl
theorem kv25x40:rkv 25 40=True:=by kernel_rfl
theorem kv26x30:rkv 26 30=True:=by kernel_rfl
theorem kv26x31:rkv 26 31=True:=by kernel_rfl
theorem kv27x21:rkv 27 21=True:=by kernel_rfl
theorem kv27x22:rkv 27 22=True:=by kernel_rfl
theorem kv28x12:rkv 28 12=True:=by kernel_rfl
theorem kv28x13:rkv 28 13=True:=by kernel_rfl
theorem kv29x3:rkv 29 3=True:=by kernel_rfl
theorem kv29x4:rkv 29 4=True:=by kernel_rfl
theorem kv29x35:rkv 29 35=True:=by kernel_rfl
theorem kv29x36:rkv 29 36=True:=by kernel_rfl
theorem kv30x26:rkv 30 26=True:=by kernel_rfl
theorem kv30x27:rkv 30 27=True:=by kernel_rfl
theorem kvn0 (q:Nat) (k:Int):vkv [.int .i64 (.negSucc q),.int .i64 k]=True:=by kernel_rfl
theorem kvf1x7 (q:Nat):vkv [.int .i64 (.ofNat 7),.int .i64 (.ofNat (q+41))]=True:=by kernel_rfl
theorem kvf1x15 (q:Nat):vkv [.int .i64 (.ofNat 15),.int .i64 (.ofNat (q+41))]=True:=by kernel_rfl
theorem kvf1x23 (q:Nat):vkv [.int .i64 (.ofNat 23),.int .i64 (.ofNat (q+41))]=True:=by kernel_rfl
end Go.Proofs.YtcakhpfonailhaaGreatDoor.X
