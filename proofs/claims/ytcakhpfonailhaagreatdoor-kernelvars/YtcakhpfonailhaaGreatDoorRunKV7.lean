/- KernelVars, computed. -/
import Derived.Test.YtcakhpfonailhaaGreatDoorRunKVD
namespace Go.Proofs.YtcakhpfonailhaaGreatDoor.X
set_option maxRecDepth 1000000
theorem kv1x7:rkv 1 7=True:=by kernel_rfl
theorem kv1x24:rkv 1 24=True:=by kernel_rfl
theorem kv1x39:rkv 1 39=True:=by kernel_rfl
theorem kv2x15:rkv 2 15=True:=by kernel_rfl
theorem kv2x30:rkv 2 30=True:=by kernel_rfl
theorem kv3x6:rkv 3 6=True:=by kernel_rfl
theorem kv3x21:rkv 3 21=True:=by kernel_rfl
theorem kv3x38:rkv 3 38=True:=by kernel_rfl
theorem kv4x12:rkv 4 12=True:=by kernel_rfl
theorem kv4x29:rkv 4 29=True:=by kernel_rfl
theorem kv5x3:rkv 5 3=True:=by kernel_rfl
theorem kv5x20:rkv 5 20=True:=by kernel_rfl
theorem kv5x35:rkv 5 35=True:=by kernel_rfl
theorem kv6x11:rkv 6 11=True:=by kernel_rfl
theorem kv6x26:rkv 6 26=True:=by kernel_rfl
theorem kv7x2:rkv 7 2=True:=by kernel_rfl
theorem kv7x17:rkv 7 17=True:=by kernel_rfl
theorem kv7x34:rkv 7 34=True:=by kernel_rfl
theorem kv8x8:rkv 8 8=True:=by kernel_rfl
theorem kv8x25:rkv 8 25=True:=by kernel_rfl
theorem kv8x40:rkv 8 40=True:=by kernel_rfl
theorem kv9x16:rkv 9 16=True:=by kernel_rfl
theorem kv9x31:rkv 9 31=True:=by kernel_rfl
theorem kv10x7:rkv 10 7=True:=by kernel_rfl
theorem kv10x22:rkv 10 22=True:=by kernel_rfl
theorem kv10x39:rkv 10 39=True:=by kernel_rfl
theorem kv11x13:rkv 11 13=True:=by kernel_rfl
theorem kv11x30:rkv 11 30=True:=by kernel_rfl
theorem kv12x4:rkv 12 4=True:=by kernel_rfl
theorem kv12x21:rkv 12 21=True:=by kernel_rfl
theorem kv12x36:rkv 12 36=True:=by kernel_rfl
theorem kv13x12:rkv 13 12=True:=by kernel_rfl
theorem kv13x27:rkv 13 27=True:=by kernel_rfl
theorem kv14x3:rkv 14 3=True:=by kernel_rfl
theorem kv14x18:rkv 14 18=True:=by kernel_rfl
theorem kv14x35:rkv 14 35=True:=by kernel_rfl
theorem kv15x9:rkv 15 9=True:=by kernel_rfl
theorem kv15x26:rkv 15 26=True:=by kernel_rfl
theorem kv16x0:rkv 16 0=True:=by kernel_rfl
theorem kv16x17:rkv 16 17=True:=by kernel_rfl
theorem kv16x32:rkv 16 32=True:=by kernel_rfl
theorem kv17x8:rkv 17 8=True:=by kernel_rfl
theorem kv17x23:rkv 17 23=True:=by kernel_rfl
theorem kv17x40:rkv 17 40=True:=by kernel_rfl
theorem kv18x14:rkv 18 14=True:=by kernel_rfl
theorem kv18x31:rkv 18 31=True:=by kernel_rfl
theorem kv19x5:rkv 19 5=True:=by kernel_rfl
theorem kv19x22:rkv 19 22=True:=by kernel_rfl
theorem kv19x37:rkv 19 37=True:=by kernel_rfl
theorem kv20x13:rkv 20 13=True:=by kernel_rfl
theorem kv20x28:rkv 20 28=True:=by kernel_rfl
theorem kv21x4:rkv 21 4=True:=by kernel_rfl
theorem kv21x19:rkv 21 19=True:=by kernel_rfl
theorem kv21x36:rkv 21 36=True:=by kernel_rfl
theorem kv22x10:rkv 22 10=True:=by kernel_rfl
theorem kv22x27:rkv 22 27=True:=by kernel_rfl
theorem kv23x1:rkv 23 1=True:=by kernel_rfl
theorem kv23x18:rkv 23 18=True:=by kernel_rfl
theorem kv23x33:rkv 23 33=True:=by kernel_rfl
theorem kv24x9:rkv 24 9=True:=by kernel_rfl
theorem kv24x24:rkv 24 24=True:=by kernel_rfl
theorem kv25x0:rkv 25 0=True:=by kernel_rfl
theorem kv25x15:rkv 25 15=True:=by kernel_rfl
theorem kv25x32:rkv 25 32=True:=by kernel_rfl
theorem kv26x6:rkv 26 6=True:=by kernel_rfl
theorem kv26x23:rkv 26 23=True:=by kernel_rfl
theorem kv26x38:rkv 26 38=True:=by kernel_rfl
theorem kv27x14:rkv 27 14=True:=by kernel_rfl
theorem kv27x29:rkv 27 29=True:=by kernel_rfl
theorem kv28x5:rkv 28 5=True:=by kernel_rfl
theorem kv28x20:rkv 28 20=True:=by kernel_rfl
theorem kv28x37:rkv 28 37=True:=by kernel_rfl
theorem kv29x11:rkv 29 11=True:=by kernel_rfl
theorem kv29x28:rkv 29 28=True:=by kernel_rfl
theorem kv30x2:rkv 30 2=True:=by kernel_rfl
theorem kv30x19:rkv 30 19=True:=by kernel_rfl
theorem kv30x34:rkv 30 34=True:=by kernel_rfl
theorem kvn1x3 (q:Nat):vkv [.int .i64 (.ofNat 3),.int .i64 (.negSucc q)]=True:=by kernel_rfl
theorem kvn1x11 (q:Nat):vkv [.int .i64 (.ofNat 11),.int .i64 (.negSucc q)]=True:=by kernel_rfl
theorem kvn1x19 (q:Nat):vkv [.int .i64 (.ofNat 19),.int .i64 (.negSucc q)]=True:=by kernel_rfl
theorem kvn1x27 (q:Nat):vkv [.int .i64 (.ofNat 27),.int .i64 (.negSucc q)]=True:=by kernel_rfl
end Go.Proofs.YtcakhpfonailhaaGreatDoor.X
