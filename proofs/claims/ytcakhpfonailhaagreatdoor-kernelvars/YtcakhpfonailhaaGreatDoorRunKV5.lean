/- KernelVars, computed. -/
import Derived.Test.YtcakhpfonailhaaGreatDoorRunKVD
namespace Go.Proofs.YtcakhpfonailhaaGreatDoor.X
set_option maxRecDepth 1000000
theorem kv1x5:rkv 1 5=True:=by kernel_rfl
theorem kv1x26:rkv 1 26=True:=by kernel_rfl
theorem kv1x37:rkv 1 37=True:=by kernel_rfl
theorem kv2x17:rkv 2 17=True:=by kernel_rfl
theorem kv2x28:rkv 2 28=True:=by kernel_rfl
theorem kv3x8:rkv 3 8=True:=by kernel_rfl
theorem kv3x19:rkv 3 19=True:=by kernel_rfl
theorem kv3x40:rkv 3 40=True:=by kernel_rfl
theorem kv4x10:rkv 4 10=True:=by kernel_rfl
theorem kv4x31:rkv 4 31=True:=by kernel_rfl
theorem kv5x1:rkv 5 1=True:=by kernel_rfl
theorem kv5x22:rkv 5 22=True:=by kernel_rfl
theorem kv5x33:rkv 5 33=True:=by kernel_rfl
theorem kv6x13:rkv 6 13=True:=by kernel_rfl
theorem kv6x24:rkv 6 24=True:=by kernel_rfl
theorem kv7x4:rkv 7 4=True:=by kernel_rfl
theorem kv7x15:rkv 7 15=True:=by kernel_rfl
theorem kv7x36:rkv 7 36=True:=by kernel_rfl
theorem kv8x6:rkv 8 6=True:=by kernel_rfl
theorem kv8x27:rkv 8 27=True:=by kernel_rfl
theorem kv8x38:rkv 8 38=True:=by kernel_rfl
theorem kv9x18:rkv 9 18=True:=by kernel_rfl
theorem kv9x29:rkv 9 29=True:=by kernel_rfl
theorem kv10x9:rkv 10 9=True:=by kernel_rfl
theorem kv10x20:rkv 10 20=True:=by kernel_rfl
theorem kv11x0:rkv 11 0=True:=by kernel_rfl
theorem kv11x11:rkv 11 11=True:=by kernel_rfl
theorem kv11x32:rkv 11 32=True:=by kernel_rfl
theorem kv12x2:rkv 12 2=True:=by kernel_rfl
theorem kv12x23:rkv 12 23=True:=by kernel_rfl
theorem kv12x34:rkv 12 34=True:=by kernel_rfl
theorem kv13x14:rkv 13 14=True:=by kernel_rfl
theorem kv13x25:rkv 13 25=True:=by kernel_rfl
theorem kv14x5:rkv 14 5=True:=by kernel_rfl
theorem kv14x16:rkv 14 16=True:=by kernel_rfl
theorem kv14x37:rkv 14 37=True:=by kernel_rfl
theorem kv15x7:rkv 15 7=True:=by kernel_rfl
theorem kv15x28:rkv 15 28=True:=by kernel_rfl
theorem kv15x39:rkv 15 39=True:=by kernel_rfl
theorem kv16x19:rkv 16 19=True:=by kernel_rfl
theorem kv16x30:rkv 16 30=True:=by kernel_rfl
theorem kv17x10:rkv 17 10=True:=by kernel_rfl
theorem kv17x21:rkv 17 21=True:=by kernel_rfl
theorem kv18x1:rkv 18 1=True:=by kernel_rfl
theorem kv18x12:rkv 18 12=True:=by kernel_rfl
theorem kv18x33:rkv 18 33=True:=by kernel_rfl
theorem kv19x3:rkv 19 3=True:=by kernel_rfl
theorem kv19x24:rkv 19 24=True:=by kernel_rfl
theorem kv19x35:rkv 19 35=True:=by kernel_rfl
theorem kv20x15:rkv 20 15=True:=by kernel_rfl
theorem kv20x26:rkv 20 26=True:=by kernel_rfl
theorem kv21x6:rkv 21 6=True:=by kernel_rfl
theorem kv21x17:rkv 21 17=True:=by kernel_rfl
theorem kv21x38:rkv 21 38=True:=by kernel_rfl
theorem kv22x8:rkv 22 8=True:=by kernel_rfl
theorem kv22x29:rkv 22 29=True:=by kernel_rfl
theorem kv22x40:rkv 22 40=True:=by kernel_rfl
theorem kv23x20:rkv 23 20=True:=by kernel_rfl
theorem kv23x31:rkv 23 31=True:=by kernel_rfl
theorem kv24x11:rkv 24 11=True:=by kernel_rfl
theorem kv24x22:rkv 24 22=True:=by kernel_rfl
theorem kv25x2:rkv 25 2=True:=by kernel_rfl
theorem kv25x13:rkv 25 13=True:=by kernel_rfl
theorem kv25x34:rkv 25 34=True:=by kernel_rfl
theorem kv26x4:rkv 26 4=True:=by kernel_rfl
theorem kv26x25:rkv 26 25=True:=by kernel_rfl
theorem kv26x36:rkv 26 36=True:=by kernel_rfl
theorem kv27x16:rkv 27 16=True:=by kernel_rfl
theorem kv27x27:rkv 27 27=True:=by kernel_rfl
theorem kv28x7:rkv 28 7=True:=by kernel_rfl
theorem kv28x18:rkv 28 18=True:=by kernel_rfl
theorem kv28x39:rkv 28 39=True:=by kernel_rfl
theorem kv29x9:rkv 29 9=True:=by kernel_rfl
theorem kv29x30:rkv 29 30=True:=by kernel_rfl
theorem kv30x0:rkv 30 0=True:=by kernel_rfl
theorem kv30x21:rkv 30 21=True:=by kernel_rfl
theorem kv30x32:rkv 30 32=True:=by kernel_rfl
theorem kvn1x2 (q:Nat):vkv [.int .i64 (.ofNat 2),.int .i64 (.negSucc q)]=True:=by kernel_rfl
theorem kvn1x10 (q:Nat):vkv [.int .i64 (.ofNat 10),.int .i64 (.negSucc q)]=True:=by kernel_rfl
theorem kvn1x18 (q:Nat):vkv [.int .i64 (.ofNat 18),.int .i64 (.negSucc q)]=True:=by kernel_rfl
theorem kvn1x26 (q:Nat):vkv [.int .i64 (.ofNat 26),.int .i64 (.negSucc q)]=True:=by kernel_rfl
end Go.Proofs.YtcakhpfonailhaaGreatDoor.X
