/- KernelVars, computed. -/
import Derived.Test.YtcakhpfonailhaaGreatDoorRunKVD
namespace Go.Proofs.YtcakhpfonailhaaGreatDoor.X
set_option maxRecDepth 1000000
theorem kv1x3:rkv 1 3=True:=by kernel_rfl
theorem kv1x28:rkv 1 28=True:=by kernel_rfl
theorem kv1x35:rkv 1 35=True:=by kernel_rfl
theorem kv2x19:rkv 2 19=True:=by kernel_rfl
theorem kv2x26:rkv 2 26=True:=by kernel_rfl
theorem kv3x10:rkv 3 10=True:=by kernel_rfl
theorem kv3x17:rkv 3 17=True:=by kernel_rfl
theorem kv4x1:rkv 4 1=True:=by kernel_rfl
theorem kv4x8:rkv 4 8=True:=by kernel_rfl
theorem kv4x33:rkv 4 33=True:=by kernel_rfl
theorem kv4x40:rkv 4 40=True:=by kernel_rfl
theorem kv5x24:rkv 5 24=True:=by kernel_rfl
theorem kv5x31:rkv 5 31=True:=by kernel_rfl
theorem kv6x15:rkv 6 15=True:=by kernel_rfl
theorem kv6x22:rkv 6 22=True:=by kernel_rfl
theorem kv7x6:rkv 7 6=True:=by kernel_rfl
theorem kv7x13:rkv 7 13=True:=by kernel_rfl
theorem kv7x38:rkv 7 38=True:=by kernel_rfl
theorem kv8x4:rkv 8 4=True:=by kernel_rfl
theorem kv8x29:rkv 8 29=True:=by kernel_rfl
theorem kv8x36:rkv 8 36=True:=by kernel_rfl
theorem kv9x20:rkv 9 20=True:=by kernel_rfl
theorem kv9x27:rkv 9 27=True:=by kernel_rfl
theorem kv10x11:rkv 10 11=True:=by kernel_rfl
theorem kv10x18:rkv 10 18=True:=by kernel_rfl
theorem kv11x2:rkv 11 2=True:=by kernel_rfl
theorem kv11x9:rkv 11 9=True:=by kernel_rfl
theorem kv11x34:rkv 11 34=True:=by kernel_rfl
theorem kv12x0:rkv 12 0=True:=by kernel_rfl
theorem kv12x25:rkv 12 25=True:=by kernel_rfl
theorem kv12x32:rkv 12 32=True:=by kernel_rfl
theorem kv13x16:rkv 13 16=True:=by kernel_rfl
theorem kv13x23:rkv 13 23=True:=by kernel_rfl
theorem kv14x7:rkv 14 7=True:=by kernel_rfl
theorem kv14x14:rkv 14 14=True:=by kernel_rfl
theorem kv14x39:rkv 14 39=True:=by kernel_rfl
theorem kv15x5:rkv 15 5=True:=by kernel_rfl
theorem kv15x30:rkv 15 30=True:=by kernel_rfl
theorem kv15x37:rkv 15 37=True:=by kernel_rfl
theorem kv16x21:rkv 16 21=True:=by kernel_rfl
theorem kv16x28:rkv 16 28=True:=by kernel_rfl
theorem kv17x12:rkv 17 12=True:=by kernel_rfl
theorem kv17x19:rkv 17 19=True:=by kernel_rfl
theorem kv18x3:rkv 18 3=True:=by kernel_rfl
theorem kv18x10:rkv 18 10=True:=by kernel_rfl
theorem kv18x35:rkv 18 35=True:=by kernel_rfl
theorem kv19x1:rkv 19 1=True:=by kernel_rfl
theorem kv19x26:rkv 19 26=True:=by kernel_rfl
theorem kv19x33:rkv 19 33=True:=by kernel_rfl
theorem kv20x17:rkv 20 17=True:=by kernel_rfl
theorem kv20x24:rkv 20 24=True:=by kernel_rfl
theorem kv21x8:rkv 21 8=True:=by kernel_rfl
theorem kv21x15:rkv 21 15=True:=by kernel_rfl
theorem kv21x40:rkv 21 40=True:=by kernel_rfl
theorem kv22x6:rkv 22 6=True:=by kernel_rfl
theorem kv22x31:rkv 22 31=True:=by kernel_rfl
theorem kv22x38:rkv 22 38=True:=by kernel_rfl
theorem kv23x22:rkv 23 22=True:=by kernel_rfl
theorem kv23x29:rkv 23 29=True:=by kernel_rfl
theorem kv24x13:rkv 24 13=True:=by kernel_rfl
theorem kv24x20:rkv 24 20=True:=by kernel_rfl
theorem kv25x4:rkv 25 4=True:=by kernel_rfl
theorem kv25x11:rkv 25 11=True:=by kernel_rfl
theorem kv25x36:rkv 25 36=True:=by kernel_rfl
theorem kv26x2:rkv 26 2=True:=by kernel_rfl
theorem kv26x27:rkv 26 27=True:=by kernel_rfl
theorem kv26x34:rkv 26 34=True:=by kernel_rfl
theorem kv27x18:rkv 27 18=True:=by kernel_rfl
theorem kv27x25:rkv 27 25=True:=by kernel_rfl
theorem kv28x9:rkv 28 9=True:=by kernel_rfl
theorem kv28x16:rkv 28 16=True:=by kernel_rfl
theorem kv29x0:rkv 29 0=True:=by kernel_rfl
theorem kv29x7:rkv 29 7=True:=by kernel_rfl
theorem kv29x32:rkv 29 32=True:=by kernel_rfl
theorem kv29x39:rkv 29 39=True:=by kernel_rfl
theorem kv30x23:rkv 30 23=True:=by kernel_rfl
theorem kv30x30:rkv 30 30=True:=by kernel_rfl
theorem kvn1x1 (q:Nat):vkv [.int .i64 (.ofNat 1),.int .i64 (.negSucc q)]=True:=by kernel_rfl
theorem kvn1x9 (q:Nat):vkv [.int .i64 (.ofNat 9),.int .i64 (.negSucc q)]=True:=by kernel_rfl
theorem kvn1x17 (q:Nat):vkv [.int .i64 (.ofNat 17),.int .i64 (.negSucc q)]=True:=by kernel_rfl
theorem kvn1x25 (q:Nat):vkv [.int .i64 (.ofNat 25),.int .i64 (.negSucc q)]=True:=by kernel_rfl
end Go.Proofs.YtcakhpfonailhaaGreatDoor.X
