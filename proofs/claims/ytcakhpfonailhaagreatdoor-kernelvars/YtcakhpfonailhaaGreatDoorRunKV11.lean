/- KernelVars, computed. -/
import Derived.Test.YtcakhpfonailhaaGreatDoorRunKVD
namespace Go.Proofs.YtcakhpfonailhaaGreatDoor.X
set_option maxRecDepth 1000000
theorem kv1x11:rkv 1 11=True:=by kernel_rfl
theorem kv1x20:rkv 1 20=True:=by kernel_rfl
theorem kv2x2:rkv 2 2=True:=by kernel_rfl
theorem kv2x11:rkv 2 11=True:=by kernel_rfl
theorem kv2x34:rkv 2 34=True:=by kernel_rfl
theorem kv3x2:rkv 3 2=True:=by kernel_rfl
theorem kv3x25:rkv 3 25=True:=by kernel_rfl
theorem kv3x34:rkv 3 34=True:=by kernel_rfl
theorem kv4x16:rkv 4 16=True:=by kernel_rfl
theorem kv4x25:rkv 4 25=True:=by kernel_rfl
theorem kv5x7:rkv 5 7=True:=by kernel_rfl
theorem kv5x16:rkv 5 16=True:=by kernel_rfl
theorem kv5x39:rkv 5 39=True:=by kernel_rfl
theorem kv6x7:rkv 6 7=True:=by kernel_rfl
theorem kv6x30:rkv 6 30=True:=by kernel_rfl
theorem kv6x39:rkv 6 39=True:=by kernel_rfl
theorem kv7x21:rkv 7 21=True:=by kernel_rfl
theorem kv7x30:rkv 7 30=True:=by kernel_rfl
theorem kv8x12:rkv 8 12=True:=by kernel_rfl
theorem kv8x21:rkv 8 21=True:=by kernel_rfl
theorem kv9x3:rkv 9 3=True:=by kernel_rfl
theorem kv9x12:rkv 9 12=True:=by kernel_rfl
theorem kv9x35:rkv 9 35=True:=by kernel_rfl
theorem kv10x3:rkv 10 3=True:=by kernel_rfl
theorem kv10x26:rkv 10 26=True:=by kernel_rfl
theorem kv10x35:rkv 10 35=True:=by kernel_rfl
theorem kv11x17:rkv 11 17=True:=by kernel_rfl
theorem kv11x26:rkv 11 26=True:=by kernel_rfl
theorem kv12x8:rkv 12 8=True:=by kernel_rfl
theorem kv12x17:rkv 12 17=True:=by kernel_rfl
theorem kv12x40:rkv 12 40=True:=by kernel_rfl
theorem kv13x8:rkv 13 8=True:=by kernel_rfl
theorem kv13x31:rkv 13 31=True:=by kernel_rfl
theorem kv13x40:rkv 13 40=True:=by kernel_rfl
theorem kv14x22:rkv 14 22=True:=by kernel_rfl
theorem kv14x31:rkv 14 31=True:=by kernel_rfl
theorem kv15x13:rkv 15 13=True:=by kernel_rfl
theorem kv15x22:rkv 15 22=True:=by kernel_rfl
theorem kv16x4:rkv 16 4=True:=by kernel_rfl
theorem kv16x13:rkv 16 13=True:=by kernel_rfl
theorem kv16x36:rkv 16 36=True:=by kernel_rfl
theorem kv17x4:rkv 17 4=True:=by kernel_rfl
theorem kv17x27:rkv 17 27=True:=by kernel_rfl
theorem kv17x36:rkv 17 36=True:=by kernel_rfl
theorem kv18x18:rkv 18 18=True:=by kernel_rfl
theorem kv18x27:rkv 18 27=True:=by kernel_rfl
theorem kv19x9:rkv 19 9=True:=by kernel_rfl
theorem kv19x18:rkv 19 18=True:=by kernel_rfl
theorem kv20x0:rkv 20 0=True:=by kernel_rfl
theorem kv20x9:rkv 20 9=True:=by kernel_rfl
theorem kv20x32:rkv 20 32=True:=by kernel_rfl
theorem kv21x0:rkv 21 0=True:=by kernel_rfl
theorem kv21x23:rkv 21 23=True:=by kernel_rfl
theorem kv21x32:rkv 21 32=True:=by kernel_rfl
theorem kv22x14:rkv 22 14=True:=by kernel_rfl
theorem kv22x23:rkv 22 23=True:=by kernel_rfl
theorem kv23x5:rkv 23 5=True:=by kernel_rfl
theorem kv23x14:rkv 23 14=True:=by kernel_rfl
theorem kv23x37:rkv 23 37=True:=by kernel_rfl
theorem kv24x5:rkv 24 5=True:=by kernel_rfl
theorem kv24x28:rkv 24 28=True:=by kernel_rfl
theorem kv24x37:rkv 24 37=True:=by kernel_rfl
theorem kv25x19:rkv 25 19=True:=by kernel_rfl
theorem kv25x28:rkv 25 28=True:=by kernel_rfl
theorem kv26x10:rkv 26 10=True:=by kernel_rfl
theorem kv26x19:rkv 26 19=True:=by kernel_rfl
theorem kv27x1:rkv 27 1=True:=by kernel_rfl
theorem kv27x10:rkv 27 10=True:=by kernel_rfl
theorem kv27x33:rkv 27 33=True:=by kernel_rfl
theorem kv28x1:rkv 28 1=True:=by kernel_rfl
theorem kv28x24:rkv 28 24=True:=by kernel_rfl
theorem kv28x33:rkv 28 33=True:=by kernel_rfl
theorem kv29x15:rkv 29 15=True:=by kernel_rfl
theorem kv29x24:rkv 29 24=True:=by kernel_rfl
theorem kv30x6:rkv 30 6=True:=by kernel_rfl
theorem kv30x15:rkv 30 15=True:=by kernel_rfl
theorem kv30x38:rkv 30 38=True:=by kernel_rfl
theorem kvn1x5 (q:Nat):vkv [.int .i64 (.ofNat 5),.int .i64 (.negSucc q)]=True:=by kernel_rfl
theorem kvn1x13 (q:Nat):vkv [.int .i64 (.ofNat 13),.int .i64 (.negSucc q)]=True:=by kernel_rfl
theorem kvn1x21 (q:Nat):vkv [.int .i64 (.ofNat 21),.int .i64 (.negSucc q)]=True:=by kernel_rfl
theorem kvn1x29 (q:Nat):vkv [.int .i64 (.ofNat 29),.int .i64 (.negSucc q)]=True:=by kernel_rfl
end Go.Proofs.YtcakhpfonailhaaGreatDoor.X
