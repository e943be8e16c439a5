/- KernelVars, computed. -/
import Derived.Test.YtcakhpfonailhaaGreatDoorRunKVD
namespace Go.Proofs.YtcakhpfonailhaaGreatDoor.X
set_option maxRecDepth 1000000
theorem kv1x9:rkv 1 9=True:=by kernel_rfl
theorem kv1x22:rkv 1 22=True:=by kernel_rfl
theorem kv2x0:rkv 2 0=True:=by kernel_rfl
theorem kv2x13:rkv 2 13=True:=by kernel_rfl
theorem kv2x32:rkv 2 32=True:=by kernel_rfl
theorem kv3x4:rkv 3 4=True:=by kernel_rfl
theorem kv3x23:rkv 3 23=True:=by kernel_rfl
theorem kv3x36:rkv 3 36=True:=by kernel_rfl
theorem kv4x14:rkv 4 14=True:=by kernel_rfl
theorem kv4x27:rkv 4 27=True:=by kernel_rfl
theorem kv5x5:rkv 5 5=True:=by kernel_rfl
theorem kv5x18:rkv 5 18=True:=by kernel_rfl
theorem kv5x37:rkv 5 37=True:=by kernel_rfl
theorem kv6x9:rkv 6 9=True:=by kernel_rfl
theorem kv6x28:rkv 6 28=True:=by kernel_rfl
theorem kv7x0:rkv 7 0=True:=by kernel_rfl
theorem kv7x19:rkv 7 19=True:=by kernel_rfl
theorem kv7x32:rkv 7 32=True:=by kernel_rfl
theorem kv8x10:rkv 8 10=True:=by kernel_rfl
theorem kv8x23:rkv 8 23=True:=by kernel_rfl
theorem kv9x1:rkv 9 1=True:=by kernel_rfl
theorem kv9x14:rkv 9 14=True:=by kernel_rfl
theorem kv9x33:rkv 9 33=True:=by kernel_rfl
theorem kv10x5:rkv 10 5=True:=by kernel_rfl
theorem kv10x24:rkv 10 24=True:=by kernel_rfl
theorem kv10x37:rkv 10 37=True:=by kernel_rfl
theorem kv11x15:rkv 11 15=True:=by kernel_rfl
theorem kv11x28:rkv 11 28=True:=by kernel_rfl
theorem kv12x6:rkv 12 6=True:=by kernel_rfl
theorem kv12x19:rkv 12 19=True:=by kernel_rfl
theorem kv12x38:rkv 12 38=True:=by kernel_rfl
theorem kv13x10:rkv 13 10=True:=by kernel_rfl
theorem kv13x29:rkv 13 29=True:=by kernel_rfl
theorem kv14x1:rkv 14 1=True:=by kernel_rfl
theorem kv14x20:rkv 14 20=True:=by kernel_rfl
theorem kv14x33:rkv 14 33=True:=by kernel_rfl
theorem kv15x11:rkv 15 11=True:=by kernel_rfl
theorem kv15x24:rkv 15 24=True:=by kernel_rfl
theorem kv16x2:rkv 16 2=True:=by kernel_rfl
theorem kv16x15:rkv 16 15=True:=by kernel_rfl
theorem kv16x34:rkv 16 34=True:=by kernel_rfl
theorem kv17x6:rkv 17 6=True:=by kernel_rfl
theorem kv17x25:rkv 17 25=True:=by kernel_rfl
theorem kv17x38:rkv 17 38=True:=by kernel_rfl
theorem kv18x16:rkv 18 16=True:=by kernel_rfl
theorem kv18x29:rkv 18 29=True:=by kernel_rfl
theorem kv19x7:rkv 19 7=True:=by kernel_rfl
theorem kv19x20:rkv 19 20=True:=by kernel_rfl
theorem kv19x39:rkv 19 39=True:=by kernel_rfl
theorem kv20x11:rkv 20 11=True:=by kernel_rfl
theorem kv20x30:rkv 20 30=True:=by kernel_rfl
theorem kv21x2:rkv 21 2=True:=by kernel_rfl
theorem kv21x21:rkv 21 21=True:=by kernel_rfl
theorem kv21x34:rkv 21 34=True:=by kernel_rfl
theorem kv22x12:rkv 22 12=True:=by kernel_rfl
theorem kv22x25:rkv 22 25=True:=by kernel_rfl
theorem kv23x3:rkv 23 3=True:=by kernel_rfl
theorem kv23x16:rkv 23 16=True:=by kernel_rfl
theorem kv23x35:rkv 23 35=True:=by kernel_rfl
theorem kv24x7:rkv 24 7=True:=by kernel_rfl
theorem kv24x26:rkv 24 26=True:=by kernel_rfl
theorem kv24x39:rkv 24 39=True:=by kernel_rfl
theorem kv25x17:rkv 25 17=True:=by kernel_rfl
theorem kv25x30:rkv 25 30=True:=by kernel_rfl
theorem kv26x8:rkv 26 8=True:=by kernel_rfl
theorem kv26x21:rkv 26 21=True:=by kernel_rfl
theorem kv26x40:rkv 26 40=True:=by kernel_rfl
theorem kv27x12:rkv 27 12=True:=by kernel_rfl
theorem kv27x31:rkv 27 31=True:=by kernel_rfl
theorem kv28x3:rkv 28 3=True:=by kernel_rfl
theorem kv28x22:rkv 28 22=True:=by kernel_rfl
theorem kv28x35:rkv 28 35=True:=by kernel_rfl
theorem kv29x13:rkv 29 13=True:=by kernel_rfl
theorem kv29x26:rkv 29 26=True:=by kernel_rfl
theorem kv30x4:rkv 30 4=True:=by kernel_rfl
theorem kv30x17:rkv 30 17=True:=by kernel_rfl
theorem kv30x36:rkv 30 36=True:=by kernel_rfl
theorem kvn1x4 (q:Nat):vkv [.int .i64 (.ofNat 4),.int .i64 (.negSucc q)]=True:=by kernel_rfl
theorem kvn1x12 (q:Nat):vkv [.int .i64 (.ofNat 12),.int .i64 (.negSucc q)]=True:=by kernel_rfl
theorem kvn1x20 (q:Nat):vkv [.int .i64 (.ofNat 20),.int .i64 (.negSucc q)]=True:=by kernel_rfl
theorem kvn1x28 (q:Nat):vkv [.int .i64 (.ofNat 28),.int .i64 (.negSucc q)]=True:=by kernel_rfl
end Go.Proofs.YtcakhpfonailhaaGreatDoor.X
