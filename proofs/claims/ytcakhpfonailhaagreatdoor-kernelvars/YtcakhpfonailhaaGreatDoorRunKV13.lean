/- KernelVars, computed. -/
import Derived.Test.YtcakhpfonailhaaGreatDoorRunKVD
namespace Go.Proofs.YtcakhpfonailhaaGreatDoor.X
set_option maxRecDepth 1000000
theorem kv1x13:rkv 1 13=True:=by kernel_rfl
theorem kv1x18:rkv 1 18=True:=by kernel_rfl
theorem kv2x4:rkv 2 4=True:=by kernel_rfl
theorem kv2x9:rkv 2 9=True:=by kernel_rfl
theorem kv2x36:rkv 2 36=True:=by kernel_rfl
theorem kv3x0:rkv 3 0=True:=by kernel_rfl
theorem kv3x27:rkv 3 27=True:=by kernel_rfl
theorem kv3x32:rkv 3 32=True:=by kernel_rfl
theorem kv4x18:rkv 4 18=True:=by kernel_rfl
theorem kv4x23:rkv 4 23=True:=by kernel_rfl
theorem kv5x9:rkv 5 9=True:=by kernel_rfl
theorem kv5x14:rkv 5 14=True:=by kernel_rfl
theorem kv6x0:rkv 6 0=True:=by kernel_rfl
theorem kv6x5:rkv 6 5=True:=by kernel_rfl
theorem kv6x32:rkv 6 32=True:=by kernel_rfl
theorem kv6x37:rkv 6 37=True:=by kernel_rfl
theorem kv7x23:rkv 7 23=True:=by kernel_rfl
theorem kv7x28:rkv 7 28=True:=by kernel_rfl
theorem kv8x14:rkv 8 14=True:=by kernel_rfl
theorem kv8x19:rkv 8 19=True:=by kernel_rfl
theorem kv9x5:rkv 9 5=True:=by kernel_rfl
theorem kv9x10:rkv 9 10=True:=by kernel_rfl
theorem kv9x37:rkv 9 37=True:=by kernel_rfl
theorem kv10x1:rkv 10 1=True:=by kernel_rfl
theorem kv10x28:rkv 10 28=True:=by kernel_rfl
theorem kv10x33:rkv 10 33=True:=by kernel_rfl
theorem kv11x19:rkv 11 19=True:=by kernel_rfl
theorem kv11x24:rkv 11 24=True:=by kernel_rfl
theorem kv12x10:rkv 12 10=True:=by kernel_rfl
theorem kv12x15:rkv 12 15=True:=by kernel_rfl
theorem kv13x1:rkv 13 1=True:=by kernel_rfl
theorem kv13x6:rkv 13 6=True:=by kernel_rfl
theorem kv13x33:rkv 13 33=True:=by kernel_rfl
theorem kv13x38:rkv 13 38=True:=by kernel_rfl
theorem kv14x24:rkv 14 24=True:=by kernel_rfl
theorem kv14x29:rkv 14 29=True:=by kernel_rfl
theorem kv15x15:rkv 15 15=True:=by kernel_rfl
theorem kv15x20:rkv 15 20=True:=by kernel_rfl
theorem kv16x6:rkv 16 6=True:=by kernel_rfl
theorem kv16x11:rkv 16 11=True:=by kernel_rfl
theorem kv16x38:rkv 16 38=True:=by kernel_rfl
theorem kv17x2:rkv 17 2=True:=by kernel_rfl
theorem kv17x29:rkv 17 29=True:=by kernel_rfl
theorem kv17x34:rkv 17 34=True:=by kernel_rfl
theorem kv18x20:rkv 18 20=True:=by kernel_rfl
theorem kv18x25:rkv 18 25=True:=by kernel_rfl
theorem kv19x11:rkv 19 11=True:=by kernel_rfl
theorem kv19x16:rkv 19 16=True:=by kernel_rfl
theorem kv20x2:rkv 20 2=True:=by kernel_rfl
theorem kv20x7:rkv 20 7=True:=by kernel_rfl
theorem kv20x34:rkv 20 34=True:=by kernel_rfl
theorem kv20x39:rkv 20 39=True:=by kernel_rfl
theorem kv21x25:rkv 21 25=True:=by kernel_rfl
theorem kv21x30:rkv 21 30=True:=by kernel_rfl
theorem kv22x16:rkv 22 16=True:=by kernel_rfl
theorem kv22x21:rkv 22 21=True:=by kernel_rfl
theorem kv23x7:rkv 23 7=True:=by kernel_rfl
theorem kv23x12:rkv 23 12=True:=by kernel_rfl
theorem kv23x39:rkv 23 39=True:=by kernel_rfl
theorem kv24x3:rkv 24 3=True:=by kernel_rfl
theorem kv24x30:rkv 24 30=True:=by kernel_rfl
theorem kv24x35:rkv 24 35=True:=by kernel_rfl
theorem kv25x21:rkv 25 21=True:=by kernel_rfl
theorem kv25x26:rkv 25 26=True:=by kernel_rfl
theorem kv26x12:rkv 26 12=True:=by kernel_rfl
theorem kv26x17:rkv 26 17=True:=by kernel_rfl
theorem kv27x3:rkv 27 3=True:=by kernel_rfl
theorem kv27x8:rkv 27 8=True:=by kernel_rfl
theorem kv27x35:rkv 27 35=True:=by kernel_rfl
theorem kv27x40:rkv 27 40=True:=by kernel_rfl
theorem kv28x26:rkv 28 26=True:=by kernel_rfl
theorem kv28x31:rkv 28 31=True:=by kernel_rfl
theorem kv29x17:rkv 29 17=True:=by kernel_rfl
theorem kv29x22:rkv 29 22=True:=by kernel_rfl
theorem kv30x8:rkv 30 8=True:=by kernel_rfl
theorem kv30x13:rkv 30 13=True:=by kernel_rfl
theorem kv30x40:rkv 30 40=True:=by kernel_rfl
theorem kvn1x6 (q:Nat):vkv [.int .i64 (.ofNat 6),.int .i64 (.negSucc q)]=True:=by kernel_rfl
theorem kvn1x14 (q:Nat):vkv [.int .i64 (.ofNat 14),.int .i64 (.negSucc q)]=True:=by kernel_rfl
theorem kvn1x22 (q:Nat):vkv [.int .i64 (.ofNat 22),.int .i64 (.negSucc q)]=True:=by kernel_rfl
theorem kvn1x30 (q:Nat):vkv [.int .i64 (.ofNat 30),.int .i64 (.negSucc q)]=True:=by kernel_rfl
end Go.Proofs.YtcakhpfonailhaaGreatDoor.X
