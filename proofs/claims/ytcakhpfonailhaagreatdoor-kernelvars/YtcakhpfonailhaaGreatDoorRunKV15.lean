/- KernelVars, computed. -/
import Derived.Test.YtcakhpfonailhaaGreatDoorRunKVD
namespace Go.Proofs.YtcakhpfonailhaaGreatDoor.X
set_option maxRecDepth 1000000
theorem kv1x15:rkv 1 15=True:=by kernel_rfl
theorem kv1x16:rkv 1 16=True:=by kernel_rfl
theorem kv2x6:rkv 2 6=True:=by kernel_rfl
theorem kv2x7:rkv 2 7=True:=by kernel_rfl
theorem kv2x38:rkv 2 38=True:=by kernel_rfl
theorem kv2x39:rkv 2 39=True:=by kernel_rfl
theorem kv3x29:rkv 3 29=True:=by kernel_rfl
theorem kv3x30:rkv 3 30=True:=by kernel_rfl
theorem kv4x20:rkv 4 20=True:=by kernel_rfl
theorem kv4x21:rkv 4 21=True:=by kernel_rfl
theorem kv5x11:rkv 5 11=True:=by kernel_rfl
theorem kv5x12:rkv 5 12=True:=by kernel_rfl
theorem kv6x2:rkv 6 2=True:=by kernel_rfl
theorem kv6x3:rkv 6 3=True:=by kernel_rfl
theorem kv6x34:rkv 6 34=True:=by kernel_rfl
theorem kv6x35:rkv 6 35=True:=by kernel_rfl
theorem kv7x25:rkv 7 25=True:=by kernel_rfl
theorem kv7x26:rkv 7 26=True:=by kernel_rfl
theorem kv8x16:rkv 8 16=True:=by kernel_rfl
theorem kv8x17:rkv 8 17=True:=by kernel_rfl
theorem kv9x7:rkv 9 7=True:=by kernel_rfl
theorem kv9x8:rkv 9 8=True:=by kernel_rfl
theorem kv9x39:rkv 9 39=True:=by kernel_rfl
theorem kv9x40:rkv 9 40=True:=by kernel_rfl
theorem kv10x30:rkv 10 30=True:=by kernel_rfl
theorem kv10x31:rkv 10 31=True:=by kernel_rfl
theorem kv11x21:rkv 11 21=True:=by kernel_rfl
theorem kv11x22:rkv 11 22=True:=by kernel_rfl
theorem kv12x12:rkv 12 12=True:=by kernel_rfl
theorem kv12x13:rkv 12 13=True:=by kernel_rfl
theorem kv13x3:rkv 13 3=True:=by kernel_rfl
theorem kv13x4:rkv 13 4=True:=by kernel_rfl
theorem kv13x35:rkv 13 35=True:=by kernel_rfl
theorem kv13x36:rkv 13 36=True:=by kernel_rfl
theorem kv14x26:rkv 14 26=True:=by kernel_rfl
theorem kv14x27:rkv 14 27=True:=by kernel_rfl
theorem kv15x17:rkv 15 17=True:=by kernel_rfl
theorem kv15x18:rkv 15 18=True:=by kernel_rfl
theorem kv16x8:rkv 16 8=True:=by kernel_rfl
theorem kv16x9:rkv 16 9=True:=by kernel_rfl
theorem kv16x40:rkv 16 40=True:=by kernel_rfl
theorem kv17x0:rkv 17 0=True:=by kernel_rfl
theorem kv17x31:rkv 17 31=True:=by kernel_rfl
theorem kv17x32:rkv 17 32=True:=by kernel_rfl
theorem kv18x22:rkv 18 22=True:=by kernel_rfl
theorem kv18x23:rkv 18 23=True:=by kernel_rfl
theorem kv19x13:rkv 19 13=True:=by kernel_rfl
theorem kv19x14:rkv 19 14=True:=by kernel_rfl
theorem kv20x4:rkv 20 4=True:=by kernel_rfl
theorem kv20x5:rkv 20 5=True:=by kernel_rfl
theorem kv20x36:rkv 20 36=True:=by kernel_rfl
theorem kv20x37:rkv 20 37=True:=by kernel_rfl
theorem kv21x27:rkv 21 27=True:=by kernel_rfl
theorem kv21x28:rkv 21 28=True:=by kernel_rfl
theorem kv22x18:rkv 22 18=True:=by kernel_rfl
theorem kv22x19:rkv 22 19=True:=by kernel_rfl
theorem kv23x9:rkv 23 9=True:=by kernel_rfl
theorem kv23x10:rkv 23 10=True:=by kernel_rfl
theorem kv24x0:rkv 24 0=True:=by kernel_rfl
theorem kv24x1:rkv 24 1=True:=by kernel_rfl
theorem kv24x32:rkv 24 32=True:=by kernel_rfl
theorem kv24x33:rkv 24 33=True:=by kernel_rfl
theorem kv25x23:rkv 25 23=True:=by kernel_rfl
theorem kv25x24:rkv 25 24=True:=by kernel_rfl
theorem kv26x14:rkv 26 14=True:=by kernel_rfl
theorem kv26x15:rkv 26 15=True:=by kernel_rfl
theorem kv27x5:rkv 27 5=True:=by kernel_rfl
theorem kv27x6:rkv 27 6=True:=by kernel_rfl
theorem kv27x37:rkv 27 37=True:=by kernel_rfl
theorem kv27x38:rkv 27 38=True:=by kernel_rfl
theorem kv28x28:rkv 28 28=True:=by kernel_rfl
theorem kv28x29:rkv 28 29=True:=by kernel_rfl
theorem kv29x19:rkv 29 19=True:=by kernel_rfl
theorem kv29x20:rkv 29 20=True:=by kernel_rfl
theorem kv30x10:rkv 30 10=True:=by kernel_rfl
theorem kv30x11:rkv 30 11=True:=by kernel_rfl
theorem kvn1x7 (q:Nat):vkv [.int .i64 (.ofNat 7),.int .i64 (.negSucc q)]=True:=by kernel_rfl
theorem kvn1x15 (q:Nat):vkv [.int .i64 (.ofNat 15),.int .i64 (.negSucc q)]=True:=by kernel_rfl
theorem kvn1x23 (q:Nat):vkv [.int .i64 (.ofNat 23),.int .i64 (.negSucc q)]=True:=by kernel_rfl
end Go.Proofs.YtcakhpfonailhaaGreatDoor.X
