/- KernelVars, computed. -/
import Derived.Test.YtcakhpfonailhaaGreatDoorRunKVD
namespace Go.Proofs.YtcakhpfonailhaaGreatDoor.X
set_option maxRecDepth 1000000
theorem kv1x1:rkv 1 1=True:=by kernel_rfl
theorem kv1x30:rkv 1 30=True:=by kernel_rfl
theorem kv1x33:rkv 1 33=True:=by kernel_rfl
theorem kv2x21:rkv 2 21=True:=by kernel_rfl
theorem kv2x24:rkv 2 24=True:=by kernel_rfl
theorem kv3x12:rkv 3 12=True:=by kernel_rfl
theorem kv3x15:rkv 3 15=True:=by kernel_rfl
theorem kv4x3:rkv 4 3=True:=by kernel_rfl
theorem kv4x6:rkv 4 6=True:=by kernel_rfl
theorem kv4x35:rkv 4 35=True:=by kernel_rfl
theorem kv4x38:rkv 4 38=True:=by kernel_rfl
theorem kv5x26:rkv 5 26=True:=by kernel_rfl
theorem kv5x29:rkv 5 29=True:=by kernel_rfl
theorem kv6x17:rkv 6 17=True:=by kernel_rfl
theorem kv6x20:rkv 6 20=True:=by kernel_rfl
theorem kv7x8:rkv 7 8=True:=by kernel_rfl
theorem kv7x11:rkv 7 11=True:=by kernel_rfl
theorem kv7x40:rkv 7 40=True:=by kernel_rfl
theorem kv8x2:rkv 8 2=True:=by kernel_rfl
theorem kv8x31:rkv 8 31=True:=by kernel_rfl
theorem kv8x34:rkv 8 34=True:=by kernel_rfl
theorem kv9x22:rkv 9 22=True:=by kernel_rfl
theorem kv9x25:rkv 9 25=True:=by kernel_rfl
theorem kv10x13:rkv 10 13=True:=by kernel_rfl
theorem kv10x16:rkv 10 16=True:=by kernel_rfl
theorem kv11x4:rkv 11 4=True:=by kernel_rfl
theorem kv11x7:rkv 11 7=True:=by kernel_rfl
theorem kv11x36:rkv 11 36=True:=by kernel_rfl
theorem kv11x39:rkv 11 39=True:=by kernel_rfl
theorem kv12x27:rkv 12 27=True:=by kernel_rfl
theorem kv12x30:rkv 12 30=True:=by kernel_rfl
theorem kv13x18:rkv 13 18=True:=by kernel_rfl
theorem kv13x21:rkv 13 21=True:=by kernel_rfl
theorem kv14x9:rkv 14 9=True:=by kernel_rfl
theorem kv14x12:rkv 14 12=True:=by kernel_rfl
theorem kv15x0:rkv 15 0=True:=by kernel_rfl
theorem kv15x3:rkv 15 3=True:=by kernel_rfl
theorem kv15x32:rkv 15 32=True:=by kernel_rfl
theorem kv15x35:rkv 15 35=True:=by kernel_rfl
theorem kv16x23:rkv 16 23=True:=by kernel_rfl
theorem kv16x26:rkv 16 26=True:=by kernel_rfl
theorem kv17x14:rkv 17 14=True:=by kernel_rfl
theorem kv17x17:rkv 17 17=True:=by kernel_rfl
theorem kv18x5:rkv 18 5=True:=by kernel_rfl
theorem kv18x8:rkv 18 8=True:=by kernel_rfl
theorem kv18x37:rkv 18 37=True:=by kernel_rfl
theorem kv18x40:rkv 18 40=True:=by kernel_rfl
theorem kv19x28:rkv 19 28=True:=by kernel_rfl
theorem kv19x31:rkv 19 31=True:=by kernel_rfl
theorem kv20x19:rkv 20 19=True:=by kernel_rfl
theorem kv20x22:rkv 20 22=True:=by kernel_rfl
theorem kv21x10:rkv 21 10=True:=by kernel_rfl
theorem kv21x13:rkv 21 13=True:=by kernel_rfl
theorem kv22x1:rkv 22 1=True:=by kernel_rfl
theorem kv22x4:rkv 22 4=True:=by kernel_rfl
theorem kv22x33:rkv 22 33=True:=by kernel_rfl
theorem kv22x36:rkv 22 36=True:=by kernel_rfl
theorem kv23x24:rkv 23 24=True:=by kernel_rfl
theorem kv23x27:rkv 23 27=True:=by kernel_rfl
theorem kv24x15:rkv 24 15=True:=by kernel_rfl
theorem kv24x18:rkv 24 18=True:=by kernel_rfl
theorem kv25x6:rkv 25 6=True:=by kernel_rfl
theorem kv25x9:rkv 25 9=True:=by kernel_rfl
theorem kv25x38:rkv 25 38=True:=by kernel_rfl
theorem kv26x0:rkv 26 0=True:=by kernel_rfl
theorem kv26x29:rkv 26 29=True:=by kernel_rfl
theorem kv26x32:rkv 26 32=True:=by kernel_rfl
theorem kv27x20:rkv 27 20=True:=by kernel_rfl
theorem kv27x23:rkv 27 23=True:=by kernel_rfl
theorem kv28x11:rkv 28 11=True:=by kernel_rfl
theorem kv28x14:rkv 28 14=True:=by kernel_rfl
theorem kv29x2:rkv 29 2=True:=by kernel_rfl
theorem kv29x5:rkv 29 5=True:=by kernel_rfl
theorem kv29x34:rkv 29 34=True:=by kernel_rfl
theorem kv29x37:rkv 29 37=True:=by kernel_rfl
theorem kv30x25:rkv 30 25=True:=by kernel_rfl
theorem kv30x28:rkv 30 28=True:=by kernel_rfl
theorem kvf0 (q:Nat) (k:Int):vkv [.int .i64 (.ofNat (q+31)),.int .i64 k]=True:=by kernel_rfl
theorem kvn1x8 (q:Nat):vkv [.int .i64 (.ofNat 8),.int .i64 (.negSucc q)]=True:=by kernel_rfl
theorem kvn1x16 (q:Nat):vkv [.int .i64 (.ofNat 16),.int .i64 (.negSucc q)]=True:=by kernel_rfl
theorem kvn1x24 (q:Nat):vkv [.int .i64 (.ofNat 24),.int .i64 (.negSucc q)]=True:=by kernel_rfl
end Go.Proofs.YtcakhpfonailhaaGreatDoor.X
