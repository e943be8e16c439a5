/- ReduceCases, computed. -/
import Derived.Test.YteaokkkikfjhdaaGreatTab2
namespace Go.Proofs.YteaokkkikfjhdaaGreat.X
set_option maxRecDepth 1000000
theorem cases17x9 : callN funs2 100000 .l p4 [.int .i64 (.ofNat 17), .int .i64 (.ofNat 9)] .l .e isT = True := by kernel_rfl
theorem cases17x10 : callN funs2 100000 .l p4 [.int .i64 (.ofNat 17), .int .i64 (.ofNat 10)] .l .e isT = True := by kernel_rfl
theorem cases17x11 : callN funs2 100000 .l p4 [.int .i64 (.ofNat 17), .int .i64 (.ofNat 11)] .l .e isT = True := by kernel_rfl
theorem cases17x12 : callN funs2 100000 .l p4 [.int .i64 (.ofNat 17), .int .i64 (.ofNat 12)] .l .e isT = True := by kernel_rfl
theorem cases17x13 : callN funs2 100000 .l p4 [.int .i64 (.ofNat 17), .int .i64 (.ofNat 13)] .l .e isT = True := by kernel_rfl
theorem cases17x14 : callN funs2 100000 .l p4 [.int .i64 (.ofNat 17), .int .i64 (.ofNat 14)] .l .e isT = True := by kernel_rfl
theorem cases17x15 : callN funs2 100000 .l p4 [.int .i64 (.ofNat 17), .int .i64 (.ofNat 15)] .l .e isT = True := by kernel_rfl
theorem cases17x16 : callN funs2 100000 .l p4 [.int .i64 (.ofNat 17), .int .i64 (.ofNat 16)] .l .e isT = True := by kernel_rfl
theorem cases18x0 : callN funs2 100000 .l p4 [.int .i64 (.ofNat 18), .int .i64 (.ofNat 0)] .l .e isT = True := by kernel_rfl
theorem cases18x1 : callN funs2 100000 .l p4 [.int .i64 (.ofNat 18), .int .i64 (.ofNat 1)] .l .e isT = True := by kernel_rfl
theorem cases18x2 : callN funs2 100000 .l p4 [.int .i64 (.ofNat 18), .int .i64 (.ofNat 2)] .l .e isT = True := by kernel_rfl
theorem cases18x3 : callN funs2 100000 .l p4 [.int .i64 (.ofNat 18), .int .i64 (.ofNat 3)] .l .e isT = True := by kernel_rfl
theorem cases18x4 : callN funs2 100000 .l p4 [.int .i64 (.ofNat 18), .int .i64 (.ofNat 4)] .l .e isT = True := by kernel_rfl
end Go.Proofs.YteaokkkikfjhdaaGreat.X
