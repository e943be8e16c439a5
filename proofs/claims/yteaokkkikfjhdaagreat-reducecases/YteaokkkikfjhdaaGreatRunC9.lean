/- ReduceCases, computed. -/
import Derived.Test.YteaokkkikfjhdaaGreatTab2
namespace Go.Proofs.YteaokkkikfjhdaaGreat.X
set_option maxRecDepth 1000000
theorem cases18x5 : callN funs2 100000 .l p4 [.int .i64 (.ofNat 18), .int .i64 (.ofNat 5)] .l .e isT = True := by kernel_rfl
theorem cases18x6 : callN funs2 100000 .l p4 [.int .i64 (.ofNat 18), .int .i64 (.ofNat 6)] .l .e isT = True := by kernel_rfl
theorem cases18x7 : callN funs2 100000 .l p4 [.int .i64 (.ofNat 18), .int .i64 (.ofNat 7)] .l .e isT = True := by kernel_rfl
theorem cases18x8 : callN funs2 100000 .l p4 [.int .i64 (.ofNat 18), .int .i64 (.ofNat 8)] .l .e isT = True := by kernel_rfl
theorem cases18x9 : callN funs2 100000 .l p4 [.int .i64 (.ofNat 18), .int .i64 (.ofNat 9)] .l .e isT = True := by kernel_rfl
theorem cases18x10 : callN funs2 100000 .l p4 [.int .i64 (.ofNat 18), .int .i64 (.ofNat 10)] .l .e isT = True := by kernel_rfl
theorem cases18x11 : callN funs2 100000 .l p4 [.int .i64 (.ofNat 18), .int .i64 (.ofNat 11)] .l .e isT = True := by kernel_rfl
theorem cases18x12 : callN funs2 100000 .l p4 [.int .i64 (.ofNat 18), .int .i64 (.ofNat 12)] .l .e isT = True := by kernel_rfl
theorem cases18x13 : callN funs2 100000 .l p4 [.int .i64 (.ofNat 18), .int .i64 (.ofNat 13)] .l .e isT = True := by kernel_rfl
theorem cases18x14 : callN funs2 100000 .l p4 [.int .i64 (.ofNat 18), .int .i64 (.ofNat 14)] .l .e isT = True := by kernel_rfl
theorem cases18x15 : callN funs2 100000 .l p4 [.int .i64 (.ofNat 18), .int .i64 (.ofNat 15)] .l .e isT = True := by kernel_rfl
theorem cases18x16 : callN funs2 100000 .l p4 [.int .i64 (.ofNat 18), .int .i64 (.ofNat 16)] .l .e isT = True := by kernel_rfl
end Go.Proofs.YteaokkkikfjhdaaGreat.X
