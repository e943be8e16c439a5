/- The document's example of chapter 15 comes out as it says. -/
import Derived.Test.YtphfjjopeghhnaaGreatTab
import Derived.Test.YtphfjjopeghhnaaGreatXRB
namespace Go.Proofs.YtphfjjopeghhnaaGreat.X
open Go.RowKit
set_option maxRecDepth 1000000 in
theorem alive_run:callN funs 100000 .l p6 [] .l .e isT=True:=by kernel_rfl
theorem alive15_any (w:World) (hG:GW w):Calls Tryz.prog 6 #[] w fun e w'=>e=.returned (.bool true)∧Below w.heap.size w w':=true_of_run (p:=p6) funs_ok w #[] ⟨fun _=>by simp [concL],fun _=>by simp [okL]⟩ alive_run hG
theorem live15:FunSem Tryz.prog 6 liveAF:=live_sem ⟨_,_,Tryz.func6,by kernel_rfl,rfl⟩ alive15_any
end Go.Proofs.YtphfjjopeghhnaaGreat.X
