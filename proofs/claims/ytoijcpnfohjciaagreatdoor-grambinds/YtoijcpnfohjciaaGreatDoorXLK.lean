/- The document's example of chapter 14 comes out as it says. -/
import Derived.Test.YtoijcpnfohjciaaGreatDoorTab
import Derived.Test.YtoijcpnfohjciaaGreatDoorXTO
namespace Go.Proofs.YtoijcpnfohjciaaGreatDoor.X
open Go.RowKit
set_option maxRecDepth 1000000 in
theorem alive_run:callN funs 100000 .l p6 [] .l .e isT=True:=by kernel_rfl
theorem alive14_any (w:World) (hG:GW w):Calls Tryz.prog 6 #[] w fun e w'=>e=.returned (.bool true)∧Below w.heap.size w w':=true_of_run (p:=p6) funs_ok w #[] ⟨fun _=>by simp [concL],fun _=>by simp [okL]⟩ alive_run hG
theorem live14:FunSem Tryz.prog 6 liveAF:=live_sem ⟨_,_,Tryz.func6,by kernel_rfl,rfl⟩ alive14_any
end Go.Proofs.YtoijcpnfohjciaaGreatDoor.X
