/- What the seat's rows list of package-level variables: what it gives, and a world that is laid so. -/
import Derived.Test.YtoijcpnfohjciaaGreatDoorXHS
import Derived.Test.YtoijcpnfohjciaaGreatDoorXGW
import Derived.Test.YtoijcpnfohjciaaGreatDoorRows
import Derived.LaidSub
import Derived.Lay
import Derived.MakeChecks
import Derived.LaidLaws
import Derived.LaidHandle
import Derived.Stop.Joined
import Derived.Lib.LaidTab
import Derived.Shelf.Vars
import Derived.JoinedOf
namespace Go.Proofs.YtoijcpnfohjciaaGreatDoor
namespace laidL
theorem et:Tryz.prog.globalNamed "errors.errorType"=some 1:=by kernel_rfl
theorem spG:Tryz.prog.globalNamed "strings.asciiSpace"=some 0:=by kernel_rfl
theorem spT:(Tryz.prog.globals[0]?).map (·.type)=some 107:=by kernel_rfl
theorem rt:(Tryz.prog.cutTypes.find? (·.1 == "internal/reflectlite.rtype")).map (·.2)=some 162:=by kernel_rfl
theorem oneRow:((List.range 272).filter fun t=>Tryz.prog.rowNamed t [101,114,114,111,114])=[96]:=by kernel_rfl
theorem size:Tryz.prog.types.size=272:=by kernel_rfl
theorem blank (c:Nat) (hc:c<256):Lib.asciiSpaceTab.getD c 0=if Lib.isSp (UInt8.ofNat c) then 1 else 0:=by
 have h:∀ c:Fin 256,Lib.asciiSpaceTab.getD c.1 0=if Lib.isSp (UInt8.ofNat c.1) then 1 else 0:=by decide +kernel
 exact h ⟨c,hc⟩
theorem outE:(Rows.gramWrongRow.laid.filter fun x=>x.1 == "errors.errorType")=[("errors.errorType",Rows.laid_errors_errorType)]:=by kernel_rfl
theorem outS:(Rows.gramWrongRow.laid.filter fun x=>x.1 == "strings.asciiSpace")=[("strings.asciiSpace",Rows.laid_strings_asciiSpace)]:=by kernel_rfl
theorem plainS:(([("strings.asciiSpace",Rows.laid_strings_asciiSpace)]:List (String × DataW Unit)).all fun x=>x.2.handleName?.isNone)=true:=by kernel_rfl
theorem spD:(Rows.laid_strings_asciiSpace:DataW Unit)=Lib.tabData .u8 Lib.asciiSpaceTab:=by kernel_rfl
theorem spC:Tryz.prog.cellsOf 107=256:=by kernel_rfl
theorem u8C:Tryz.prog.cellsOf 5=1:=by kernel_rfl
theorem mlG:5<Tryz.prog.globals.size:=of_decide_eq_true (by kernel_rfl)
theorem mlZ:((begin Tryz.prog (fun _ _=>0) default).world.heap[5]?).bind Obj.row?=some (#[.int .i64 0],3):=by kernel_rfl
set_option maxRecDepth 100000 in
theorem gw_of_laid {W:World} (h:laidMetH Tryz.prog Rows.gramWrongRow.laid W) (hsh:W.ShapedOpen Tryz.prog):X.GW W:=by
 have hE:=h.filter fun x=>x.1 == "errors.errorType"
 have hS:=h.filter fun x=>x.1 == "strings.asciiSpace"
 rw [outE] at hE
 rw [outS] at hS
 have h':laidMet Tryz.prog [] W∧handlesMet Tryz.prog [("errors.errorType",Rows.laid_errors_errorType)] W:=hE
 obtain ⟨name,u,ty,e1,e2,e3,e4,e5⟩:=h'.2 _ (List.mem_singleton.2 rfl)
 have en:name=[101,114,114,111,114]:=(Option.some.inj e1).symm
 subst en
 obtain rfl:=Option.some.inj (rt.symm.trans e2)
 have hm:ty ∈ (List.range 272).filter fun t=>Tryz.prog.rowNamed t [101,114,114,111,114]:=List.mem_filter.2 ⟨List.mem_range.2 (by rw [← size]; exact e3),e4⟩
 rw [oneRow] at hm
 obtain rfl:=List.mem_singleton.1 hm
 have hh:typeHandle Tryz.prog 96=.pointer (some ⟨12,96,none⟩):=by kernel_rfl
 rw [hh] at e5
 have hT:Lib.TabIs Tryz.prog W "strings.asciiSpace" .u8 Lib.asciiSpaceTab:=Lib.tabIs_of_head (rest:=[]) spG spT Tryz.underlying107 Tryz.underlying5 u8C spC (by rw [MakeChecks.laidMetH_plain _ _ _ plainS,spD] at hS; exact hS)
 refine ⟨by simpa using World.var?_cell et e5 0,fun c hc=>?_,Go.Proofs.cell_of_shapedOpen_int (g:=5) (zero:=#[.int .i64 0]) (t:=3) hsh mlG mlZ rfl (by kernel_rfl) (by kernel_rfl) Tryz.underlying3⟩
 have:=hT.cell spG c hc
 rw [blank c hc] at this
 exact this
noncomputable def plainL:List (String × DataW Unit):=Rows.gramWrongRow.laid.filter fun x=>x.2.handleName?.isNone
noncomputable def handleWorld (os:Os):World :=
 let w0:=World.holding Tryz.prog os ⟨#[],#[],[]⟩
 { w0 with heap:=w0.heap.modify 1 fun
   | .cells _ t frozen=>.cells #[.iface 162 (.agg #[.pointer (some ⟨12,96,none⟩)])] t frozen
   | o=>o }
noncomputable def laidWorld (os:Os):World:=(handleWorld os).layVars Tryz.prog plainL
theorem laidWorld_os (os:Os):(laidWorld os).os=os:=World.layVars_os _ _ _
set_option maxRecDepth 100000 in
theorem fits (os:Os):(handleWorld os).layFits Tryz.prog plainL []=true:=by kernel_rfl
set_option maxRecDepth 100000 in
theorem ifaces (os:Os):(handleWorld os).layIfaces Tryz.prog plainL (laidWorld os)=true:=by kernel_rfl
theorem plain_met (os:Os) (args:Array Value):laidMet Tryz.prog plainL ((laidWorld os).forCall (fun _ _=>0) ⟨#[],args,[]⟩).memory:=by
 have e1:(plainL.filter fun x=>(plainL.map (·.1)).contains x.1)=plainL:=List.filter_eq_self.2 fun x hx=>List.contains_iff_mem.2 (List.mem_map.2 ⟨x,hx,rfl⟩)
 have e2:(plainL.filter fun x=>!(plainL.map (·.1)).contains x.1)=[]:=List.filter_eq_nil_iff.2 fun x hx=>by rw [List.contains_iff_mem.2 (List.mem_map.2 ⟨x,hx,rfl⟩)]; simp
 have h:laidMet Tryz.prog plainL (laidWorld os):=laidMet_layVars (w0:=handleWorld os) (plainL.map (·.1)) [] (by rw [e1]; rfl) (by rw [e1]; exact fits os) (by rw [e1]; exact ifaces os) (by rw [e2]; exact LaidIn.none)
 exact h.of_heap (by simp [World.memory,World.forCall,Input.heap])
set_option maxRecDepth 100000 in
theorem handle_met (os:Os) (args:Array Value):(Rows.gramWrongRow.laid.filter fun x=>x.2.handleName?.isSome).all (handleAtB Tryz.prog ((laidWorld os).forCall (fun _ _=>0) ⟨#[],args,[]⟩).memory)=true:=by kernel_rfl
theorem laidWorld_met (os:Os) (args:Array Value):laidMetH Tryz.prog Rows.gramWrongRow.laid ((laidWorld os).forCall (fun _ _=>0) ⟨#[],args,[]⟩).memory :=
 laidMetH_of_parts (plain_met os args) (handle_met os args)
set_option maxRecDepth 100000 in
theorem zip (os:Os) (args:Array Value):((laidWorld os).forCall (fun _ _=>0) ⟨#[],args,[]⟩).variablesZipB Tryz.prog=true:=by kernel_rfl
set_option maxRecDepth 100000 in
theorem heads (os:Os) (args:Array Value):(((laidWorld os).forCall (fun _ _=>0) ⟨#[],args,[]⟩).heap.toList.drop Tryz.prog.globals.size).take ((begin Tryz.prog (fun _ _=>0) default).world.heap.size - Tryz.prog.globals.size) =
  (begin Tryz.prog (fun _ _=>0) default).world.heap.toList.drop Tryz.prog.globals.size:=by kernel_rfl
theorem shaped (os:Os) (args:Array Value):((laidWorld os).forCall (fun _ _=>0) ⟨#[],args,[]⟩).Shaped Tryz.prog:=World.shaped_of_ZipB (zip os args) (heads os args)
end laidL
end Go.Proofs.YtoijcpnfohjciaaGreatDoor
