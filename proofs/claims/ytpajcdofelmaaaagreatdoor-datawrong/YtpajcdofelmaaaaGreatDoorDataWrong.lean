/- For every argument: DataWrong answers true, and leaves its arguments as they were; the library's variable of the error type is laid, by the program's own text (the card). -/
import Derived.Test.YtpajcdofelmaaaaGreatDoorRows
import Derived.Test.YtpajcdofelmaaaaGreatDoorDWF
import Derived.Test.YtpajcdofelmaaaaGreatDoorDWG
import Derived.Test.YtpajcdofelmaaaaGreatDoorTie
import Derived.Test.YtpajcdofelmaaaaGreatDoorCards
import Derived.ChangeSame
import Derived.ChangeVars
import Derived.JoinedOf
import Derived.LaidLaws
import Derived.LaidHandle
import Derived.Stop.Joined
import Derived.SevenTiedAt
import Derived.Test.YtpajcdofelmaaaaGreatDoorRunDW0
import Derived.Test.YtpajcdofelmaaaaGreatDoorRunDW1
import Derived.Test.YtpajcdofelmaaaaGreatDoorRunDW2
import Derived.WalkKit
import Derived.WalkSpells
import Derived.WalkLawsBesides
import Derived.ChangeShapes
import Derived.Carry
import Derived.ProofKit
import Derived.OpenShut
import Derived.Below
namespace Go.Proofs.YtpajcdofelmaaaaGreatDoor
open Go.ChangeShapes Go.WideShapes Go.ChangeAt Go.RowKit
namespace dataWrong
theorem runs:∀ (which:Nat),0≤which→which≤20→X.rdw  which=True
 | 0,_,_=>X.dw0
 | 1,_,_=>X.dw1
 | 2,_,_=>X.dw2
 | 3,_,_=>X.dw3
 | 4,_,_=>X.dw4
 | 5,_,_=>X.dw5
 | 6,_,_=>X.dw6
 | 7,_,_=>X.dw7
 | 8,_,_=>X.dw8
 | 9,_,_=>X.dw9
 | 10,_,_=>X.dw10
 | 11,_,_=>X.dw11
 | 12,_,_=>X.dw12
 | 13,_,_=>X.dw13
 | 14,_,_=>X.dw14
 | 15,_,_=>X.dw15
 | 16,_,_=>X.dw16
 | 17,_,_=>X.dw17
 | 18,_,_=>X.dw18
 | 19,_,_=>X.dw19
 | 20,_,_=>X.dw20
 | which+21,_,h=>by omega
set_option maxRecDepth 100000 in
theorem walk (which:Int) (w:World) (hG:X.GW w):Calls Tryz.prog 3 #[.int .i64 which] w fun e w'=>e=.returned (.bool true)∧RowKit.Below w.heap.size w w':=by
 cases which with
 | negSucc q=>exact X.true_of_run (n:=100000) (p:=X.p3) (args:=[.int .i64 (.negSucc q)]) X.funs2_ok w #[.int .i64 (.negSucc q)] ⟨fun _=>by simp [X.concL,X.conc],fun _=>by simp [X.okL,X.okV]⟩ (X.dwn0 q) hG
 | ofNat which =>
  rcases Nat.lt_or_ge 20 which with h | uwhich
  ·obtain ⟨q,rfl⟩:∃ q,which=q+21:=⟨which - 21,by omega⟩
   exact X.true_of_run (n:=100000) (p:=X.p3) (args:=[.int .i64 (.ofNat (q+21))]) X.funs2_ok w #[.int .i64 (.ofNat (q+21))] ⟨fun _=>by simp [X.concL,X.conc],fun _=>by simp [X.okL,X.okV]⟩ (X.dwf0 q) hG
  have lwhich:0≤which:=Nat.zero_le _
  exact X.true_of_run (n:=100000) (p:=X.p3) (args:=[.int .i64 (.ofNat which)]) X.funs2_ok w #[.int .i64 (.ofNat which)] ⟨fun _=>by simp [X.concL,X.conc],fun _=>by simp [X.okL,X.okV]⟩ (runs which lwhich uwhich) hG
theorem own:ownKnob Tryz.prog.godebug=none:=by kernel_rfl
theorem et:Tryz.prog.globalNamed "errors.errorType"=some 0:=by kernel_rfl
theorem rt:(Tryz.prog.cutTypes.find? (·.1 == "internal/reflectlite.rtype")).map (·.2)=some 351:=by kernel_rfl
theorem oneRow:((List.range 561).filter fun t=>Tryz.prog.rowNamed t [101,114,114,111,114])=[149]:=by kernel_rfl
theorem size:Tryz.prog.types.size=561:=by kernel_rfl
theorem gw_of_laid {W:World} (h:laidMetH Tryz.prog [("errors.errorType",Rows.laid_errors_errorType)] W):X.GW W:=by
 have h':laidMet Tryz.prog [] W∧handlesMet Tryz.prog [("errors.errorType",Rows.laid_errors_errorType)] W:=h
 obtain ⟨name,u,ty,e1,e2,e3,e4,e5⟩:=h'.2 _ (List.mem_singleton.2 rfl)
 have en:name=[101,114,114,111,114]:=(Option.some.inj e1).symm
 subst en
 obtain rfl:=Option.some.inj (rt.symm.trans e2)
 have hm:ty ∈ (List.range 561).filter fun t=>Tryz.prog.rowNamed t [101,114,114,111,114]:=List.mem_filter.2 ⟨List.mem_range.2 (by rw [← size]; exact e3),e4⟩
 rw [oneRow] at hm
 obtain rfl:=List.mem_singleton.1 hm
 have hh:typeHandle Tryz.prog 149=.pointer (some ⟨1,149,none⟩):=by kernel_rfl
 rw [hh] at e5
 have:=World.var?_cell et e5 0
 unfold X.GW
 simpa using this
noncomputable def laidWorld (os:Os):World :=
 let w0:=World.holding Tryz.prog os ⟨#[],#[],[]⟩
 { w0 with heap:=w0.heap.modify 0 fun
   | .cells _ t frozen=>.cells #[.iface 351 (.agg #[.pointer (some ⟨1,149,none⟩)])] t frozen
   | o=>o }
theorem laidWorld_met (os:Os) (args:Array Value):laidMetH Tryz.prog [("errors.errorType",Rows.laid_errors_errorType)] ((laidWorld os).forCall (fun _ _=>0) ⟨#[],args,[]⟩).memory :=
 laidMetH_of_parts (laidMet_nil _ _) (by kernel_rfl)
set_option maxRecDepth 100000 in
theorem lifted (os:Os) (started:os.Started) (H:Type) (enc:TypeId × Value→H) :
  ReturnsInHanded {} Tryz.checked os 3 .any (fun w args=>(Rows.dataWrongSpec.pre enc Tryz.prog Tryz.f3 [] false w args∧laidMetH Tryz.prog [("errors.errorType",Rows.laid_errors_errorType)] w)∧sizedMet enc Tryz.prog Tryz.f3 (OpenSpec.ofChange Rows.dataWrongSpec) false w args)
   (Rows.dataWrongSpec.post enc Tryz.prog Tryz.f3 false true false false):=by
 refine returnsInHanded_of_change_and (C:=Tryz.checked) (X:=fun w _=>laidMetH Tryz.prog [("errors.errorType",Rows.laid_errors_errorType)] w) (fun _ _ _ hh h=>h.of_heap hh) own started (by kernel_rfl) Tryz.func3
  (ChangeSpec.witness_at (enc:=enc) (C:=Tryz.checked) (os:=os) (X:=fun w _=>laidMetH Tryz.prog [("errors.errorType",Rows.laid_errors_errorType)] w) false (laidWorld os) #[.int .i64 0] 8 rfl (by kernel_rfl) (by kernel_rfl) (by kernel_rfl) (by kernel_rfl) (by kernel_rfl) (laidWorld_met os _)) ?_
 intro W base args ds gs before hval0 hW _ _ hL _
 have hval:∀ (j:Nat) t v,Tryz.f3.params[j]?=some t→args[j]?=some v→Value.okWide Tryz.prog W .any base t v:=hval0
 have hW':=hW
 obtain ⟨p,q,hA0,hV0,rfl,hfz,hnd⟩:=hW
 have hA:DataW.TrodAll enc Tryz.prog W 0 (fun _=>true) true Tryz.f3.params.toList args.toList ds p:=hA0
 have hV:DataW.TrodVars enc Tryz.prog W (fun _=>true) [] gs q:=hV0
 rw [Tryz.params3] at hA hval
 obtain ⟨v0,d0,rfl,rfl,h0⟩:=trodAll_one hA
 obtain ⟨a0,rfl,rfl,rfl,w0⟩:=open_int Tryz.underlying3 (hval 0 3 v0 rfl rfl) h0
 have hg:=gw_of_laid hL
 obtain ⟨rfl,rfl⟩:gs=[]∧q=[]:=by
  cases gs with
  | nil=>exact ⟨rfl,hV⟩
  | cons g r=>exact absurd hV (by intro h; cases h)
 refine (walk a0 W hg).mono fun e W' ⟨he,bel⟩=>?_
 subst he
 exact ⟨_,rfl,_,_,_,[],[],[],hW',trodAll_mk1 (shut_bool Tryz.underlying4 _),trodAll_mk1 (shut_int Tryz.underlying3 w0),rfl,bel.frame _,fun h=>by cases h⟩
theorem over:Rows.dataWrongRow.holds Tryz.pinned (OpenSpec.ofChange Rows.dataWrongSpec) :=
 OpenClaim.holds_of_wide 3 Tryz.f3 rfl rfl rfl rfl rfl rfl rfl ⟨rfl,rfl,rfl,rfl,rfl⟩ rfl rfl rfl rfl rfl cn Tryz.func3 joined
  hinst hwrap
  (fun os started H enc _=>lifted os started H enc)
end dataWrong
theorem dataWrong_holds:Rows.DataWrongCardSaid :=
 Claim7.holds_tied_plain_at .later [] [.handle] true (true,"420152e8f288ebd554f4ebb41d83f738df473f1b3c1cef1afb6f511e4d587c9b") true
  dataWrong.over (fun _ h=>by cases h) dataWrong.cw (fun _ h=>by cases h) dataWrong_row_tie rfl ⟨rfl,rfl⟩ dataWrong.cm rfl dataWrong.ch dataWrong.cg
#print axioms dataWrong_holds
end Go.Proofs.YtpajcdofelmaaaaGreatDoor
