/- For every argument: PreludeTransports answers true, and leaves its arguments as they were; the library's variable of the error type is laid, by the program's own text (the card). -/
import Derived.Test.YtidggaoacldgkaaGreatDoorRows
import Derived.Test.YtidggaoacldgkaaGreatDoorPTF
import Derived.Test.YtidggaoacldgkaaGreatDoorPTG
import Derived.Test.YtidggaoacldgkaaGreatDoorTie
import Derived.Test.YtidggaoacldgkaaGreatDoorCards
import Derived.ChangeSame
import Derived.ChangeVars
import Derived.JoinedOf
import Derived.LaidLaws
import Derived.LaidHandle
import Derived.Stop.Joined
import Derived.SevenTiedAt
import Derived.Test.YtidggaoacldgkaaGreatDoorRunPT0
import Derived.Test.YtidggaoacldgkaaGreatDoorRunPT1
import Derived.Test.YtidggaoacldgkaaGreatDoorRunPT2
import Derived.Test.YtidggaoacldgkaaGreatDoorRunPT3
import Derived.Test.YtidggaoacldgkaaGreatDoorRunPT4
import Derived.Test.YtidggaoacldgkaaGreatDoorRunPT5
import Derived.Test.YtidggaoacldgkaaGreatDoorRunPT6
import Derived.Test.YtidggaoacldgkaaGreatDoorRunPT7
import Derived.Test.YtidggaoacldgkaaGreatDoorRunPT8
import Derived.Test.YtidggaoacldgkaaGreatDoorRunPT9
import Derived.Test.YtidggaoacldgkaaGreatDoorRunPT10
import Derived.Test.YtidggaoacldgkaaGreatDoorRunPT11
import Derived.Test.YtidggaoacldgkaaGreatDoorRunPT12
import Derived.Test.YtidggaoacldgkaaGreatDoorRunPT13
import Derived.Test.YtidggaoacldgkaaGreatDoorRunPT14
import Derived.Test.YtidggaoacldgkaaGreatDoorRunPT15
import Derived.WalkKit
import Derived.WalkSpells
import Derived.WalkLawsBesides
import Derived.ChangeShapes
import Derived.Carry
import Derived.ProofKit
import Derived.OpenShut
import Derived.Below
namespace Go.Proofs.YtidggaoacldgkaaGreatDoor
open Go.ChangeShapes Go.WideShapes Go.ChangeAt Go.RowKit
namespace preludeTransports
theorem runs:∀ (n:Nat),0≤n→n≤100→X.rpt  n=True
 | 0,_,_=>X.pt0
 | 1,_,_=>X.pt1
 | 2,_,_=>X.pt2
 | 3,_,_=>X.pt3
 | 4,_,_=>X.pt4
 | 5,_,_=>X.pt5
 | 6,_,_=>X.pt6
 | 7,_,_=>X.pt7
 | 8,_,_=>X.pt8
 | 9,_,_=>X.pt9
 | 10,_,_=>X.pt10
 | 11,_,_=>X.pt11
 | 12,_,_=>X.pt12
 | 13,_,_=>X.pt13
 | 14,_,_=>X.pt14
 | 15,_,_=>X.pt15
 | 16,_,_=>X.pt16
 | 17,_,_=>X.pt17
 | 18,_,_=>X.pt18
 | 19,_,_=>X.pt19
 | 20,_,_=>X.pt20
 | 21,_,_=>X.pt21
 | 22,_,_=>X.pt22
 | 23,_,_=>X.pt23
 | 24,_,_=>X.pt24
 | 25,_,_=>X.pt25
 | 26,_,_=>X.pt26
 | 27,_,_=>X.pt27
 | 28,_,_=>X.pt28
 | 29,_,_=>X.pt29
 | 30,_,_=>X.pt30
 | 31,_,_=>X.pt31
 | 32,_,_=>X.pt32
 | 33,_,_=>X.pt33
 | 34,_,_=>X.pt34
 | 35,_,_=>X.pt35
 | 36,_,_=>X.pt36
 | 37,_,_=>X.pt37
 | 38,_,_=>X.pt38
 | 39,_,_=>X.pt39
 | 40,_,_=>X.pt40
 | 41,_,_=>X.pt41
 | 42,_,_=>X.pt42
 | 43,_,_=>X.pt43
 | 44,_,_=>X.pt44
 | 45,_,_=>X.pt45
 | 46,_,_=>X.pt46
 | 47,_,_=>X.pt47
 | 48,_,_=>X.pt48
 | 49,_,_=>X.pt49
 | 50,_,_=>X.pt50
 | 51,_,_=>X.pt51
 | 52,_,_=>X.pt52
 | 53,_,_=>X.pt53
 | 54,_,_=>X.pt54
 | 55,_,_=>X.pt55
 | 56,_,_=>X.pt56
 | 57,_,_=>X.pt57
 | 58,_,_=>X.pt58
 | 59,_,_=>X.pt59
 | 60,_,_=>X.pt60
 | 61,_,_=>X.pt61
 | 62,_,_=>X.pt62
 | 63,_,_=>X.pt63
 | 64,_,_=>X.pt64
 | 65,_,_=>X.pt65
 | 66,_,_=>X.pt66
 | 67,_,_=>X.pt67
 | 68,_,_=>X.pt68
 | 69,_,_=>X.pt69
 | 70,_,_=>X.pt70
 | 71,_,_=>X.pt71
 | 72,_,_=>X.pt72
 | 73,_,_=>X.pt73
 | 74,_,_=>X.pt74
 | 75,_,_=>X.pt75
 | 76,_,_=>X.pt76
 | 77,_,_=>X.pt77
 | 78,_,_=>X.pt78
 | 79,_,_=>X.pt79
 | 80,_,_=>X.pt80
 | 81,_,_=>X.pt81
 | 82,_,_=>X.pt82
 | 83,_,_=>X.pt83
 | 84,_,_=>X.pt84
 | 85,_,_=>X.pt85
 | 86,_,_=>X.pt86
 | 87,_,_=>X.pt87
 | 88,_,_=>X.pt88
 | 89,_,_=>X.pt89
 | 90,_,_=>X.pt90
 | 91,_,_=>X.pt91
 | 92,_,_=>X.pt92
 | 93,_,_=>X.pt93
 | 94,_,_=>X.pt94
 | 95,_,_=>X.pt95
 | 96,_,_=>X.pt96
 | 97,_,_=>X.pt97
 | 98,_,_=>X.pt98
 | 99,_,_=>X.pt99
 | 100,_,_=>X.pt100
 | n+101,_,h=>by omega
set_option maxRecDepth 100000 in
theorem walk (n:Int) (w:World) (hG:X.GW w):Calls Tryz.prog 3 #[.int .i64 n] w fun e w'=>e=.returned (.bool true)∧RowKit.Below w.heap.size w w':=by
 cases n with
 | negSucc q=>exact X.true_of_run (n:=100000) (p:=X.p3) (args:=[.int .i64 (.negSucc q)]) X.funs2_ok w #[.int .i64 (.negSucc q)] ⟨fun _=>by simp [X.concL,X.conc],fun _=>by simp [X.okL,X.okV]⟩ (X.ptn0 q) hG
 | ofNat n =>
  rcases Nat.lt_or_ge 100 n with h | un
  ·obtain ⟨q,rfl⟩:∃ q,n=q+101:=⟨n - 101,by omega⟩
   exact X.true_of_run (n:=100000) (p:=X.p3) (args:=[.int .i64 (.ofNat (q+101))]) X.funs2_ok w #[.int .i64 (.ofNat (q+101))] ⟨fun _=>by simp [X.concL,X.conc],fun _=>by simp [X.okL,X.okV]⟩ (X.ptf0 q) hG
  have ln:0≤n:=Nat.zero_le _
  exact X.true_of_run (n:=100000) (p:=X.p3) (args:=[.int .i64 (.ofNat n)]) X.funs2_ok w #[.int .i64 (.ofNat n)] ⟨fun _=>by simp [X.concL,X.conc],fun _=>by simp [X.okL,X.okV]⟩ (runs n ln un) hG
theorem own:ownKnob Tryz.prog.godebug=none:=by kernel_rfl
theorem et:Tryz.prog.globalNamed "errors.errorType"=some 0:=by kernel_rfl
theorem rt:(Tryz.prog.cutTypes.find? (·.1 == "internal/reflectlite.rtype")).map (·.2)=some 280:=by kernel_rfl
theorem oneRow:((List.range 571).filter fun t=>Tryz.prog.rowNamed t [101,114,114,111,114])=[91]:=by kernel_rfl
theorem size:Tryz.prog.types.size=571:=by kernel_rfl
theorem gw_of_laid {W:World} (h:laidMetH Tryz.prog [("errors.errorType",Rows.laid_errors_errorType)] W):X.GW W:=by
 have h':laidMet Tryz.prog [] W∧handlesMet Tryz.prog [("errors.errorType",Rows.laid_errors_errorType)] W:=h
 obtain ⟨name,u,ty,e1,e2,e3,e4,e5⟩:=h'.2 _ (List.mem_singleton.2 rfl)
 have en:name=[101,114,114,111,114]:=(Option.some.inj e1).symm
 subst en
 obtain rfl:=Option.some.inj (rt.symm.trans e2)
 have hm:ty ∈ (List.range 571).filter fun t=>Tryz.prog.rowNamed t [101,114,114,111,114]:=List.mem_filter.2 ⟨List.mem_range.2 (by rw [← size]; exact e3),e4⟩
 rw [oneRow] at hm
 obtain rfl:=List.mem_singleton.1 hm
 have hh:typeHandle Tryz.prog 91=.pointer (some ⟨1,91,none⟩):=by kernel_rfl
 rw [hh] at e5
 have:=World.var?_cell et e5 0
 unfold X.GW
 simpa using this
noncomputable def laidWorld (os:Os):World :=
 let w0:=World.holding Tryz.prog os ⟨#[],#[],[]⟩
 { w0 with heap:=w0.heap.modify 0 fun
   | .cells _ t frozen=>.cells #[.iface 280 (.agg #[.pointer (some ⟨1,91,none⟩)])] t frozen
   | o=>o }
theorem laidWorld_met (os:Os) (args:Array Value):laidMetH Tryz.prog [("errors.errorType",Rows.laid_errors_errorType)] ((laidWorld os).forCall (fun _ _=>0) ⟨#[],args,[]⟩).memory :=
 laidMetH_of_parts (laidMet_nil _ _) (by kernel_rfl)
set_option maxRecDepth 100000 in
theorem lifted (os:Os) (started:os.Started) (H:Type) (enc:TypeId × Value→H) :
  ReturnsInHanded {} Tryz.checked os 3 .any (fun w args=>(Rows.preludeTransportsSpec.pre enc Tryz.prog Tryz.f3 [] false w args∧laidMetH Tryz.prog [("errors.errorType",Rows.laid_errors_errorType)] w)∧sizedMet enc Tryz.prog Tryz.f3 (OpenSpec.ofChange Rows.preludeTransportsSpec) false w args)
   (Rows.preludeTransportsSpec.post enc Tryz.prog Tryz.f3 false true false false):=by
 refine returnsInHanded_of_change_and (C:=Tryz.checked) (X:=fun w _=>laidMetH Tryz.prog [("errors.errorType",Rows.laid_errors_errorType)] w) (fun _ _ _ hh h=>h.of_heap hh) own started (by kernel_rfl) Tryz.func3
  (ChangeSpec.witness_at (enc:=enc) (C:=Tryz.checked) (os:=os) (X:=fun w _=>laidMetH Tryz.prog [("errors.errorType",Rows.laid_errors_errorType)] w) false (laidWorld os) #[.int .i64 0] 8 rfl (by kernel_rfl) (by kernel_rfl) (by kernel_rfl) (by kernel_rfl) (by kernel_rfl) (laidWorld_met os _)) ?_
 intro W base args ds gs before hval0 hW _ _ hL _
 have hval:∀ (j:Nat) t v,Tryz.f3.params[j]?=some t→args[j]?=some v→Value.okWide Tryz.prog W .any base t v:=hval0
 have hW':=hW
 obtain ⟨p,q,hA0,hV0,rfl,hfz,hnd⟩:=hW
 have hA:DataW.TrodAll enc Tryz.prog W 0 (fun _=>true) true Tryz.f3.params.toList args.toList ds p:=hA0
 have hV:DataW.TrodVars enc Tryz.prog W (fun _=>true) [] gs q:=hV0
 rw [Tryz.params3] at hA hval
 obtain ⟨v0,d0,rfl,rfl,h0⟩:=trodAll_one hA
 obtain ⟨a0,rfl,rfl,rfl,w0⟩:=open_int Tryz.underlying3 (hval 0 3 v0 rfl rfl) h0
 have hg:=gw_of_laid hL
 obtain ⟨rfl,rfl⟩:gs=[]∧q=[]:=by
  cases gs with
  | nil=>exact ⟨rfl,hV⟩
  | cons g r=>exact absurd hV (by intro h; cases h)
 refine (walk a0 W hg).mono fun e W' ⟨he,bel⟩=>?_
 subst he
 exact ⟨_,rfl,_,_,_,[],[],[],hW',trodAll_mk1 (shut_bool Tryz.underlying4 _),trodAll_mk1 (shut_int Tryz.underlying3 w0),rfl,bel.frame _,fun h=>by cases h⟩
theorem over:Rows.preludeTransportsRow.holds Tryz.pinned (OpenSpec.ofChange Rows.preludeTransportsSpec) :=
 OpenClaim.holds_of_wide 3 Tryz.f3 rfl rfl rfl rfl rfl rfl rfl ⟨rfl,rfl,rfl,rfl,rfl⟩ rfl rfl rfl rfl rfl cn Tryz.func3 joined
  hinst hwrap
  (fun os started H enc _=>lifted os started H enc)
end preludeTransports
theorem preludeTransports_holds:Rows.PreludeTransportsCardSaid :=
 Claim7.holds_tied_plain_at .later [] [.handle] true (true,"a148a6a42368f0d1d75cfb2effd5e6a3a0c111204469228c15d93c5f7a352fb2") true
  preludeTransports.over (fun _ h=>by cases h) preludeTransports.cw (fun _ h=>by cases h) preludeTransports_row_tie rfl ⟨rfl,rfl⟩ preludeTransports.cm rfl preludeTransports.ch preludeTransports.cg
#print axioms preludeTransports_holds
end Go.Proofs.YtidggaoacldgkaaGreatDoor
