/- For every argument: GramWrong answers true, and leaves its arguments as they were; the library's variables that are listed are laid, by the program's own text (the card). -/
import Derived.Test.YtoijcpnfohjciaaGreatDoorRows
import Derived.Test.YtoijcpnfohjciaaGreatDoorGWF
import Derived.Test.YtoijcpnfohjciaaGreatDoorGWG
import Derived.Test.YtoijcpnfohjciaaGreatDoorTie
import Derived.Test.YtoijcpnfohjciaaGreatDoorXLD
import Derived.Test.YtoijcpnfohjciaaGreatDoorCards
import Derived.ChangeSame
import Derived.ChangeVars
import Derived.JoinedOf
import Derived.LaidLaws
import Derived.LaidHandle
import Derived.Stop.Joined
import Derived.SevenTiedAt
import Derived.Test.YtoijcpnfohjciaaGreatDoorRunGW0
import Derived.Test.YtoijcpnfohjciaaGreatDoorRunGW1
import Derived.WalkKit
import Derived.WalkSpells
import Derived.WalkLawsBesides
import Derived.ChangeShapes
import Derived.Carry
import Derived.ProofKit
import Derived.OpenShut
import Derived.Below
namespace Go.Proofs.YtoijcpnfohjciaaGreatDoor
open Go.ChangeShapes Go.WideShapes Go.ChangeAt Go.RowKit
namespace gramWrong
theorem runs:∀ (which:Nat),0≤which→which≤29→X.rgw  which=True
 | 0,_,_=>X.gw0
 | 1,_,_=>X.gw1
 | 2,_,_=>X.gw2
 | 3,_,_=>X.gw3
 | 4,_,_=>X.gw4
 | 5,_,_=>X.gw5
 | 6,_,_=>X.gw6
 | 7,_,_=>X.gw7
 | 8,_,_=>X.gw8
 | 9,_,_=>X.gw9
 | 10,_,_=>X.gw10
 | 11,_,_=>X.gw11
 | 12,_,_=>X.gw12
 | 13,_,_=>X.gw13
 | 14,_,_=>X.gw14
 | 15,_,_=>X.gw15
 | 16,_,_=>X.gw16
 | 17,_,_=>X.gw17
 | 18,_,_=>X.gw18
 | 19,_,_=>X.gw19
 | 20,_,_=>X.gw20
 | 21,_,_=>X.gw21
 | 22,_,_=>X.gw22
 | 23,_,_=>X.gw23
 | 24,_,_=>X.gw24
 | 25,_,_=>X.gw25
 | 26,_,_=>X.gw26
 | 27,_,_=>X.gw27
 | 28,_,_=>X.gw28
 | 29,_,_=>X.gw29
 | which+30,_,h=>by omega
set_option maxRecDepth 100000 in
theorem walk (which:Int) (w:World) (hG:X.GW w):Calls Tryz.prog 3 #[.int .i64 which] w fun e w'=>e=.returned (.bool true)∧RowKit.Below w.heap.size w w':=by
 cases which with
 | negSucc q=>exact X.true_of_run (n:=100000) (p:=X.p3) (args:=[.int .i64 (.negSucc q)]) X.funs2_ok w #[.int .i64 (.negSucc q)] ⟨fun _=>by simp [X.concL,X.conc],fun _=>by simp [X.okL,X.okV]⟩ (X.gwn0 q) hG
 | ofNat which =>
  rcases Nat.lt_or_ge 29 which with h | uwhich
  ·obtain ⟨q,rfl⟩:∃ q,which=q+30:=⟨which - 30,by omega⟩
   exact X.true_of_run (n:=100000) (p:=X.p3) (args:=[.int .i64 (.ofNat (q+30))]) X.funs2_ok w #[.int .i64 (.ofNat (q+30))] ⟨fun _=>by simp [X.concL,X.conc],fun _=>by simp [X.okL,X.okV]⟩ (X.gwf0 q) hG
  have lwhich:0≤which:=Nat.zero_le _
  exact X.true_of_run (n:=100000) (p:=X.p3) (args:=[.int .i64 (.ofNat which)]) X.funs2_ok w #[.int .i64 (.ofNat which)] ⟨fun _=>by simp [X.concL,X.conc],fun _=>by simp [X.okL,X.okV]⟩ (runs which lwhich uwhich) hG
theorem own:ownKnob Tryz.prog.godebug=none:=by kernel_rfl
theorem sameL:Rows.gramWrongRow.laid=Rows.gramWrongRow.laid:=by kernel_rfl
theorem gw_of_laid {W:World} (h:laidMetH Tryz.prog Rows.gramWrongRow.laid W) (hsh:W.ShapedOpen Tryz.prog):X.GW W:=laidL.gw_of_laid (sameL ▸ h) hsh
theorem laidWorld_met (os:Os) (args:Array Value):laidMetH Tryz.prog Rows.gramWrongRow.laid ((laidL.laidWorld os).forCall (fun _ _=>0) ⟨#[],args,[]⟩).memory:=sameL ▸ laidL.laidWorld_met os args
set_option maxRecDepth 100000 in
theorem lifted (os:Os) (started:os.Started) (H:Type) (enc:TypeId × Value→H) :
  ReturnsInHanded {} Tryz.checked os 3 .any (fun w args=>(Rows.gramWrongSpec.pre enc Tryz.prog Tryz.f3 [] false w args∧laidMetH Tryz.prog Rows.gramWrongRow.laid w)∧sizedMet enc Tryz.prog Tryz.f3 (OpenSpec.ofChange Rows.gramWrongSpec) false w args)
   (Rows.gramWrongSpec.post enc Tryz.prog Tryz.f3 false true false false):=by
 refine X.handed_shaped (C:=Tryz.checked) (X:=fun w _=>laidMetH Tryz.prog Rows.gramWrongRow.laid w) (fun _ _ _ hh h=>h.of_heap hh) own started (by kernel_rfl) Tryz.func3
  (ChangeSpec.witness_shaped (enc:=enc) (C:=Tryz.checked) (os:=os) (X:=fun w _=>laidMetH Tryz.prog Rows.gramWrongRow.laid w) false (laidL.laidWorld os) #[.int .i64 0] 8 (laidL.laidWorld_os os) (laidL.shaped os _) (by kernel_rfl) (by kernel_rfl) (by kernel_rfl) (laidWorld_met os _)) ?_
 intro W base args ds gs before hval0 hW hL hsh
 have hval:∀ (j:Nat) t v,Tryz.f3.params[j]?=some t→args[j]?=some v→Value.okWide Tryz.prog W .any base t v:=hval0
 have hW':=hW
 obtain ⟨p,q,hA0,hV0,rfl,hfz,hnd⟩:=hW
 have hA:DataW.TrodAll enc Tryz.prog W 0 (fun _=>true) true Tryz.f3.params.toList args.toList ds p:=hA0
 have hV:DataW.TrodVars enc Tryz.prog W (fun _=>true) [] gs q:=hV0
 rw [Tryz.params3] at hA hval
 obtain ⟨v0,d0,rfl,rfl,h0⟩:=trodAll_one hA
 obtain ⟨a0,rfl,rfl,rfl,w0⟩:=open_int Tryz.underlying3 (hval 0 3 v0 rfl rfl) h0
 have hg:=gw_of_laid hL hsh
 obtain ⟨rfl,rfl⟩:gs=[]∧q=[]:=by
  cases gs with
  | nil=>exact ⟨rfl,hV⟩
  | cons g r=>exact absurd hV (by intro h; cases h)
 refine (walk a0 W hg).mono fun e W' ⟨he,bel⟩=>?_
 subst he
 exact ⟨_,rfl,_,_,_,[],[],[],hW',trodAll_mk1 (shut_bool Tryz.underlying4 _),trodAll_mk1 (shut_int Tryz.underlying3 w0),rfl,bel.frame _,fun h=>by cases h⟩
theorem over:Rows.gramWrongRow.holds Tryz.pinned (OpenSpec.ofChange Rows.gramWrongSpec) :=
 OpenClaim.holds_of_wide 3 Tryz.f3 rfl rfl rfl rfl rfl rfl rfl ⟨rfl,rfl,rfl,rfl,rfl⟩ rfl rfl rfl rfl rfl cn Tryz.func3 joined
  hinst hwrap
  (fun os started H enc _=>lifted os started H enc)
end gramWrong
theorem gramWrong_holds:Rows.GramWrongCardSaid :=
 Claim7.holds_tied_plain_at .later [] [.data,.data,.data,.data,.handle,.sentinel,.sentinel,.listed,.data,.pinned] true (true,"f3814e9d4c5a19824a7bf156a3e263c9fdb64b34585fe0127fbb704a26cf3449") true
  gramWrong.over (fun _ h=>by cases h) gramWrong.cw (fun _ h=>by cases h) gramWrong_row_tie rfl ⟨rfl,rfl⟩ gramWrong.cm rfl gramWrong.ch gramWrong.cg
#print axioms gramWrong_holds
end Go.Proofs.YtoijcpnfohjciaaGreatDoor
