/- For every argument: GramDeep answers true, and leaves its arguments as they were; the library's variables that are listed are laid, by the program's own text (the card). -/
import Derived.Test.YtoijcpnfohjciaaGreatDoorRows
import Derived.Test.YtoijcpnfohjciaaGreatDoorGDF
import Derived.Test.YtoijcpnfohjciaaGreatDoorGDG
import Derived.Test.YtoijcpnfohjciaaGreatDoorTie
import Derived.Test.YtoijcpnfohjciaaGreatDoorXLD
import Derived.Test.YtoijcpnfohjciaaGreatDoorCards
import Derived.ChangeSame
import Derived.ChangeVars
import Derived.JoinedOf
import Derived.LaidLaws
import Derived.LaidHandle
import Derived.Stop.Joined
import Derived.SevenTiedAt
import Derived.Test.YtoijcpnfohjciaaGreatDoorRunGD0
import Derived.Test.YtoijcpnfohjciaaGreatDoorRunGD1
import Derived.Test.YtoijcpnfohjciaaGreatDoorRunGD2
import Derived.Test.YtoijcpnfohjciaaGreatDoorRunGD3
import Derived.Test.YtoijcpnfohjciaaGreatDoorRunGD4
import Derived.Test.YtoijcpnfohjciaaGreatDoorRunGD5
import Derived.Test.YtoijcpnfohjciaaGreatDoorRunGD6
import Derived.Test.YtoijcpnfohjciaaGreatDoorRunGD7
import Derived.Test.YtoijcpnfohjciaaGreatDoorRunGD8
import Derived.Test.YtoijcpnfohjciaaGreatDoorRunGD9
import Derived.Test.YtoijcpnfohjciaaGreatDoorRunGD10
import Derived.Test.YtoijcpnfohjciaaGreatDoorRunGD11
import Derived.Test.YtoijcpnfohjciaaGreatDoorRunGD12
import Derived.Test.YtoijcpnfohjciaaGreatDoorRunGD13
import Derived.WalkKit
import Derived.WalkSpells
import Derived.WalkLawsBesides
import Derived.ChangeShapes
import Derived.Carry
import Derived.ProofKit
import Derived.OpenShut
import Derived.Below
namespace Go.Proofs.YtoijcpnfohjciaaGreatDoor
open Go.ChangeShapes Go.WideShapes Go.ChangeAt Go.RowKit
namespace gramDeep
theorem r1:∀ (modules:Bool),X.rgd 1 modules=True
 | false=>X.gd1x0
 | true=>X.gd1x1
theorem r2:∀ (modules:Bool),X.rgd 2 modules=True
 | false=>X.gd2x0
 | true=>X.gd2x1
theorem r3:∀ (modules:Bool),X.rgd 3 modules=True
 | false=>X.gd3x0
 | true=>X.gd3x1
theorem r4:∀ (modules:Bool),X.rgd 4 modules=True
 | false=>X.gd4x0
 | true=>X.gd4x1
theorem r5:∀ (modules:Bool),X.rgd 5 modules=True
 | false=>X.gd5x0
 | true=>X.gd5x1
theorem r6:∀ (modules:Bool),X.rgd 6 modules=True
 | false=>X.gd6x0
 | true=>X.gd6x1
theorem r7:∀ (modules:Bool),X.rgd 7 modules=True
 | false=>X.gd7x0
 | true=>X.gd7x1
theorem r8:∀ (modules:Bool),X.rgd 8 modules=True
 | false=>X.gd8x0
 | true=>X.gd8x1
theorem r9:∀ (modules:Bool),X.rgd 9 modules=True
 | false=>X.gd9x0
 | true=>X.gd9x1
theorem r10:∀ (modules:Bool),X.rgd 10 modules=True
 | false=>X.gd10x0
 | true=>X.gd10x1
theorem r11:∀ (modules:Bool),X.rgd 11 modules=True
 | false=>X.gd11x0
 | true=>X.gd11x1
theorem r12:∀ (modules:Bool),X.rgd 12 modules=True
 | false=>X.gd12x0
 | true=>X.gd12x1
theorem r13:∀ (modules:Bool),X.rgd 13 modules=True
 | false=>X.gd13x0
 | true=>X.gd13x1
theorem r14:∀ (modules:Bool),X.rgd 14 modules=True
 | false=>X.gd14x0
 | true=>X.gd14x1
theorem r15:∀ (modules:Bool),X.rgd 15 modules=True
 | false=>X.gd15x0
 | true=>X.gd15x1
theorem r16:∀ (modules:Bool),X.rgd 16 modules=True
 | false=>X.gd16x0
 | true=>X.gd16x1
theorem r17:∀ (modules:Bool),X.rgd 17 modules=True
 | false=>X.gd17x0
 | true=>X.gd17x1
theorem r18:∀ (modules:Bool),X.rgd 18 modules=True
 | false=>X.gd18x0
 | true=>X.gd18x1
theorem r19:∀ (modules:Bool),X.rgd 19 modules=True
 | false=>X.gd19x0
 | true=>X.gd19x1
theorem r20:∀ (modules:Bool),X.rgd 20 modules=True
 | false=>X.gd20x0
 | true=>X.gd20x1
theorem r21:∀ (modules:Bool),X.rgd 21 modules=True
 | false=>X.gd21x0
 | true=>X.gd21x1
theorem r22:∀ (modules:Bool),X.rgd 22 modules=True
 | false=>X.gd22x0
 | true=>X.gd22x1
theorem r23:∀ (modules:Bool),X.rgd 23 modules=True
 | false=>X.gd23x0
 | true=>X.gd23x1
theorem r24:∀ (modules:Bool),X.rgd 24 modules=True
 | false=>X.gd24x0
 | true=>X.gd24x1
theorem r25:∀ (modules:Bool),X.rgd 25 modules=True
 | false=>X.gd25x0
 | true=>X.gd25x1
theorem r26:∀ (modules:Bool),X.rgd 26 modules=True
 | false=>X.gd26x0
 | true=>X.gd26x1
theorem r27:∀ (modules:Bool),X.rgd 27 modules=True
 | false=>X.gd27x0
 | true=>X.gd27x1
theorem r28:∀ (modules:Bool),X.rgd 28 modules=True
 | false=>X.gd28x0
 | true=>X.gd28x1
theorem r29:∀ (modules:Bool),X.rgd 29 modules=True
 | false=>X.gd29x0
 | true=>X.gd29x1
theorem r30:∀ (modules:Bool),X.rgd 30 modules=True
 | false=>X.gd30x0
 | true=>X.gd30x1
theorem r31:∀ (modules:Bool),X.rgd 31 modules=True
 | false=>X.gd31x0
 | true=>X.gd31x1
theorem r32:∀ (modules:Bool),X.rgd 32 modules=True
 | false=>X.gd32x0
 | true=>X.gd32x1
theorem r33:∀ (modules:Bool),X.rgd 33 modules=True
 | false=>X.gd33x0
 | true=>X.gd33x1
theorem r34:∀ (modules:Bool),X.rgd 34 modules=True
 | false=>X.gd34x0
 | true=>X.gd34x1
theorem r35:∀ (modules:Bool),X.rgd 35 modules=True
 | false=>X.gd35x0
 | true=>X.gd35x1
theorem r36:∀ (modules:Bool),X.rgd 36 modules=True
 | false=>X.gd36x0
 | true=>X.gd36x1
theorem r37:∀ (modules:Bool),X.rgd 37 modules=True
 | false=>X.gd37x0
 | true=>X.gd37x1
theorem r38:∀ (modules:Bool),X.rgd 38 modules=True
 | false=>X.gd38x0
 | true=>X.gd38x1
theorem r39:∀ (modules:Bool),X.rgd 39 modules=True
 | false=>X.gd39x0
 | true=>X.gd39x1
theorem r40:∀ (modules:Bool),X.rgd 40 modules=True
 | false=>X.gd40x0
 | true=>X.gd40x1
theorem r41:∀ (modules:Bool),X.rgd 41 modules=True
 | false=>X.gd41x0
 | true=>X.gd41x1
theorem r42:∀ (modules:Bool),X.rgd 42 modules=True
 | false=>X.gd42x0
 | true=>X.gd42x1
theorem r43:∀ (modules:Bool),X.rgd 43 modules=True
 | false=>X.gd43x0
 | true=>X.gd43x1
theorem r44:∀ (modules:Bool),X.rgd 44 modules=True
 | false=>X.gd44x0
 | true=>X.gd44x1
theorem r45:∀ (modules:Bool),X.rgd 45 modules=True
 | false=>X.gd45x0
 | true=>X.gd45x1
theorem r46:∀ (modules:Bool),X.rgd 46 modules=True
 | false=>X.gd46x0
 | true=>X.gd46x1
theorem r47:∀ (modules:Bool),X.rgd 47 modules=True
 | false=>X.gd47x0
 | true=>X.gd47x1
theorem r48:∀ (modules:Bool),X.rgd 48 modules=True
 | false=>X.gd48x0
 | true=>X.gd48x1
theorem r49:∀ (modules:Bool),X.rgd 49 modules=True
 | false=>X.gd49x0
 | true=>X.gd49x1
theorem r50:∀ (modules:Bool),X.rgd 50 modules=True
 | false=>X.gd50x0
 | true=>X.gd50x1
theorem r51:∀ (modules:Bool),X.rgd 51 modules=True
 | false=>X.gd51x0
 | true=>X.gd51x1
theorem r52:∀ (modules:Bool),X.rgd 52 modules=True
 | false=>X.gd52x0
 | true=>X.gd52x1
theorem r53:∀ (modules:Bool),X.rgd 53 modules=True
 | false=>X.gd53x0
 | true=>X.gd53x1
theorem r54:∀ (modules:Bool),X.rgd 54 modules=True
 | false=>X.gd54x0
 | true=>X.gd54x1
theorem r55:∀ (modules:Bool),X.rgd 55 modules=True
 | false=>X.gd55x0
 | true=>X.gd55x1
theorem r56:∀ (modules:Bool),X.rgd 56 modules=True
 | false=>X.gd56x0
 | true=>X.gd56x1
theorem r57:∀ (modules:Bool),X.rgd 57 modules=True
 | false=>X.gd57x0
 | true=>X.gd57x1
theorem r58:∀ (modules:Bool),X.rgd 58 modules=True
 | false=>X.gd58x0
 | true=>X.gd58x1
theorem r59:∀ (modules:Bool),X.rgd 59 modules=True
 | false=>X.gd59x0
 | true=>X.gd59x1
theorem r60:∀ (modules:Bool),X.rgd 60 modules=True
 | false=>X.gd60x0
 | true=>X.gd60x1
theorem r61:∀ (modules:Bool),X.rgd 61 modules=True
 | false=>X.gd61x0
 | true=>X.gd61x1
theorem r62:∀ (modules:Bool),X.rgd 62 modules=True
 | false=>X.gd62x0
 | true=>X.gd62x1
theorem r63:∀ (modules:Bool),X.rgd 63 modules=True
 | false=>X.gd63x0
 | true=>X.gd63x1
theorem r64:∀ (modules:Bool),X.rgd 64 modules=True
 | false=>X.gd64x0
 | true=>X.gd64x1
theorem r65:∀ (modules:Bool),X.rgd 65 modules=True
 | false=>X.gd65x0
 | true=>X.gd65x1
theorem r66:∀ (modules:Bool),X.rgd 66 modules=True
 | false=>X.gd66x0
 | true=>X.gd66x1
theorem r67:∀ (modules:Bool),X.rgd 67 modules=True
 | false=>X.gd67x0
 | true=>X.gd67x1
theorem r68:∀ (modules:Bool),X.rgd 68 modules=True
 | false=>X.gd68x0
 | true=>X.gd68x1
theorem r69:∀ (modules:Bool),X.rgd 69 modules=True
 | false=>X.gd69x0
 | true=>X.gd69x1
theorem r70:∀ (modules:Bool),X.rgd 70 modules=True
 | false=>X.gd70x0
 | true=>X.gd70x1
theorem r71:∀ (modules:Bool),X.rgd 71 modules=True
 | false=>X.gd71x0
 | true=>X.gd71x1
theorem r72:∀ (modules:Bool),X.rgd 72 modules=True
 | false=>X.gd72x0
 | true=>X.gd72x1
theorem r73:∀ (modules:Bool),X.rgd 73 modules=True
 | false=>X.gd73x0
 | true=>X.gd73x1
theorem r74:∀ (modules:Bool),X.rgd 74 modules=True
 | false=>X.gd74x0
 | true=>X.gd74x1
theorem r75:∀ (modules:Bool),X.rgd 75 modules=True
 | false=>X.gd75x0
 | true=>X.gd75x1
theorem r76:∀ (modules:Bool),X.rgd 76 modules=True
 | false=>X.gd76x0
 | true=>X.gd76x1
theorem r77:∀ (modules:Bool),X.rgd 77 modules=True
 | false=>X.gd77x0
 | true=>X.gd77x1
theorem r78:∀ (modules:Bool),X.rgd 78 modules=True
 | false=>X.gd78x0
 | true=>X.gd78x1
theorem r79:∀ (modules:Bool),X.rgd 79 modules=True
 | false=>X.gd79x0
 | true=>X.gd79x1
theorem r80:∀ (modules:Bool),X.rgd 80 modules=True
 | false=>X.gd80x0
 | true=>X.gd80x1
theorem runs:∀ (n:Nat) (modules:Bool),1≤n→n≤80→X.rgd  n modules=True
 | 0,modules,h,_=>by omega
 | 1,modules,_,_=>r1 modules
 | 2,modules,_,_=>r2 modules
 | 3,modules,_,_=>r3 modules
 | 4,modules,_,_=>r4 modules
 | 5,modules,_,_=>r5 modules
 | 6,modules,_,_=>r6 modules
 | 7,modules,_,_=>r7 modules
 | 8,modules,_,_=>r8 modules
 | 9,modules,_,_=>r9 modules
 | 10,modules,_,_=>r10 modules
 | 11,modules,_,_=>r11 modules
 | 12,modules,_,_=>r12 modules
 | 13,modules,_,_=>r13 modules
 | 14,modules,_,_=>r14 modules
 | 15,modules,_,_=>r15 modules
 | 16,modules,_,_=>r16 modules
 | 17,modules,_,_=>r17 modules
 | 18,modules,_,_=>r18 modules
 | 19,modules,_,_=>r19 modules
 | 20,modules,_,_=>r20 modules
 | 21,modules,_,_=>r21 modules
 | 22,modules,_,_=>r22 modules
 | 23,modules,_,_=>r23 modules
 | 24,modules,_,_=>r24 modules
 | 25,modules,_,_=>r25 modules
 | 26,modules,_,_=>r26 modules
 | 27,modules,_,_=>r27 modules
 | 28,modules,_,_=>r28 modules
 | 29,modules,_,_=>r29 modules
 | 30,modules,_,_=>r30 modules
 | 31,modules,_,_=>r31 modules
 | 32,modules,_,_=>r32 modules
 | 33,modules,_,_=>r33 modules
 | 34,modules,_,_=>r34 modules
 | 35,modules,_,_=>r35 modules
 | 36,modules,_,_=>r36 modules
 | 37,modules,_,_=>r37 modules
 | 38,modules,_,_=>r38 modules
 | 39,modules,_,_=>r39 modules
 | 40,modules,_,_=>r40 modules
 | 41,modules,_,_=>r41 modules
 | 42,modules,_,_=>r42 modules
 | 43,modules,_,_=>r43 modules
 | 44,modules,_,_=>r44 modules
 | 45,modules,_,_=>r45 modules
 | 46,modules,_,_=>r46 modules
 | 47,modules,_,_=>r47 modules
 | 48,modules,_,_=>r48 modules
 | 49,modules,_,_=>r49 modules
 | 50,modules,_,_=>r50 modules
 | 51,modules,_,_=>r51 modules
 | 52,modules,_,_=>r52 modules
 | 53,modules,_,_=>r53 modules
 | 54,modules,_,_=>r54 modules
 | 55,modules,_,_=>r55 modules
 | 56,modules,_,_=>r56 modules
 | 57,modules,_,_=>r57 modules
 | 58,modules,_,_=>r58 modules
 | 59,modules,_,_=>r59 modules
 | 60,modules,_,_=>r60 modules
 | 61,modules,_,_=>r61 modules
 | 62,modules,_,_=>r62 modules
 | 63,modules,_,_=>r63 modules
 | 64,modules,_,_=>r64 modules
 | 65,modules,_,_=>r65 modules
 | 66,modules,_,_=>r66 modules
 | 67,modules,_,_=>r67 modules
 | 68,modules,_,_=>r68 modules
 | 69,modules,_,_=>r69 modules
 | 70,modules,_,_=>r70 modules
 | 71,modules,_,_=>r71 modules
 | 72,modules,_,_=>r72 modules
 | 73,modules,_,_=>r73 modules
 | 74,modules,_,_=>r74 modules
 | 75,modules,_,_=>r75 modules
 | 76,modules,_,_=>r76 modules
 | 77,modules,_,_=>r77 modules
 | 78,modules,_,_=>r78 modules
 | 79,modules,_,_=>r79 modules
 | 80,modules,_,_=>r80 modules
 | n+81,modules,_,h=>by omega
set_option maxRecDepth 100000 in
theorem walk (n:Int) (modules:Bool) (w:World) (hG:X.GW w):Calls Tryz.prog 4 #[.int .i64 n,.bool modules] w fun e w'=>e=.returned (.bool true)∧RowKit.Below w.heap.size w w':=by
 cases n with
 | negSucc q=>exact X.true_of_run (n:=100000) (p:=X.p4) (args:=[.int .i64 (.negSucc q),.bool modules]) X.funs2_ok w #[.int .i64 (.negSucc q),.bool modules] ⟨fun _=>by simp [X.concL,X.conc],fun _=>by simp [X.okL,X.okV]⟩ (X.gdn0 q modules) hG
 | ofNat n =>
  rcases Nat.lt_or_ge 80 n with h | un
  ·obtain ⟨q,rfl⟩:∃ q,n=q+81:=⟨n - 81,by omega⟩
   exact X.true_of_run (n:=100000) (p:=X.p4) (args:=[.int .i64 (.ofNat (q+81)),.bool modules]) X.funs2_ok w #[.int .i64 (.ofNat (q+81)),.bool modules] ⟨fun _=>by simp [X.concL,X.conc],fun _=>by simp [X.okL,X.okV]⟩ (X.gdf0 q modules) hG
  rcases Nat.lt_or_ge n 1 with h | ln
  ·obtain rfl:n=0:=by omega
   exact X.true_of_run (n:=100000) (p:=X.p4) (args:=[.int .i64 (.ofNat 0),.bool modules]) X.funs2_ok w #[.int .i64 (.ofNat 0),.bool modules] ⟨fun _=>by simp [X.concL,X.conc],fun _=>by simp [X.okL,X.okV]⟩ (X.gdl0x0 modules) hG
  exact X.true_of_run (n:=100000) (p:=X.p4) (args:=[.int .i64 (.ofNat n),.bool modules]) X.funs2_ok w #[.int .i64 (.ofNat n),.bool modules] ⟨fun _=>by simp [X.concL,X.conc],fun _=>by simp [X.okL,X.okV]⟩ (runs n modules ln un) hG
theorem own:ownKnob Tryz.prog.godebug=none:=by kernel_rfl
theorem sameL:Rows.gramDeepRow.laid=Rows.gramWrongRow.laid:=by kernel_rfl
theorem gw_of_laid {W:World} (h:laidMetH Tryz.prog Rows.gramDeepRow.laid W) (hsh:W.ShapedOpen Tryz.prog):X.GW W:=laidL.gw_of_laid (sameL ▸ h) hsh
theorem laidWorld_met (os:Os) (args:Array Value):laidMetH Tryz.prog Rows.gramDeepRow.laid ((laidL.laidWorld os).forCall (fun _ _=>0) ⟨#[],args,[]⟩).memory:=sameL ▸ laidL.laidWorld_met os args
set_option maxRecDepth 100000 in
theorem lifted (os:Os) (started:os.Started) (H:Type) (enc:TypeId × Value→H) :
  ReturnsInHanded {} Tryz.checked os 4 .any (fun w args=>(Rows.gramDeepSpec.pre enc Tryz.prog Tryz.f4 [] false w args∧laidMetH Tryz.prog Rows.gramDeepRow.laid w)∧sizedMet enc Tryz.prog Tryz.f4 (OpenSpec.ofChange Rows.gramDeepSpec) false w args)
   (Rows.gramDeepSpec.post enc Tryz.prog Tryz.f4 false true false false):=by
 refine X.handed_shaped (C:=Tryz.checked) (X:=fun w _=>laidMetH Tryz.prog Rows.gramDeepRow.laid w) (fun _ _ _ hh h=>h.of_heap hh) own started (by kernel_rfl) Tryz.func4
  (ChangeSpec.witness_shaped (enc:=enc) (C:=Tryz.checked) (os:=os) (X:=fun w _=>laidMetH Tryz.prog Rows.gramDeepRow.laid w) false (laidL.laidWorld os) #[.int .i64 0,.bool false] 8 (laidL.laidWorld_os os) (laidL.shaped os _) (by kernel_rfl) (by kernel_rfl) (by kernel_rfl) (laidWorld_met os _)) ?_
 intro W base args ds gs before hval0 hW hL hsh
 have hval:∀ (j:Nat) t v,Tryz.f4.params[j]?=some t→args[j]?=some v→Value.okWide Tryz.prog W .any base t v:=hval0
 have hW':=hW
 obtain ⟨p,q,hA0,hV0,rfl,hfz,hnd⟩:=hW
 have hA:DataW.TrodAll enc Tryz.prog W 0 (fun _=>true) true Tryz.f4.params.toList args.toList ds p:=hA0
 have hV:DataW.TrodVars enc Tryz.prog W (fun _=>true) [] gs q:=hV0
 rw [Tryz.params4] at hA hval
 obtain ⟨v0,v1,d0,d1,p0,p1,rfl,rfl,rfl,h0,h1⟩:=trodAll_two hA
 obtain ⟨a0,rfl,rfl,rfl,w0⟩:=open_int Tryz.underlying3 (hval 0 3 v0 rfl rfl) h0
 obtain ⟨a1,rfl,rfl,rfl⟩:=open_bool Tryz.underlying4 (hval 1 4 v1 rfl rfl) h1
 have hg:=gw_of_laid hL hsh
 obtain ⟨rfl,rfl⟩:gs=[]∧q=[]:=by
  cases gs with
  | nil=>exact ⟨rfl,hV⟩
  | cons g r=>exact absurd hV (by intro h; cases h)
 refine (walk a0 a1 W hg).mono fun e W' ⟨he,bel⟩=>?_
 subst he
 exact ⟨_,rfl,_,_,_,[],[],[],hW',trodAll_mk1 (shut_bool Tryz.underlying4 _),trodAll_mk2 (shut_int Tryz.underlying3 w0) (shut_bool Tryz.underlying4 _),rfl,bel.frame _,fun h=>by cases h⟩
theorem over:Rows.gramDeepRow.holds Tryz.pinned (OpenSpec.ofChange Rows.gramDeepSpec) :=
 OpenClaim.holds_of_wide 4 Tryz.f4 rfl rfl rfl rfl rfl rfl rfl ⟨rfl,rfl,rfl,rfl,rfl⟩ rfl rfl rfl rfl rfl cn Tryz.func4 joined
  hinst hwrap
  (fun os started H enc _=>lifted os started H enc)
end gramDeep
theorem gramDeep_holds:Rows.GramDeepCardSaid :=
 Claim7.holds_tied_plain_at .later [] [.data,.data,.data,.data,.handle,.sentinel,.sentinel,.listed,.data,.pinned] true (true,"f3814e9d4c5a19824a7bf156a3e263c9fdb64b34585fe0127fbb704a26cf3449") true
  gramDeep.over (fun _ h=>by cases h) gramDeep.cw (fun _ h=>by cases h) gramDeep_row_tie rfl ⟨rfl,rfl⟩ gramDeep.cm rfl gramDeep.ch gramDeep.cg
#print axioms gramDeep_holds
end Go.Proofs.YtoijcpnfohjciaaGreatDoor
