/- For every argument: KernelIdentity answers true, and leaves its arguments as they were; the library's variable of the error type is laid, by the program's own text (the card). -/
import Derived.Test.YtcakhpfonailhaaGreatDoorRows
import Derived.Test.YtcakhpfonailhaaGreatDoorKIF
import Derived.Test.YtcakhpfonailhaaGreatDoorKIG
import Derived.Test.YtcakhpfonailhaaGreatDoorTie
import Derived.Test.YtcakhpfonailhaaGreatDoorCards
import Derived.ChangeSame
import Derived.ChangeVars
import Derived.JoinedOf
import Derived.LaidLaws
import Derived.LaidHandle
import Derived.Stop.Joined
import Derived.SevenTiedAt
import Derived.Test.YtcakhpfonailhaaGreatDoorRunKI0
import Derived.Test.YtcakhpfonailhaaGreatDoorRunKI1
import Derived.Test.YtcakhpfonailhaaGreatDoorRunKI2
import Derived.Test.YtcakhpfonailhaaGreatDoorRunKI3
import Derived.Test.YtcakhpfonailhaaGreatDoorRunKI4
import Derived.Test.YtcakhpfonailhaaGreatDoorRunKI5
import Derived.Test.YtcakhpfonailhaaGreatDoorRunKI6
import Derived.Test.YtcakhpfonailhaaGreatDoorRunKI7
import Derived.WalkKit
import Derived.WalkSpells
import Derived.WalkLawsBesides
import Derived.ChangeShapes
import Derived.Carry
import Derived.ProofKit
import Derived.OpenShut
import Derived.Below
namespace Go.Proofs.YtcakhpfonailhaaGreatDoor
open Go.ChangeShapes Go.WideShapes Go.ChangeAt Go.RowKit
namespace kernelIdentity
theorem r0:∀ (up:Bool),X.rki 0 up=True
 | false=>X.ki0x0
 | true=>X.ki0x1
theorem r1:∀ (up:Bool),X.rki 1 up=True
 | false=>X.ki1x0
 | true=>X.ki1x1
theorem r2:∀ (up:Bool),X.rki 2 up=True
 | false=>X.ki2x0
 | true=>X.ki2x1
theorem r3:∀ (up:Bool),X.rki 3 up=True
 | false=>X.ki3x0
 | true=>X.ki3x1
theorem r4:∀ (up:Bool),X.rki 4 up=True
 | false=>X.ki4x0
 | true=>X.ki4x1
theorem r5:∀ (up:Bool),X.rki 5 up=True
 | false=>X.ki5x0
 | true=>X.ki5x1
theorem r6:∀ (up:Bool),X.rki 6 up=True
 | false=>X.ki6x0
 | true=>X.ki6x1
theorem r7:∀ (up:Bool),X.rki 7 up=True
 | false=>X.ki7x0
 | true=>X.ki7x1
theorem r8:∀ (up:Bool),X.rki 8 up=True
 | false=>X.ki8x0
 | true=>X.ki8x1
theorem r9:∀ (up:Bool),X.rki 9 up=True
 | false=>X.ki9x0
 | true=>X.ki9x1
theorem r10:∀ (up:Bool),X.rki 10 up=True
 | false=>X.ki10x0
 | true=>X.ki10x1
theorem r11:∀ (up:Bool),X.rki 11 up=True
 | false=>X.ki11x0
 | true=>X.ki11x1
theorem r12:∀ (up:Bool),X.rki 12 up=True
 | false=>X.ki12x0
 | true=>X.ki12x1
theorem r13:∀ (up:Bool),X.rki 13 up=True
 | false=>X.ki13x0
 | true=>X.ki13x1
theorem r14:∀ (up:Bool),X.rki 14 up=True
 | false=>X.ki14x0
 | true=>X.ki14x1
theorem r15:∀ (up:Bool),X.rki 15 up=True
 | false=>X.ki15x0
 | true=>X.ki15x1
theorem r16:∀ (up:Bool),X.rki 16 up=True
 | false=>X.ki16x0
 | true=>X.ki16x1
theorem r17:∀ (up:Bool),X.rki 17 up=True
 | false=>X.ki17x0
 | true=>X.ki17x1
theorem r18:∀ (up:Bool),X.rki 18 up=True
 | false=>X.ki18x0
 | true=>X.ki18x1
theorem r19:∀ (up:Bool),X.rki 19 up=True
 | false=>X.ki19x0
 | true=>X.ki19x1
theorem r20:∀ (up:Bool),X.rki 20 up=True
 | false=>X.ki20x0
 | true=>X.ki20x1
theorem r21:∀ (up:Bool),X.rki 21 up=True
 | false=>X.ki21x0
 | true=>X.ki21x1
theorem r22:∀ (up:Bool),X.rki 22 up=True
 | false=>X.ki22x0
 | true=>X.ki22x1
theorem r23:∀ (up:Bool),X.rki 23 up=True
 | false=>X.ki23x0
 | true=>X.ki23x1
theorem r24:∀ (up:Bool),X.rki 24 up=True
 | false=>X.ki24x0
 | true=>X.ki24x1
theorem r25:∀ (up:Bool),X.rki 25 up=True
 | false=>X.ki25x0
 | true=>X.ki25x1
theorem r26:∀ (up:Bool),X.rki 26 up=True
 | false=>X.ki26x0
 | true=>X.ki26x1
theorem r27:∀ (up:Bool),X.rki 27 up=True
 | false=>X.ki27x0
 | true=>X.ki27x1
theorem r28:∀ (up:Bool),X.rki 28 up=True
 | false=>X.ki28x0
 | true=>X.ki28x1
theorem r29:∀ (up:Bool),X.rki 29 up=True
 | false=>X.ki29x0
 | true=>X.ki29x1
theorem r30:∀ (up:Bool),X.rki 30 up=True
 | false=>X.ki30x0
 | true=>X.ki30x1
theorem r31:∀ (up:Bool),X.rki 31 up=True
 | false=>X.ki31x0
 | true=>X.ki31x1
theorem r32:∀ (up:Bool),X.rki 32 up=True
 | false=>X.ki32x0
 | true=>X.ki32x1
theorem r33:∀ (up:Bool),X.rki 33 up=True
 | false=>X.ki33x0
 | true=>X.ki33x1
theorem r34:∀ (up:Bool),X.rki 34 up=True
 | false=>X.ki34x0
 | true=>X.ki34x1
theorem r35:∀ (up:Bool),X.rki 35 up=True
 | false=>X.ki35x0
 | true=>X.ki35x1
theorem r36:∀ (up:Bool),X.rki 36 up=True
 | false=>X.ki36x0
 | true=>X.ki36x1
theorem r37:∀ (up:Bool),X.rki 37 up=True
 | false=>X.ki37x0
 | true=>X.ki37x1
theorem r38:∀ (up:Bool),X.rki 38 up=True
 | false=>X.ki38x0
 | true=>X.ki38x1
theorem r39:∀ (up:Bool),X.rki 39 up=True
 | false=>X.ki39x0
 | true=>X.ki39x1
theorem r40:∀ (up:Bool),X.rki 40 up=True
 | false=>X.ki40x0
 | true=>X.ki40x1
theorem r41:∀ (up:Bool),X.rki 41 up=True
 | false=>X.ki41x0
 | true=>X.ki41x1
theorem r42:∀ (up:Bool),X.rki 42 up=True
 | false=>X.ki42x0
 | true=>X.ki42x1
theorem r43:∀ (up:Bool),X.rki 43 up=True
 | false=>X.ki43x0
 | true=>X.ki43x1
theorem r44:∀ (up:Bool),X.rki 44 up=True
 | false=>X.ki44x0
 | true=>X.ki44x1
theorem r45:∀ (up:Bool),X.rki 45 up=True
 | false=>X.ki45x0
 | true=>X.ki45x1
theorem r46:∀ (up:Bool),X.rki 46 up=True
 | false=>X.ki46x0
 | true=>X.ki46x1
theorem r47:∀ (up:Bool),X.rki 47 up=True
 | false=>X.ki47x0
 | true=>X.ki47x1
theorem r48:∀ (up:Bool),X.rki 48 up=True
 | false=>X.ki48x0
 | true=>X.ki48x1
theorem r49:∀ (up:Bool),X.rki 49 up=True
 | false=>X.ki49x0
 | true=>X.ki49x1
theorem r50:∀ (up:Bool),X.rki 50 up=True
 | false=>X.ki50x0
 | true=>X.ki50x1
theorem r51:∀ (up:Bool),X.rki 51 up=True
 | false=>X.ki51x0
 | true=>X.ki51x1
theorem r52:∀ (up:Bool),X.rki 52 up=True
 | false=>X.ki52x0
 | true=>X.ki52x1
theorem r53:∀ (up:Bool),X.rki 53 up=True
 | false=>X.ki53x0
 | true=>X.ki53x1
theorem r54:∀ (up:Bool),X.rki 54 up=True
 | false=>X.ki54x0
 | true=>X.ki54x1
theorem r55:∀ (up:Bool),X.rki 55 up=True
 | false=>X.ki55x0
 | true=>X.ki55x1
theorem r56:∀ (up:Bool),X.rki 56 up=True
 | false=>X.ki56x0
 | true=>X.ki56x1
theorem r57:∀ (up:Bool),X.rki 57 up=True
 | false=>X.ki57x0
 | true=>X.ki57x1
theorem r58:∀ (up:Bool),X.rki 58 up=True
 | false=>X.ki58x0
 | true=>X.ki58x1
theorem r59:∀ (up:Bool),X.rki 59 up=True
 | false=>X.ki59x0
 | true=>X.ki59x1
theorem r60:∀ (up:Bool),X.rki 60 up=True
 | false=>X.ki60x0
 | true=>X.ki60x1
theorem r61:∀ (up:Bool),X.rki 61 up=True
 | false=>X.ki61x0
 | true=>X.ki61x1
theorem r62:∀ (up:Bool),X.rki 62 up=True
 | false=>X.ki62x0
 | true=>X.ki62x1
theorem r63:∀ (up:Bool),X.rki 63 up=True
 | false=>X.ki63x0
 | true=>X.ki63x1
theorem r64:∀ (up:Bool),X.rki 64 up=True
 | false=>X.ki64x0
 | true=>X.ki64x1
theorem r65:∀ (up:Bool),X.rki 65 up=True
 | false=>X.ki65x0
 | true=>X.ki65x1
theorem r66:∀ (up:Bool),X.rki 66 up=True
 | false=>X.ki66x0
 | true=>X.ki66x1
theorem r67:∀ (up:Bool),X.rki 67 up=True
 | false=>X.ki67x0
 | true=>X.ki67x1
theorem r68:∀ (up:Bool),X.rki 68 up=True
 | false=>X.ki68x0
 | true=>X.ki68x1
theorem r69:∀ (up:Bool),X.rki 69 up=True
 | false=>X.ki69x0
 | true=>X.ki69x1
theorem r70:∀ (up:Bool),X.rki 70 up=True
 | false=>X.ki70x0
 | true=>X.ki70x1
theorem r71:∀ (up:Bool),X.rki 71 up=True
 | false=>X.ki71x0
 | true=>X.ki71x1
theorem r72:∀ (up:Bool),X.rki 72 up=True
 | false=>X.ki72x0
 | true=>X.ki72x1
theorem r73:∀ (up:Bool),X.rki 73 up=True
 | false=>X.ki73x0
 | true=>X.ki73x1
theorem r74:∀ (up:Bool),X.rki 74 up=True
 | false=>X.ki74x0
 | true=>X.ki74x1
theorem r75:∀ (up:Bool),X.rki 75 up=True
 | false=>X.ki75x0
 | true=>X.ki75x1
theorem r76:∀ (up:Bool),X.rki 76 up=True
 | false=>X.ki76x0
 | true=>X.ki76x1
theorem r77:∀ (up:Bool),X.rki 77 up=True
 | false=>X.ki77x0
 | true=>X.ki77x1
theorem r78:∀ (up:Bool),X.rki 78 up=True
 | false=>X.ki78x0
 | true=>X.ki78x1
theorem r79:∀ (up:Bool),X.rki 79 up=True
 | false=>X.ki79x0
 | true=>X.ki79x1
theorem r80:∀ (up:Bool),X.rki 80 up=True
 | false=>X.ki80x0
 | true=>X.ki80x1
theorem r81:∀ (up:Bool),X.rki 81 up=True
 | false=>X.ki81x0
 | true=>X.ki81x1
theorem r82:∀ (up:Bool),X.rki 82 up=True
 | false=>X.ki82x0
 | true=>X.ki82x1
theorem r83:∀ (up:Bool),X.rki 83 up=True
 | false=>X.ki83x0
 | true=>X.ki83x1
theorem r84:∀ (up:Bool),X.rki 84 up=True
 | false=>X.ki84x0
 | true=>X.ki84x1
theorem r85:∀ (up:Bool),X.rki 85 up=True
 | false=>X.ki85x0
 | true=>X.ki85x1
theorem r86:∀ (up:Bool),X.rki 86 up=True
 | false=>X.ki86x0
 | true=>X.ki86x1
theorem r87:∀ (up:Bool),X.rki 87 up=True
 | false=>X.ki87x0
 | true=>X.ki87x1
theorem r88:∀ (up:Bool),X.rki 88 up=True
 | false=>X.ki88x0
 | true=>X.ki88x1
theorem r89:∀ (up:Bool),X.rki 89 up=True
 | false=>X.ki89x0
 | true=>X.ki89x1
theorem r90:∀ (up:Bool),X.rki 90 up=True
 | false=>X.ki90x0
 | true=>X.ki90x1
theorem r91:∀ (up:Bool),X.rki 91 up=True
 | false=>X.ki91x0
 | true=>X.ki91x1
theorem r92:∀ (up:Bool),X.rki 92 up=True
 | false=>X.ki92x0
 | true=>X.ki92x1
theorem r93:∀ (up:Bool),X.rki 93 up=True
 | false=>X.ki93x0
 | true=>X.ki93x1
theorem r94:∀ (up:Bool),X.rki 94 up=True
 | false=>X.ki94x0
 | true=>X.ki94x1
theorem r95:∀ (up:Bool),X.rki 95 up=True
 | false=>X.ki95x0
 | true=>X.ki95x1
theorem r96:∀ (up:Bool),X.rki 96 up=True
 | false=>X.ki96x0
 | true=>X.ki96x1
theorem r97:∀ (up:Bool),X.rki 97 up=True
 | false=>X.ki97x0
 | true=>X.ki97x1
theorem r98:∀ (up:Bool),X.rki 98 up=True
 | false=>X.ki98x0
 | true=>X.ki98x1
theorem r99:∀ (up:Bool),X.rki 99 up=True
 | false=>X.ki99x0
 | true=>X.ki99x1
theorem r100:∀ (up:Bool),X.rki 100 up=True
 | false=>X.ki100x0
 | true=>X.ki100x1
theorem runs:∀ (n:Nat) (up:Bool),0≤n→n≤100→X.rki  n up=True
 | 0,up,_,_=>r0 up
 | 1,up,_,_=>r1 up
 | 2,up,_,_=>r2 up
 | 3,up,_,_=>r3 up
 | 4,up,_,_=>r4 up
 | 5,up,_,_=>r5 up
 | 6,up,_,_=>r6 up
 | 7,up,_,_=>r7 up
 | 8,up,_,_=>r8 up
 | 9,up,_,_=>r9 up
 | 10,up,_,_=>r10 up
 | 11,up,_,_=>r11 up
 | 12,up,_,_=>r12 up
 | 13,up,_,_=>r13 up
 | 14,up,_,_=>r14 up
 | 15,up,_,_=>r15 up
 | 16,up,_,_=>r16 up
 | 17,up,_,_=>r17 up
 | 18,up,_,_=>r18 up
 | 19,up,_,_=>r19 up
 | 20,up,_,_=>r20 up
 | 21,up,_,_=>r21 up
 | 22,up,_,_=>r22 up
 | 23,up,_,_=>r23 up
 | 24,up,_,_=>r24 up
 | 25,up,_,_=>r25 up
 | 26,up,_,_=>r26 up
 | 27,up,_,_=>r27 up
 | 28,up,_,_=>r28 up
 | 29,up,_,_=>r29 up
 | 30,up,_,_=>r30 up
 | 31,up,_,_=>r31 up
 | 32,up,_,_=>r32 up
 | 33,up,_,_=>r33 up
 | 34,up,_,_=>r34 up
 | 35,up,_,_=>r35 up
 | 36,up,_,_=>r36 up
 | 37,up,_,_=>r37 up
 | 38,up,_,_=>r38 up
 | 39,up,_,_=>r39 up
 | 40,up,_,_=>r40 up
 | 41,up,_,_=>r41 up
 | 42,up,_,_=>r42 up
 | 43,up,_,_=>r43 up
 | 44,up,_,_=>r44 up
 | 45,up,_,_=>r45 up
 | 46,up,_,_=>r46 up
 | 47,up,_,_=>r47 up
 | 48,up,_,_=>r48 up
 | 49,up,_,_=>r49 up
 | 50,up,_,_=>r50 up
 | 51,up,_,_=>r51 up
 | 52,up,_,_=>r52 up
 | 53,up,_,_=>r53 up
 | 54,up,_,_=>r54 up
 | 55,up,_,_=>r55 up
 | 56,up,_,_=>r56 up
 | 57,up,_,_=>r57 up
 | 58,up,_,_=>r58 up
 | 59,up,_,_=>r59 up
 | 60,up,_,_=>r60 up
 | 61,up,_,_=>r61 up
 | 62,up,_,_=>r62 up
 | 63,up,_,_=>r63 up
 | 64,up,_,_=>r64 up
 | 65,up,_,_=>r65 up
 | 66,up,_,_=>r66 up
 | 67,up,_,_=>r67 up
 | 68,up,_,_=>r68 up
 | 69,up,_,_=>r69 up
 | 70,up,_,_=>r70 up
 | 71,up,_,_=>r71 up
 | 72,up,_,_=>r72 up
 | 73,up,_,_=>r73 up
 | 74,up,_,_=>r74 up
 | 75,up,_,_=>r75 up
 | 76,up,_,_=>r76 up
 | 77,up,_,_=>r77 up
 | 78,up,_,_=>r78 up
 | 79,up,_,_=>r79 up
 | 80,up,_,_=>r80 up
 | 81,up,_,_=>r81 up
 | 82,up,_,_=>r82 up
 | 83,up,_,_=>r83 up
 | 84,up,_,_=>r84 up
 | 85,up,_,_=>r85 up
 | 86,up,_,_=>r86 up
 | 87,up,_,_=>r87 up
 | 88,up,_,_=>r88 up
 | 89,up,_,_=>r89 up
 | 90,up,_,_=>r90 up
 | 91,up,_,_=>r91 up
 | 92,up,_,_=>r92 up
 | 93,up,_,_=>r93 up
 | 94,up,_,_=>r94 up
 | 95,up,_,_=>r95 up
 | 96,up,_,_=>r96 up
 | 97,up,_,_=>r97 up
 | 98,up,_,_=>r98 up
 | 99,up,_,_=>r99 up
 | 100,up,_,_=>r100 up
 | n+101,up,_,h=>by omega
set_option maxRecDepth 100000 in
theorem walk (n:Int) (up:Bool) (w:World) (hG:X.GW w):Calls Tryz.prog 5 #[.int .i64 n,.bool up] w fun e w'=>e=.returned (.bool true)∧RowKit.Below w.heap.size w w':=by
 cases n with
 | negSucc q=>exact X.true_of_run (n:=100000) (p:=X.p5) (args:=[.int .i64 (.negSucc q),.bool up]) X.funs2_ok w #[.int .i64 (.negSucc q),.bool up] ⟨fun _=>by simp [X.concL,X.conc],fun _=>by simp [X.okL,X.okV]⟩ (X.kin0 q up) hG
 | ofNat n =>
  rcases Nat.lt_or_ge 100 n with h | un
  ·obtain ⟨q,rfl⟩:∃ q,n=q+101:=⟨n - 101,by omega⟩
   exact X.true_of_run (n:=100000) (p:=X.p5) (args:=[.int .i64 (.ofNat (q+101)),.bool up]) X.funs2_ok w #[.int .i64 (.ofNat (q+101)),.bool up] ⟨fun _=>by simp [X.concL,X.conc],fun _=>by simp [X.okL,X.okV]⟩ (X.kif0 q up) hG
  have ln:0≤n:=Nat.zero_le _
  exact X.true_of_run (n:=100000) (p:=X.p5) (args:=[.int .i64 (.ofNat n),.bool up]) X.funs2_ok w #[.int .i64 (.ofNat n),.bool up] ⟨fun _=>by simp [X.concL,X.conc],fun _=>by simp [X.okL,X.okV]⟩ (runs n up ln un) hG
theorem own:ownKnob Tryz.prog.godebug=none:=by kernel_rfl
theorem et:Tryz.prog.globalNamed "errors.errorType"=some 0:=by kernel_rfl
theorem rt:(Tryz.prog.cutTypes.find? (·.1 == "internal/reflectlite.rtype")).map (·.2)=some 262:=by kernel_rfl
theorem oneRow:((List.range 573).filter fun t=>Tryz.prog.rowNamed t [101,114,114,111,114])=[106]:=by kernel_rfl
theorem size:Tryz.prog.types.size=573:=by kernel_rfl
theorem gw_of_laid {W:World} (h:laidMetH Tryz.prog [("errors.errorType",Rows.laid_errors_errorType)] W):X.GW W:=by
 have h':laidMet Tryz.prog [] W∧handlesMet Tryz.prog [("errors.errorType",Rows.laid_errors_errorType)] W:=h
 obtain ⟨name,u,ty,e1,e2,e3,e4,e5⟩:=h'.2 _ (List.mem_singleton.2 rfl)
 have en:name=[101,114,114,111,114]:=(Option.some.inj e1).symm
 subst en
 obtain rfl:=Option.some.inj (rt.symm.trans e2)
 have hm:ty ∈ (List.range 573).filter fun t=>Tryz.prog.rowNamed t [101,114,114,111,114]:=List.mem_filter.2 ⟨List.mem_range.2 (by rw [← size]; exact e3),e4⟩
 rw [oneRow] at hm
 obtain rfl:=List.mem_singleton.1 hm
 have hh:typeHandle Tryz.prog 106=.pointer (some ⟨1,106,none⟩):=by kernel_rfl
 rw [hh] at e5
 have:=World.var?_cell et e5 0
 unfold X.GW
 simpa using this
noncomputable def laidWorld (os:Os):World :=
 let w0:=World.holding Tryz.prog os ⟨#[],#[],[]⟩
 { w0 with heap:=w0.heap.modify 0 fun
   | .cells _ t frozen=>.cells #[.iface 262 (.agg #[.pointer (some ⟨1,106,none⟩)])] t frozen
   | o=>o }
theorem laidWorld_met (os:Os) (args:Array Value):laidMetH Tryz.prog [("errors.errorType",Rows.laid_errors_errorType)] ((laidWorld os).forCall (fun _ _=>0) ⟨#[],args,[]⟩).memory :=
 laidMetH_of_parts (laidMet_nil _ _) (by kernel_rfl)
set_option maxRecDepth 100000 in
theorem lifted (os:Os) (started:os.Started) (H:Type) (enc:TypeId × Value→H) :
  ReturnsInHanded {} Tryz.checked os 5 .any (fun w args=>(Rows.kernelIdentitySpec.pre enc Tryz.prog Tryz.f5 [] false w args∧laidMetH Tryz.prog [("errors.errorType",Rows.laid_errors_errorType)] w)∧sizedMet enc Tryz.prog Tryz.f5 (OpenSpec.ofChange Rows.kernelIdentitySpec) false w args)
   (Rows.kernelIdentitySpec.post enc Tryz.prog Tryz.f5 false true false false):=by
 refine returnsInHanded_of_change_and (C:=Tryz.checked) (X:=fun w _=>laidMetH Tryz.prog [("errors.errorType",Rows.laid_errors_errorType)] w) (fun _ _ _ hh h=>h.of_heap hh) own started (by kernel_rfl) Tryz.func5
  (ChangeSpec.witness_at (enc:=enc) (C:=Tryz.checked) (os:=os) (X:=fun w _=>laidMetH Tryz.prog [("errors.errorType",Rows.laid_errors_errorType)] w) false (laidWorld os) #[.int .i64 0,.bool false] 8 rfl (by kernel_rfl) (by kernel_rfl) (by kernel_rfl) (by kernel_rfl) (by kernel_rfl) (laidWorld_met os _)) ?_
 intro W base args ds gs before hval0 hW _ _ hL _
 have hval:∀ (j:Nat) t v,Tryz.f5.params[j]?=some t→args[j]?=some v→Value.okWide Tryz.prog W .any base t v:=hval0
 have hW':=hW
 obtain ⟨p,q,hA0,hV0,rfl,hfz,hnd⟩:=hW
 have hA:DataW.TrodAll enc Tryz.prog W 0 (fun _=>true) true Tryz.f5.params.toList args.toList ds p:=hA0
 have hV:DataW.TrodVars enc Tryz.prog W (fun _=>true) [] gs q:=hV0
 rw [Tryz.params5] at hA hval
 obtain ⟨v0,v1,d0,d1,p0,p1,rfl,rfl,rfl,h0,h1⟩:=trodAll_two hA
 obtain ⟨a0,rfl,rfl,rfl,w0⟩:=open_int Tryz.underlying3 (hval 0 3 v0 rfl rfl) h0
 obtain ⟨a1,rfl,rfl,rfl⟩:=open_bool Tryz.underlying4 (hval 1 4 v1 rfl rfl) h1
 have hg:=gw_of_laid hL
 obtain ⟨rfl,rfl⟩:gs=[]∧q=[]:=by
  cases gs with
  | nil=>exact ⟨rfl,hV⟩
  | cons g r=>exact absurd hV (by intro h; cases h)
 refine (walk a0 a1 W hg).mono fun e W' ⟨he,bel⟩=>?_
 subst he
 exact ⟨_,rfl,_,_,_,[],[],[],hW',trodAll_mk1 (shut_bool Tryz.underlying4 _),trodAll_mk2 (shut_int Tryz.underlying3 w0) (shut_bool Tryz.underlying4 _),rfl,bel.frame _,fun h=>by cases h⟩
theorem over:Rows.kernelIdentityRow.holds Tryz.pinned (OpenSpec.ofChange Rows.kernelIdentitySpec) :=
 OpenClaim.holds_of_wide 5 Tryz.f5 rfl rfl rfl rfl rfl rfl rfl ⟨rfl,rfl,rfl,rfl,rfl⟩ rfl rfl rfl rfl rfl cn Tryz.func5 joined
  hinst hwrap
  (fun os started H enc _=>lifted os started H enc)
end kernelIdentity
theorem kernelIdentity_holds:Rows.KernelIdentityCardSaid :=
 Claim7.holds_tied_plain_at .later [] [.handle] true (true,"07b2e3508f83e27509a7396125844379acab815d5090ba3063c78e6deb8eb57a") true
  kernelIdentity.over (fun _ h=>by cases h) kernelIdentity.cw (fun _ h=>by cases h) kernelIdentity_row_tie rfl ⟨rfl,rfl⟩ kernelIdentity.cm rfl kernelIdentity.ch kernelIdentity.cg
#print axioms kernelIdentity_holds
end Go.Proofs.YtcakhpfonailhaaGreatDoor
