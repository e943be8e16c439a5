/- For every argument: GramBinds answers true, and leaves its arguments as they were; the library's variables that are listed are laid, by the program's own text (the card). -/
import Derived.Test.YtoijcpnfohjciaaGreatDoorRows
import Derived.Test.YtoijcpnfohjciaaGreatDoorGBF
import Derived.Test.YtoijcpnfohjciaaGreatDoorGBG
import Derived.Test.YtoijcpnfohjciaaGreatDoorTie
import Derived.Test.YtoijcpnfohjciaaGreatDoorXLD
import Derived.Test.YtoijcpnfohjciaaGreatDoorCards
import Derived.ChangeSame
import Derived.ChangeVars
import Derived.JoinedOf
import Derived.LaidLaws
import Derived.LaidHandle
import Derived.Stop.Joined
import Derived.SevenTiedAt
import Derived.Test.YtoijcpnfohjciaaGreatDoorRunGB0
import Derived.Test.YtoijcpnfohjciaaGreatDoorRunGB1
import Derived.Test.YtoijcpnfohjciaaGreatDoorRunGB2
import Derived.Test.YtoijcpnfohjciaaGreatDoorRunGB3
import Derived.Test.YtoijcpnfohjciaaGreatDoorRunGB4
import Derived.Test.YtoijcpnfohjciaaGreatDoorRunGB5
import Derived.Test.YtoijcpnfohjciaaGreatDoorRunGB6
import Derived.Test.YtoijcpnfohjciaaGreatDoorRunGB7
import Derived.WalkKit
import Derived.WalkSpells
import Derived.WalkLawsBesides
import Derived.ChangeShapes
import Derived.Carry
import Derived.ProofKit
import Derived.OpenShut
import Derived.Below
namespace Go.Proofs.YtoijcpnfohjciaaGreatDoor
open Go.ChangeShapes Go.WideShapes Go.ChangeAt Go.RowKit
namespace gramBinds
theorem r1x0:∀ (hid:Bool),X.rgb 1 0 hid=True
 | false=>X.gb1x0x0
 | true=>X.gb1x0x1
theorem r1x1:∀ (hid:Bool),X.rgb 1 1 hid=True
 | false=>X.gb1x1x0
 | true=>X.gb1x1x1
theorem r1x2:∀ (hid:Bool),X.rgb 1 2 hid=True
 | false=>X.gb1x2x0
 | true=>X.gb1x2x1
theorem r1:∀ (form:Nat) (hid:Bool),0≤form→form≤2→X.rgb 1 form hid=True
 | 0,hid,_,_=>r1x0 hid
 | 1,hid,_,_=>r1x1 hid
 | 2,hid,_,_=>r1x2 hid
 | form+3,hid,_,h=>by omega
theorem r2x0:∀ (hid:Bool),X.rgb 2 0 hid=True
 | false=>X.gb2x0x0
 | true=>X.gb2x0x1
theorem r2x1:∀ (hid:Bool),X.rgb 2 1 hid=True
 | false=>X.gb2x1x0
 | true=>X.gb2x1x1
theorem r2x2:∀ (hid:Bool),X.rgb 2 2 hid=True
 | false=>X.gb2x2x0
 | true=>X.gb2x2x1
theorem r2:∀ (form:Nat) (hid:Bool),0≤form→form≤2→X.rgb 2 form hid=True
 | 0,hid,_,_=>r2x0 hid
 | 1,hid,_,_=>r2x1 hid
 | 2,hid,_,_=>r2x2 hid
 | form+3,hid,_,h=>by omega
theorem r3x0:∀ (hid:Bool),X.rgb 3 0 hid=True
 | false=>X.gb3x0x0
 | true=>X.gb3x0x1
theorem r3x1:∀ (hid:Bool),X.rgb 3 1 hid=True
 | false=>X.gb3x1x0
 | true=>X.gb3x1x1
theorem r3x2:∀ (hid:Bool),X.rgb 3 2 hid=True
 | false=>X.gb3x2x0
 | true=>X.gb3x2x1
theorem r3:∀ (form:Nat) (hid:Bool),0≤form→form≤2→X.rgb 3 form hid=True
 | 0,hid,_,_=>r3x0 hid
 | 1,hid,_,_=>r3x1 hid
 | 2,hid,_,_=>r3x2 hid
 | form+3,hid,_,h=>by omega
theorem r4x0:∀ (hid:Bool),X.rgb 4 0 hid=True
 | false=>X.gb4x0x0
 | true=>X.gb4x0x1
theorem r4x1:∀ (hid:Bool),X.rgb 4 1 hid=True
 | false=>X.gb4x1x0
 | true=>X.gb4x1x1
theorem r4x2:∀ (hid:Bool),X.rgb 4 2 hid=True
 | false=>X.gb4x2x0
 | true=>X.gb4x2x1
theorem r4:∀ (form:Nat) (hid:Bool),0≤form→form≤2→X.rgb 4 form hid=True
 | 0,hid,_,_=>r4x0 hid
 | 1,hid,_,_=>r4x1 hid
 | 2,hid,_,_=>r4x2 hid
 | form+3,hid,_,h=>by omega
theorem r5x0:∀ (hid:Bool),X.rgb 5 0 hid=True
 | false=>X.gb5x0x0
 | true=>X.gb5x0x1
theorem r5x1:∀ (hid:Bool),X.rgb 5 1 hid=True
 | false=>X.gb5x1x0
 | true=>X.gb5x1x1
theorem r5x2:∀ (hid:Bool),X.rgb 5 2 hid=True
 | false=>X.gb5x2x0
 | true=>X.gb5x2x1
theorem r5:∀ (form:Nat) (hid:Bool),0≤form→form≤2→X.rgb 5 form hid=True
 | 0,hid,_,_=>r5x0 hid
 | 1,hid,_,_=>r5x1 hid
 | 2,hid,_,_=>r5x2 hid
 | form+3,hid,_,h=>by omega
theorem r6x0:∀ (hid:Bool),X.rgb 6 0 hid=True
 | false=>X.gb6x0x0
 | true=>X.gb6x0x1
theorem r6x1:∀ (hid:Bool),X.rgb 6 1 hid=True
 | false=>X.gb6x1x0
 | true=>X.gb6x1x1
theorem r6x2:∀ (hid:Bool),X.rgb 6 2 hid=True
 | false=>X.gb6x2x0
 | true=>X.gb6x2x1
theorem r6:∀ (form:Nat) (hid:Bool),0≤form→form≤2→X.rgb 6 form hid=True
 | 0,hid,_,_=>r6x0 hid
 | 1,hid,_,_=>r6x1 hid
 | 2,hid,_,_=>r6x2 hid
 | form+3,hid,_,h=>by omega
theorem r7x0:∀ (hid:Bool),X.rgb 7 0 hid=True
 | false=>X.gb7x0x0
 | true=>X.gb7x0x1
theorem r7x1:∀ (hid:Bool),X.rgb 7 1 hid=True
 | false=>X.gb7x1x0
 | true=>X.gb7x1x1
theorem r7x2:∀ (hid:Bool),X.rgb 7 2 hid=True
 | false=>X.gb7x2x0
 | true=>X.gb7x2x1
theorem r7:∀ (form:Nat) (hid:Bool),0≤form→form≤2→X.rgb 7 form hid=True
 | 0,hid,_,_=>r7x0 hid
 | 1,hid,_,_=>r7x1 hid
 | 2,hid,_,_=>r7x2 hid
 | form+3,hid,_,h=>by omega
theorem r8x0:∀ (hid:Bool),X.rgb 8 0 hid=True
 | false=>X.gb8x0x0
 | true=>X.gb8x0x1
theorem r8x1:∀ (hid:Bool),X.rgb 8 1 hid=True
 | false=>X.gb8x1x0
 | true=>X.gb8x1x1
theorem r8x2:∀ (hid:Bool),X.rgb 8 2 hid=True
 | false=>X.gb8x2x0
 | true=>X.gb8x2x1
theorem r8:∀ (form:Nat) (hid:Bool),0≤form→form≤2→X.rgb 8 form hid=True
 | 0,hid,_,_=>r8x0 hid
 | 1,hid,_,_=>r8x1 hid
 | 2,hid,_,_=>r8x2 hid
 | form+3,hid,_,h=>by omega
theorem r9x0:∀ (hid:Bool),X.rgb 9 0 hid=True
 | false=>X.gb9x0x0
 | true=>X.gb9x0x1
theorem r9x1:∀ (hid:Bool),X.rgb 9 1 hid=True
 | false=>X.gb9x1x0
 | true=>X.gb9x1x1
theorem r9x2:∀ (hid:Bool),X.rgb 9 2 hid=True
 | false=>X.gb9x2x0
 | true=>X.gb9x2x1
theorem r9:∀ (form:Nat) (hid:Bool),0≤form→form≤2→X.rgb 9 form hid=True
 | 0,hid,_,_=>r9x0 hid
 | 1,hid,_,_=>r9x1 hid
 | 2,hid,_,_=>r9x2 hid
 | form+3,hid,_,h=>by omega
theorem r10x0:∀ (hid:Bool),X.rgb 10 0 hid=True
 | false=>X.gb10x0x0
 | true=>X.gb10x0x1
theorem r10x1:∀ (hid:Bool),X.rgb 10 1 hid=True
 | false=>X.gb10x1x0
 | true=>X.gb10x1x1
theorem r10x2:∀ (hid:Bool),X.rgb 10 2 hid=True
 | false=>X.gb10x2x0
 | true=>X.gb10x2x1
theorem r10:∀ (form:Nat) (hid:Bool),0≤form→form≤2→X.rgb 10 form hid=True
 | 0,hid,_,_=>r10x0 hid
 | 1,hid,_,_=>r10x1 hid
 | 2,hid,_,_=>r10x2 hid
 | form+3,hid,_,h=>by omega
theorem r11x0:∀ (hid:Bool),X.rgb 11 0 hid=True
 | false=>X.gb11x0x0
 | true=>X.gb11x0x1
theorem r11x1:∀ (hid:Bool),X.rgb 11 1 hid=True
 | false=>X.gb11x1x0
 | true=>X.gb11x1x1
theorem r11x2:∀ (hid:Bool),X.rgb 11 2 hid=True
 | false=>X.gb11x2x0
 | true=>X.gb11x2x1
theorem r11:∀ (form:Nat) (hid:Bool),0≤form→form≤2→X.rgb 11 form hid=True
 | 0,hid,_,_=>r11x0 hid
 | 1,hid,_,_=>r11x1 hid
 | 2,hid,_,_=>r11x2 hid
 | form+3,hid,_,h=>by omega
theorem r12x0:∀ (hid:Bool),X.rgb 12 0 hid=True
 | false=>X.gb12x0x0
 | true=>X.gb12x0x1
theorem r12x1:∀ (hid:Bool),X.rgb 12 1 hid=True
 | false=>X.gb12x1x0
 | true=>X.gb12x1x1
theorem r12x2:∀ (hid:Bool),X.rgb 12 2 hid=True
 | false=>X.gb12x2x0
 | true=>X.gb12x2x1
theorem r12:∀ (form:Nat) (hid:Bool),0≤form→form≤2→X.rgb 12 form hid=True
 | 0,hid,_,_=>r12x0 hid
 | 1,hid,_,_=>r12x1 hid
 | 2,hid,_,_=>r12x2 hid
 | form+3,hid,_,h=>by omega
theorem r13x0:∀ (hid:Bool),X.rgb 13 0 hid=True
 | false=>X.gb13x0x0
 | true=>X.gb13x0x1
theorem r13x1:∀ (hid:Bool),X.rgb 13 1 hid=True
 | false=>X.gb13x1x0
 | true=>X.gb13x1x1
theorem r13x2:∀ (hid:Bool),X.rgb 13 2 hid=True
 | false=>X.gb13x2x0
 | true=>X.gb13x2x1
theorem r13:∀ (form:Nat) (hid:Bool),0≤form→form≤2→X.rgb 13 form hid=True
 | 0,hid,_,_=>r13x0 hid
 | 1,hid,_,_=>r13x1 hid
 | 2,hid,_,_=>r13x2 hid
 | form+3,hid,_,h=>by omega
theorem r14x0:∀ (hid:Bool),X.rgb 14 0 hid=True
 | false=>X.gb14x0x0
 | true=>X.gb14x0x1
theorem r14x1:∀ (hid:Bool),X.rgb 14 1 hid=True
 | false=>X.gb14x1x0
 | true=>X.gb14x1x1
theorem r14x2:∀ (hid:Bool),X.rgb 14 2 hid=True
 | false=>X.gb14x2x0
 | true=>X.gb14x2x1
theorem r14:∀ (form:Nat) (hid:Bool),0≤form→form≤2→X.rgb 14 form hid=True
 | 0,hid,_,_=>r14x0 hid
 | 1,hid,_,_=>r14x1 hid
 | 2,hid,_,_=>r14x2 hid
 | form+3,hid,_,h=>by omega
theorem r15x0:∀ (hid:Bool),X.rgb 15 0 hid=True
 | false=>X.gb15x0x0
 | true=>X.gb15x0x1
theorem r15x1:∀ (hid:Bool),X.rgb 15 1 hid=True
 | false=>X.gb15x1x0
 | true=>X.gb15x1x1
theorem r15x2:∀ (hid:Bool),X.rgb 15 2 hid=True
 | false=>X.gb15x2x0
 | true=>X.gb15x2x1
theorem r15:∀ (form:Nat) (hid:Bool),0≤form→form≤2→X.rgb 15 form hid=True
 | 0,hid,_,_=>r15x0 hid
 | 1,hid,_,_=>r15x1 hid
 | 2,hid,_,_=>r15x2 hid
 | form+3,hid,_,h=>by omega
theorem r16x0:∀ (hid:Bool),X.rgb 16 0 hid=True
 | false=>X.gb16x0x0
 | true=>X.gb16x0x1
theorem r16x1:∀ (hid:Bool),X.rgb 16 1 hid=True
 | false=>X.gb16x1x0
 | true=>X.gb16x1x1
theorem r16x2:∀ (hid:Bool),X.rgb 16 2 hid=True
 | false=>X.gb16x2x0
 | true=>X.gb16x2x1
theorem r16:∀ (form:Nat) (hid:Bool),0≤form→form≤2→X.rgb 16 form hid=True
 | 0,hid,_,_=>r16x0 hid
 | 1,hid,_,_=>r16x1 hid
 | 2,hid,_,_=>r16x2 hid
 | form+3,hid,_,h=>by omega
theorem r17x0:∀ (hid:Bool),X.rgb 17 0 hid=True
 | false=>X.gb17x0x0
 | true=>X.gb17x0x1
theorem r17x1:∀ (hid:Bool),X.rgb 17 1 hid=True
 | false=>X.gb17x1x0
 | true=>X.gb17x1x1
theorem r17x2:∀ (hid:Bool),X.rgb 17 2 hid=True
 | false=>X.gb17x2x0
 | true=>X.gb17x2x1
theorem r17:∀ (form:Nat) (hid:Bool),0≤form→form≤2→X.rgb 17 form hid=True
 | 0,hid,_,_=>r17x0 hid
 | 1,hid,_,_=>r17x1 hid
 | 2,hid,_,_=>r17x2 hid
 | form+3,hid,_,h=>by omega
theorem r18x0:∀ (hid:Bool),X.rgb 18 0 hid=True
 | false=>X.gb18x0x0
 | true=>X.gb18x0x1
theorem r18x1:∀ (hid:Bool),X.rgb 18 1 hid=True
 | false=>X.gb18x1x0
 | true=>X.gb18x1x1
theorem r18x2:∀ (hid:Bool),X.rgb 18 2 hid=True
 | false=>X.gb18x2x0
 | true=>X.gb18x2x1
theorem r18:∀ (form:Nat) (hid:Bool),0≤form→form≤2→X.rgb 18 form hid=True
 | 0,hid,_,_=>r18x0 hid
 | 1,hid,_,_=>r18x1 hid
 | 2,hid,_,_=>r18x2 hid
 | form+3,hid,_,h=>by omega
theorem r19x0:∀ (hid:Bool),X.rgb 19 0 hid=True
 | false=>X.gb19x0x0
 | true=>X.gb19x0x1
theorem r19x1:∀ (hid:Bool),X.rgb 19 1 hid=True
 | false=>X.gb19x1x0
 | true=>X.gb19x1x1
theorem r19x2:∀ (hid:Bool),X.rgb 19 2 hid=True
 | false=>X.gb19x2x0
 | true=>X.gb19x2x1
theorem r19:∀ (form:Nat) (hid:Bool),0≤form→form≤2→X.rgb 19 form hid=True
 | 0,hid,_,_=>r19x0 hid
 | 1,hid,_,_=>r19x1 hid
 | 2,hid,_,_=>r19x2 hid
 | form+3,hid,_,h=>by omega
theorem r20x0:∀ (hid:Bool),X.rgb 20 0 hid=True
 | false=>X.gb20x0x0
 | true=>X.gb20x0x1
theorem r20x1:∀ (hid:Bool),X.rgb 20 1 hid=True
 | false=>X.gb20x1x0
 | true=>X.gb20x1x1
theorem r20x2:∀ (hid:Bool),X.rgb 20 2 hid=True
 | false=>X.gb20x2x0
 | true=>X.gb20x2x1
theorem r20:∀ (form:Nat) (hid:Bool),0≤form→form≤2→X.rgb 20 form hid=True
 | 0,hid,_,_=>r20x0 hid
 | 1,hid,_,_=>r20x1 hid
 | 2,hid,_,_=>r20x2 hid
 | form+3,hid,_,h=>by omega
theorem runs:∀ (n:Nat) (form:Nat) (hid:Bool),1≤n→n≤20→0≤form→form≤2→X.rgb  n form hid=True
 | 0,form,hid,h,_,lform,uform=>by omega
 | 1,form,hid,_,_,lform,uform=>r1 form hid lform uform
 | 2,form,hid,_,_,lform,uform=>r2 form hid lform uform
 | 3,form,hid,_,_,lform,uform=>r3 form hid lform uform
 | 4,form,hid,_,_,lform,uform=>r4 form hid lform uform
 | 5,form,hid,_,_,lform,uform=>r5 form hid lform uform
 | 6,form,hid,_,_,lform,uform=>r6 form hid lform uform
 | 7,form,hid,_,_,lform,uform=>r7 form hid lform uform
 | 8,form,hid,_,_,lform,uform=>r8 form hid lform uform
 | 9,form,hid,_,_,lform,uform=>r9 form hid lform uform
 | 10,form,hid,_,_,lform,uform=>r10 form hid lform uform
 | 11,form,hid,_,_,lform,uform=>r11 form hid lform uform
 | 12,form,hid,_,_,lform,uform=>r12 form hid lform uform
 | 13,form,hid,_,_,lform,uform=>r13 form hid lform uform
 | 14,form,hid,_,_,lform,uform=>r14 form hid lform uform
 | 15,form,hid,_,_,lform,uform=>r15 form hid lform uform
 | 16,form,hid,_,_,lform,uform=>r16 form hid lform uform
 | 17,form,hid,_,_,lform,uform=>r17 form hid lform uform
 | 18,form,hid,_,_,lform,uform=>r18 form hid lform uform
 | 19,form,hid,_,_,lform,uform=>r19 form hid lform uform
 | 20,form,hid,_,_,lform,uform=>r20 form hid lform uform
 | n+21,form,hid,_,h,lform,uform=>by omega
theorem on1:∀ (n:Nat) (q:Nat) (hid:Bool),1≤n→n≤20→X.vgb [.int .i64 (.ofNat n),.int .i64 (.negSucc q),.bool hid]=True
 | 0,q,hid,h,_=>by omega
 | 1,q,hid,_,_=>X.gbn1x1 q hid
 | 2,q,hid,_,_=>X.gbn1x2 q hid
 | 3,q,hid,_,_=>X.gbn1x3 q hid
 | 4,q,hid,_,_=>X.gbn1x4 q hid
 | 5,q,hid,_,_=>X.gbn1x5 q hid
 | 6,q,hid,_,_=>X.gbn1x6 q hid
 | 7,q,hid,_,_=>X.gbn1x7 q hid
 | 8,q,hid,_,_=>X.gbn1x8 q hid
 | 9,q,hid,_,_=>X.gbn1x9 q hid
 | 10,q,hid,_,_=>X.gbn1x10 q hid
 | 11,q,hid,_,_=>X.gbn1x11 q hid
 | 12,q,hid,_,_=>X.gbn1x12 q hid
 | 13,q,hid,_,_=>X.gbn1x13 q hid
 | 14,q,hid,_,_=>X.gbn1x14 q hid
 | 15,q,hid,_,_=>X.gbn1x15 q hid
 | 16,q,hid,_,_=>X.gbn1x16 q hid
 | 17,q,hid,_,_=>X.gbn1x17 q hid
 | 18,q,hid,_,_=>X.gbn1x18 q hid
 | 19,q,hid,_,_=>X.gbn1x19 q hid
 | 20,q,hid,_,_=>X.gbn1x20 q hid
 | n+21,q,hid,_,h=>by omega
theorem of1:∀ (n:Nat) (q:Nat) (hid:Bool),1≤n→n≤20→X.vgb [.int .i64 (.ofNat n),.int .i64 (.ofNat (q+3)),.bool hid]=True
 | 0,q,hid,h,_=>by omega
 | 1,q,hid,_,_=>X.gbf1x1 q hid
 | 2,q,hid,_,_=>X.gbf1x2 q hid
 | 3,q,hid,_,_=>X.gbf1x3 q hid
 | 4,q,hid,_,_=>X.gbf1x4 q hid
 | 5,q,hid,_,_=>X.gbf1x5 q hid
 | 6,q,hid,_,_=>X.gbf1x6 q hid
 | 7,q,hid,_,_=>X.gbf1x7 q hid
 | 8,q,hid,_,_=>X.gbf1x8 q hid
 | 9,q,hid,_,_=>X.gbf1x9 q hid
 | 10,q,hid,_,_=>X.gbf1x10 q hid
 | 11,q,hid,_,_=>X.gbf1x11 q hid
 | 12,q,hid,_,_=>X.gbf1x12 q hid
 | 13,q,hid,_,_=>X.gbf1x13 q hid
 | 14,q,hid,_,_=>X.gbf1x14 q hid
 | 15,q,hid,_,_=>X.gbf1x15 q hid
 | 16,q,hid,_,_=>X.gbf1x16 q hid
 | 17,q,hid,_,_=>X.gbf1x17 q hid
 | 18,q,hid,_,_=>X.gbf1x18 q hid
 | 19,q,hid,_,_=>X.gbf1x19 q hid
 | 20,q,hid,_,_=>X.gbf1x20 q hid
 | n+21,q,hid,_,h=>by omega
set_option maxRecDepth 100000 in
theorem walk (n:Int) (form:Int) (hid:Bool) (w:World) (hG:X.GW w):Calls Tryz.prog 5 #[.int .i64 n,.int .i64 form,.bool hid] w fun e w'=>e=.returned (.bool true)∧RowKit.Below w.heap.size w w':=by
 cases n with
 | negSucc q=>exact X.true_of_run (n:=100000) (p:=X.p5) (args:=[.int .i64 (.negSucc q),.int .i64 form,.bool hid]) X.funs2_ok w #[.int .i64 (.negSucc q),.int .i64 form,.bool hid] ⟨fun _=>by simp [X.concL,X.conc],fun _=>by simp [X.okL,X.okV]⟩ (X.gbn0 q form hid) hG
 | ofNat n =>
  rcases Nat.lt_or_ge 20 n with h | un
  ·obtain ⟨q,rfl⟩:∃ q,n=q+21:=⟨n - 21,by omega⟩
   exact X.true_of_run (n:=100000) (p:=X.p5) (args:=[.int .i64 (.ofNat (q+21)),.int .i64 form,.bool hid]) X.funs2_ok w #[.int .i64 (.ofNat (q+21)),.int .i64 form,.bool hid] ⟨fun _=>by simp [X.concL,X.conc],fun _=>by simp [X.okL,X.okV]⟩ (X.gbf0 q form hid) hG
  rcases Nat.lt_or_ge n 1 with h | ln
  ·obtain rfl:n=0:=by omega
   exact X.true_of_run (n:=100000) (p:=X.p5) (args:=[.int .i64 (.ofNat 0),.int .i64 form,.bool hid]) X.funs2_ok w #[.int .i64 (.ofNat 0),.int .i64 form,.bool hid] ⟨fun _=>by simp [X.concL,X.conc],fun _=>by simp [X.okL,X.okV]⟩ (X.gbl0x0 form hid) hG
  cases form with
  | negSucc q=>exact X.true_of_run (n:=100000) (p:=X.p5) (args:=[.int .i64 (.ofNat n),.int .i64 (.negSucc q),.bool hid]) X.funs2_ok w #[.int .i64 (.ofNat n),.int .i64 (.negSucc q),.bool hid] ⟨fun _=>by simp [X.concL,X.conc],fun _=>by simp [X.okL,X.okV]⟩ (on1 n q hid ln un) hG
  | ofNat form =>
   rcases Nat.lt_or_ge 2 form with h | uform
   ·obtain ⟨q,rfl⟩:∃ q,form=q+3:=⟨form - 3,by omega⟩
    exact X.true_of_run (n:=100000) (p:=X.p5) (args:=[.int .i64 (.ofNat n),.int .i64 (.ofNat (q+3)),.bool hid]) X.funs2_ok w #[.int .i64 (.ofNat n),.int .i64 (.ofNat (q+3)),.bool hid] ⟨fun _=>by simp [X.concL,X.conc],fun _=>by simp [X.okL,X.okV]⟩ (of1 n q hid ln un) hG
   have lform:0≤form:=Nat.zero_le _
   exact X.true_of_run (n:=100000) (p:=X.p5) (args:=[.int .i64 (.ofNat n),.int .i64 (.ofNat form),.bool hid]) X.funs2_ok w #[.int .i64 (.ofNat n),.int .i64 (.ofNat form),.bool hid] ⟨fun _=>by simp [X.concL,X.conc],fun _=>by simp [X.okL,X.okV]⟩ (runs n form hid ln un lform uform) hG
theorem own:ownKnob Tryz.prog.godebug=none:=by kernel_rfl
theorem sameL:Rows.gramBindsRow.laid=Rows.gramWrongRow.laid:=by kernel_rfl
theorem gw_of_laid {W:World} (h:laidMetH Tryz.prog Rows.gramBindsRow.laid W) (hsh:W.ShapedOpen Tryz.prog):X.GW W:=laidL.gw_of_laid (sameL ▸ h) hsh
theorem laidWorld_met (os:Os) (args:Array Value):laidMetH Tryz.prog Rows.gramBindsRow.laid ((laidL.laidWorld os).forCall (fun _ _=>0) ⟨#[],args,[]⟩).memory:=sameL ▸ laidL.laidWorld_met os args
set_option maxRecDepth 100000 in
theorem lifted (os:Os) (started:os.Started) (H:Type) (enc:TypeId × Value→H) :
  ReturnsInHanded {} Tryz.checked os 5 .any (fun w args=>(Rows.gramBindsSpec.pre enc Tryz.prog Tryz.f5 [] false w args∧laidMetH Tryz.prog Rows.gramBindsRow.laid w)∧sizedMet enc Tryz.prog Tryz.f5 (OpenSpec.ofChange Rows.gramBindsSpec) false w args)
   (Rows.gramBindsSpec.post enc Tryz.prog Tryz.f5 false true false false):=by
 refine X.handed_shaped (C:=Tryz.checked) (X:=fun w _=>laidMetH Tryz.prog Rows.gramBindsRow.laid w) (fun _ _ _ hh h=>h.of_heap hh) own started (by kernel_rfl) Tryz.func5
  (ChangeSpec.witness_shaped (enc:=enc) (C:=Tryz.checked) (os:=os) (X:=fun w _=>laidMetH Tryz.prog Rows.gramBindsRow.laid w) false (laidL.laidWorld os) #[.int .i64 0,.int .i64 0,.bool false] 8 (laidL.laidWorld_os os) (laidL.shaped os _) (by kernel_rfl) (by kernel_rfl) (by kernel_rfl) (laidWorld_met os _)) ?_
 intro W base args ds gs before hval0 hW hL hsh
 have hval:∀ (j:Nat) t v,Tryz.f5.params[j]?=some t→args[j]?=some v→Value.okWide Tryz.prog W .any base t v:=hval0
 have hW':=hW
 obtain ⟨p,q,hA0,hV0,rfl,hfz,hnd⟩:=hW
 have hA:DataW.TrodAll enc Tryz.prog W 0 (fun _=>true) true Tryz.f5.params.toList args.toList ds p:=hA0
 have hV:DataW.TrodVars enc Tryz.prog W (fun _=>true) [] gs q:=hV0
 rw [Tryz.params5] at hA hval
 obtain ⟨v0,v1,v2,d0,d1,d2,p0,p1,p2,rfl,rfl,rfl,h0,h1,h2⟩:=trodAll_three hA
 obtain ⟨a0,rfl,rfl,rfl,w0⟩:=open_int Tryz.underlying3 (hval 0 3 v0 rfl rfl) h0
 obtain ⟨a1,rfl,rfl,rfl,w1⟩:=open_int Tryz.underlying3 (hval 1 3 v1 rfl rfl) h1
 obtain ⟨a2,rfl,rfl,rfl⟩:=open_bool Tryz.underlying4 (hval 2 4 v2 rfl rfl) h2
 have hg:=gw_of_laid hL hsh
 obtain ⟨rfl,rfl⟩:gs=[]∧q=[]:=by
  cases gs with
  | nil=>exact ⟨rfl,hV⟩
  | cons g r=>exact absurd hV (by intro h; cases h)
 refine (walk a0 a1 a2 W hg).mono fun e W' ⟨he,bel⟩=>?_
 subst he
 exact ⟨_,rfl,_,_,_,[],[],[],hW',trodAll_mk1 (shut_bool Tryz.underlying4 _),trodAll_mk3 (shut_int Tryz.underlying3 w0) (shut_int Tryz.underlying3 w1) (shut_bool Tryz.underlying4 _),rfl,bel.frame _,fun h=>by cases h⟩
theorem over:Rows.gramBindsRow.holds Tryz.pinned (OpenSpec.ofChange Rows.gramBindsSpec) :=
 OpenClaim.holds_of_wide 5 Tryz.f5 rfl rfl rfl rfl rfl rfl rfl ⟨rfl,rfl,rfl,rfl,rfl⟩ rfl rfl rfl rfl rfl cn Tryz.func5 joined
  hinst hwrap
  (fun os started H enc _=>lifted os started H enc)
end gramBinds
theorem gramBinds_holds:Rows.GramBindsCardSaid :=
 Claim7.holds_tied_plain_at .later [] [.data,.data,.data,.data,.handle,.sentinel,.sentinel,.listed,.data,.pinned] true (true,"f3814e9d4c5a19824a7bf156a3e263c9fdb64b34585fe0127fbb704a26cf3449") true
  gramBinds.over (fun _ h=>by cases h) gramBinds.cw (fun _ h=>by cases h) gramBinds_row_tie rfl ⟨rfl,rfl⟩ gramBinds.cm rfl gramBinds.ch gramBinds.cg
#print axioms gramBinds_holds
end Go.Proofs.YtoijcpnfohjciaaGreatDoor
