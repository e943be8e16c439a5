/-
 DERIVED: THE SHELF's CONTRACTS AT THIS DUMP, IN PLAIN WORDS (tools/lay-plain.mjs out of 'YtoijcpnfohjciaaGreatDoorLG0.lean', which tools/lay-shelf.mjs wrote): THE SAME DECLARATIONS UNDER THE SAME NAMES: 'import', 'namespace', 'open', 'def', 'theorem' AND NOTHING ELSE: no command of the shelf's: FOR A HAND-IN. Each laying: the table of numbers ('.._ren') and one theorem, a field a fact of the dump's own or the kernel's comparison; each contract: ONE APPLICATION.
-/
import Derived.Shelf.Strings.Fields
import Derived.Shelf.Strings.Search3
import Derived.Shelf.Strconv.Clone
import Derived.Shelf.Small.Strs
import Derived.Shelf.Strings.Prefix
import Derived.Ground.NamesProg
import Derived.Test.YtoijcpnfohjciaaGreatDoorProg
import Derived.Test.YtoijcpnfohjciaaGreatDoorXA
import Derived.RowKitTokens
namespace Go.Proofs
open Go.Shelf
def Tryz.fieldsL_ren:Go.Shelf.Ren:=⟨fun | 157=>29 | 229=>66 | 199=>67 | 261=>113 | 311=>137 | 312=>138 | n=>n,fun | 9=>9 | 31=>23 | 3=>3 | 5=>5 | 4=>4 | 119=>107 | 0=>0 | 40=>87 | 152=>152 | 21=>21 | 154=>154 | 51=>155 | 141=>157 | 196=>184 | 193=>181 | 198=>187 | 49=>185 | 194=>182 | 201=>190 | 226=>203 | 46=>192 | 227=>204 | n=>n,fun | 0=>0 | 6=>2 | n=>n⟩
theorem Tryz.fieldsL:Go.Proofs.Lays.n157 Tryz.prog Tryz.fieldsL_ren:={
 mixed:=by kernel_rfl
 f157:=Tryz.func29.trans (congrArg some (by kernel_rfl))
 f199:=Tryz.func67.trans (congrArg some (by kernel_rfl))
 f229:=Tryz.func66.trans (congrArg some (by kernel_rfl))
 f261:=Tryz.func113.trans (congrArg some (by kernel_rfl))
 f311:=Tryz.func137.trans (congrArg some (by kernel_rfl))
 f312:=Tryz.func138.trans (congrArg some (by kernel_rfl))
 t0:=Tryz.underlying0
 a0:=Tryz.isAgg0
 z0:=Tryz.sizeOf0
 v0:=Tryz.zeroValue0
 t3:=Tryz.underlying3
 a3:=Tryz.isAgg3
 z3:=Tryz.sizeOf3
 v3:=Tryz.zeroValue3
 t4:=Tryz.underlying4
 a4:=Tryz.isAgg4
 z4:=Tryz.sizeOf4
 v4:=Tryz.zeroValue4
 t5:=Tryz.underlying5
 a5:=Tryz.isAgg5
 z5:=Tryz.sizeOf5
 v5:=Tryz.zeroValue5
 t9:=Tryz.underlying9
 a9:=Tryz.isAgg9
 z9:=Tryz.sizeOf9
 v9:=Tryz.zeroValue9
 t21:=Tryz.underlying21
 a21:=Tryz.isAgg21
 z21:=Tryz.sizeOf21
 v21:=Tryz.zeroValue21
 t31:=Tryz.underlying23
 a31:=Tryz.isAgg23
 z31:=Tryz.sizeOf23
 v31:=Tryz.zeroValue23
 t40:=Tryz.underlying87
 a40:=Tryz.isAgg87
 z40:=Tryz.sizeOf87
 v40:=Tryz.zeroValue87
 t46:=Tryz.underlying192
 a46:=Tryz.isAgg192
 z46:=Tryz.sizeOf192
 v46:=Tryz.zeroValue192
 t49:=Tryz.underlying185
 a49:=Tryz.isAgg185
 z49:=Tryz.sizeOf185
 v49:=Tryz.zeroValue185
 t51:=Tryz.underlying155
 a51:=Tryz.isAgg155
 z51:=Tryz.sizeOf155
 v51:=Tryz.zeroValue155
 t119:=Tryz.underlying107
 a119:=Tryz.isAgg107
 z119:=Tryz.sizeOf107
 t141:=Tryz.underlying157
 a141:=Tryz.isAgg157
 z141:=Tryz.sizeOf157
 v141:=Tryz.zeroValue157
 t152:=Tryz.underlying152
 a152:=Tryz.isAgg152
 z152:=Tryz.sizeOf152
 v152:=Tryz.zeroValue152
 t154:=Tryz.underlying154
 a154:=Tryz.isAgg154
 z154:=Tryz.sizeOf154
 v154:=Tryz.zeroValue154
 t193:=Tryz.underlying181
 a193:=Tryz.isAgg181
 z193:=Tryz.sizeOf181
 v193:=Tryz.zeroValue181
 t194:=Tryz.underlying182
 a194:=Tryz.isAgg182
 z194:=Tryz.sizeOf182
 v194:=Tryz.zeroValue182
 t196:=Tryz.underlying184
 a196:=Tryz.isAgg184
 z196:=Tryz.sizeOf184
 v196:=Tryz.zeroValue184
 t198:=Tryz.underlying187
 a198:=Tryz.isAgg187
 z198:=Tryz.sizeOf187
 v198:=Tryz.zeroValue187
 t201:=Tryz.underlying190
 a201:=Tryz.isAgg190
 z201:=Tryz.sizeOf190
 v201:=Tryz.zeroValue190
 t226:=Tryz.underlying203
 a226:=Tryz.isAgg203
 z226:=Tryz.sizeOf203
 v226:=Tryz.zeroValue203
 t227:=Tryz.underlying204
 a227:=Tryz.isAgg204
 z227:=Tryz.sizeOf204
 v227:=Tryz.zeroValue204
 g0:=by kernel_rfl
 g6:=by kernel_rfl }
def Tryz.containsL_ren:Go.Shelf.Ren:=⟨fun | 144=>145 | 143=>161 | 219=>171 | 217=>168 | 225=>157 | 224=>156 | 267=>178 | 266=>177 | 314=>182 | n=>n,fun | 9=>9 | 4=>4 | 3=>3 | 5=>5 | 46=>192 | 146=>232 | 51=>155 | n=>n,fun | 1=>5 | n=>n⟩
theorem Tryz.containsL:Go.Proofs.Lays.n144 Tryz.prog Tryz.containsL_ren:={
 mixed:=by kernel_rfl
 f143:=Tryz.func161.trans (congrArg some (by kernel_rfl))
 f144:=Tryz.func145.trans (congrArg some (by kernel_rfl))
 f217:=Tryz.func168.trans (congrArg some (by kernel_rfl))
 f219:=Tryz.func171.trans (congrArg some (by kernel_rfl))
 f224:=Tryz.func156.trans (congrArg some (by kernel_rfl))
 f225:=Tryz.func157.trans (congrArg some (by kernel_rfl))
 f266:=Tryz.func177.trans (congrArg some (by kernel_rfl))
 f267:=Tryz.func178.trans (congrArg some (by kernel_rfl))
 f314:=Tryz.func182.trans (congrArg some (by kernel_rfl))
 t3:=Tryz.underlying3
 a3:=Tryz.isAgg3
 z3:=Tryz.sizeOf3
 v3:=Tryz.zeroValue3
 t4:=Tryz.underlying4
 a4:=Tryz.isAgg4
 z4:=Tryz.sizeOf4
 v4:=Tryz.zeroValue4
 t5:=Tryz.underlying5
 a5:=Tryz.isAgg5
 z5:=Tryz.sizeOf5
 v5:=Tryz.zeroValue5
 t9:=Tryz.underlying9
 a9:=Tryz.isAgg9
 z9:=Tryz.sizeOf9
 v9:=Tryz.zeroValue9
 t46:=Tryz.underlying192
 a46:=Tryz.isAgg192
 z46:=Tryz.sizeOf192
 v46:=Tryz.zeroValue192
 t51:=Tryz.underlying155
 a51:=Tryz.isAgg155
 z51:=Tryz.sizeOf155
 v51:=Tryz.zeroValue155
 t146:=Tryz.underlying232
 a146:=Tryz.isAgg232
 z146:=Tryz.sizeOf232
 v146:=Tryz.zeroValue232
 g1:=by kernel_rfl }
def Tryz.indexByteL_ren:Go.Shelf.Ren:=⟨fun | 137=>154 | 217=>168 | 266=>177 | n=>n,fun | 9=>9 | 5=>5 | 3=>3 | n=>n,fun | n=>n⟩
theorem Tryz.indexByteL:Go.Proofs.Lays.n137 Tryz.prog Tryz.indexByteL_ren:={
 mixed:=by kernel_rfl
 f137:=Tryz.func154.trans (congrArg some (by kernel_rfl))
 f217:=Tryz.func168.trans (congrArg some (by kernel_rfl))
 f266:=Tryz.func177.trans (congrArg some (by kernel_rfl))
 t3:=Tryz.underlying3
 a3:=Tryz.isAgg3
 z3:=Tryz.sizeOf3
 v3:=Tryz.zeroValue3
 t5:=Tryz.underlying5
 a5:=Tryz.isAgg5
 z5:=Tryz.sizeOf5
 v5:=Tryz.zeroValue5
 t9:=Tryz.underlying9
 a9:=Tryz.isAgg9
 z9:=Tryz.sizeOf9
 v9:=Tryz.zeroValue9 }
def Tryz.cloneL_ren:Go.Shelf.Ren:=⟨fun | 316=>170 | n=>n,fun | 9=>9 | 3=>3 | 4=>4 | 37=>211 | 0=>0 | 127=>227 | 5=>5 | n=>n,fun | n=>n⟩
theorem Tryz.cloneL:Go.Proofs.LaysM.n316 Tryz.prog Tryz.cloneL_ren:={
 mixed:=by kernel_rfl
 f316:=Tryz.func170.trans (congrArg some (by kernel_rfl))
 t0:=Tryz.underlying0
 a0:=Tryz.isAgg0
 z0:=Tryz.sizeOf0
 v0:=Tryz.zeroValue0
 t3:=Tryz.underlying3
 a3:=Tryz.isAgg3
 z3:=Tryz.sizeOf3
 v3:=Tryz.zeroValue3
 t4:=Tryz.underlying4
 a4:=Tryz.isAgg4
 z4:=Tryz.sizeOf4
 v4:=Tryz.zeroValue4
 t9:=Tryz.underlying9
 a9:=Tryz.isAgg9
 z9:=Tryz.sizeOf9
 v9:=Tryz.zeroValue9
 t37:=Tryz.underlying211
 a37:=Tryz.isAgg211
 z37:=Tryz.sizeOf211
 v37:=Tryz.zeroValue211
 t127:=Tryz.underlying227
 a127:=Tryz.isAgg227
 z127:=Tryz.sizeOf227
 v127:=Tryz.zeroValue227
 t5:=Tryz.underlying5
 a5:=Tryz.isAgg5
 z5:=Tryz.sizeOf5
 v5:=Tryz.zeroValue5
 i0:=by kernel_rfl
 i3:=by kernel_rfl
 i4:=by kernel_rfl
 i5:=by kernel_rfl
 i9:=by kernel_rfl
 i37:=by kernel_rfl
 i127:=by kernel_rfl }
def Tryz.prefixL_ren:Go.Shelf.Ren:=⟨fun | 99=>116 | 206=>140 | n=>n,fun | 9=>9 | 4=>4 | 3=>3 | n=>n,fun | n=>n⟩
theorem Tryz.prefixL:Go.Proofs.Lays.n99 Tryz.prog Tryz.prefixL_ren:={
 mixed:=by kernel_rfl
 f99:=Tryz.func116.trans (congrArg some (by kernel_rfl))
 f206:=Tryz.func140.trans (congrArg some (by kernel_rfl))
 t3:=Tryz.underlying3
 a3:=Tryz.isAgg3
 z3:=Tryz.sizeOf3
 v3:=Tryz.zeroValue3
 t4:=Tryz.underlying4
 a4:=Tryz.isAgg4
 z4:=Tryz.sizeOf4
 v4:=Tryz.zeroValue4
 t9:=Tryz.underlying9
 a9:=Tryz.isAgg9
 z9:=Tryz.sizeOf9
 v9:=Tryz.zeroValue9 }
end Go.Proofs

/- An executor for closed calls, 14b: what is asked of the world ahead of the call: the library's variable of the error type is laid, its table of blanks too, and its bound on short texts is a number. -/
namespace Go.Proofs.YtoijcpnfohjciaaGreatDoor.X
open Go.RowKit
structure GW (w:World):Prop where
 et:w.cell? ⟨1,0,none⟩=some (.iface 162 (.agg #[.pointer (some ⟨12,96,none⟩)]))
 sp:∀ c:Nat,c<256→w.cell? ⟨Tryz.fieldsL_ren.g 0,c,none⟩=some (.int .u8 (if Lib.isSp (UInt8.ofNat c) then 1 else 0))
 ml:∃ m,w.cell? ⟨Tryz.containsL_ren.g 1,0,none⟩=some (.int .i64 m)
theorem GW.below {w0 w:World} (h:GW w0) (hB:Below w0.heap.size w0 w):GW w:=by
 have key:∀ {p:Addr} {v:Value},w0.cell? p=some v→w.cell? p=some v:=fun {p v} hv=>by
  rw [hB.cell (World.block_lt_of_cell? _ _ hv)]; exact hv
 obtain ⟨m,hm⟩:=h.ml
 exact ⟨key h.et,fun c hc=>key (h.sp c hc),m,key hm⟩
end Go.Proofs.YtoijcpnfohjciaaGreatDoor.X
