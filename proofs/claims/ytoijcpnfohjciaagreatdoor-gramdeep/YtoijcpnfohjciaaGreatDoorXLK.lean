/- The library's contract of slices.Grow, laid at this cut. -/
import Derived.Shelf.Spec.SlicesGrow
import Derived.Test.YtoijcpnfohjciaaGreatDoorProg
import Derived.Test.YtoijcpnfohjciaaGreatDoorXST
import Derived.WalkKit
import Derived.WalkMore
import Derived.Test.YtoijcpnfohjciaaGreatDoorXGA
import Derived.Test.YtoijcpnfohjciaaGreatDoorTabA
namespace Go.Proofs
open Go.Shelf
def Tryz.growL_ren:Go.Shelf.Ren:=⟨fun | 4=>153 | n=>n,fun | 22=>32 | 25=>40 | 3=>3 | 4=>4 | 9=>9 | 20=>20 | 0=>0 | n=>n,fun | n=>n⟩
theorem Tryz.growL:Go.Proofs.Lays8.n4 Tryz.prog Tryz.growL_ren:={
 mixed:=by kernel_rfl
 f4:=⟨Tryz.f153.name,by decide,Tryz.func153.trans (congrArg some (by kernel_rfl))⟩
 t0:=Tryz.underlying0
 a0:=Tryz.isAgg0
 z0:=Tryz.sizeOf0
 v0:=Tryz.zeroValue0
 t3:=Tryz.underlying3
 a3:=Tryz.isAgg3
 z3:=Tryz.sizeOf3
 v3:=Tryz.zeroValue3
 t4:=Tryz.underlying4
 a4:=Tryz.isAgg4
 z4:=Tryz.sizeOf4
 v4:=Tryz.zeroValue4
 t9:=Tryz.underlying9
 a9:=Tryz.isAgg9
 z9:=Tryz.sizeOf9
 v9:=Tryz.zeroValue9
 t20:=Tryz.underlying20
 a20:=Tryz.isAgg20
 z20:=Tryz.sizeOf20
 v20:=Tryz.zeroValue20
 t22:=Tryz.underlying32
 a22:=Tryz.isAgg32
 z22:=Tryz.sizeOf32
 v22:=Tryz.zeroValue32 }
end Go.Proofs

/- An executor for closed calls, 44: slices.Grow told, of no slice, of structs (package gram's binds). -/
namespace Go.Proofs.YtoijcpnfohjciaaGreatDoor.X
open Go.RowKit Go.Shelf Go.Lib
def bind0:AV:=.agg [.str [],.bool false,.int .i64 (.ofNat 0),.int .i64 (.ofNat 0),.str [],.bool false,.nils,.nils,.int .i64 (.ofNat 0)]
def growBF (x y:AV) (h:T AO) (nx:Pt) (K:AV→T AO→Pt→Prop):Prop:=match x,y with
 | .nils,.int .i64 (.ofNat n)=>Bool.rec (motive:=fun _=>Prop)
   (Bool.rec (motive:=fun _=>Prop) False (forceL (zerosL (cellsA bind0) n) fun us=>h.setK (.cells us 40) nx fun h'=>succK nx fun n'=>K (.sl nx 0 0 n true) h' n') (Nat.ble n 1000000))
   (K .nils h nx) (Nat.beq n 0)
 | _,_=>False
theorem zeroCells_conc {z:Value} {v:AV} {r:Rho} (hv:Lone v z) (h0:0<(cellsA v).length) (c:Nat):Builtin.zeroCells z.cells c=(concL r (zerosL (cellsA v) c)).toArray:=by
 rw [zeros_real hv h0 c]
 have hzc:z.cells=(concL r (cellsA v)).toArray:=by rw [← hv.1 r,conc_cells]
 have hs:z.cells.size=(cellsA v).length:=by rw [hzc]; simp [concL_length]
 unfold Builtin.zeroCells
 rw [hs]
set_option maxRecDepth 100000 in
theorem growB_sem:FunSem Tryz.prog 153 (told2 growBF) :=
 told2_sem ⟨_,_,Tryz.func153,by kernel_rfl,rfl⟩ fun w0 w r h nx x y K R hG H hx hy hF hR=>by
  unfold growBF at hF
  split at hF
  ·rename_i n
   have ea:(#[conc r AV.nils,conc r (.int .i64 (.ofNat n))]:Array Value)=#[.slice none 0 0,.int .i64 (n:Int)]:=by simp [conc]
   rw [ea]
   cases hb:Nat.beq n 0 with
   | true =>
    rw [hb] at hF
    obtain rfl:=Nat.eq_of_beq_eq_true hb
    refine Calls.mono (Any8.slices_Grow_room Tryz.growL none 0 0 0 w (by omega) (by omega) (by omega) (by omega)) ?_
    rintro e w' ⟨rfl,rfl⟩
    have:=hR .nils h nx r w' hF H (.refl r h w') (by simp [okV])
    simpa [conc] using this
   | false =>
    rw [hb] at hF
    obtain ⟨hle,hF⟩:=brec hF
    have hle:=Nat.le_of_ble_eq_true hle
    have hpos:0<n:=by
     rcases Nat.eq_zero_or_pos n with rfl | h
     ·cases hb
     ·exact h
    rw [forceL_iff,T.setK_iff,succK_iff] at hF
    obtain ⟨i0,z,hz,hi,hz0,hlone,hsz,hby⟩:∃ j z,zeroA Tryz.prog 40=some (j,z,bind0)∧Tryz.prog.info? 40=some j∧j.zero=some z∧Lone bind0 z∧j.size=9∧j.bytes≤1048576:=by
     have hI:(zeroA Tryz.prog 40).map (fun x=>(x.2.2,x.1.size,Nat.ble x.1.bytes 1048576))=some (bind0,9,true):=by kernel_rfl
     cases hj:zeroA Tryz.prog 40 with
     | none=>rw [hj] at hI; cases hI
     | some j =>
      obtain ⟨j,z,v⟩:=j
      rw [hj] at hI
      simp only [Option.map_some,Option.some.injEq,Prod.mk.injEq] at hI
      obtain ⟨rfl,h2,h3⟩:=hI
      obtain ⟨g1,g2,g3⟩:=zeroA_spec hj
      exact ⟨j,z,rfl,g1,g2,g3,h2,Nat.le_of_ble_eq_true h3⟩
    have h9:(cellsA bind0).length=9:=rfl
    have hbig:(0+n)*i0.bytes≤140737488355328:=Nat.le_trans (Nat.mul_le_mul (by omega:0+n≤1000000) hby) (by decide)
    have key:Calls Tryz.prog 153 #[.slice none 0 0,.int .i64 (n:Int)] w fun e w'=>e=.returned (.slice (some ⟨w.heap.size,0,none⟩) 0 (grownCap w (0+n) 0 40)) ∧
      w'=w.drew.alloc (.cells (([]:List Value).toArray ++ Builtin.zeroCells z.cells (0+n - 0) ++ Builtin.zeroCells z.cells (grownCap w (0+n) 0 40 - (0+n))) 40) :=
     Any8.slices_Grow_grow Tryz.growL i0 z hi hz0 (by rw [hsz]; decide) none 0 0 n [] w (Nat.le_refl _) (by omega) hbig (by omega) (by simp) (fun _=>rfl) (fun a h=>by cases h)
    have hg:0+n≤grownCap w (0+n) 0 40:=grownCap_ge w (0+n) 0 40
    generalize grownCap w (0+n) 0 40=cap at key hg
    refine Calls.mono key ?_
    rintro e w' ⟨rfl,rfl⟩
    obtain ⟨x,rfl⟩:∃ x,cap=n+x:=⟨cap - n,by omega⟩
    have e1:n+x - (0+n)=x:=by omega
    have e2:0+n - 0=n:=by omega
    rw [e1,e2]
    have hzs:z.cells.size=9:=by
     have hzc:z.cells=(concL r (cellsA bind0)).toArray:=by rw [← hlone.1 r,conc_cells]
     rw [hzc]; simp [concL_length,h9]
    obtain ⟨g1,g2⟩:=(H.drew (w.drawn+1)).alloc (.cells (zerosL (cellsA bind0) n) 40) x
     (.cells (([]:List Value).toArray ++ Builtin.zeroCells z.cells n ++ Builtin.zeroCells z.cells x) 40)
     (okL_zeros (okL_cells (hlone.2 _)) n) ⟨(Builtin.zeroCells z.cells x).toList,by
      congr 2
      apply Array.ext'
      rw [zeroCells_conc (r:=r.more nx w.heap.size x) hlone (by rw [h9]; decide) n]
      simp,by
      show _=(r.more nx w.heap.size x).ext nx*_
      rw [r.more_ext,Array.length_toList,zeroCells_size,sizeT_of hi,hsz,hzs]⟩
    have:=hR (.sl nx 0 0 n true) _ _ _ _ hF g1 ((Ev.drew _).trans g2) (by simp only [okV]; exact .inl rfl)
    have ec:conc (r.more nx w.heap.size x) (.sl nx 0 0 n true)=.slice (some ⟨w.heap.size,0,none⟩) 0 (n+x):=by
     simp only [conc,if_true,r.more_blk,r.more_ext]
    have ec':conc (r.more nx ({ w with drawn:=w.drawn+1 }:World).heap.size x) (.sl nx 0 0 n true)=.slice (some ⟨w.heap.size,0,none⟩) 0 (n+x):=ec
    rw [ec'] at this
    exact this
  ·exact hF.elim
end Go.Proofs.YtoijcpnfohjciaaGreatDoor.X

/- An executor for closed calls, 46: package lex's control and single told, of ASCII. -/
namespace Go.Proofs.YtoijcpnfohjciaaGreatDoor.X
open Go.RowKit Go.Lib
def signsN:List Nat:=[40,41,123,125,59,44]
def ctlN (r:Nat):Bool:=(Nat.blt r 32&&!(Nat.beq r 10))||Nat.beq r 127
theorem signs_spec (r:Nat) (hr:r<128):decide (0≤Lib.indexByte [40,41,123,125,59,44] r.toUInt8)=amongN signsN r:=by
  have h:∀ r:Fin 128,decide (0≤Lib.indexByte [40,41,123,125,59,44] r.1.toUInt8)=amongN signsN r.1:=by decide +kernel
  exact h ⟨r,hr⟩
set_option maxHeartbeats 4000000 in
set_option maxRecDepth 100000 in
theorem indexRune_low (s:ByteArray) (r:Nat) (w:World) (hr:r<128):Calls Tryz.prog 139 #[.string s,.int .i32 r] w fun e w'=>e=.returned (.int .i64 (Lib.indexByte s.data.toList r.toUInt8))∧w'=w:=by
  have z1:(0:Int)≤r:=by omega
  have z2:(r:Int)<128:=by omega
  have hb:=Any.strings_IndexByte Tryz.indexByteL s r w
  go_enter Tryz.func139,Tryz.ntmps139
  go_wp2_with fail
  refine hb.mono ?_
  rintro e w' ⟨rfl,rfl⟩
  go_wp2
  go_ret
  exact ⟨by simp,rfl⟩
set_option maxHeartbeats 1000000 in
theorem single_low (r:Nat) (w:World) (hr:r<128):Calls Tryz.prog 70 #[.int .i32 r] w fun e w'=>e=.returned (.bool (amongN signsN r))∧w'=w:=by
  have hi:=indexRune_low ⟨#[40,41,123,125,59,44]⟩ r w hr
  have hs:=signs_spec r hr
  have e0:(⟨#[40,41,123,125,59,44]⟩:ByteArray).data.toList=[40,41,123,125,59,44]:=rfl
  rw [e0] at hi
  have hc:Calls Tryz.prog 115 #[.string ⟨#[40,41,123,125,59,44]⟩,.int .i32 r] w fun e w'=>e=.returned (.bool (amongN signsN r))∧w'=w:=by
    rw [← hs]
    generalize Lib.indexByte [40,41,123,125,59,44] r.toUInt8=i at hi ⊢
    go_enter Tryz.func115,Tryz.ntmps115
    go_wp2_with fail
    refine hi.mono ?_
    rintro e w' ⟨rfl,rfl⟩
    go_wp2
    go_ret
    exact ⟨rfl,rfl⟩
  generalize amongN signsN r=b at hc ⊢
  go_enter Tryz.func70,Tryz.ntmps70
  go_wp2_with fail
  refine hc.mono ?_
  rintro e w' ⟨rfl,rfl⟩
  go_wp2
  go_ret
  exact ⟨rfl,rfl⟩
set_option maxHeartbeats 1000000 in
theorem control_low (r:Nat) (w:World):Calls Tryz.prog 69 #[.int .i32 r] w fun e w'=>e=.returned (.bool (ctlN r))∧w'=w:=by
  have hb:ctlN r=((decide ((r:Int)<32)&&!decide ((r:Int)=10))||decide ((r:Int)=127)):=by
    unfold ctlN
    have e1:Nat.blt r 32=decide ((r:Int)<32):=by
      by_cases h:r<32
      · rw [decide_eq_true (by omega)]; exact Nat.ble_eq_true_of_le h
      · rw [decide_eq_false (by omega)]; exact Bool.eq_false_iff.2 fun e=>h (Nat.le_of_ble_eq_true e)
    have e2:∀ k:Nat,Nat.beq r k=decide ((r:Int)=(k:Int)):=fun k=>by
      by_cases h:r=k
      · subst h; simp
      · rw [decide_eq_false (by omega)]; exact Bool.eq_false_iff.2 fun e=>h (Nat.eq_of_beq_eq_true e)
    rw [e1,e2 10,e2 127]; rfl
  rw [hb]
  by_cases h1:(r:Int)<32 <;> by_cases h2:(r:Int)=10 <;> by_cases h3:(r:Int)=127
  all_goals
    first
    | omega
    | (go_enter Tryz.func69,Tryz.ntmps69
       go_wp2
       go_ret
       exact ⟨by first | (simp [h1,h2,h3]; done) | (have h4:¬ (r:Int)<32:=(by omega); simp [h3,h4]),rfl⟩)
def singleF (x:AV) (h:T AO) (nx:Pt) (K:AV→T AO→Pt→Prop):Prop:=match x with
  | .int .i32 (.ofNat r)=>Bool.rec (motive:=fun _=>Prop) False (forceB (amongN signsN r) fun b=>K (.bool b) h nx) (Nat.blt r 128)
  | _=>False
def controlF (x:AV) (h:T AO) (nx:Pt) (K:AV→T AO→Pt→Prop):Prop:=match x with
  | .int .i32 (.ofNat r)=>forceB (ctlN r) fun b=>K (.bool b) h nx
  | _=>False
theorem single_sem:FunSem Tryz.prog 70 (told1 singleF) :=
  told1_sem ⟨_,_,Tryz.func70,by kernel_rfl,rfl⟩ fun w0 w r h nx x K R hG H hx hF hR=>by
    unfold singleF at hF
    split at hF
    · rename_i c
      obtain ⟨hb,hF⟩:=brec hF
      rw [forceB_iff] at hF
      have hb:c<128:=by have hb:Nat.ble (c+1) 128=true:=hb; have:=Nat.le_of_ble_eq_true hb; omega
      refine Calls.mono (single_low c w hb) fun e w' he=>?_
      obtain ⟨rfl,rfl⟩:=he
      have:=hR (.bool (amongN signsN c)) h nx r w' hF H (.refl r h w') (by simp [okV])
      simpa [conc] using this
    · exact hF.elim
theorem control_sem:FunSem Tryz.prog 69 (told1 controlF) :=
  told1_sem ⟨_,_,Tryz.func69,by kernel_rfl,rfl⟩ fun w0 w r h nx x K R hG H hx hF hR=>by
    unfold controlF at hF
    split at hF
    · rename_i c
      rw [forceB_iff] at hF
      refine Calls.mono (control_low c w) fun e w' he=>?_
      obtain ⟨rfl,rfl⟩:=he
      have:=hR (.bool (ctlN c)) h nx r w' hF H (.refl r h w') (by simp [okV])
      simpa [conc] using this
    · exact hF.elim
end Go.Proofs.YtoijcpnfohjciaaGreatDoor.X

/- Functions that put off one closure, which catches what panics: told. -/
set_option maxRecDepth 100000
namespace Go.Proofs.YtoijcpnfohjciaaGreatDoor.X
open Go.RowKit
def watchA11:AC:=(.ops [⟨(some s2),(.v (.new [.nils] 25)),none⟩,⟨(some s3),(.v (.new [(.int .i64 (.ofNat 0))] 3)),none⟩,⟨(some s4),(.v (.new [(.int .i64 (.ofNat 0))] 26)),none⟩])
def watchB11:AC:=(.seq (.ops [⟨(some s6),(.v (.mv (.t s0))),none⟩,⟨(some s7),(.callv (.t s6) []),none⟩,⟨none,(.v (.st 1 (.t s2) (.t s7))),none⟩,⟨none,(.v (.st 1 (.t s3) (.c (.int .i64 (.ofNat 0))))),none⟩,⟨none,(.v (.st 1 (.t s4) (.c (.int .i64 (.ofNat 0))))),none⟩]) .ret)
def watchC11:AC:=(.seq (.ops [⟨(some s6),(.v (.mv (.t s3))),none⟩,⟨(some s7),(.v (.eq .i true (.t s6) (.c .nili))),none⟩]) (.cond (.t s7) (.seq (.ops [⟨(some s8),(.v (.mv (.t s3))),none⟩,⟨(some s9),(.call (.z (.o (.o (.z .e)))) [(.t s8)]),none⟩,⟨(some s4),(.v (.new [(.int .i64 (.ofNat 0)),(.int .i64 (.ofNat 0))] 71)),none⟩,⟨none,(.v (.st 2 (.t s4) (.t s9))),none⟩]) (.draw [(.n 0 [] s10 ⟨(some s10),(.v (.fa 0 (.t s4))),none⟩),(.n 1 [] s11 ⟨(some s11),(.v (.ld1 (.t s10))),none⟩),(.n 2 [] s12 ⟨(some s12),(.v (.fa 1 (.t s4))),none⟩),(.n 3 [] s13 ⟨(some s13),(.v (.ld1 (.t s12))),none⟩),(.e 4 [] [(s11,⟨(some s11),(.v (.ld1 (.t s10))),none⟩),(s13,⟨(some s13),(.v (.ld1 (.t s12))),none⟩)] ⟨none,(.v (.st 1 (.t s0) (.c .nils))),none⟩),(.e 5 [] [(s13,⟨(some s13),(.v (.ld1 (.t s12))),none⟩)] ⟨none,(.v (.st 1 (.t s1) (.t s11))),none⟩),(.e 6 [] [] ⟨none,(.v (.st 1 (.t s2) (.t s13))),none⟩)])) .skip))
def watchAF11:AF:=⟨watchF watchA11 s5 20 [(.t s2),(.t s3),(.t s4)] watchB11 (catchF s5 s3 (den watchC11)),[(.c1 s2),(.c1 s3),(.c1 s4)]⟩
theorem watch_idle11 (x y z:Value) (w:World):CallsD Tryz.prog 20 #[x,y,z] .returning w fun e u' w'=>(∃ v,e=.returned v)∧u'=.returning∧w'=w:=by
 refine callsD_of_wpS Tryz.func20 rfl fun c₀ cs hu=>?_
 apply wpS_seq
 apply wpS_region
 simp [wpOpsS,go_sem,recoverD,hu,Tryz.ntmps20,Exit.thenS]
 apply wpS_seq
 apply wpS_region
 simp [wpOpsS,go_sem,Exit.thenS]
 refine wpS_cond (t:=false) (by simp [Act.eval,Array.replicate]) ?_
 simp only [Bool.false_eq_true,if_false]
 refine wpS_of_wp (wp_skip ?_)
 cases c₀
 simp_all [bodyPostS,results,Tryz.results20]
theorem watch_ok11:FunSem Tryz.prog 11 watchAF11 :=
 watch_sem (by kernel_rfl) Tryz.func11 (by kernel_rfl) rfl Tryz.func20 (by kernel_rfl) rfl (by kernel_rfl) (by kernel_rfl) (by kernel_rfl) (by kernel_rfl) rfl rfl rfl (fun args w h=>by
  match args,h with
  | ⟨[x,y,z]⟩,_=>exact watch_idle11 x y z w)
  (catch_ok (by kernel_rfl) Tryz.func20 rfl (by kernel_rfl) Tryz.results20 (by rw [Tryz.ntmps20]; decide) (by rw [Tryz.ntmps20]; decide) (fun a c₀ cs w v Q hc h1 _ hQ=>by
   have h1:5<a.tmps.size:=h1
   show wpOpsS _ _ Q [0,1] a (c₀ :: cs) w
   simp [wpOpsS,go_sem,recoverD,hc,h1]
   exact hQ))
end Go.Proofs.YtoijcpnfohjciaaGreatDoor.X

/- The table of functions. -/
set_option maxRecDepth 100000
namespace Go.Proofs.YtoijcpnfohjciaaGreatDoor.X
open Go.RowKit
def funs:T AF:=(.m (.m (.n (.n (.n (.n (.n (.n .l af127 .l) af63 .l) af31 (.n (.n .l (told1 cloneF) .l) af95 .l)) af15 (.n (.n (.n .l af143 .l) af79 .l) af47 (.n (.n .l af175 .l) af111 .l))) af7 (.n (.n (.n (.n .l af135 .l) af71 .l) af39 (.n (.n .l af167 .l) af103 .l)) af23 (.n (.n (.n .l af151 .l) af87 .l) af55 (.n .l af119 .l)))) af3 (.n (.n (.n (.m (.n .l af131 .l) .l) af35 (.n (.n .l af163 .l) af99 .l)) af19 (.n (.m (.n .l af147 .l) .l) af51 (.m (.n .l af179 .l) .l))) watchAF11 (.n (.n (.n .l af75 .l) af43 (.n .l af107 .l)) af27 (.n (.n .l af91 .l) af59 (.n .l af123 .l))))) (.n (.n (.n (.n (.n (.n .l af129 .l) af65 .l) af33 (.n .l af97 .l)) af17 (.n (.n (.n .l (told2 containsF) .l) af81 .l) af49 .l)) af9 (.n (.n (.n .l af73 .l) af41 (.n (.n .l af169 .l) af105 .l)) af25 (.n (.n (.n .l (told2 growBF) .l) af89 .l) af57 .l))) af5 (.n (.n (.n (.n (.n .l af133 .l) (told1 controlF) .l) af37 (.n .l af101 .l)) af21 (.n (.m (.n .l af149 .l) .l) af53 (.n (.n .l af181 .l) af117 .l))) af13 (.n (.n (.n (.n .l af141 .l) af77 .l) af45 (.n (.n .l af173 .l) af109 .l)) (told1 fieldsF) (.n (.n .l af93 .l) af61 (.n .l af125 .l)))))) (.m (.n (.n (.n (.n (.n (.n .l af128 .l) af64 .l) af32 (.n (.n .l af160 .l) af96 .l)) af16 (.n (.n (.n .l af144 .l) af80 .l) af48 (.n (.n .l af176 .l) af112 .l))) af8 (.n (.n (.n (.n .l af136 .l) af72 .l) af40 (.n .l af104 .l)) af24 (.n (.n (.n .l af152 .l) af88 .l) af56 .l))) af4 (.n (.m (.n (.n (.n .l af132 .l) af68 .l) af36 (.n .l af100 .l)) (.n (.m (.n .l af148 .l) .l) af52 (.n (.n .l af180 .l) (told2 prefixF) .l))) af12 (.n (.n (.n (.n .l af140 .l) af76 .l) af44 (.n (.n .l af172 .l) af108 .l)) af28 (.n (.n .l af92 .l) af60 (.n .l af124 .l))))) (.n (.n (.n (.n (.m (.n .l af130 .l) .l) af34 (.n (.n .l af162 .l) af98 .l)) af18 (.n (.n (.n .l af146 .l) af82 .l) af50 .l)) af10 (.n (.n (.n .l af74 .l) (told2 asGF) (.n .l af106 .l)) af26 (.n (.n .l af90 .l) af58 .l))) af6 (.n (.n (.n (.n (.n .l af134 .l) (told1 singleF) .l) af38 (.n (.n .l af166 .l) af102 .l)) af22 (.n (.m (.n .l af150 .l) .l) af54 (.n .l af118 .l))) af14 (.n (.n (.n (.n .l af142 .l) af78 .l) af46 (.n (.n .l af174 .l) af110 .l)) af30 (.n (.n (.n .l af158 .l) af94 .l) af62 (.n .l af126 .l)))))))
theorem funs_ok:FunsOk Tryz.prog funs:=TabOk.funs (.m (.m (.n ok3 (.n ok7 (.n ok15 (.n ok31 (.n ok63 (.n ok127 .l .l) .l) (.n ok95 (.n sclone_sem .l .l) .l)) (.n ok47 (.n ok79 (.n ok143 .l .l) .l) (.n ok111 (.n ok175 .l .l) .l))) (.n ok23 (.n ok39 (.n ok71 (.n ok135 .l .l) .l) (.n ok103 (.n ok167 .l .l) .l)) (.n ok55 (.n ok87 (.n ok151 .l .l) .l) (.n ok119 .l .l)))) (.n watch_ok11 (.n ok19 (.n ok35 (.m (.n ok131 .l .l) .l) (.n ok99 (.n ok163 .l .l) .l)) (.n ok51 (.m (.n ok147 .l .l) .l) (.m (.n ok179 .l .l) .l))) (.n ok27 (.n ok43 (.n ok75 .l .l) (.n ok107 .l .l)) (.n ok59 (.n ok91 .l .l) (.n ok123 .l .l))))) (.n ok5 (.n ok9 (.n ok17 (.n ok33 (.n ok65 (.n ok129 .l .l) .l) (.n ok97 .l .l)) (.n ok49 (.n ok81 (.n contains_sem .l .l) .l) .l)) (.n ok25 (.n ok41 (.n ok73 .l .l) (.n ok105 (.n ok169 .l .l) .l)) (.n ok57 (.n ok89 (.n growB_sem .l .l) .l) .l))) (.n ok13 (.n ok21 (.n ok37 (.n control_sem (.n ok133 .l .l) .l) (.n ok101 .l .l)) (.n ok53 (.m (.n ok149 .l .l) .l) (.n ok117 (.n ok181 .l .l) .l))) (.n fields_sem (.n ok45 (.n ok77 (.n ok141 .l .l) .l) (.n ok109 (.n ok173 .l .l) .l)) (.n ok61 (.n ok93 .l .l) (.n ok125 .l .l)))))) (.m (.n ok4 (.n ok8 (.n ok16 (.n ok32 (.n ok64 (.n ok128 .l .l) .l) (.n ok96 (.n ok160 .l .l) .l)) (.n ok48 (.n ok80 (.n ok144 .l .l) .l) (.n ok112 (.n ok176 .l .l) .l))) (.n ok24 (.n ok40 (.n ok72 (.n ok136 .l .l) .l) (.n ok104 .l .l)) (.n ok56 (.n ok88 (.n ok152 .l .l) .l) .l))) (.n ok12 (.m (.n ok36 (.n ok68 (.n ok132 .l .l) .l) (.n ok100 .l .l)) (.n ok52 (.m (.n ok148 .l .l) .l) (.n prefix_sem (.n ok180 .l .l) .l))) (.n ok28 (.n ok44 (.n ok76 (.n ok140 .l .l) .l) (.n ok108 (.n ok172 .l .l) .l)) (.n ok60 (.n ok92 .l .l) (.n ok124 .l .l))))) (.n ok6 (.n ok10 (.n ok18 (.n ok34 (.m (.n ok130 .l .l) .l) (.n ok98 (.n ok162 .l .l) .l)) (.n ok50 (.n ok82 (.n ok146 .l .l) .l) .l)) (.n ok26 (.n asG_sem (.n ok74 .l .l) (.n ok106 .l .l)) (.n ok58 (.n ok90 .l .l) .l))) (.n ok14 (.n ok22 (.n ok38 (.n single_sem (.n ok134 .l .l) .l) (.n ok102 (.n ok166 .l .l) .l)) (.n ok54 (.m (.n ok150 .l .l) .l) (.n ok118 .l .l))) (.n ok30 (.n ok46 (.n ok78 (.n ok142 .l .l) .l) (.n ok110 (.n ok174 .l .l) .l)) (.n ok62 (.n ok94 (.n ok158 .l .l) .l) (.n ok126 .l .l)))))))
end Go.Proofs.YtoijcpnfohjciaaGreatDoor.X

/- The document's example of chapter 14 comes out as it says. -/
namespace Go.Proofs.YtoijcpnfohjciaaGreatDoor.X
open Go.RowKit
set_option maxRecDepth 1000000 in
theorem alive_run:callN funs 100000 .l p6 [] .l .e isT=True:=by kernel_rfl
theorem alive14_any (w:World) (hG:GW w):Calls Tryz.prog 6 #[] w fun e w'=>e=.returned (.bool true)∧Below w.heap.size w w':=true_of_run (p:=p6) funs_ok w #[] ⟨fun _=>by simp [concL],fun _=>by simp [okL]⟩ alive_run hG
theorem live14:FunSem Tryz.prog 6 liveAF:=live_sem ⟨_,_,Tryz.func6,by kernel_rfl,rfl⟩ alive14_any
end Go.Proofs.YtoijcpnfohjciaaGreatDoor.X
