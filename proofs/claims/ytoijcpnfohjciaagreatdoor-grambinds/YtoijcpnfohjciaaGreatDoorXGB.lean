/- The library's contract of slices.Grow, laid at this cut. -/
import Derived.Shelf.Spec.SlicesGrow
import Derived.Test.YtoijcpnfohjciaaGreatDoorProg
import Derived.Test.YtoijcpnfohjciaaGreatDoorXTO
namespace Go.Proofs
open Go.Shelf
def Tryz.growL_ren:Go.Shelf.Ren:=⟨fun | 4=>153 | n=>n,fun | 22=>32 | 25=>40 | 3=>3 | 4=>4 | 9=>9 | 20=>20 | 0=>0 | n=>n,fun | n=>n⟩
theorem Tryz.growL:Go.Proofs.Lays8.n4 Tryz.prog Tryz.growL_ren:={
 mixed:=by kernel_rfl
 f4:=⟨Tryz.f153.name,by decide,Tryz.func153.trans (congrArg some (by kernel_rfl))⟩
 t0:=Tryz.underlying0
 a0:=Tryz.isAgg0
 z0:=Tryz.sizeOf0
 v0:=Tryz.zeroValue0
 t3:=Tryz.underlying3
 a3:=Tryz.isAgg3
 z3:=Tryz.sizeOf3
 v3:=Tryz.zeroValue3
 t4:=Tryz.underlying4
 a4:=Tryz.isAgg4
 z4:=Tryz.sizeOf4
 v4:=Tryz.zeroValue4
 t9:=Tryz.underlying9
 a9:=Tryz.isAgg9
 z9:=Tryz.sizeOf9
 v9:=Tryz.zeroValue9
 t20:=Tryz.underlying20
 a20:=Tryz.isAgg20
 z20:=Tryz.sizeOf20
 v20:=Tryz.zeroValue20
 t22:=Tryz.underlying32
 a22:=Tryz.isAgg32
 z22:=Tryz.sizeOf32
 v22:=Tryz.zeroValue32 }
end Go.Proofs

/- An executor for closed calls, 44: slices.Grow told, of no slice, of structs (package gram's binds). -/
namespace Go.Proofs.YtoijcpnfohjciaaGreatDoor.X
open Go.RowKit Go.Shelf Go.Lib
def bind0:AV:=.agg [.str [],.bool false,.int .i64 (.ofNat 0),.int .i64 (.ofNat 0),.str [],.bool false,.nils,.nils,.int .i64 (.ofNat 0)]
def growBF (x y:AV) (h:T AO) (nx:Pt) (K:AV→T AO→Pt→Prop):Prop:=match x,y with
 | .nils,.int .i64 (.ofNat n)=>Bool.rec (motive:=fun _=>Prop)
   (Bool.rec (motive:=fun _=>Prop) False (forceL (zerosL (cellsA bind0) n) fun us=>h.setK (.cells us 40) nx fun h'=>succK nx fun n'=>K (.sl nx 0 0 n true) h' n') (Nat.ble n 1000000))
   (K .nils h nx) (Nat.beq n 0)
 | _,_=>False
theorem zeroCells_conc {z:Value} {v:AV} {r:Rho} (hv:Lone v z) (h0:0<(cellsA v).length) (c:Nat):Builtin.zeroCells z.cells c=(concL r (zerosL (cellsA v) c)).toArray:=by
 rw [zeros_real hv h0 c]
 have hzc:z.cells=(concL r (cellsA v)).toArray:=by rw [← hv.1 r,conc_cells]
 have hs:z.cells.size=(cellsA v).length:=by rw [hzc]; simp [concL_length]
 unfold Builtin.zeroCells
 rw [hs]
set_option maxRecDepth 100000 in
theorem growB_sem:FunSem Tryz.prog 153 (told2 growBF) :=
 told2_sem ⟨_,_,Tryz.func153,by kernel_rfl,rfl⟩ fun w0 w r h nx x y K R hG H hx hy hF hR=>by
  unfold growBF at hF
  split at hF
  ·rename_i n
   have ea:(#[conc r AV.nils,conc r (.int .i64 (.ofNat n))]:Array Value)=#[.slice none 0 0,.int .i64 (n:Int)]:=by simp [conc]
   rw [ea]
   cases hb:Nat.beq n 0 with
   | true =>
    rw [hb] at hF
    obtain rfl:=Nat.eq_of_beq_eq_true hb
    refine Calls.mono (Any8.slices_Grow_room Tryz.growL none 0 0 0 w (by omega) (by omega) (by omega) (by omega)) ?_
    rintro e w' ⟨rfl,rfl⟩
    have:=hR .nils h nx r w' hF H (.refl r h w') (by simp [okV])
    simpa [conc] using this
   | false =>
    rw [hb] at hF
    obtain ⟨hle,hF⟩:=brec hF
    have hle:=Nat.le_of_ble_eq_true hle
    have hpos:0<n:=by
     rcases Nat.eq_zero_or_pos n with rfl | h
     ·cases hb
     ·exact h
    rw [forceL_iff,T.setK_iff,succK_iff] at hF
    obtain ⟨i0,z,hz,hi,hz0,hlone,hsz,hby⟩:∃ j z,zeroA Tryz.prog 40=some (j,z,bind0)∧Tryz.prog.info? 40=some j∧j.zero=some z∧Lone bind0 z∧j.size=9∧j.bytes≤1048576:=by
     have hI:(zeroA Tryz.prog 40).map (fun x=>(x.2.2,x.1.size,Nat.ble x.1.bytes 1048576))=some (bind0,9,true):=by kernel_rfl
     cases hj:zeroA Tryz.prog 40 with
     | none=>rw [hj] at hI; cases hI
     | some j =>
      obtain ⟨j,z,v⟩:=j
      rw [hj] at hI
      simp only [Option.map_some,Option.some.injEq,Prod.mk.injEq] at hI
      obtain ⟨rfl,h2,h3⟩:=hI
      obtain ⟨g1,g2,g3⟩:=zeroA_spec hj
      exact ⟨j,z,rfl,g1,g2,g3,h2,Nat.le_of_ble_eq_true h3⟩
    have h9:(cellsA bind0).length=9:=rfl
    have hbig:(0+n)*i0.bytes≤140737488355328:=Nat.le_trans (Nat.mul_le_mul (by omega:0+n≤1000000) hby) (by decide)
    have key:Calls Tryz.prog 153 #[.slice none 0 0,.int .i64 (n:Int)] w fun e w'=>e=.returned (.slice (some ⟨w.heap.size,0,none⟩) 0 (grownCap w (0+n) 0 40)) ∧
      w'=w.drew.alloc (.cells (([]:List Value).toArray ++ Builtin.zeroCells z.cells (0+n - 0) ++ Builtin.zeroCells z.cells (grownCap w (0+n) 0 40 - (0+n))) 40) :=
     Any8.slices_Grow_grow Tryz.growL i0 z hi hz0 (by rw [hsz]; decide) none 0 0 n [] w (Nat.le_refl _) (by omega) hbig (by omega) (by simp) (fun _=>rfl) (fun a h=>by cases h)
    have hg:0+n≤grownCap w (0+n) 0 40:=grownCap_ge w (0+n) 0 40
    generalize grownCap w (0+n) 0 40=cap at key hg
    refine Calls.mono key ?_
    rintro e w' ⟨rfl,rfl⟩
    obtain ⟨x,rfl⟩:∃ x,cap=n+x:=⟨cap - n,by omega⟩
    have e1:n+x - (0+n)=x:=by omega
    have e2:0+n - 0=n:=by omega
    rw [e1,e2]
    have hzs:z.cells.size=9:=by
     have hzc:z.cells=(concL r (cellsA bind0)).toArray:=by rw [← hlone.1 r,conc_cells]
     rw [hzc]; simp [concL_length,h9]
    obtain ⟨g1,g2⟩:=(H.drew (w.drawn+1)).alloc (.cells (zerosL (cellsA bind0) n) 40) x
     (.cells (([]:List Value).toArray ++ Builtin.zeroCells z.cells n ++ Builtin.zeroCells z.cells x) 40)
     (okL_zeros (okL_cells (hlone.2 _)) n) ⟨(Builtin.zeroCells z.cells x).toList,by
      congr 2
      apply Array.ext'
      rw [zeroCells_conc (r:=r.more nx w.heap.size x) hlone (by rw [h9]; decide) n]
      simp,by
      show _=(r.more nx w.heap.size x).ext nx*_
      rw [r.more_ext,Array.length_toList,zeroCells_size,sizeT_of hi,hsz,hzs]⟩
    have:=hR (.sl nx 0 0 n true) _ _ _ _ hF g1 ((Ev.drew _).trans g2) (by simp only [okV]; exact .inl rfl)
    have ec:conc (r.more nx w.heap.size x) (.sl nx 0 0 n true)=.slice (some ⟨w.heap.size,0,none⟩) 0 (n+x):=by
     simp only [conc,if_true,r.more_blk,r.more_ext]
    have ec':conc (r.more nx ({ w with drawn:=w.drawn+1 }:World).heap.size x) (.sl nx 0 0 n true)=.slice (some ⟨w.heap.size,0,none⟩) 0 (n+x):=ec
    rw [ec'] at this
    exact this
  ·exact hF.elim
end Go.Proofs.YtoijcpnfohjciaaGreatDoor.X
