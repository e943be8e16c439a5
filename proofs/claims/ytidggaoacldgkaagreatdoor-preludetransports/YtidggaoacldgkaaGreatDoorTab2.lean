/- The library's contract of slices.Grow, laid at this cut. -/
import Derived.Shelf.Spec.SlicesGrow
import Derived.Test.YtidggaoacldgkaaGreatDoorProg
import Derived.Test.YtidggaoacldgkaaGreatDoorXRA
import Derived.Test.YtidggaoacldgkaaGreatDoorTabC
import Derived.Test.YtidggaoacldgkaaGreatDoorXAS
import Derived.Test.YtidggaoacldgkaaGreatDoorXJE
namespace Go.Proofs
open Go.Shelf
def Tryz.growL_ren:Go.Shelf.Ren:=⟨fun | 4=>280 | n=>n,fun | 22=>24 | 25=>122 | 3=>3 | 4=>4 | 9=>9 | 20=>20 | 0=>0 | 2=>3 | n=>n,fun | n=>n⟩
theorem Tryz.growL:Go.Proofs.Lays8.n4 Tryz.prog Tryz.growL_ren:={
 mixed:=by kernel_rfl
 f4:=⟨Tryz.f280.name,by decide,Tryz.func280.trans (congrArg some (by kernel_rfl))⟩
 t0:=Tryz.underlying0
 a0:=Tryz.isAgg0
 z0:=Tryz.sizeOf0
 v0:=Tryz.zeroValue0
 t3:=Tryz.underlying3
 a3:=Tryz.isAgg3
 z3:=Tryz.sizeOf3
 v3:=Tryz.zeroValue3
 t4:=Tryz.underlying4
 a4:=Tryz.isAgg4
 z4:=Tryz.sizeOf4
 v4:=Tryz.zeroValue4
 t9:=Tryz.underlying9
 a9:=Tryz.isAgg9
 z9:=Tryz.sizeOf9
 v9:=Tryz.zeroValue9
 t20:=Tryz.underlying20
 a20:=Tryz.isAgg20
 z20:=Tryz.sizeOf20
 v20:=Tryz.zeroValue20
 t22:=Tryz.underlying24
 a22:=Tryz.isAgg24
 z22:=Tryz.sizeOf24
 v22:=Tryz.zeroValue24 }
end Go.Proofs

/- An executor for closed calls, 41: slices.Grow told, of no slice of pairs of integers. -/
namespace Go.Proofs.YtidggaoacldgkaaGreatDoor.X
open Go.RowKit Go.Sort Go.Shelf Go.Lib
def pairs0:Nat→List AV
 | 0=>[]
 | n+1=>.int .i64 (.ofNat 0) :: .int .i64 (.ofNat 0) :: pairs0 n
theorem pairs0_ok (m:Pt→Prop):∀ n,okL m (pairs0 n)
 | 0=>by simp [pairs0,okL]
 | n+1=>by simp only [pairs0,okL,okV,true_and]; exact pairs0_ok m n
theorem pairs0_conc (r:Rho):∀ n,concL r (pairs0 n)=List.replicate (n*2) (.int .i64 0)
 | 0=>by simp [pairs0,concL]
 | n+1=>by
  simp only [pairs0,concL,conc]
  rw [pairs0_conc r n,Nat.succ_mul,List.replicate_succ,List.replicate_succ]
  rfl
theorem zeros_two (n:Nat):(Builtin.zeroCells #[.int .i64 0,.int .i64 0] n).toList=List.replicate (n*2) (.int .i64 0):=by
 refine List.eq_replicate_iff.2 ⟨by rw [Array.length_toList,zeroCells_size]; rfl,fun b hb=>?_⟩
 simp only [Builtin.zeroCells,Array.toList_map,List.mem_map] at hb
 obtain ⟨i,-,rfl⟩:=hb
 have h2:i % 2=0∨i % 2=1:=Nat.mod_two_eq_zero_or_one i
 show (#[Value.int .i64 0,Value.int .i64 0])[i % 2]! = _
 rcases h2 with h | h <;> rw [h] <;> rfl
def growAF:AF:=⟨fun _ tm h nx K=>match tm.find s2 with
 | none=>tm.getK s0 fun x=>tm.getK s1 fun y=>match x,y with
  | .nils,.int .i64 (.ofNat n)=>Bool.rec (motive:=fun _=>Prop)
    (Bool.rec (motive:=fun _=>Prop) False (forceL (pairs0 n) fun us=>h.setK (.cells us 122) nx fun h'=>succK nx fun n'=>tm.setK (.sl nx 0 0 n true) s0 fun tm=>K .ret tm h' n') (Nat.ble n 1000000))
    (K .ret tm h nx) (Nat.beq n 0)
  | _,_=>False
 | some _=>False,[.t s0]⟩
set_option maxRecDepth 100000 in
theorem grow_sem:FunSem Tryz.prog 280 growAF:=by
 intro w0 ch hcur hch args h nx K r w R hk hE H ha hR _
 obtain ⟨tm,h1,h2,h3,h4⟩:=argsK_full hk
 refine ⟨⟨_,_,Tryz.func280,by kernel_rfl,rfl⟩,?_⟩
 have h1:(match tm.find s2 with
  | none=>tm.getK s0 fun x=>tm.getK s1 fun y=>match x,y with
   | .nils,.int .i64 (.ofNat n)=>Bool.rec (motive:=fun _=>Prop)
     (Bool.rec (motive:=fun _=>Prop) False (forceL (pairs0 n) fun us=>h.setK (.cells us 122) nx fun h'=>succK nx fun n'=>tm.setK (.sl nx 0 0 n true) s0 fun tm=>retK growAF.res K .ret tm h' n') (Nat.ble n 1000000))
     (retK growAF.res K .ret tm h nx) (Nat.beq n 0)
   | _,_=>False
  | some _=>False):=h1
 split at h1
 ·rename_i hn
  rw [S.getK_iff] at h1
  obtain ⟨x,hx,h1⟩:=h1
  rw [S.getK_iff] at h1
  obtain ⟨y,hy,h1⟩:=h1
  have hargs:args=[x,y]:=by
   match args,h3,h4 with
   | [],_,h4=>have:=h4 s0 (Nat.zero_le _); rw [hx,S.find_l] at this; cases this
   | [a],_,h4=>have:=h4 s1 (Nat.le_refl _); rw [hy,S.find_l] at this; cases this
   | [a,b],h3,_ =>
    have h5:=h3 s0 0 a rfl rfl
    have h6:=h3 s1 1 b rfl rfl
    rw [hx] at h5; rw [hy] at h6; cases h5; cases h6; rfl
   | a :: b :: c :: l,h3,_=>have:=h3 s2 2 c rfl rfl; rw [hn] at this; cases this
  subst hargs
  split at h1
  ·rename_i n
   have ea:(concL r [AV.nils,.int .i64 (.ofNat n)]).toArray=#[.slice none 0 0,.int .i64 (n:Int)]:=by simp [concL,conc]
   rw [ea]
   cases hb:Nat.beq n 0 with
   | true =>
    rw [hb] at h1
    obtain rfl:=Nat.eq_of_beq_eq_true hb
    have h1:(tm.getK s0 fun v=>K v h nx):=h1
    rw [S.getK_iff] at h1
    obtain ⟨v,hv,h1⟩:=h1
    rw [hx] at hv; cases hv
    refine Calls.mono (Any8.slices_Grow_room Tryz.growL none 0 0 0 w (by omega) (by omega) (by omega) (by omega)) ?_
    rintro e w' ⟨rfl,rfl⟩
    have:=hR .nils h nx r w' h1 H (.refl r h w') (by simp [okV])
    simpa [conc] using this
   | false =>
    rw [hb] at h1
    obtain ⟨hle,h1⟩:=brec h1
    have hle:=Nat.le_of_ble_eq_true hle
    have hpos:0<n:=by
     rcases Nat.eq_zero_or_pos n with rfl | h
     ·cases hb
     ·exact h
    rw [forceL_iff,T.setK_iff,succK_iff,S.setK_iff] at h1
    have h1:((tm.set (.sl nx 0 0 n true) s0).getK s0 fun v=>K v (h.set (.cells (pairs0 n) 122) nx) nx.succ):=h1
    rw [S.getK_iff,S.find_set] at h1
    obtain ⟨v,hv,h1⟩:=h1
    cases hv
    obtain ⟨i0,hi,hz0,hz1,hz2⟩:∃ j,Tryz.prog.info? 122=some j∧j.zero=some (.agg #[.int .i64 0,.int .i64 0])∧j.size=2∧j.bytes=16:=by
     have hI:(Tryz.prog.info? 122).map (fun i=>(i.zero,i.size,i.bytes))=some (some (.agg #[.int .i64 0,.int .i64 0]),2,16):=by kernel_rfl
     cases hj:Tryz.prog.info? 122 with
     | none=>rw [hj] at hI; cases hI
     | some j =>
      rw [hj] at hI
      simp only [Option.map_some,Option.some.injEq,Prod.mk.injEq] at hI
      exact ⟨j,rfl,hI.1,hI.2.1,hI.2.2⟩
    have key:Calls Tryz.prog 280 #[.slice none 0 0,.int .i64 (n:Int)] w fun e w'=>e=.returned (.slice (some ⟨w.heap.size,0,none⟩) 0 (grownCap w (0+n) 0 122)) ∧
      w'=w.drew.alloc (.cells (([]:List Value).toArray ++ Builtin.zeroCells #[.int .i64 0,.int .i64 0] (0+n - 0) ++ Builtin.zeroCells #[.int .i64 0,.int .i64 0] (grownCap w (0+n) 0 122 - (0+n))) 122) :=
     Any8.slices_Grow_grow Tryz.growL i0 (.agg #[.int .i64 0,.int .i64 0]) hi hz0 (by rw [hz1]; decide) none 0 0 n [] w (Nat.le_refl _) (by omega) (by rw [hz2]; omega) (by omega) (by simp) (fun _=>rfl) (fun a h=>by cases h)
    have hg:0+n≤grownCap w (0+n) 0 122:=grownCap_ge w (0+n) 0 122
    generalize grownCap w (0+n) 0 122=cap at key hg
    refine Calls.mono key ?_
    rintro e w' ⟨rfl,rfl⟩
    obtain ⟨x,rfl⟩:∃ x,cap=n+x:=⟨cap - n,by omega⟩
    have e1:n+x - (0+n)=x:=by omega
    have e2:0+n - 0=n:=by omega
    rw [e1,e2]
    obtain ⟨g1,g2⟩:=(H.drew (w.drawn+1)).alloc (.cells (pairs0 n) 122) x
     (.cells (([]:List Value).toArray ++ Builtin.zeroCells #[.int .i64 0,.int .i64 0] n ++ Builtin.zeroCells #[.int .i64 0,.int .i64 0] x) 122)
     (pairs0_ok _ n) ⟨(Builtin.zeroCells #[.int .i64 0,.int .i64 0] x).toList,by
      congr 2
      apply Array.ext'
      rw [pairs0_conc,← zeros_two n]
      simp,by
      show _=(r.more nx w.heap.size x).ext nx*_
      rw [r.more_ext,Array.length_toList,zeroCells_size,sizeT_of hi,hz1]; rfl⟩
    have:=hR (.sl nx 0 0 n true) _ _ _ _ h1 g1 ((Ev.drew _).trans g2) (by simp only [okV]; exact .inl rfl)
    have ec:conc (r.more nx w.heap.size x) (.sl nx 0 0 n true)=.slice (some ⟨w.heap.size,0,none⟩) 0 (n+x):=by
     simp only [conc,if_true,r.more_blk,r.more_ext]
    have ec':conc (r.more nx ({ w with drawn:=w.drawn+1 }:World).heap.size x) (.sl nx 0 0 n true)=.slice (some ⟨w.heap.size,0,none⟩) 0 (n+x):=ec
    rw [ec'] at this
    exact this
  ·exact h1.elim
 ·exact h1.elim
end Go.Proofs.YtidggaoacldgkaaGreatDoor.X

/- The table of functions. -/
set_option maxRecDepth 100000
namespace Go.Proofs.YtidggaoacldgkaaGreatDoor.X
open Go.RowKit
def funs:T AF:=(.m (.m (.n (.n (.n (.n (.n (.n (.n .l af255 .l) af127 (.n .l af383 .l)) af63 (.n (.n .l af319 .l) af191 .l)) joinAF (.n (.n (.n .l af287 .l) af159 (.n .l af415 .l)) af95 (.n (.n .l af351 .l) af223 .l))) af15 (.n (.n (.n (.n .l af271 .l) af143 (.n .l af399 .l)) af79 (.n (.n .l af335 .l) af207 .l)) af47 (.n (.n (.n .l af303 .l) af175 .l) af111 (.n (.n .l af367 .l) af239 .l)))) af7 (.n (.n (.n (.n (.n .l af263 .l) af135 (.n .l af391 .l)) af71 (.n (.n .l af327 .l) af199 .l)) af39 (.n (.n (.n .l af295 .l) af167 .l) af103 (.n (.n .l af359 .l) af231 .l))) af23 (.n (.n (.n (.n .l af279 .l) af151 (.n .l af407 .l)) af87 (.n (.n .l af343 .l) af215 .l)) af55 (.n (.n (.n .l af311 .l) af183 .l) af119 (.n (.n .l af375 .l) af247 .l))))) af3 (.n (.n (.n (.n (.n (.n .l af259 .l) af131 (.n .l af387 .l)) af67 (.n (.n .l af323 .l) af195 .l)) af35 (.n (.m (.n .l af291 .l) (.n .l af419 .l)) af99 (.n (.n .l af355 .l) af227 .l))) af19 (.n (.n (.n (.n .l af275 .l) af147 (.n .l af403 .l)) asAF (.n (.n .l af339 .l) af211 .l)) af51 (.n (.n (.n .l af307 .l) af179 .l) af115 (.n (.n .l af371 .l) af243 .l)))) af11 (.n (.n (.n (.n (.n .l af267 .l) af139 (.n .l af395 .l)) af75 (.n (.n .l af331 .l) af203 .l)) af43 (.n (.n (.n .l af299 .l) af171 .l) af107 (.n (.n .l af363 .l) af235 .l))) af27 (.n (.n (.n (.n .l af283 .l) af155 (.n .l af411 .l)) af91 (.n (.n .l af347 .l) af219 .l)) af59 (.m (.n (.n .l af315 .l) af187 .l) (.n (.n .l af379 .l) af251 .l)))))) (.n (.n (.n (.n (.n (.n (.n .l af257 .l) af129 (.n .l af385 .l)) af65 (.n (.n .l af321 .l) af193 .l)) af33 (.n (.m (.n .l af289 .l) (.n .l af417 .l)) af97 (.n (.n .l af353 .l) af225 .l))) af17 (.n (.n (.n (.n .l af273 .l) af145 (.n .l af401 .l)) af81 (.n (.n .l af337 .l) af209 .l)) af49 (.n (.n (.n .l af305 .l) af177 .l) af113 (.n (.n .l af369 .l) af241 .l)))) af9 (.n (.n (.n (.n (.n .l af265 .l) af137 (.n .l af393 .l)) af73 (.n (.n .l af329 .l) af201 .l)) af41 (.n (.n (.n .l af297 .l) af169 .l) af105 (.n (.n .l af361 .l) af233 .l))) af25 (.n (.n (.n .l af153 (.n .l af409 .l)) af89 (.n (.n .l af345 .l) af217 .l)) af57 (.m (.n (.n .l af313 .l) af185 .l) (.n (.n .l af377 .l) af249 .l))))) af5 (.n (.n (.n (.n (.n (.n .l af261 .l) af133 (.n .l af389 .l)) af69 (.n (.n .l af325 .l) af197 .l)) af37 (.n (.n (.n .l af293 .l) af165 (.n .l af421 .l)) af101 (.n (.n .l af357 .l) af229 .l))) af21 (.n (.m (.n (.n .l af277 .l) af149 (.n .l af405 .l)) (.n (.n .l af341 .l) af213 .l)) af53 (.n (.n (.n .l af309 .l) af181 .l) af117 (.n (.n .l af373 .l) af245 .l)))) af13 (.n (.n (.n (.n (.n .l af269 .l) af141 (.n .l af397 .l)) af77 (.n (.n .l af333 .l) af205 .l)) af45 (.n (.n (.n .l af301 .l) af173 .l) af109 (.n (.n .l af365 .l) af237 .l))) af29 (.n (.n (.n (.n .l af285 .l) af157 (.n .l af413 .l)) af93 (.n (.n .l af349 .l) af221 .l)) af61 (.n (.n (.n .l af317 .l) af189 .l) af125 (.n (.n .l af381 .l) af253 .l))))))) (.m (.n (.n (.n (.n (.n (.n (.n .l af256 .l) af128 (.n .l af384 .l)) af64 (.n (.n .l af320 .l) af192 .l)) af32 (.n (.n (.n .l af288 .l) af160 (.n .l af416 .l)) af96 (.n (.n .l af352 .l) af224 .l))) af16 (.n (.n (.n (.n .l af272 .l) af144 (.n .l af400 .l)) af80 (.n (.n .l af336 .l) af208 .l)) af48 (.n (.n (.n .l af304 .l) af176 .l) af112 (.n (.n .l af368 .l) af240 .l)))) af8 (.n (.n (.n (.n (.n .l af264 .l) af136 (.n .l af392 .l)) meetsAF (.n (.n .l af328 .l) af200 .l)) tryAF40 (.n (.n (.n .l af296 .l) af168 .l) af104 (.n (.n .l af360 .l) af232 .l))) af24 (.n (.n (.n (.n .l growAF .l) af152 (.n .l af408 .l)) af88 (.n (.n .l af344 .l) af216 .l)) af56 (.m (.n (.n .l af312 .l) af184 .l) (.n (.n .l af376 .l) af248 .l))))) af4 (.n (.n (.n (.n (.n (.n .l af260 .l) af132 (.n .l af388 .l)) af68 (.n (.n .l af324 .l) af196 .l)) af36 (.n (.m (.n .l af292 .l) (.n .l af420 .l)) af100 (.n (.n .l af356 .l) af228 .l))) af20 (.n (.n (.n (.n .l af276 .l) af148 (.n .l af404 .l)) af84 (.n (.n .l af340 .l) af212 .l)) af52 (.n (.n (.n .l af308 .l) af180 .l) tryAF116 (.n (.n .l af372 .l) af244 .l)))) af12 (.n (.n (.n (.n (.n .l af268 .l) af140 (.n .l af396 .l)) af76 (.n (.n .l af332 .l) af204 .l)) af44 (.n (.n (.n .l af300 .l) af172 .l) af108 (.n (.n .l af364 .l) af236 .l))) af28 (.n (.n (.n (.n .l af284 .l) af156 (.n .l af412 .l)) af92 (.n (.n .l af348 .l) af220 .l)) af60 (.n (.n (.n .l af316 .l) af188 .l) af124 (.n (.n .l af380 .l) af252 .l)))))) (.n (.n (.n (.n (.n (.n (.n .l af258 .l) af130 (.n .l af386 .l)) af66 (.n (.n .l af322 .l) af194 .l)) af34 (.n (.m (.n .l af290 .l) (.n .l af418 .l)) af98 (.n (.n .l af354 .l) af226 .l))) af18 (.n (.n (.n (.n .l af274 .l) af146 (.n .l af402 .l)) af82 (.n (.n .l af338 .l) af210 .l)) af50 (.n (.n (.n .l af306 .l) af178 .l) af114 (.n (.n .l af370 .l) af242 .l)))) af10 (.n (.n (.n (.n (.n .l af266 .l) af138 (.n .l af394 .l)) af74 (.n (.n .l af330 .l) af202 .l)) af42 (.n (.n (.n .l af298 .l) af170 .l) af106 (.n (.n .l af362 .l) af234 .l))) af26 (.n (.n (.n .l af154 (.n .l af410 .l)) af90 (.n (.n .l af346 .l) af218 .l)) af58 (.m (.n (.n .l af314 .l) af186 .l) (.n (.n .l af378 .l) tryAF250 .l))))) af6 (.n (.n (.n (.n (.n (.n .l af262 .l) af134 (.n .l af390 .l)) af70 (.n (.n .l af326 .l) af198 .l)) af38 (.n (.n (.n .l af294 .l) af166 .l) af102 (.n (.n .l af358 .l) af230 .l))) af22 (.n (.m (.n (.n .l af278 .l) af150 (.n .l af406 .l)) (.n (.n .l af342 .l) af214 .l)) af54 (.n (.n (.n .l af310 .l) af182 .l) af118 (.n (.n .l af374 .l) tryAF246 .l)))) af14 (.n (.n (.n (.n (.n .l af270 .l) af142 (.n .l af398 .l)) af78 (.n (.n .l af334 .l) af206 .l)) af46 (.n (.n (.n .l af302 .l) af174 .l) af110 (.n (.n .l af366 .l) af238 .l))) af30 (.n (.n (.n (.n .l af286 .l) af158 (.n .l af414 .l)) af94 (.n (.n .l af350 .l) af222 .l)) af62 (.n (.n (.n .l af318 .l) af190 .l) af126 (.n (.n .l af382 .l) af254 .l))))))))
theorem funs_ok:FunsOk Tryz.prog funs:=TabOk.funs (.m (.m (.n ok3 (.n ok7 (.n ok15 (.n join_sem (.n ok63 (.n ok127 (.n ok255 .l .l) (.n ok383 .l .l)) (.n ok191 (.n ok319 .l .l) .l)) (.n ok95 (.n ok159 (.n ok287 .l .l) (.n ok415 .l .l)) (.n ok223 (.n ok351 .l .l) .l))) (.n ok47 (.n ok79 (.n ok143 (.n ok271 .l .l) (.n ok399 .l .l)) (.n ok207 (.n ok335 .l .l) .l)) (.n ok111 (.n ok175 (.n ok303 .l .l) .l) (.n ok239 (.n ok367 .l .l) .l)))) (.n ok23 (.n ok39 (.n ok71 (.n ok135 (.n ok263 .l .l) (.n ok391 .l .l)) (.n ok199 (.n ok327 .l .l) .l)) (.n ok103 (.n ok167 (.n ok295 .l .l) .l) (.n ok231 (.n ok359 .l .l) .l))) (.n ok55 (.n ok87 (.n ok151 (.n ok279 .l .l) (.n ok407 .l .l)) (.n ok215 (.n ok343 .l .l) .l)) (.n ok119 (.n ok183 (.n ok311 .l .l) .l) (.n ok247 (.n ok375 .l .l) .l))))) (.n ok11 (.n ok19 (.n ok35 (.n ok67 (.n ok131 (.n ok259 .l .l) (.n ok387 .l .l)) (.n ok195 (.n ok323 .l .l) .l)) (.n ok99 (.m (.n ok291 .l .l) (.n ok419 .l .l)) (.n ok227 (.n ok355 .l .l) .l))) (.n ok51 (.n as_sem (.n ok147 (.n ok275 .l .l) (.n ok403 .l .l)) (.n ok211 (.n ok339 .l .l) .l)) (.n ok115 (.n ok179 (.n ok307 .l .l) .l) (.n ok243 (.n ok371 .l .l) .l)))) (.n ok27 (.n ok43 (.n ok75 (.n ok139 (.n ok267 .l .l) (.n ok395 .l .l)) (.n ok203 (.n ok331 .l .l) .l)) (.n ok107 (.n ok171 (.n ok299 .l .l) .l) (.n ok235 (.n ok363 .l .l) .l))) (.n ok59 (.n ok91 (.n ok155 (.n ok283 .l .l) (.n ok411 .l .l)) (.n ok219 (.n ok347 .l .l) .l)) (.m (.n ok187 (.n ok315 .l .l) .l) (.n ok251 (.n ok379 .l .l) .l)))))) (.n ok5 (.n ok9 (.n ok17 (.n ok33 (.n ok65 (.n ok129 (.n ok257 .l .l) (.n ok385 .l .l)) (.n ok193 (.n ok321 .l .l) .l)) (.n ok97 (.m (.n ok289 .l .l) (.n ok417 .l .l)) (.n ok225 (.n ok353 .l .l) .l))) (.n ok49 (.n ok81 (.n ok145 (.n ok273 .l .l) (.n ok401 .l .l)) (.n ok209 (.n ok337 .l .l) .l)) (.n ok113 (.n ok177 (.n ok305 .l .l) .l) (.n ok241 (.n ok369 .l .l) .l)))) (.n ok25 (.n ok41 (.n ok73 (.n ok137 (.n ok265 .l .l) (.n ok393 .l .l)) (.n ok201 (.n ok329 .l .l) .l)) (.n ok105 (.n ok169 (.n ok297 .l .l) .l) (.n ok233 (.n ok361 .l .l) .l))) (.n ok57 (.n ok89 (.n ok153 .l (.n ok409 .l .l)) (.n ok217 (.n ok345 .l .l) .l)) (.m (.n ok185 (.n ok313 .l .l) .l) (.n ok249 (.n ok377 .l .l) .l))))) (.n ok13 (.n ok21 (.n ok37 (.n ok69 (.n ok133 (.n ok261 .l .l) (.n ok389 .l .l)) (.n ok197 (.n ok325 .l .l) .l)) (.n ok101 (.n ok165 (.n ok293 .l .l) (.n ok421 .l .l)) (.n ok229 (.n ok357 .l .l) .l))) (.n ok53 (.m (.n ok149 (.n ok277 .l .l) (.n ok405 .l .l)) (.n ok213 (.n ok341 .l .l) .l)) (.n ok117 (.n ok181 (.n ok309 .l .l) .l) (.n ok245 (.n ok373 .l .l) .l)))) (.n ok29 (.n ok45 (.n ok77 (.n ok141 (.n ok269 .l .l) (.n ok397 .l .l)) (.n ok205 (.n ok333 .l .l) .l)) (.n ok109 (.n ok173 (.n ok301 .l .l) .l) (.n ok237 (.n ok365 .l .l) .l))) (.n ok61 (.n ok93 (.n ok157 (.n ok285 .l .l) (.n ok413 .l .l)) (.n ok221 (.n ok349 .l .l) .l)) (.n ok125 (.n ok189 (.n ok317 .l .l) .l) (.n ok253 (.n ok381 .l .l) .l))))))) (.m (.n ok4 (.n ok8 (.n ok16 (.n ok32 (.n ok64 (.n ok128 (.n ok256 .l .l) (.n ok384 .l .l)) (.n ok192 (.n ok320 .l .l) .l)) (.n ok96 (.n ok160 (.n ok288 .l .l) (.n ok416 .l .l)) (.n ok224 (.n ok352 .l .l) .l))) (.n ok48 (.n ok80 (.n ok144 (.n ok272 .l .l) (.n ok400 .l .l)) (.n ok208 (.n ok336 .l .l) .l)) (.n ok112 (.n ok176 (.n ok304 .l .l) .l) (.n ok240 (.n ok368 .l .l) .l)))) (.n ok24 (.n try_ok40 (.n meets_sem (.n ok136 (.n ok264 .l .l) (.n ok392 .l .l)) (.n ok200 (.n ok328 .l .l) .l)) (.n ok104 (.n ok168 (.n ok296 .l .l) .l) (.n ok232 (.n ok360 .l .l) .l))) (.n ok56 (.n ok88 (.n ok152 (.n grow_sem .l .l) (.n ok408 .l .l)) (.n ok216 (.n ok344 .l .l) .l)) (.m (.n ok184 (.n ok312 .l .l) .l) (.n ok248 (.n ok376 .l .l) .l))))) (.n ok12 (.n ok20 (.n ok36 (.n ok68 (.n ok132 (.n ok260 .l .l) (.n ok388 .l .l)) (.n ok196 (.n ok324 .l .l) .l)) (.n ok100 (.m (.n ok292 .l .l) (.n ok420 .l .l)) (.n ok228 (.n ok356 .l .l) .l))) (.n ok52 (.n ok84 (.n ok148 (.n ok276 .l .l) (.n ok404 .l .l)) (.n ok212 (.n ok340 .l .l) .l)) (.n try_ok116 (.n ok180 (.n ok308 .l .l) .l) (.n ok244 (.n ok372 .l .l) .l)))) (.n ok28 (.n ok44 (.n ok76 (.n ok140 (.n ok268 .l .l) (.n ok396 .l .l)) (.n ok204 (.n ok332 .l .l) .l)) (.n ok108 (.n ok172 (.n ok300 .l .l) .l) (.n ok236 (.n ok364 .l .l) .l))) (.n ok60 (.n ok92 (.n ok156 (.n ok284 .l .l) (.n ok412 .l .l)) (.n ok220 (.n ok348 .l .l) .l)) (.n ok124 (.n ok188 (.n ok316 .l .l) .l) (.n ok252 (.n ok380 .l .l) .l)))))) (.n ok6 (.n ok10 (.n ok18 (.n ok34 (.n ok66 (.n ok130 (.n ok258 .l .l) (.n ok386 .l .l)) (.n ok194 (.n ok322 .l .l) .l)) (.n ok98 (.m (.n ok290 .l .l) (.n ok418 .l .l)) (.n ok226 (.n ok354 .l .l) .l))) (.n ok50 (.n ok82 (.n ok146 (.n ok274 .l .l) (.n ok402 .l .l)) (.n ok210 (.n ok338 .l .l) .l)) (.n ok114 (.n ok178 (.n ok306 .l .l) .l) (.n ok242 (.n ok370 .l .l) .l)))) (.n ok26 (.n ok42 (.n ok74 (.n ok138 (.n ok266 .l .l) (.n ok394 .l .l)) (.n ok202 (.n ok330 .l .l) .l)) (.n ok106 (.n ok170 (.n ok298 .l .l) .l) (.n ok234 (.n ok362 .l .l) .l))) (.n ok58 (.n ok90 (.n ok154 .l (.n ok410 .l .l)) (.n ok218 (.n ok346 .l .l) .l)) (.m (.n ok186 (.n ok314 .l .l) .l) (.n try_ok250 (.n ok378 .l .l) .l))))) (.n ok14 (.n ok22 (.n ok38 (.n ok70 (.n ok134 (.n ok262 .l .l) (.n ok390 .l .l)) (.n ok198 (.n ok326 .l .l) .l)) (.n ok102 (.n ok166 (.n ok294 .l .l) .l) (.n ok230 (.n ok358 .l .l) .l))) (.n ok54 (.m (.n ok150 (.n ok278 .l .l) (.n ok406 .l .l)) (.n ok214 (.n ok342 .l .l) .l)) (.n ok118 (.n ok182 (.n ok310 .l .l) .l) (.n try_ok246 (.n ok374 .l .l) .l)))) (.n ok30 (.n ok46 (.n ok78 (.n ok142 (.n ok270 .l .l) (.n ok398 .l .l)) (.n ok206 (.n ok334 .l .l) .l)) (.n ok110 (.n ok174 (.n ok302 .l .l) .l) (.n ok238 (.n ok366 .l .l) .l))) (.n ok62 (.n ok94 (.n ok158 (.n ok286 .l .l) (.n ok414 .l .l)) (.n ok222 (.n ok350 .l .l) .l)) (.n ok126 (.n ok190 (.n ok318 .l .l) .l) (.n ok254 (.n ok382 .l .l) .l))))))))
end Go.Proofs.YtidggaoacldgkaaGreatDoor.X

/- The table of functions, the example of chapter 11 told. -/
set_option maxRecDepth 100000
namespace Go.Proofs.YtidggaoacldgkaaGreatDoor.X
open Go.RowKit
def funs2:T AF:=(.m (.m (.n (.n (.n (.n (.n (.n (.n .l af255 .l) af127 (.n .l af383 .l)) af63 (.n (.n .l af319 .l) af191 .l)) joinAF (.n (.n (.n .l af287 .l) af159 (.n .l af415 .l)) af95 (.n (.n .l af351 .l) af223 .l))) af15 (.n (.n (.n (.n .l af271 .l) af143 (.n .l af399 .l)) af79 (.n (.n .l af335 .l) af207 .l)) af47 (.n (.n (.n .l af303 .l) af175 .l) af111 (.n (.n .l af367 .l) af239 .l)))) af7 (.n (.n (.n (.n (.n .l af263 .l) af135 (.n .l af391 .l)) af71 (.n (.n .l af327 .l) af199 .l)) af39 (.n (.n (.n .l af295 .l) af167 .l) af103 (.n (.n .l af359 .l) af231 .l))) af23 (.n (.n (.n (.n .l af279 .l) af151 (.n .l af407 .l)) af87 (.n (.n .l af343 .l) af215 .l)) af55 (.n (.n (.n .l af311 .l) af183 .l) af119 (.n (.n .l af375 .l) af247 .l))))) af3 (.n (.n (.n (.n (.n (.n .l af259 .l) af131 (.n .l af387 .l)) af67 (.n (.n .l af323 .l) af195 .l)) af35 (.n (.m (.n .l af291 .l) (.n .l af419 .l)) af99 (.n (.n .l af355 .l) af227 .l))) af19 (.n (.n (.n (.n .l af275 .l) af147 (.n .l af403 .l)) asAF (.n (.n .l af339 .l) af211 .l)) af51 (.n (.n (.n .l af307 .l) af179 .l) af115 (.n (.n .l af371 .l) af243 .l)))) af11 (.n (.n (.n (.n (.n .l af267 .l) af139 (.n .l af395 .l)) af75 (.n (.n .l af331 .l) af203 .l)) af43 (.n (.n (.n .l af299 .l) af171 .l) af107 (.n (.n .l af363 .l) af235 .l))) af27 (.n (.n (.n (.n .l af283 .l) af155 (.n .l af411 .l)) af91 (.n (.n .l af347 .l) af219 .l)) af59 (.m (.n (.n .l af315 .l) af187 .l) (.n (.n .l af379 .l) af251 .l)))))) (.n (.n (.n (.n (.n (.n (.n .l af257 .l) af129 (.n .l af385 .l)) af65 (.n (.n .l af321 .l) af193 .l)) af33 (.n (.m (.n .l af289 .l) (.n .l af417 .l)) af97 (.n (.n .l af353 .l) af225 .l))) af17 (.n (.n (.n (.n .l af273 .l) af145 (.n .l af401 .l)) af81 (.n (.n .l af337 .l) af209 .l)) af49 (.n (.n (.n .l af305 .l) af177 .l) af113 (.n (.n .l af369 .l) af241 .l)))) af9 (.n (.n (.n (.n (.n .l af265 .l) af137 (.n .l af393 .l)) af73 (.n (.n .l af329 .l) af201 .l)) af41 (.n (.n (.n .l af297 .l) af169 .l) af105 (.n (.n .l af361 .l) af233 .l))) af25 (.n (.n (.n .l af153 (.n .l af409 .l)) af89 (.n (.n .l af345 .l) af217 .l)) af57 (.m (.n (.n .l af313 .l) af185 .l) (.n (.n .l af377 .l) af249 .l))))) af5 (.n (.n (.n (.n (.n (.n .l af261 .l) af133 (.n .l af389 .l)) af69 (.n (.n .l af325 .l) af197 .l)) af37 (.n (.n (.n .l af293 .l) af165 (.n .l af421 .l)) af101 (.n (.n .l af357 .l) af229 .l))) af21 (.n (.m (.n (.n .l af277 .l) af149 (.n .l af405 .l)) (.n (.n .l af341 .l) af213 .l)) af53 (.n (.n (.n .l af309 .l) af181 .l) af117 (.n (.n .l af373 .l) af245 .l)))) af13 (.n (.n (.n (.n (.n .l af269 .l) af141 (.n .l af397 .l)) af77 (.n (.n .l af333 .l) af205 .l)) af45 (.n (.n (.n .l af301 .l) af173 .l) af109 (.n (.n .l af365 .l) af237 .l))) af29 (.n (.n (.n (.n .l af285 .l) af157 (.n .l af413 .l)) af93 (.n (.n .l af349 .l) af221 .l)) af61 (.n (.n (.n .l af317 .l) af189 .l) af125 (.n (.n .l af381 .l) af253 .l))))))) (.m (.n (.n (.n (.n (.n (.n (.n .l af256 .l) af128 (.n .l af384 .l)) af64 (.n (.n .l af320 .l) af192 .l)) af32 (.n (.n (.n .l af288 .l) af160 (.n .l af416 .l)) af96 (.n (.n .l af352 .l) af224 .l))) af16 (.n (.n (.n (.n .l af272 .l) af144 (.n .l af400 .l)) af80 (.n (.n .l af336 .l) af208 .l)) af48 (.n (.n (.n .l af304 .l) af176 .l) af112 (.n (.n .l af368 .l) af240 .l)))) af8 (.n (.n (.n (.n (.n .l af264 .l) af136 (.n .l af392 .l)) meetsAF (.n (.n .l af328 .l) af200 .l)) tryAF40 (.n (.n (.n .l af296 .l) af168 .l) af104 (.n (.n .l af360 .l) af232 .l))) af24 (.n (.n (.n (.n .l growAF .l) af152 (.n .l af408 .l)) af88 (.n (.n .l af344 .l) af216 .l)) af56 (.m (.n (.n .l af312 .l) af184 .l) (.n (.n .l af376 .l) af248 .l))))) af4 (.n (.n (.n (.n (.n (.n .l af260 .l) af132 (.n .l af388 .l)) af68 (.n (.n .l af324 .l) af196 .l)) af36 (.n (.m (.n .l af292 .l) (.n .l af420 .l)) af100 (.n (.n .l af356 .l) af228 .l))) af20 (.n (.n (.n (.n .l af276 .l) af148 (.n .l af404 .l)) af84 (.n (.n .l af340 .l) af212 .l)) af52 (.n (.n (.n .l af308 .l) af180 .l) tryAF116 (.n (.n .l af372 .l) af244 .l)))) af12 (.n (.n (.n (.n (.n .l af268 .l) af140 (.n .l af396 .l)) af76 (.n (.n .l af332 .l) af204 .l)) af44 (.n (.n (.n .l af300 .l) af172 .l) af108 (.n (.n .l af364 .l) af236 .l))) af28 (.n (.n (.n (.n .l af284 .l) af156 (.n .l af412 .l)) af92 (.n (.n .l af348 .l) af220 .l)) af60 (.n (.n (.n .l af316 .l) af188 .l) af124 (.n (.n .l af380 .l) af252 .l)))))) (.n (.n (.n (.n (.n (.n (.n .l af258 .l) af130 (.n .l af386 .l)) af66 (.n (.n .l af322 .l) af194 .l)) af34 (.n (.m (.n .l af290 .l) (.n .l af418 .l)) af98 (.n (.n .l af354 .l) af226 .l))) af18 (.n (.n (.n (.n .l af274 .l) af146 (.n .l af402 .l)) af82 (.n (.n .l af338 .l) af210 .l)) af50 (.n (.n (.n .l af306 .l) af178 .l) af114 (.n (.n .l af370 .l) af242 .l)))) af10 (.n (.n (.n (.n (.n .l af266 .l) af138 (.n .l af394 .l)) af74 (.n (.n .l af330 .l) af202 .l)) af42 (.n (.n (.n .l af298 .l) af170 .l) af106 (.n (.n .l af362 .l) af234 .l))) af26 (.n (.n (.n .l af154 (.n .l af410 .l)) af90 (.n (.n .l af346 .l) af218 .l)) af58 (.m (.n (.n .l af314 .l) af186 .l) (.n (.n .l af378 .l) tryAF250 .l))))) af6 (.n (.n (.n (.n (.n (.n .l af262 .l) af134 (.n .l af390 .l)) af70 (.n (.n .l af326 .l) af198 .l)) af38 (.n (.n (.n .l af294 .l) af166 .l) af102 (.n (.n .l af358 .l) af230 .l))) af22 (.n (.m (.n (.n .l af278 .l) af150 (.n .l af406 .l)) (.n (.n .l af342 .l) af214 .l)) af54 (.n (.n (.n .l af310 .l) af182 .l) af118 (.n (.n .l af374 .l) tryAF246 .l)))) af14 (.n (.n (.n (.n (.n .l af270 .l) af142 (.n .l af398 .l)) af78 (.n (.n .l af334 .l) af206 .l)) af46 (.n (.n (.n .l af302 .l) af174 .l) af110 (.n (.n .l af366 .l) af238 .l))) af30 (.n (.n (.n (.n .l af286 .l) af158 (.n .l af414 .l)) af94 (.n (.n .l af350 .l) af222 .l)) af62 (.n (.n (.n .l af318 .l) af190 .l) af126 (.n (.n .l af382 .l) af254 .l))))))))
theorem funs2_ok:FunsOk Tryz.prog funs2:=TabOk.funs (.m (.m (.n ok3 (.n ok7 (.n ok15 (.n join_sem (.n ok63 (.n ok127 (.n ok255 .l .l) (.n ok383 .l .l)) (.n ok191 (.n ok319 .l .l) .l)) (.n ok95 (.n ok159 (.n ok287 .l .l) (.n ok415 .l .l)) (.n ok223 (.n ok351 .l .l) .l))) (.n ok47 (.n ok79 (.n ok143 (.n ok271 .l .l) (.n ok399 .l .l)) (.n ok207 (.n ok335 .l .l) .l)) (.n ok111 (.n ok175 (.n ok303 .l .l) .l) (.n ok239 (.n ok367 .l .l) .l)))) (.n ok23 (.n ok39 (.n ok71 (.n ok135 (.n ok263 .l .l) (.n ok391 .l .l)) (.n ok199 (.n ok327 .l .l) .l)) (.n ok103 (.n ok167 (.n ok295 .l .l) .l) (.n ok231 (.n ok359 .l .l) .l))) (.n ok55 (.n ok87 (.n ok151 (.n ok279 .l .l) (.n ok407 .l .l)) (.n ok215 (.n ok343 .l .l) .l)) (.n ok119 (.n ok183 (.n ok311 .l .l) .l) (.n ok247 (.n ok375 .l .l) .l))))) (.n ok11 (.n ok19 (.n ok35 (.n ok67 (.n ok131 (.n ok259 .l .l) (.n ok387 .l .l)) (.n ok195 (.n ok323 .l .l) .l)) (.n ok99 (.m (.n ok291 .l .l) (.n ok419 .l .l)) (.n ok227 (.n ok355 .l .l) .l))) (.n ok51 (.n as_sem (.n ok147 (.n ok275 .l .l) (.n ok403 .l .l)) (.n ok211 (.n ok339 .l .l) .l)) (.n ok115 (.n ok179 (.n ok307 .l .l) .l) (.n ok243 (.n ok371 .l .l) .l)))) (.n ok27 (.n ok43 (.n ok75 (.n ok139 (.n ok267 .l .l) (.n ok395 .l .l)) (.n ok203 (.n ok331 .l .l) .l)) (.n ok107 (.n ok171 (.n ok299 .l .l) .l) (.n ok235 (.n ok363 .l .l) .l))) (.n ok59 (.n ok91 (.n ok155 (.n ok283 .l .l) (.n ok411 .l .l)) (.n ok219 (.n ok347 .l .l) .l)) (.m (.n ok187 (.n ok315 .l .l) .l) (.n ok251 (.n ok379 .l .l) .l)))))) (.n ok5 (.n ok9 (.n ok17 (.n ok33 (.n ok65 (.n ok129 (.n ok257 .l .l) (.n ok385 .l .l)) (.n ok193 (.n ok321 .l .l) .l)) (.n ok97 (.m (.n ok289 .l .l) (.n ok417 .l .l)) (.n ok225 (.n ok353 .l .l) .l))) (.n ok49 (.n ok81 (.n ok145 (.n ok273 .l .l) (.n ok401 .l .l)) (.n ok209 (.n ok337 .l .l) .l)) (.n ok113 (.n ok177 (.n ok305 .l .l) .l) (.n ok241 (.n ok369 .l .l) .l)))) (.n ok25 (.n ok41 (.n ok73 (.n ok137 (.n ok265 .l .l) (.n ok393 .l .l)) (.n ok201 (.n ok329 .l .l) .l)) (.n ok105 (.n ok169 (.n ok297 .l .l) .l) (.n ok233 (.n ok361 .l .l) .l))) (.n ok57 (.n ok89 (.n ok153 .l (.n ok409 .l .l)) (.n ok217 (.n ok345 .l .l) .l)) (.m (.n ok185 (.n ok313 .l .l) .l) (.n ok249 (.n ok377 .l .l) .l))))) (.n ok13 (.n ok21 (.n ok37 (.n ok69 (.n ok133 (.n ok261 .l .l) (.n ok389 .l .l)) (.n ok197 (.n ok325 .l .l) .l)) (.n ok101 (.n ok165 (.n ok293 .l .l) (.n ok421 .l .l)) (.n ok229 (.n ok357 .l .l) .l))) (.n ok53 (.m (.n ok149 (.n ok277 .l .l) (.n ok405 .l .l)) (.n ok213 (.n ok341 .l .l) .l)) (.n ok117 (.n ok181 (.n ok309 .l .l) .l) (.n ok245 (.n ok373 .l .l) .l)))) (.n ok29 (.n ok45 (.n ok77 (.n ok141 (.n ok269 .l .l) (.n ok397 .l .l)) (.n ok205 (.n ok333 .l .l) .l)) (.n ok109 (.n ok173 (.n ok301 .l .l) .l) (.n ok237 (.n ok365 .l .l) .l))) (.n ok61 (.n ok93 (.n ok157 (.n ok285 .l .l) (.n ok413 .l .l)) (.n ok221 (.n ok349 .l .l) .l)) (.n ok125 (.n ok189 (.n ok317 .l .l) .l) (.n ok253 (.n ok381 .l .l) .l))))))) (.m (.n ok4 (.n ok8 (.n ok16 (.n ok32 (.n ok64 (.n ok128 (.n ok256 .l .l) (.n ok384 .l .l)) (.n ok192 (.n ok320 .l .l) .l)) (.n ok96 (.n ok160 (.n ok288 .l .l) (.n ok416 .l .l)) (.n ok224 (.n ok352 .l .l) .l))) (.n ok48 (.n ok80 (.n ok144 (.n ok272 .l .l) (.n ok400 .l .l)) (.n ok208 (.n ok336 .l .l) .l)) (.n ok112 (.n ok176 (.n ok304 .l .l) .l) (.n ok240 (.n ok368 .l .l) .l)))) (.n ok24 (.n try_ok40 (.n meets_sem (.n ok136 (.n ok264 .l .l) (.n ok392 .l .l)) (.n ok200 (.n ok328 .l .l) .l)) (.n ok104 (.n ok168 (.n ok296 .l .l) .l) (.n ok232 (.n ok360 .l .l) .l))) (.n ok56 (.n ok88 (.n ok152 (.n grow_sem .l .l) (.n ok408 .l .l)) (.n ok216 (.n ok344 .l .l) .l)) (.m (.n ok184 (.n ok312 .l .l) .l) (.n ok248 (.n ok376 .l .l) .l))))) (.n ok12 (.n ok20 (.n ok36 (.n ok68 (.n ok132 (.n ok260 .l .l) (.n ok388 .l .l)) (.n ok196 (.n ok324 .l .l) .l)) (.n ok100 (.m (.n ok292 .l .l) (.n ok420 .l .l)) (.n ok228 (.n ok356 .l .l) .l))) (.n ok52 (.n ok84 (.n ok148 (.n ok276 .l .l) (.n ok404 .l .l)) (.n ok212 (.n ok340 .l .l) .l)) (.n try_ok116 (.n ok180 (.n ok308 .l .l) .l) (.n ok244 (.n ok372 .l .l) .l)))) (.n ok28 (.n ok44 (.n ok76 (.n ok140 (.n ok268 .l .l) (.n ok396 .l .l)) (.n ok204 (.n ok332 .l .l) .l)) (.n ok108 (.n ok172 (.n ok300 .l .l) .l) (.n ok236 (.n ok364 .l .l) .l))) (.n ok60 (.n ok92 (.n ok156 (.n ok284 .l .l) (.n ok412 .l .l)) (.n ok220 (.n ok348 .l .l) .l)) (.n ok124 (.n ok188 (.n ok316 .l .l) .l) (.n ok252 (.n ok380 .l .l) .l)))))) (.n ok6 (.n ok10 (.n ok18 (.n ok34 (.n ok66 (.n ok130 (.n ok258 .l .l) (.n ok386 .l .l)) (.n ok194 (.n ok322 .l .l) .l)) (.n ok98 (.m (.n ok290 .l .l) (.n ok418 .l .l)) (.n ok226 (.n ok354 .l .l) .l))) (.n ok50 (.n ok82 (.n ok146 (.n ok274 .l .l) (.n ok402 .l .l)) (.n ok210 (.n ok338 .l .l) .l)) (.n ok114 (.n ok178 (.n ok306 .l .l) .l) (.n ok242 (.n ok370 .l .l) .l)))) (.n ok26 (.n ok42 (.n ok74 (.n ok138 (.n ok266 .l .l) (.n ok394 .l .l)) (.n ok202 (.n ok330 .l .l) .l)) (.n ok106 (.n ok170 (.n ok298 .l .l) .l) (.n ok234 (.n ok362 .l .l) .l))) (.n ok58 (.n ok90 (.n ok154 .l (.n ok410 .l .l)) (.n ok218 (.n ok346 .l .l) .l)) (.m (.n ok186 (.n ok314 .l .l) .l) (.n try_ok250 (.n ok378 .l .l) .l))))) (.n ok14 (.n ok22 (.n ok38 (.n ok70 (.n ok134 (.n ok262 .l .l) (.n ok390 .l .l)) (.n ok198 (.n ok326 .l .l) .l)) (.n ok102 (.n ok166 (.n ok294 .l .l) .l) (.n ok230 (.n ok358 .l .l) .l))) (.n ok54 (.m (.n ok150 (.n ok278 .l .l) (.n ok406 .l .l)) (.n ok214 (.n ok342 .l .l) .l)) (.n ok118 (.n ok182 (.n ok310 .l .l) .l) (.n try_ok246 (.n ok374 .l .l) .l)))) (.n ok30 (.n ok46 (.n ok78 (.n ok142 (.n ok270 .l .l) (.n ok398 .l .l)) (.n ok206 (.n ok334 .l .l) .l)) (.n ok110 (.n ok174 (.n ok302 .l .l) .l) (.n ok238 (.n ok366 .l .l) .l))) (.n ok62 (.n ok94 (.n ok158 (.n ok286 .l .l) (.n ok414 .l .l)) (.n ok222 (.n ok350 .l .l) .l)) (.n ok126 (.n ok190 (.n ok318 .l .l) .l) (.n ok254 (.n ok382 .l .l) .l))))))))
end Go.Proofs.YtidggaoacldgkaaGreatDoor.X
