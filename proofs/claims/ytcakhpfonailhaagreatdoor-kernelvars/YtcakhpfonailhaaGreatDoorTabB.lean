/- Functions of the program, as the executor runs them, and that they are the program's. -/
import Derived.Test.YtcakhpfonailhaaGreatDoorTabA
set_option maxRecDepth 100000
set_option linter.unusedVariables false
namespace Go.Proofs.YtcakhpfonailhaaGreatDoor.X
open Go.RowKit
def afG180 (o:Ops):AF:=⟨(dSeq (dOps (dV s2 (oBox 109 (.t s0))
(dV s3 (oBox 104 (.t s1))
(vC s4 .nili
dE))))
(dSeq (dSeq (dOps (dV s10 (o.ldN 5 (.t s2))
(dV s11 (o.ldN 1 (.t s3))
(dC (some s12) p79 [(.t s10),(.t s11)]
(vM s5 s12
dE)))))
(dSeq (dOps (vM s13 s5
(dV s14 (oEq .i true (.t s13) (.c .nili))
dE)))
(o.cond (.t s14) (dSeq (dOps (vM s15 s5
(vM s4 s15
dE)))
dRet) dSkip)))
(dSeq (dOps (dV s17 (o.ldN 5 (.t s2))
(dC (some s18) p45 [(.t s17)]
(vM s16 s18
(dV s19 (o.ext (.t s16) 0)
(dV s20 (o.ext (.t s16) 1)
(dV s6 (oNew [.nilp] 104)
(dU (o.st1 (.t s6) (.t s19))
(vM s7 s20
dE)))))))))
(dSeq (dSeq (dOps (vM s21 s7
(dV s22 (oEq .i true (.t s21) (.c .nili))
dE)))
(o.cond (.t s22) (dSeq (dOps (vM s23 s7
(vM s4 s23
dE)))
dRet) dSkip))
(dSeq (dOps (dV s25 (oMkf 215 [] [(.t s2),(.t s6),(.t s3)])
(dC (some s26) p214 [(.t s25)]
(vM s24 s26
(dV s27 (o.ext (.t s24) 0)
(dV s28 (o.ext (.t s24) 1)
(vM s8 s27
(vM s9 s28
dE))))))))
(dSeq (dSeq (dOps (vM s29 s9
(dV s30 (o.eql (.t s29) (.c (.int .i64 (.ofNat 0))))
(vM s31 s30
(o.g s31 true (some s32) (vM s32 s8)
(o.g s31 true (some s33) (dV s33 (o.not (.t s32)))
(dV s34 (o.pick (.t s31) (.t s33) (.c (.bool false)))
dE)))))))
(o.cond (.t s34) (dOps (vC s9 (.int .i64 (.ofNat 17))
dE)) dSkip))
(dSeq (dOps (vM s35 s9
(dC (some s36) p110 [(.t s35)]
(vM s4 s36
dE))))
dRet))))))),[(.t s4)]⟩
def af180:AF:=afG180 fastO
def afG181 (o:Ops):AF:=⟨(dSeq (dOps (dV s3 (oBox 290 (.t s0))
(dV s6 (oNew [.nilp] 104)
dE)))
(dSeq (dSeq (dOps (dV s7 (o.fa 0 (.t s3))
(dV s8 (o.ld1 (.t s7))
(dV s9 (o.nchk (.t s8))
(dV s10 (o.fa 0 (.t s9))
(dV s11 (o.fa 0 (.t s10))
(dV s12 (o.fa 2 (.t s11))
(dV s13 (o.ld1 (.t s12))
(vM s14 s1
(dC (some s15) p217 [(.t s13),(.t s14)]
(vM s16 s15
(o.g s16 true (some s17) (dV s17 (o.fa 0 (.t s3)))
(o.g s16 true (some s18) (dV s18 (o.ld1 (.t s17)))
(o.g s16 true (some s19) (dV s19 (o.nchk (.t s18)))
(o.g s16 true (some s20) (dV s20 (o.fa 5 (.t s19)))
(o.g s16 true (some s21) (dV s21 (o.fa 3 (.t s20)))
(o.g s16 true (some s22) (dV s22 (o.ld1 (.t s21)))
(o.g s16 true (some s23) (vM s23 s2)
(o.g s16 true (some s24) (dV s24 (o.neq (.t s22) (.t s23)))
(dV s25 (o.pick (.t s16) (.t s24) (.c (.bool false)))
dE))))))))))))))))))))
(o.cond (.t s25) (dDraw (lN s26 (o.fa 0 (.t s3))
(lN s27 (o.ld1 (.t s26))
(lM s28 s1
(lN s29 (o.fa 0 (.t s3))
(lN s30 (o.ld1 (.t s29))
(lM s31 s2
(lN s32 (o.nchk (.t s27))
(lN s33 (o.fa 5 (.t s32))
(lN s34 (o.fa 0 (.t s33))
(lN s35 (o.iaA 3 1 (.t s34) (.t s28))
(lE [] [(s30,(o.ld1 (.t s29)))] none (actV (o.st1 (.t s35) (.c .nilp)))
(lN s36 (o.nchk (.t s30))
(lN s37 (o.fa 5 (.t s36))
(lN s38 (o.fa 3 (.t s37))
(lE [] [] none (actV (o.st1 (.t s38) (.t s31)))
sEnd)))))))))))))))) dSkip))
(dSeq (dSeq (dOps (dV s39 (o.fa 0 (.t s3))
(dV s40 (o.ld1 (.t s39))
(vM s41 s1
(dV s42 (o.nchk (.t s40))
(dV s43 (o.fa 5 (.t s42))
(dV s44 (o.fa 0 (.t s43))
(dV s45 (o.iaA 3 1 (.t s44) (.t s41))
(dV s46 (o.ld1 (.t s45))
(dV s47 (o.eqp false (.t s46) (.c .nilp))
dE))))))))))
(o.cond (.t s47) (dDraw (lN s48 (o.fa 0 (.t s3))
(lN s49 (o.ld1 (.t s48))
(lM s50 s1
(lN s51 (o.fa 0 (.t s3))
(lN s52 (o.ld1 (.t s51))
(lN s53 (o.nchk (.t s52))
(lN s54 (o.fa 0 (.t s53))
(lN s55 (o.ldN 4 (.t s54))
(lM s56 s1
(lM s57 s2
(lN s59 (o.nchk (.t s49))
(lN s60 (o.fa 5 (.t s59))
(lN s61 (o.fa 0 (.t s60))
(lE [] [(s49,(o.ld1 (.t s48)))] (some s58) (actC p218 [(.t s55),(.t s56),(.t s57)])
(lN s62 (o.iaA 3 1 (.t s61) (.t s50))
(lE [] [] none (actV (o.st1 (.t s62) (.t s58)))
sEnd))))))))))))))))) dSkip))
(dSeq (dOps (dV s63 (o.fa 0 (.t s3))
(dV s64 (o.ld1 (.t s63))
(vM s65 s1
(dV s66 (o.nchk (.t s64))
(dV s67 (o.fa 5 (.t s66))
(dV s68 (o.fa 0 (.t s67))
(dV s69 (o.iaA 3 1 (.t s68) (.t s65))
(dV s70 (o.ld1 (.t s69))
(dV s71 (oBuild [.nilp] [(0,1,(.t s70))])
(dU (o.st1 (.t s6) (.t s71))
dE)))))))))))
dRet)))),[(.cN s6 1)]⟩
def af181:AF:=afG181 fastO
def afG182 (o:Ops):AF:=⟨(dSeq (dOps (dV s2 (oBox 290 (.t s0))
(dV s3 (oBox 104 (.t s1))
(dV s4 (oNew [.nilp] 104)
dE))))
(dSeq (dSeq (dOps (dV s5 (o.fa 0 (.t s2))
(dV s6 (o.ld1 (.t s5))
(dV s7 (o.nchk (.t s6))
(dV s8 (o.fa 0 (.t s7))
(dV s9 (o.fa 0 (.t s8))
(dV s10 (o.fa 2 (.t s9))
(dV s11 (o.ld1 (.t s10))
(dC (some s12) p217 [(.t s11),(.c (.int .i64 (.ofNat 1)))]
(dV s13 (o.not (.t s12))
dE))))))))))
(o.cond (.t s13) (dSeq (dOps (dV s14 (o.ldN 1 (.t s2))
(dC (some s15) p181 [(.t s14),(.c (.int .i64 (.ofNat 1))),(.c (.int .i64 (.ofNat 0)))]
(dU (o.st1 (.t s4) (.t s15))
dE))))
dRet) dSkip))
(dSeq (dDraw (lN s16 (o.fa 0 (.t s2))
(lN s17 (o.ld1 (.t s16))
(lN s18 (o.nchk (.t s17))
(lN s19 (o.fa 0 (.t s18))
(lN s20 (o.fa 0 (.t s19))
(lN s21 (o.fa 0 (.t s20))
(lN s22 (o.ldN 2 (.t s21))
(lN s23 (o.fa 0 (.t s3))
(lN s24 (o.ld1 (.t s23))
(lN s26 (o.fa 0 (.t s2))
(lN s27 (o.ld1 (.t s26))
(lN s28 (o.nchk (.t s27))
(lN s29 (o.fa 0 (.t s28))
(lN s30 (o.fa 0 (.t s29))
(lN s31 (o.fa 2 (.t s30))
(lN s32 (o.ld1 (.t s31))
(lE [] [(s27,(o.ld1 (.t s26))),(s32,(o.ld1 (.t s31)))] (some s25) (actC p145 [(.t s22),(.t s24)])
(lN s33 (oBuild [.nilp,(.int .i64 (.ofNat 0)),.nilp] [(0,2,(.t s25)),(2,1,(.t s32))])
(lE [] [] (some s34) (actC p219 [(.t s33),(.c (.int .i64 (.ofNat 1)))])
(lN s35 (oBuild [.nilp] [(0,1,(.t s34))])
(lE [] [] none (actV (o.st1 (.t s4) (.t s35)))
sEnd))))))))))))))))))))))
dRet))),[(.cN s4 1)]⟩
def af182:AF:=afG182 fastO
def afG183 (o:Ops):AF:=⟨(dSeq (dOps (dV s2 (oBox 104 (.t s0))
(dV s3 (oBox 104 (.t s1))
(dV s4 (oNew [.nilp] 104)
dE))))
(dSeq (dDraw (lN s5 (o.fa 0 (.t s2))
(lN s6 (o.ld1 (.t s5))
(lN s7 (o.nchk (.t s6))
(lN s8 (o.fa 0 (.t s7))
(lN s9 (o.fa 0 (.t s8))
(lN s10 (o.ldN 2 (.t s9))
(lN s11 (o.fa 0 (.t s3))
(lN s12 (o.ld1 (.t s11))
(lN s14 (o.fa 0 (.t s2))
(lN s15 (o.ld1 (.t s14))
(lN s16 (o.nchk (.t s15))
(lN s17 (o.fa 0 (.t s16))
(lN s18 (o.fa 2 (.t s17))
(lN s19 (o.ld1 (.t s18))
(lE [] [(s15,(o.ld1 (.t s14))),(s19,(o.ld1 (.t s18)))] (some s13) (actC p145 [(.t s10),(.t s12)])
(lN s20 (oBuild [.nilp,(.int .i64 (.ofNat 0)),.nilp] [(0,2,(.t s13)),(2,1,(.t s19))])
(lE [] [] (some s21) (actC p219 [(.t s20),(.c (.int .i64 (.ofNat 1)))])
(lN s22 (oBuild [.nilp] [(0,1,(.t s21))])
(lE [] [] none (actV (o.st1 (.t s4) (.t s22)))
sEnd))))))))))))))))))))
dRet)),[(.cN s4 1)]⟩
def af183:AF:=afG183 fastO
def afG184 (o:Ops):AF:=⟨(dSeq (dOps (dV s2 (oBox 104 (.t s0))
(dV s4 (oNew [.nilp] 104)
dE)))
(dSeq (dOps (vM s6 s1
(dV s7 (oBuild [(.int .i64 (.ofNat 0)),(.int .i64 (.ofNat 0)),(.bool false),(.str []),.nils,.nils] [(0,1,(.c (.int .i64 (.ofNat 1)))),(1,1,(.c (.int .i64 (.ofNat 0))))])
(dV s8 (oBuildS 30 1 [(.int .i64 (.ofNat 0)),(.int .i64 (.ofNat 0)),(.bool false),(.str []),.nils,.nils] [(0,6,(.t s7))])
(dV s9 (oBuild [(.int .i64 (.ofNat 0)),(.int .i64 (.ofNat 0)),(.bool false),(.str []),.nils,.nils] [(0,1,(.t s6)),(5,1,(.t s8))])
(dV s5 (oNew [(.int .i64 (.ofNat 0)),(.int .i64 (.ofNat 0)),(.bool false),(.str []),.nils,.nils] 30)
(dU (oSt 6 (.t s5) (.t s9))
dE)))))))
(dSeq (dDraw (lN s10 (oBuild [.nilp,(.int .i64 (.ofNat 0))] [])
(lN s11 (o.fa 0 (.t s2))
(lN s12 (o.ld1 (.t s11))
(lN s14 (o.ldN 6 (.t s5))
(lE [] [(s14,(o.ldN 6 (.t s5)))] (some s13) (actC p145 [(.t s10),(.t s12)])
(lE [] [] (some s15) (actC p105 [(.t s14)])
(lN s16 (oBuild [.nilp,(.int .i64 (.ofNat 0)),.nilp] [(0,2,(.t s13)),(2,1,(.t s15))])
(lE [] [] (some s17) (actC p147 [(.t s16)])
(lN s18 (oBuild [.nilp] [(0,1,(.t s17))])
(lE [] [] none (actV (o.st1 (.t s4) (.t s18)))
sEnd)))))))))))
dRet))),[(.cN s4 1)]⟩
def af184:AF:=afG184 fastO
def afG185 (o:Ops):AF:=⟨(dSeq (dOps (dV s3 (oBox 30 (.t s1))
(dV s4 (oNew [.nilp] 104)
(vC s5 .nili
dE))))
(dSeq (dOps (dV s14 (o.ldN 6 (.t s3))
(dC (some s15) p220 [(.t s14)]
(vM s13 s15
(dV s16 (o.ext (.t s13) 0)
(dV s17 (o.ext (.t s13) 1)
(vM s6 s16
(vM s7 s17
dE))))))))
(dSeq (dSeq (dDraw (lM s19 s0
(lN s20 (o.nchk (.t s19))
(lN s21 (o.fa 4 (.t s20))
(lN s22 (o.ld1 (.t s21))
(lM s23 s6
(lN s24 (oCvT (.t s23))
(lN s25 (oLk (.agg [.nilp]) true (.t s22) (.t s24))
(lM s18 s25
(lN s26 (o.ext (.t s18) 0)
(lN s27 (o.ext (.t s18) 1)
(lA 10 s8 (aNew [.nilp] 104)
(lE [10] [] none (actV (o.st1 (.t s8) (.t s26)))
(lM s9 s27
sEnd))))))))))))))
(dSeq (dOps (vM s28 s9
dE))
(o.cond (.t s28) (dSeq (dOps (dV s29 (o.ldN 1 (.t s8))
(dU (o.st1 (.t s4) (.t s29))
(vC s5 .nili
dE))))
dRet) dSkip)))
(dSeq (dDraw (lM s31 s0
(lN s32 (o.nchk (.t s31))
(lN s33 (o.fa 0 (.t s32))
(lN s34 (o.ld1 (.t s33))
(lN s35 (o.fa 3 (.t s3))
(lN s36 (o.ld1 (.t s35))
(lN s37 (o.fa 4 (.t s3))
(lN s38 (o.ld1 (.t s37))
(lA 12 s10 (aNew [(.int .i64 (.ofNat 0)),(.int .i64 (.ofNat 0)),(.bool false),(.str []),.nils,.nils] 30)
(lE [] [] (some s39) (actC p221 [(.t s34),(.t s36),(.t s38)])
(lM s30 s39
(lN s40 (o.ext (.t s30) 0)
(lN s41 (o.ext (.t s30) 1)
(lE [12] [] none (actV (oSt 6 (.t s10) (.t s40)))
(lM s11 s41
sEnd))))))))))))))))
(dSeq (dSeq (dOps (vM s42 s11
(dV s43 (o.neq (.t s42) (.c (.int .i64 (.ofNat 0))))
dE)))
(o.cond (.t s43) (dSeq (dOps (dV s44 (oBuild [.nilp] [])
(vM s45 s11
(dC (some s46) p110 [(.t s45)]
(dU (o.st1 (.t s4) (.t s44))
(vM s5 s46
dE))))))
dRet) dSkip))
(dSeq (dOps (dV s47 (oBuild [.nilp,(.int .i64 (.ofNat 0))] [])
(dV s48 (o.ldN 6 (.t s10))
(dC (some s49) p77 [(.t s47),(.t s48)]
(dV s12 (oNew [.nilp] 104)
(dU (o.st1 (.t s12) (.t s49))
dE))))))
(dSeq (dDraw (lM s50 s0
(lN s51 (o.nchk (.t s50))
(lN s52 (o.fa 4 (.t s51))
(lN s53 (o.ld1 (.t s52))
(lM s54 s6
(lN s55 (oCvT (.t s54))
(lN s56 (o.ldN 1 (.t s12))
(lE [] [] none (actV (oUp (.t s53) (.t s55) (.t s56)))
sEnd)))))))))
(dSeq (dOps (dV s57 (o.ldN 1 (.t s12))
(dU (o.st1 (.t s4) (.t s57))
(vC s5 .nili
dE))))
dRet)))))))),[(.cN s4 1),(.t s5)]⟩
def af185:AF:=afG185 fastO
def afG186 (o:Ops):AF:=⟨(dSeq (dOps (dV s1 (oBox 168 (.t s0))
(dV s2 (oNew [(.int .i64 (.ofNat 0)),(.int .i64 (.ofNat 0)),(.int .i64 (.ofNat 0)),(.int .i64 (.ofNat 0))] 170)
dE)))
(dSeq (dDraw (lN s9 (o.fa 2 (.t s1))
(lN s10 (o.ld1 (.t s9))
(lN s11 (o.nchk (.t s10))
(lN s12 (o.fa 7 (.t s11))
(lN s13 (o.ld1 (.t s12))
(lN s14 (o.fa 2 (.t s1))
(lN s15 (o.ld1 (.t s14))
(lN s16 (o.nchk (.t s15))
(lN s17 (o.fa 8 (.t s16))
(lN s18 (o.ld1 (.t s17))
(lN s19 (oBuild [(.int .i64 (.ofNat 0)),(.int .i64 (.ofNat 0)),(.int .i64 (.ofNat 0)),(.int .i64 (.ofNat 0))] [(0,1,(.t s13)),(1,1,(.t s18))])
(lA 11 s3 (aNew [(.int .i64 (.ofNat 0)),(.int .i64 (.ofNat 0)),(.int .i64 (.ofNat 0)),(.int .i64 (.ofNat 0))] 170)
(lE [11] [] none (actV (oSt 4 (.t s3) (.t s19)))
sEnd))))))))))))))
(dSeq (dOps (dV s20 (o.fa 0 (.t s1))
(dV s21 (o.fa 0 (.t s20))
(dV s22 (o.ld1 (.t s21))
(vM s4 s22
(vC s5 (.int .i64 (.ofNat 0))
dE))))))
(dSeq (dSeq (dOps (dV s23 (o.fa 2 (.t s1))
(dV s24 (o.ld1 (.t s23))
(dC (some s25) p222 [(.t s24)]
(dV s26 (o.len (.t s25))
(vC s27 (.int .i64 (.ofNat 0))
dE))))))
(dBlock 0 (dLoop (dSeq (dOps (dV s28 (o.lss (.t s27) (.t s26))
dE))
(dSeq (o.cond (.t s28) dSkip (dExit 0))
(dSeq (dBlock 1 (dSeq (dOps (dV s29 (o.ia 4 (.t s25) (.t s27))
(dV s30 (o.ldN 4 (.t s29))
(dV s7 (oNew [(.int .i64 (.ofNat 0)),(.int .i64 (.ofNat 0)),(.int .i64 (.ofNat 0)),(.int .i64 (.ofNat 0))] 350)
(dU (oSt 4 (.t s7) (.t s30))
dE)))))
(dSeq (dBlock 2 (dLoop (dSeq (dSeq (dOps (vM s31 s4
(dV s32 (o.eqp true (.t s31) (.c .nilp))
(vM s33 s32
(o.g s33 true (some s34) (vM s34 s5)
(o.g s33 true (some s35) (dV s35 (o.fa 0 (.t s7)))
(o.g s33 true (some s36) (dV s36 (o.ld1 (.t s35)))
(o.g s33 true (some s37) (dV s37 (o.lss (.t s34) (.t s36)))
(dV s38 (o.pick (.t s33) (.t s37) (.c (.bool false)))
dE)))))))))
(o.cond (.t s38) dSkip (dExit 2)))
(dSeq (dBlock 3 (dOps (vM s41 s4
(dV s42 (o.nchk (.t s41))
(dV s43 (o.fa 1 (.t s42))
(dV s44 (o.ld1 (.t s43))
(vM s4 s44
dE)))))))
(dOps (vM s39 s5
(dV s40 (o.add (.t s39) (.c (.int .i64 (.ofNat 1))))
(vM s5 s40
dE))))))))
(dSeq (dOps (dV s45 (o.fa 0 (.t s7))
(dV s46 (o.ld1 (.t s45))
(dV s47 (o.fa 0 (.t s1))
(dV s48 (o.fa 1 (.t s47))
(dV s49 (o.ld1 (.t s48))
(dV s50 (o.sub (.t s46) (.t s49))
(dV s51 (oBuild [(.int .i64 (.ofNat 0)),(.int .i64 (.ofNat 0)),(.int .i64 (.ofNat 0)),(.int .i64 (.ofNat 0))] [(0,1,(.c (.int .i64 (.ofNat 1)))),(1,1,(.c (.int .i64 (.ofNat 1)))),(2,1,(.t s50)),(3,1,(.c (.int .i64 (.ofNat 0))))])
(dV s8 (oNew [(.int .i64 (.ofNat 0)),(.int .i64 (.ofNat 0)),(.int .i64 (.ofNat 0)),(.int .i64 (.ofNat 0))] 170)
(dU (oSt 4 (.t s8) (.t s51))
dE))))))))))
(dSeq (dSeq (dOps (vM s52 s4
(dV s53 (o.eqp true (.t s52) (.c .nilp))
dE)))
(o.cond (.t s53) (dOps (vM s54 s4
(dV s55 (o.nchk (.t s54))
(dV s56 (o.fa 0 (.t s55))
(dV s57 (o.ld1 (.t s56))
(dV s58 (o.nchk (.t s57))
(dV s59 (o.fa 3 (.t s58))
(dV s60 (o.ldN 4 (.t s59))
(dU (oSt 4 (.t s8) (.t s60))
dE))))))))) dSkip))
(dSeq (dOps (dV s61 (o.fa 0 (.t s3))
(dV s62 (o.ld1 (.t s61))
(dV s63 (o.fa 1 (.t s7))
(dV s64 (o.ld1 (.t s63))
(dV s65 (o.fa 0 (.t s8))
(dV s66 (o.ld1 (.t s65))
(dV s67 (o.sub (.t s66) (.c (.int .i64 (.ofNat 1))))
(dV s68 (oAr .mul (.t s64) (.t s67))
(dV s69 (o.add (.t s62) (.t s68))
(dV s70 (o.fa 0 (.t s3))
(dU (o.st1 (.t s70) (.t s69))
dE))))))))))))
(dSeq (dOps (dV s71 (o.fa 1 (.t s3))
(dV s72 (o.ld1 (.t s71))
(dV s73 (o.fa 2 (.t s7))
(dV s74 (o.ld1 (.t s73))
(dV s75 (o.fa 1 (.t s8))
(dV s76 (o.ld1 (.t s75))
(dV s77 (o.add (.t s74) (.t s76))
(dV s78 (oMm true [(.t s72),(.t s77)])
(dV s79 (o.fa 1 (.t s3))
(dU (o.st1 (.t s79) (.t s78))
dE)))))))))))
(dSeq (dOps (dV s80 (o.fa 2 (.t s3))
(dV s81 (o.ld1 (.t s80))
(dV s82 (o.fa 3 (.t s7))
(dV s83 (o.ld1 (.t s82))
(dV s84 (o.fa 2 (.t s8))
(dV s85 (o.ld1 (.t s84))
(dV s86 (o.add (.t s83) (.t s85))
(dV s87 (oMm true [(.t s81),(.t s86)])
(dV s88 (o.fa 2 (.t s3))
(dU (o.st1 (.t s88) (.t s87))
dE)))))))))))
(dOps (dV s89 (o.fa 3 (.t s3))
(dV s90 (o.ld1 (.t s89))
(dV s91 (o.fa 3 (.t s8))
(dV s92 (o.ld1 (.t s91))
(dV s93 (oMm true [(.t s90),(.t s92)])
(dV s94 (o.fa 3 (.t s3))
(dU (o.st1 (.t s94) (.t s93))
dE))))))))))))))))
(dOps (dV s95 (o.add (.t s27) (.c (.int .i64 (.ofNat 1))))
(vM s27 s95
dE)))))))))
(dSeq (dOps (dV s96 (o.ldN 4 (.t s3))
(dU (oSt 4 (.t s2) (.t s96))
dE)))
dRet))))),[(.cN s2 4)]⟩
def af186:AF:=afG186 fastO
def afG187 (o:Ops):AF:=⟨(dOps (vM s2 s0
(dV s3 (oMki 39 (.t s2))
(dPan (.t s3)
dE)))),[]⟩
def af187:AF:=afG187 fastO
def afG188 (o:Ops):AF:=⟨(dSeq (dOps (dV s1 (oBox 50 (.t s0))
(vC s2 (.bool false)
dE)))
(dSeq (dSeq (dOps (dV s5 (o.fa 0 (.t s1))
(dV s6 (o.ld1 (.t s5))
(dV s7 (o.lss (.t s6) (.c (.int .i64 (.ofNat 0))))
(vM s8 s7
(o.g s8 false (some s9) (dV s9 (o.fa 0 (.t s1)))
(o.g s8 false (some s10) (dV s10 (o.ld1 (.t s9)))
(o.g s8 false (some s11) (dV s11 (o.gtr (.t s10) (.c (.int .i64 (.ofNat 1000)))))
(dV s12 (o.pick (.t s8) (.c (.bool true)) (.t s11))
(vM s13 s12
(o.g s13 false (some s14) (dV s14 (o.fa 1 (.t s1)))
(o.g s13 false (some s15) (dV s15 (o.ld1 (.t s14)))
(o.g s13 false (some s16) (dV s16 (o.len (.t s15)))
(o.g s13 false (some s17) (dV s17 (o.gtr (.t s16) (.c (.int .i64 (.ofNat 64)))))
(dV s18 (o.pick (.t s13) (.c (.bool true)) (.t s17))
dE)))))))))))))))
(o.cond (.t s18) (dSeq (dOps (vC s2 (.bool false)
dE))
dRet) dSkip))
(dSeq (dSeq (dOps (vC s3 (.int .i64 (.ofNat 0))
dE))
(dBlock 0 (dLoop (dSeq (dSeq (dOps (vM s19 s3
(dV s20 (o.fa 1 (.t s1))
(dV s21 (o.ld1 (.t s20))
(dV s22 (o.len (.t s21))
(dV s23 (o.lss (.t s19) (.t s22))
dE))))))
(o.cond (.t s23) dSkip (dExit 0)))
(dSeq (dBlock 1 (dSeq (dOps (dV s26 (o.fa 1 (.t s1))
(dV s27 (o.ld1 (.t s26))
(vM s28 s3
(dV s29 (o.ia 2 (.t s27) (.t s28))
(dV s30 (o.ldN 2 (.t s29))
(dV s4 (oNew [(.int .i64 (.ofNat 0)),(.int .i64 (.ofNat 0))] 47)
(dU (oSt 2 (.t s4) (.t s30))
dE))))))))
(dSeq (dOps (dV s31 (o.fa 0 (.t s4))
(dV s32 (o.ld1 (.t s31))
(dV s33 (o.lss (.t s32) (.c (.int .i64 (.ofNat 0))))
(vM s34 s33
(o.g s34 false (some s35) (dV s35 (o.fa 0 (.t s4)))
(o.g s34 false (some s36) (dV s36 (o.ld1 (.t s35)))
(o.g s34 false (some s37) (dV s37 (o.gtr (.t s36) (.c (.int .i64 (.ofNat 1000)))))
(dV s38 (o.pick (.t s34) (.c (.bool true)) (.t s37))
(vM s39 s38
(o.g s39 false (some s40) (dV s40 (o.fa 1 (.t s4)))
(o.g s39 false (some s41) (dV s41 (o.ld1 (.t s40)))
(o.g s39 false (some s42) (dV s42 (o.lss (.t s41) (.c (.int .i64 (.ofNat 0)))))
(dV s43 (o.pick (.t s39) (.c (.bool true)) (.t s42))
(vM s44 s43
(o.g s44 false (some s45) (dV s45 (o.fa 1 (.t s4)))
(o.g s44 false (some s46) (dV s46 (o.ld1 (.t s45)))
(o.g s44 false (some s47) (dV s47 (o.gtr (.t s46) (.c (.int .i64 (.ofNat 1000)))))
(dV s48 (o.pick (.t s44) (.c (.bool true)) (.t s47))
dE)))))))))))))))))))
(o.cond (.t s48) (dSeq (dOps (vC s2 (.bool false)
dE))
dRet) dSkip))))
(dOps (vM s24 s3
(dV s25 (o.add (.t s24) (.c (.int .i64 (.ofNat 1))))
(vM s3 s25
dE)))))))))
(dSeq (dOps (vC s2 (.bool true)
dE))
dRet)))),[(.t s2)]⟩
def af188:AF:=afG188 fastO
def afG189 (o:Ops):AF:=⟨(dSeq (dOps (dV s1 (oBox 50 (.t s0))
(dV s2 (oNew [(.int .i64 (.ofNat 0)),.nils] 50)
dE)))
(dSeq (dOps (dV s9 (o.fa 0 (.t s1))
(dV s10 (o.ld1 (.t s9))
(dV s11 (oBuild [(.int .i64 (.ofNat 0)),.nils] [(0,1,(.t s10))])
(dV s3 (oNew [(.int .i64 (.ofNat 0)),.nils] 50)
(dU (oSt 2 (.t s3) (.t s11))
dE))))))
(dSeq (dOps (vC s4 (.int .i64 (.negSucc 0))
dE))
(dSeq (dBlock 0 (dLoop (dBlock 1 (dSeq (dOps (vC s5 (.int .i64 (.negSucc 0))
dE))
(dSeq (dOps (vC s6 (.int .i64 (.ofNat 0))
dE))
(dSeq (dSeq (dOps (vC s7 (.int .i64 (.ofNat 0))
dE))
(dBlock 2 (dLoop (dSeq (dSeq (dOps (vM s12 s7
(dV s13 (o.fa 1 (.t s1))
(dV s14 (o.ld1 (.t s13))
(dV s15 (o.len (.t s14))
(dV s16 (o.lss (.t s12) (.t s15))
dE))))))
(o.cond (.t s16) dSkip (dExit 2)))
(dSeq (dBlock 3 (dSeq (dOps (dV s19 (o.fa 1 (.t s1))
(dV s20 (o.ld1 (.t s19))
(vM s21 s7
(dV s22 (o.ia 2 (.t s20) (.t s21))
(dV s23 (o.ldN 2 (.t s22))
(dV s8 (oNew [(.int .i64 (.ofNat 0)),(.int .i64 (.ofNat 0))] 47)
(dU (oSt 2 (.t s8) (.t s23))
dE))))))))
(dSeq (dSeq (dOps (dV s24 (o.fa 0 (.t s8))
(dV s25 (o.ld1 (.t s24))
(vM s26 s4
(dV s27 (o.leq (.t s25) (.t s26))
dE)))))
(o.cond (.t s27) (dExit 3) dSkip))
(dSeq (dOps (vM s28 s5
(dV s29 (o.lss (.t s28) (.c (.int .i64 (.ofNat 0))))
(vM s30 s29
(o.g s30 false (some s31) (dV s31 (o.fa 0 (.t s8)))
(o.g s30 false (some s32) (dV s32 (o.ld1 (.t s31)))
(o.g s30 false (some s33) (vM s33 s5)
(o.g s30 false (some s34) (dV s34 (o.lss (.t s32) (.t s33)))
(dV s35 (o.pick (.t s30) (.c (.bool true)) (.t s34))
dE)))))))))
(o.cond (.t s35) (dSeq (dOps (dV s36 (o.fa 0 (.t s8))
(dV s37 (o.ld1 (.t s36))
(vM s5 s37
dE))))
(dOps (dV s38 (o.fa 1 (.t s8))
(dV s39 (o.ld1 (.t s38))
(vM s6 s39
dE))))) (dSeq (dOps (dV s40 (o.fa 0 (.t s8))
(dV s41 (o.ld1 (.t s40))
(vM s42 s5
(dV s43 (o.eql (.t s41) (.t s42))
(vM s44 s43
(o.g s44 true (some s45) (dV s45 (o.fa 1 (.t s8)))
(o.g s44 true (some s46) (dV s46 (o.ld1 (.t s45)))
(o.g s44 true (some s47) (vM s47 s6)
(o.g s44 true (some s48) (dV s48 (o.gtr (.t s46) (.t s47)))
(dV s49 (o.pick (.t s44) (.t s48) (.c (.bool false)))
dE)))))))))))
(o.cond (.t s49) (dOps (dV s50 (o.fa 1 (.t s8))
(dV s51 (o.ld1 (.t s50))
(vM s6 s51
dE)))) dSkip)))))))
(dOps (vM s17 s7
(dV s18 (o.add (.t s17) (.c (.int .i64 (.ofNat 1))))
(vM s7 s18
dE)))))))))
(dSeq (dSeq (dOps (vM s52 s5
(dV s53 (o.lss (.t s52) (.c (.int .i64 (.ofNat 0))))
dE)))
(o.cond (.t s53) (dExit 0) dSkip))
(dSeq (dOps (dV s54 (o.fa 1 (.t s3))
(dV s55 (o.ld1 (.t s54))
(vM s56 s5
(vM s57 s6
(dV s58 (oBuild [(.int .i64 (.ofNat 0)),(.int .i64 (.ofNat 0))] [(0,1,(.t s56)),(1,1,(.t s57))])
(dV s59 (oBuildS 47 1 [(.int .i64 (.ofNat 0)),(.int .i64 (.ofNat 0))] [(0,2,(.t s58))])
(dV s60 (oApp 47 2 (.t s55) (.t s59))
(dV s61 (o.fa 1 (.t s3))
(dU (o.st1 (.t s61) (.t s60))
dE))))))))))
(dSeq (dSeq (dOps (vM s62 s6
(dV s63 (o.fa 0 (.t s1))
(dV s64 (o.ld1 (.t s63))
(dV s65 (o.geq (.t s62) (.t s64))
dE)))))
(o.cond (.t s65) (dOps (dV s66 (o.fa 0 (.t s3))
(dU (o.st1 (.t s66) (.c (.int .i64 (.ofNat 0))))
dE))) dSkip))
(dOps (vM s67 s5
(vM s4 s67
dE))))))))))))
(dSeq (dOps (dV s68 (o.ldN 2 (.t s3))
(dU (oSt 2 (.t s2) (.t s68))
dE)))
dRet))))),[(.cN s2 2)]⟩
def af189:AF:=afG189 fastO
def afG190 (o:Ops):AF:=⟨(dSeq (dOps (vM s4 s1
dE))
(o.cond (.t s4) (dOps (vM s5 s0
(dV s6 (oBuildS 5 1 [(.int .u8 (.ofNat 0))] [(0,1,(.c (.int .u8 (.ofNat 1))))])
(dC (some s7) p155 [(.t s5),(.t s6)]
dE)))) (dOps (vM s8 s0
(dV s9 (oBuildS 5 1 [(.int .u8 (.ofNat 0))] [(0,1,(.c (.int .u8 (.ofNat 0))))])
(dC (some s10) p155 [(.t s8),(.t s9)]
dE)))))),[]⟩
def af190:AF:=afG190 fastO
def afG191 (o:Ops):AF:=⟨(dSeq (dOps (vM s6 s0
(dV s7 (o.len (.t s6))
(vC s8 (.int .i64 (.ofNat 0))
dE))))
(dBlock 0 (dLoop (dSeq (dOps (dV s9 (o.lss (.t s8) (.t s7))
dE))
(dSeq (o.cond (.t s9) dSkip (dExit 0))
(dSeq (dBlock 1 (dSeq (dOps (dV s10 (o.ia 2 (.t s6) (.t s8))
(dV s11 (o.ldN 2 (.t s10))
(dV s5 (oNew [(.int .i64 (.ofNat 0)),.nils] 50)
(dU (oSt 2 (.t s5) (.t s11))
dE)))))
(dOps (vM s12 s1
(dV s13 (o.ldN 2 (.t s5))
(dCv (some s14) (.t s12) [(.t s13)]
dE))))))
(dOps (dV s15 (o.add (.t s8) (.c (.int .i64 (.ofNat 1))))
(vM s8 s15
dE))))))))),[]⟩
def af191:AF:=afG191 fastO
def afG192 (o:Ops):AF:=⟨(dSeq (dOps (dV s3 (oBox 50 (.t s1))
dE))
(dSeq (dOps (vM s4 s0
(dV s5 (o.fa 0 (.t s3))
(dV s6 (o.ld1 (.t s5))
(dC (some s7) p121 [(.t s4),(.t s6)]
dE)))))
(dSeq (dOps (vM s8 s0
(dV s9 (o.fa 1 (.t s3))
(dV s10 (o.ld1 (.t s9))
(dV s11 (o.len (.t s10))
(dC (some s12) p121 [(.t s8),(.t s11)]
dE))))))
(dOps (dV s13 (o.fa 1 (.t s3))
(dV s14 (o.ld1 (.t s13))
(vM s15 s0
(dV s16 (oMkf 224 [(.t s15)] [])
(dC (some s17) p223 [(.t s14),(.t s16)]
dE))))))))),[]⟩
def af192:AF:=afG192 fastO
def afG193 (o:Ops):AF:=⟨(dSeq (dOps (vM s6 s0
(dV s7 (o.len (.t s6))
(vC s8 (.int .i64 (.ofNat 0))
dE))))
(dBlock 0 (dLoop (dSeq (dOps (dV s9 (o.lss (.t s8) (.t s7))
dE))
(dSeq (o.cond (.t s9) dSkip (dExit 0))
(dSeq (dBlock 1 (dSeq (dOps (dV s10 (o.ia 6 (.t s6) (.t s8))
(dV s11 (o.ldN 6 (.t s10))
(dV s5 (oNew [(.int .i64 (.ofNat 0)),(.int .i64 (.ofNat 0)),(.bool false),(.str []),.nils,.nils] 30)
(dU (oSt 6 (.t s5) (.t s11))
dE)))))
(dOps (vM s12 s1
(dV s13 (o.ldN 6 (.t s5))
(dCv (some s14) (.t s12) [(.t s13)]
dE))))))
(dOps (dV s15 (o.add (.t s8) (.c (.int .i64 (.ofNat 1))))
(vM s8 s15
dE))))))))),[]⟩
def af193:AF:=afG193 fastO
def afG194 (o:Ops):AF:=⟨(dSeq (dOps (vC s2 .nils
dE))
(dSeq (dOps (vC s3 .nils
dE))
(dSeq (dSeq (dOps (vM s6 s0
(dV s7 (o.len (.t s6))
(vC s8 (.int .i64 (.ofNat 0))
dE))))
(dBlock 0 (dLoop (dSeq (dOps (dV s9 (o.lss (.t s8) (.t s7))
dE))
(dSeq (o.cond (.t s9) dSkip (dExit 0))
(dSeq (dBlock 1 (dSeq (dOps (dV s10 (o.ia 2 (.t s6) (.t s8))
(dV s11 (o.ldN 2 (.t s10))
(dV s5 (oNew [(.int .i64 (.ofNat 0)),.nils] 50)
(dU (oSt 2 (.t s5) (.t s11))
dE)))))
(dDraw (lM s12 s3
(lN s13 (o.fa 0 (.t s5))
(lN s14 (o.ld1 (.t s13))
(lN s15 (o.fa 1 (.t s5))
(lN s16 (o.ld1 (.t s15))
(lE [] [(s14,(o.ld1 (.t s13)))] (some s17) (actV (oApp 47 2 (.c .nils) (.t s16)))
(lN s18 (oBuild [(.int .i64 (.ofNat 0)),.nils] [(0,1,(.t s14)),(1,1,(.t s17))])
(lA 7 s19 (floatK (.buildS 50 1 [(.int .i64 (.ofNat 0)),.nils] [(0,2,(.t s18))]))
(lE [7] [] (some s20) (actV (oApp 50 2 (.t s12) (.t s19)))
(lE [7] [] (some s3) (actV (oMv (.t s20)))
sEnd)))))))))))))
(dOps (dV s21 (o.add (.t s8) (.c (.int .i64 (.ofNat 1))))
(vM s8 s21
dE)))))))))
(dSeq (dOps (vM s22 s3
(vM s2 s22
dE)))
dRet)))),[(.t s2)]⟩
def af194:AF:=afG194 fastO
def afG195 (o:Ops):AF:=⟨(dSeq (dOps (dV s1 (oBox 50 (.t s0))
(vC s2 (.bool false)
dE)))
(dSeq (dSeq (dOps (dV s5 (o.fa 1 (.t s1))
(dV s6 (o.ld1 (.t s5))
(dV s7 (o.len (.t s6))
(dV s8 (o.gtr (.t s7) (.c (.int .i64 (.ofNat 64))))
(vM s9 s8
(o.g s9 false (some s10) (dV s10 (o.fa 0 (.t s1)))
(o.g s9 false (some s11) (dV s11 (o.ld1 (.t s10)))
(o.g s9 false (some s12) (dC (some s12) p225 [(.t s11)])
(o.g s9 false (some s13) (dV s13 (o.not (.t s12)))
(dV s14 (o.pick (.t s9) (.c (.bool true)) (.t s13))
dE)))))))))))
(o.cond (.t s14) (dSeq (dOps (vC s2 (.bool false)
dE))
dRet) dSkip))
(dSeq (dSeq (dOps (dV s15 (o.fa 1 (.t s1))
(dV s16 (o.ld1 (.t s15))
(dV s17 (o.len (.t s16))
(vC s18 (.int .i64 (.ofNat 0))
dE)))))
(dBlock 0 (dLoop (dSeq (dOps (dV s19 (o.lss (.t s18) (.t s17))
dE))
(dSeq (o.cond (.t s19) dSkip (dExit 0))
(dSeq (dBlock 1 (dSeq (dOps (dV s20 (o.ia 2 (.t s16) (.t s18))
(dV s21 (o.ldN 2 (.t s20))
(dV s4 (oNew [(.int .i64 (.ofNat 0)),(.int .i64 (.ofNat 0))] 47)
(dU (oSt 2 (.t s4) (.t s21))
dE)))))
(dSeq (dOps (dV s22 (o.fa 0 (.t s4))
(dV s23 (o.ld1 (.t s22))
(dC (some s24) p225 [(.t s23)]
(dV s25 (o.not (.t s24))
(vM s26 s25
(o.g s26 false (some s27) (dV s27 (o.fa 1 (.t s4)))
(o.g s26 false (some s28) (dV s28 (o.ld1 (.t s27)))
(o.g s26 false (some s29) (dC (some s29) p225 [(.t s28)])
(o.g s26 false (some s30) (dV s30 (o.not (.t s29)))
(dV s31 (o.pick (.t s26) (.c (.bool true)) (.t s30))
dE)))))))))))
(o.cond (.t s31) (dSeq (dOps (vC s2 (.bool false)
dE))
dRet) dSkip))))
(dOps (dV s32 (o.add (.t s18) (.c (.int .i64 (.ofNat 1))))
(vM s18 s32
dE)))))))))
(dSeq (dOps (vC s2 (.bool true)
dE))
dRet)))),[(.t s2)]⟩
def af195:AF:=afG195 fastO
def afG196 (o:Ops):AF:=⟨(dSeq (dOps (dV s4 (oNew [(.int .i64 (.ofNat 0)),.nils] 50)
(vC s5 (.int .i64 (.ofNat 0))
dE)))
(dSeq (dOps (vM s9 s0
(vM s10 s1
(dC (some s11) p226 [(.t s10),(.c (.fn (.func 227) [] []))]
(dV s12 (oBuild [(.int .i64 (.ofNat 0)),.nils] [(0,1,(.t s9)),(1,1,(.t s11))])
(dV s6 (oNew [(.int .i64 (.ofNat 0)),.nils] 50)
(dU (oSt 2 (.t s6) (.t s12))
dE)))))))
(dSeq (dSeq (dOps (dV s13 (o.fa 1 (.t s6))
(dV s14 (o.ld1 (.t s13))
(dV s15 (o.len (.t s14))
(vC s16 (.int .i64 (.ofNat 0))
dE)))))
(dBlock 0 (dLoop (dSeq (dOps (dV s17 (o.lss (.t s16) (.t s15))
dE))
(dSeq (o.cond (.t s17) dSkip (dExit 0))
(dSeq (dBlock 1 (dSeq (dOps (dV s18 (o.ia 2 (.t s14) (.t s16))
(dV s19 (o.ldN 2 (.t s18))
(dV s8 (oNew [(.int .i64 (.ofNat 0)),(.int .i64 (.ofNat 0))] 47)
(dU (oSt 2 (.t s8) (.t s19))
dE)))))
(dSeq (dOps (dV s20 (o.fa 1 (.t s8))
(dV s21 (o.ld1 (.t s20))
(vM s22 s0
(dV s23 (o.geq (.t s21) (.t s22))
dE)))))
(o.cond (.t s23) (dOps (dV s24 (o.fa 0 (.t s6))
(dU (o.st1 (.t s24) (.c (.int .i64 (.ofNat 0))))
dE))) dSkip))))
(dOps (dV s25 (o.add (.t s16) (.c (.int .i64 (.ofNat 1))))
(vM s16 s25
dE)))))))))
(dSeq (dSeq (dOps (dV s26 (o.ldN 2 (.t s6))
(dC (some s27) p195 [(.t s26)]
(dV s28 (o.not (.t s27))
dE))))
(o.cond (.t s28) (dSeq (dOps (dV s29 (oBuild [(.int .i64 (.ofNat 0)),.nils] [])
(dU (oSt 2 (.t s4) (.t s29))
(vC s5 (.int .i64 (.ofNat 13))
dE))))
dRet) dSkip))
(dSeq (dOps (dV s30 (o.ldN 2 (.t s6))
(dU (oSt 2 (.t s4) (.t s30))
(vC s5 (.int .i64 (.ofNat 0))
dE))))
dRet))))),[(.cN s4 2),(.t s5)]⟩
def af196:AF:=afG196 fastO
def afG197 (o:Ops):AF:=⟨(dSeq (dOps (vC s4 (.bool false)
dE))
(dSeq (dSeq (dOps (vM s6 s0
(dV s7 (o.len (.t s6))
(vM s8 s1
(dV s9 (o.len (.t s8))
(dV s10 (o.neq (.t s7) (.t s9))
dE))))))
(o.cond (.t s10) (dSeq (dOps (vC s4 (.bool false)
dE))
dRet) dSkip))
(dSeq (dSeq (dOps (vM s11 s0
(dV s12 (o.len (.t s11))
(vC s13 (.int .i64 (.ofNat 0))
dE))))
(dBlock 0 (dLoop (dSeq (dOps (dV s14 (o.lss (.t s13) (.t s12))
dE))
(dSeq (o.cond (.t s14) dSkip (dExit 0))
(dSeq (dBlock 1 (dSeq (dOps (vM s15 s13
(vM s5 s15
dE)))
(dSeq (dDraw (lM s16 s0
(lM s17 s5
(lN s18 (o.ia 2 (.t s16) (.t s17))
(lN s19 (o.ldN 2 (.t s18))
(lM s20 s1
(lM s21 s5
(lN s22 (o.ia 2 (.t s20) (.t s21))
(lN s23 (o.ldN 2 (.t s22))
(lN s24 (o.neq (.t s19) (.t s23))
sEnd))))))))))
(o.cond (.t s24) (dSeq (dOps (vC s4 (.bool false)
dE))
dRet) dSkip))))
(dOps (dV s25 (o.add (.t s13) (.c (.int .i64 (.ofNat 1))))
(vM s13 s25
dE)))))))))
(dSeq (dOps (vC s4 (.bool true)
dE))
dRet)))),[(.t s4)]⟩
def af197:AF:=afG197 fastO
def afG198 (o:Ops):AF:=⟨(dSeq (dOps (dV s1 (oBox 290 (.t s0))
(dV s2 (oNew [(.int .i64 (.ofNat 0)),(.int .i64 (.ofNat 0)),(.bool false),(.str []),.nils,.nils] 30)
dE)))
(dSeq (dOps (dV s4 (o.fa 0 (.t s1))
(dV s5 (o.ld1 (.t s4))
(dV s6 (o.nchk (.t s5))
(dV s7 (o.fa 0 (.t s6))
(dV s8 (o.fa 0 (.t s7))
(dV s9 (o.fa 2 (.t s8))
(dV s10 (o.ld1 (.t s9))
(dV s11 (o.nchk (.t s10))
(dV s12 (o.fa 0 (.t s11))
(dV s13 (o.ldN 6 (.t s12))
(dV s3 (oNew [(.int .i64 (.ofNat 0)),(.int .i64 (.ofNat 0)),(.bool false),(.str []),.nils,.nils] 30)
(dU (oSt 6 (.t s3) (.t s13))
dE)))))))))))))
(dSeq (dSeq (dOps (dV s14 (o.fa 0 (.t s3))
(dV s15 (o.ld1 (.t s14))
(dV s16 (o.eql (.t s15) (.c (.int .i64 (.ofNat 1))))
dE))))
(o.cond (.t s16) (dDraw (lN s17 (o.fa 1 (.t s3))
(lN s18 (o.ld1 (.t s17))
(lN s19 (o.fa 0 (.t s1))
(lN s20 (o.ld1 (.t s19))
(lN s21 (o.nchk (.t s20))
(lN s22 (o.fa 0 (.t s21))
(lN s23 (o.fa 0 (.t s22))
(lN s24 (o.fa 0 (.t s23))
(lN s25 (o.fa 1 (.t s24))
(lN s26 (o.ld1 (.t s25))
(lN s27 (o.sub (.t s18) (.t s26))
(lN s28 (o.fa 1 (.t s3))
(lE [] [] none (actV (o.st1 (.t s28) (.t s27)))
sEnd)))))))))))))) dSkip))
(dSeq (dOps (dV s29 (o.ldN 6 (.t s3))
(dU (oSt 6 (.t s2) (.t s29))
dE)))
dRet)))),[(.cN s2 6)]⟩
def af198:AF:=afG198 fastO
def afG199 (o:Ops):AF:=⟨(dSeq (dOps (vC s6 (.bool false)
dE))
(dSeq (dSeq (dOps (vM s10 s0
(dV s11 (o.len (.t s10))
(vM s12 s1
(dV s13 (o.len (.t s12))
(dV s14 (o.neq (.t s11) (.t s13))
dE))))))
(o.cond (.t s14) (dSeq (dOps (vC s6 (.bool false)
dE))
dRet) dSkip))
(dSeq (dSeq (dOps (vM s15 s0
(dV s16 (o.len (.t s15))
(vC s17 (.int .i64 (.ofNat 0))
dE))))
(dBlock 0 (dLoop (dSeq (dOps (dV s18 (o.lss (.t s17) (.t s16))
dE))
(dSeq (o.cond (.t s18) dSkip (dExit 0))
(dSeq (dBlock 1 (dSeq (dOps (vM s19 s17
(dV s20 (o.ia 2 (.t s15) (.t s17))
(dV s21 (o.ldN 2 (.t s20))
(dV s8 (oNew [(.int .i64 (.ofNat 0)),.nils] 50)
(vM s7 s19
(dU (oSt 2 (.t s8) (.t s21))
dE)))))))
(dSeq (dOps (vM s22 s1
(vM s23 s7
(dV s24 (o.ia 2 (.t s22) (.t s23))
(dV s25 (o.ldN 2 (.t s24))
(dV s9 (oNew [(.int .i64 (.ofNat 0)),.nils] 50)
(dU (oSt 2 (.t s9) (.t s25))
dE)))))))
(dSeq (dOps (vM s26 s2
(dV s27 (o.ldN 2 (.t s8))
(dV s28 (o.ldN 2 (.t s9))
(dCv (some s29) (.t s26) [(.t s27),(.t s28)]
(dV s30 (o.not (.t s29))
dE))))))
(o.cond (.t s30) (dSeq (dOps (vC s6 (.bool false)
dE))
dRet) dSkip)))))
(dOps (dV s31 (o.add (.t s17) (.c (.int .i64 (.ofNat 1))))
(vM s17 s31
dE)))))))))
(dSeq (dOps (vC s6 (.bool true)
dE))
dRet)))),[(.t s6)]⟩
def af199:AF:=afG199 fastO
def afG200 (o:Ops):AF:=⟨(dSeq (dOps (dV s2 (oBox 50 (.t s0))
(dV s3 (oBox 50 (.t s1))
(vC s4 (.bool false)
dE))))
(dSeq (dOps (dV s5 (o.ldN 2 (.t s2))
(dV s6 (o.ldN 2 (.t s3))
(dC (some s7) p228 [(.t s5),(.t s6)]
(vM s8 s7
(o.g s8 true (some s9) (dV s9 (o.ldN 2 (.t s3)))
(o.g s8 true (some s10) (dV s10 (o.ldN 2 (.t s2)))
(o.g s8 true (some s11) (dC (some s11) p228 [(.t s9),(.t s10)])
(dV s12 (o.pick (.t s8) (.t s11) (.c (.bool false)))
(vM s4 s12
dE))))))))))
dRet)),[(.t s4)]⟩
def af200:AF:=afG200 fastO
def afG201 (o:Ops):AF:=⟨(dSeq (dOps (dV s3 (oBox 292 (.t s0))
(dV s6 (oNew [.nilp,.nilp,(.int .i64 (.ofNat 0))] 323)
dE)))
(dSeq (dDraw (lN s7 (o.fa 0 (.t s3))
(lN s8 (o.ldN 1 (.t s7))
(lM s9 s1
(lN s10 (o.fa 2 (.t s3))
(lN s11 (o.ld1 (.t s10))
(lN s13 (o.fa 1 (.t s3))
(lN s14 (o.ldN 1 (.t s13))
(lM s15 s1
(lN s16 (o.fa 2 (.t s3))
(lN s17 (o.ld1 (.t s16))
(lM s19 s2
(lE [] [(s14,(o.ldN 1 (.t s13))),(s17,(o.ld1 (.t s16)))] (some s12) (actC p181 [(.t s8),(.t s9),(.t s11)])
(lE [] [] (some s18) (actC p181 [(.t s14),(.t s15),(.t s17)])
(lN s20 (oBuild [.nilp,.nilp,(.int .i64 (.ofNat 0))] [(0,1,(.t s12)),(1,1,(.t s18)),(2,1,(.t s19))])
(lE [] [] none (actV (oSt 3 (.t s6) (.t s20)))
sEnd))))))))))))))))
dRet)),[(.cN s6 3)]⟩
def af201:AF:=afG201 fastO
def afG202 (o:Ops):AF:=⟨(dSeq (dOps (dV s1 (oBox 290 (.t s0))
(vC s2 .nils
dE)))
(dSeq (dOps (dV s3 (oNew [.nils] 325)
dE))
(dSeq (dSeq (dOps (dV s5 (o.fa 0 (.t s1))
(dV s6 (o.ld1 (.t s5))
(dV s7 (o.nchk (.t s6))
(dV s8 (o.fa 4 (.t s7))
(dV s9 (o.ld1 (.t s8))
(dC (some s10) p229 [(.t s9)]
dE)))))))
(dBlock 0 (dRange (.t s10) [s11] (dOps (vM s4 s11
dE)) (dBlock 1 (dDraw (lN s12 (o.ld1 (.t s3))
(lM s13 s4
(lN s14 (o.nchk (.t s13))
(lN s15 (o.fa 0 (.t s14))
(lN s16 (o.ld1 (.t s15))
(lN s17 (oBuild [.nilp] [(0,1,(.t s16))])
(lA 6 s18 (floatK (.buildS 104 1 [.nilp] [(0,1,(.t s17))]))
(lE [6] [] (some s19) (actV (oApp 104 1 (.t s12) (.t s18)))
(lE [6] [] none (actV (o.st1 (.t s3) (.t s19)))
sEnd))))))))))))))
(dSeq (dOps (dV s20 (o.ld1 (.t s3))
(vM s2 s20
dE)))
dRet)))),[(.t s2)]⟩
def af202:AF:=afG202 fastO
def afG203 (o:Ops):AF:=⟨(dSeq (dOps (dV s2 (oBox 290 (.t s0))
(dV s4 (oNew [.nilp] 104)
dE)))
(dSeq (dOps (dV s5 (oNew [.nilp] 253)
dE))
(dSeq (dSeq (dOps (dV s8 (o.fa 0 (.t s2))
(dV s9 (o.ld1 (.t s8))
(dV s10 (o.nchk (.t s9))
(dV s11 (o.fa 4 (.t s10))
(dV s12 (o.ld1 (.t s11))
(dC (some s13) p229 [(.t s12)]
(dC (some s14) p231 [(.t s13)]
(vM s15 s1
(dV s16 (oSl 1 (.t s14) none (some (.t s15)) none)
(dC (some s17) p230 [(.t s16)]
dE)))))))))))
(dBlock 0 (dRange (.t s17) [s18,s19] (dOps (vM s7 s19
dE)) (dBlock 1 (dDraw (lN s20 (o.ld1 (.t s5))
(lM s21 s7
(lN s22 (o.nchk (.t s21))
(lN s23 (o.fa 0 (.t s22))
(lN s24 (o.ld1 (.t s23))
(lM s25 s7
(lN s26 (o.nchk (.t s25))
(lN s27 (o.fa 1 (.t s26))
(lN s28 (o.ld1 (.t s27))
(lE [] [] (some s29) (actC p232 [(.t s20),(.t s24),(.t s28)])
(lE [] [] none (actV (o.st1 (.t s5) (.t s29)))
sEnd))))))))))))))))
(dSeq (dDraw (lN s30 (o.fa 0 (.t s2))
(lN s31 (o.ld1 (.t s30))
(lN s32 (o.nchk (.t s31))
(lN s33 (o.fa 0 (.t s32))
(lN s34 (o.ldN 4 (.t s33))
(lN s35 (o.ld1 (.t s5))
(lN s36 (oBuild [.nilp,(.int .i64 (.ofNat 0)),.nilp,.nilp,.nilp,.nilp,.nilp,.nilp,(.int .i64 (.ofNat 0))] [(0,4,(.t s34)),(4,1,(.t s35))])
(lA 7 s37 (aBox 343 (.t s36))
(lN s38 (oBuild [.nilp] [(0,1,(.t s37))])
(lE [7] [] (some s39) (actC p233 [(.t s38)])
(lE [7] [] none (actV (o.st1 (.t s4) (.t s39)))
sEnd))))))))))))
dRet)))),[(.cN s4 1)]⟩
def af203:AF:=afG203 fastO
def afG204 (o:Ops):AF:=⟨(dSeq (dOps (dV s2 (oBox 73 (.t s0))
(dV s4 (oNew [.nilp] 104)
dE)))
(dSeq (dSeq (dOps (vM s5 s1
(vC s6 (.int .i64 (.ofNat 0))
dE)))
(dBlock 0 (dLoop (dSeq (dOps (dV s7 (o.lss (.t s6) (.t s5))
dE))
(dSeq (o.cond (.t s7) dSkip (dExit 0))
(dSeq (dBlock 1 (dOps (dV s8 (o.fa 0 (.t s2))
(dV s9 (o.ld1 (.t s8))
(dV s10 (o.nchk (.t s9))
(dV s11 (o.fa 3 (.t s10))
(dV s12 (o.ldN 1 (.t s11))
(dU (o.st1 (.t s2) (.t s12))
dE))))))))
(dOps (dV s13 (o.add (.t s6) (.c (.int .i64 (.ofNat 1))))
(vM s6 s13
dE)))))))))
(dSeq (dOps (dV s14 (o.fa 0 (.t s2))
(dV s15 (o.ld1 (.t s14))
(dC (some s16) p234 [(.t s15)]
(dU (o.st1 (.t s4) (.t s16))
dE)))))
dRet))),[(.cN s4 1)]⟩
def af204:AF:=afG204 fastO
def afG205 (o:Ops):AF:=⟨(dSeq (dOps (dV s1 (oBox 50 (.t s0))
(vC s2 (.int .i64 (.ofNat 0))
dE)))
(dSeq (dSeq (dOps (dV s6 (o.ldN 2 (.t s1))
(dC (some s7) p195 [(.t s6)]
(dV s8 (o.not (.t s7))
dE))))
(o.cond (.t s8) (dSeq (dOps (vC s2 (.int .i64 (.ofNat 0))
dE))
dRet) dSkip))
(dSeq (dOps (vC s3 (.int .i64 (.ofNat 0))
dE))
(dSeq (dSeq (dOps (dV s9 (o.fa 1 (.t s1))
(dV s10 (o.ld1 (.t s9))
(dV s11 (o.len (.t s10))
(vC s12 (.int .i64 (.ofNat 0))
dE)))))
(dBlock 0 (dLoop (dSeq (dOps (dV s13 (o.lss (.t s12) (.t s11))
dE))
(dSeq (o.cond (.t s13) dSkip (dExit 0))
(dSeq (dBlock 1 (dSeq (dOps (dV s14 (o.ia 2 (.t s10) (.t s12))
(dV s15 (o.ldN 2 (.t s14))
(dV s5 (oNew [(.int .i64 (.ofNat 0)),(.int .i64 (.ofNat 0))] 47)
(dU (oSt 2 (.t s5) (.t s15))
dE)))))
(dOps (vM s16 s3
(dV s17 (o.fa 0 (.t s5))
(dV s18 (o.ld1 (.t s17))
(dV s19 (o.add (.t s18) (.c (.int .i64 (.ofNat 1))))
(dV s20 (oMm true [(.t s16),(.t s19)])
(vM s3 s20
dE)))))))))
(dOps (dV s21 (o.add (.t s12) (.c (.int .i64 (.ofNat 1))))
(vM s12 s21
dE)))))))))
(dSeq (dOps (vM s22 s3
(vM s2 s22
dE)))
dRet))))),[(.t s2)]⟩
def af205:AF:=afG205 fastO
def afG206 (o:Ops):AF:=⟨(dSeq (dOps (dV s2 (oBox 50 (.t s0))
(vC s4 (.int .i64 (.ofNat 0))
(vC s5 .nils
dE))))
(dSeq (dOps (vM s10 s1
(dC (some s11) p235 [(.t s10)]
(vM s6 s11
dE))))
(dSeq (dOps (dV s12 (o.fa 1 (.t s2))
(dV s13 (o.ld1 (.t s12))
(dV s14 (o.len (.t s13))
(dV s15 (oMkS 47 2 [(.int .i64 (.ofNat 0)),(.int .i64 (.ofNat 0))] (.c (.int .i64 (.ofNat 0))) (.t s14))
(vM s7 s15
dE))))))
(dSeq (dSeq (dOps (dV s16 (o.fa 1 (.t s2))
(dV s17 (o.ld1 (.t s16))
(dV s18 (o.len (.t s17))
(vC s19 (.int .i64 (.ofNat 0))
dE)))))
(dBlock 0 (dLoop (dSeq (dOps (dV s20 (o.lss (.t s19) (.t s18))
dE))
(dSeq (o.cond (.t s20) dSkip (dExit 0))
(dSeq (dBlock 1 (dSeq (dOps (dV s21 (o.ia 2 (.t s17) (.t s19))
(dV s22 (o.ldN 2 (.t s21))
(dV s9 (oNew [(.int .i64 (.ofNat 0)),(.int .i64 (.ofNat 0))] 47)
(dU (oSt 2 (.t s9) (.t s22))
dE)))))
(dDraw (lM s23 s7
(lN s24 (o.fa 0 (.t s9))
(lN s25 (o.ld1 (.t s24))
(lM s26 s6
(lN s27 (o.fa 1 (.t s9))
(lN s28 (o.ld1 (.t s27))
(lE [] [(s25,(o.ld1 (.t s24)))] (some s29) (eK ⟨(some s29),(.callv (.t s26) [(.t s28)]),none⟩)
(lN s30 (oBuild [(.int .i64 (.ofNat 0)),(.int .i64 (.ofNat 0))] [(0,1,(.t s25)),(1,1,(.t s29))])
(lA 8 s31 (floatK (.buildS 47 1 [(.int .i64 (.ofNat 0)),(.int .i64 (.ofNat 0))] [(0,2,(.t s30))]))
(lE [8] [] (some s32) (actV (oApp 47 2 (.t s23) (.t s31)))
(lE [8] [] (some s7) (actV (oMv (.t s32)))
sEnd))))))))))))))
(dOps (dV s33 (o.add (.t s19) (.c (.int .i64 (.ofNat 1))))
(vM s19 s33
dE)))))))))
(dSeq (dOps (vM s34 s6
(dV s35 (o.fa 0 (.t s2))
(dV s36 (o.ld1 (.t s35))
(dCv (some s37) (.t s34) [(.t s36)]
(vM s38 s7
(vM s4 s37
(vM s5 s38
dE))))))))
dRet))))),[(.t s4),(.t s5)]⟩
def af206:AF:=afG206 fastO
def afG207 (o:Ops):AF:=⟨(dSeq (dOps (dV s3 (oBox 104 (.t s0))
(dV s6 (oNew [.nilp] 104)
dE)))
(dSeq (dOps (dV s7 (o.fa 0 (.t s3))
(dV s8 (o.ld1 (.t s7))
(dV s9 (o.nchk (.t s8))
(dV s10 (o.fa 0 (.t s9))
(dV s11 (o.ldN 3 (.t s10))
(dV s12 (oBuild [.nilp,(.int .i64 (.ofNat 0)),.nilp,.nilp] [(0,3,(.t s11))])
(vM s13 s1
(vM s14 s2
(dC (some s15) p218 [(.t s12),(.t s13),(.t s14)]
(dV s16 (oBuild [.nilp] [(0,1,(.t s15))])
(dU (o.st1 (.t s6) (.t s16))
dE))))))))))))
dRet)),[(.cN s6 1)]⟩
def af207:AF:=afG207 fastO
def afG208 (o:Ops):AF:=⟨(dSeq (dOps (dV s2 (oBox 75 (.t s0))
(dV s3 (oBox 104 (.t s1))
(dV s4 (oNew [.nilp,(.int .i64 (.ofNat 0)),.nilp] 75)
dE))))
(dSeq (dDraw (lN s5 (o.fa 0 (.t s2))
(lN s6 (o.ldN 2 (.t s5))
(lN s8 (o.fa 2 (.t s2))
(lN s9 (o.ldN 1 (.t s8))
(lN s10 (oMkf 236 [] [(.t s3)])
(lE [] [(s9,(o.ldN 1 (.t s8)))] (some s7) (actC p102 [(.t s6)])
(lE [] [] (some s11) (actC p103 [(.t s9),(.t s10)])
(lN s12 (oBuild [.nilp,(.int .i64 (.ofNat 0)),.nilp] [(0,2,(.t s7)),(2,1,(.t s11))])
(lE [] [] none (actV (oSt 3 (.t s4) (.t s12)))
sEnd))))))))))
dRet)),[(.cN s4 3)]⟩
def af208:AF:=afG208 fastO
def afG209 (o:Ops):AF:=⟨(dSeq (dOps (vC s2 .nils
dE))
(dSeq (dOps (vC s3 (.int .i64 (.ofNat 0))
dE))
(dSeq (dSeq (dOps (vM s9 s0
(dV s10 (o.len (.t s9))
(vC s11 (.int .i64 (.ofNat 0))
dE))))
(dBlock 0 (dLoop (dSeq (dOps (dV s12 (o.lss (.t s11) (.t s10))
dE))
(dSeq (o.cond (.t s12) dSkip (dExit 0))
(dSeq (dBlock 1 (dSeq (dOps (dV s13 (o.ia 1 (.t s9) (.t s11))
(dV s14 (o.ld1 (.t s13))
(vM s5 s14
dE))))
(dSeq (dOps (vM s15 s3
(vM s16 s5
(dV s17 (o.len (.t s16))
(dV s18 (o.add (.t s15) (.t s17))
(vM s3 s18
dE))))))
(dSeq (dOps (vM s19 s3
(dV s20 (o.lss (.t s19) (.c (.int .i64 (.ofNat 0))))
dE)))
(o.cond (.t s20) (dOps (dV s21 (oMki 9 (.c (.str [108,101,110,32,111,117,116,32,111,102,32,114,97,110,103,101])))
(dPan (.t s21)
dE))) dSkip)))))
(dOps (dV s22 (o.add (.t s11) (.c (.int .i64 (.ofNat 1))))
(vM s11 s22
dE)))))))))
(dSeq (dOps (vM s23 s3
(dC (some s24) p237 [(.c .nils),(.t s23)]
(vM s6 s24
dE))))
(dSeq (dSeq (dOps (vM s25 s0
(dV s26 (o.len (.t s25))
(vC s27 (.int .i64 (.ofNat 0))
dE))))
(dBlock 2 (dLoop (dSeq (dOps (dV s28 (o.lss (.t s27) (.t s26))
dE))
(dSeq (o.cond (.t s28) dSkip (dExit 2))
(dSeq (dBlock 3 (dSeq (dOps (dV s29 (o.ia 1 (.t s25) (.t s27))
(dV s30 (o.ld1 (.t s29))
(vM s8 s30
dE))))
(dOps (vM s31 s6
(vM s32 s8
(dV s33 (oApp 47 2 (.t s31) (.t s32))
(vM s6 s33
dE)))))))
(dOps (dV s34 (o.add (.t s27) (.c (.int .i64 (.ofNat 1))))
(vM s27 s34
dE)))))))))
(dSeq (dOps (vM s35 s6
(vM s2 s35
dE)))
dRet)))))),[(.t s2)]⟩
def af209:AF:=afG209 fastO
def afG211 (o:Ops):AF:=⟨(dSeq (dOps (dV s2 (oNew [.nilp] 290)
dE))
(dSeq (dDraw (lN s3 (o.fa 0 (.t s0))
(lN s4 (o.ld1 (.t s3))
(lN s5 (o.nchk (.t s4))
(lN s6 (o.fa 2 (.t s5))
(lN s7 (o.ldN 1 (.t s6))
(lN s8 (o.ldN 1 (.t s1))
(lN s9 (o.fa 1 (.t s0))
(lN s10 (o.fa 0 (.t s9))
(lN s11 (o.ldN 2 (.t s10))
(lE [] [(s4,(o.ld1 (.t s3))),(s7,(o.ldN 1 (.t s6))),(s8,(o.ldN 1 (.t s1)))] (some s12) (actC p48 [(.t s11)])
(lE [] [] (some s13) (actC p212 [(.t s7),(.t s8),(.t s12)])
(lE [] [] none (actV (o.st1 (.t s2) (.t s13)))
sEnd)))))))))))))
dRet)),[(.cN s2 1)]⟩
def af211:AF:=afG211 fastO
def afG212 (o:Ops):AF:=⟨(dSeq (dOps (dV s3 (oBox 152 (.t s0))
(dV s4 (oBox 104 (.t s1))
(dV s6 (oNew [.nilp] 290)
dE))))
(dSeq (dOps (dV s7 (o.fa 0 (.t s3))
(dV s8 (o.ld1 (.t s7))
(vM s9 s2
(dV s10 (o.nchk (.t s8))
(dV s11 (o.fa 3 (.t s10))
(dU (o.st1 (.t s11) (.t s9))
dE)))))))
(dSeq (dOps (dV s12 (o.fa 0 (.t s3))
(dV s13 (o.ld1 (.t s12))
(dV s14 (o.fa 0 (.t s4))
(dV s15 (o.ld1 (.t s14))
(dC (some s16) p239 [(.t s13),(.t s15)]
(dV s17 (oBuild [.nilp] [(0,1,(.t s16))])
(dU (o.st1 (.t s6) (.t s17))
dE))))))))
dRet))),[(.cN s6 1)]⟩
def af212:AF:=afG212 fastO
def afG213 (o:Ops):AF:=⟨(dSeq (dOps (dV s1 (oBox 290 (.t s0))
(vC s2 (.int .i64 (.ofNat 0))
dE)))
(dSeq (dSeq (dOps (dV s3 (o.fa 0 (.t s1))
(dV s4 (o.ld1 (.t s3))
(dV s5 (o.nchk (.t s4))
(dV s6 (o.fa 4 (.t s5))
(dV s7 (o.ld1 (.t s6))
(dV s8 (o.eqp true (.t s7) (.c .nilp))
dE)))))))
(o.cond (.t s8) (dSeq (dOps (vC s2 (.int .i64 (.ofNat 5))
dE))
dRet) dSkip))
(dSeq (dOps (dV s9 (o.fa 0 (.t s1))
(dV s10 (o.ld1 (.t s9))
(dV s11 (o.nchk (.t s10))
(dV s12 (o.fa 0 (.t s11))
(dV s13 (o.fa 0 (.t s12))
(dV s14 (o.fa 2 (.t s13))
(dV s15 (o.ld1 (.t s14))
(dV s16 (o.nchk (.t s15))
(dV s17 (o.fa 0 (.t s16))
(dV s18 (o.fa 0 (.t s17))
(dV s19 (o.ld1 (.t s18))
(vM s2 s19
dE)))))))))))))
dRet))),[(.t s2)]⟩
def af213:AF:=afG213 fastO
def afG215 (o:Ops):AF:=⟨(dSeq (dOps (vC s3 (.bool false)
dE))
(dSeq (dDraw (lN s4 (o.fa 0 (.t s0))
(lN s5 (o.ld1 (.t s4))
(lN s6 (o.nchk (.t s5))
(lN s7 (o.fa 3 (.t s6))
(lN s8 (o.ld1 (.t s7))
(lN s9 (o.ldN 1 (.t s1))
(lN s10 (o.ldN 1 (.t s2))
(lN s11 (o.fa 1 (.t s0))
(lN s12 (o.fa 0 (.t s11))
(lN s13 (o.ldN 2 (.t s12))
(lE [] [(s5,(o.ld1 (.t s4))),(s8,(o.ld1 (.t s7))),(s9,(o.ldN 1 (.t s1))),(s10,(o.ldN 1 (.t s2)))] (some s14) (actC p48 [(.t s13)])
(lE [] [] (some s15) (actC p216 [(.t s8),(.t s9),(.t s10),(.t s14)])
(lM s3 s15
sEnd))))))))))))))
dRet)),[(.t s3)]⟩
def af215:AF:=afG215 fastO
def afG216 (o:Ops):AF:=⟨(dSeq (dOps (dV s5 (oBox 104 (.t s1))
(dV s6 (oBox 104 (.t s2))
(vC s8 (.bool false)
dE))))
(dSeq (dDraw (lM s11 s0
(lN s12 (o.nchk (.t s11))
(lN s13 (o.fa 1 (.t s12))
(lN s14 (o.ldN 1 (.t s5))
(lN s15 (o.ldN 1 (.t s6))
(lM s16 s3
(lN s17 (oBuild [.nilp,.nilp,(.int .i64 (.ofNat 0))] [(0,1,(.t s14)),(1,1,(.t s15)),(2,1,(.t s16))])
(lA 7 s18 (floatK (.buildS 323 1 [.nilp,.nilp,(.int .i64 (.ofNat 0))] [(0,3,(.t s17))]))
(lE [7] [] (some s19) (actC p241 [(.t s13),(.t s18)])
sEnd))))))))))
(dBlock 0 (dLoop (dBlock 1 (dSeq (dOps (vM s21 s0
(dV s22 (o.nchk (.t s21))
(dV s23 (o.fa 1 (.t s22))
(dC (some s24) p242 [(.t s23)]
(vM s20 s24
(dV s25 (o.ext (.t s20) 0)
(dV s26 (o.ext (.t s20) 1)
(dV s9 (oNew [.nilp,.nilp,(.int .i64 (.ofNat 0))] 323)
(dU (oSt 3 (.t s9) (.t s25))
(vM s10 s26
dE)))))))))))
(dSeq (dSeq (dOps (vM s27 s10
(dV s28 (o.not (.t s27))
dE)))
(o.cond (.t s28) (dSeq (dOps (vC s8 (.bool true)
dE))
dRet) dSkip))
(dSeq (dSeq (dOps (vM s29 s0
(dV s30 (o.ldN 3 (.t s9))
(dC (some s31) p243 [(.t s29),(.t s30)]
dE))))
(o.cond (.t s31) (dExit 1) dSkip))
(dSeq (dOps (vM s32 s0
(dV s33 (o.ldN 3 (.t s9))
(dC (some s34) p244 [(.t s32),(.t s33)]
(dV s35 (o.not (.t s34))
dE)))))
(o.cond (.t s35) (dSeq (dOps (vC s8 (.bool false)
dE))
dRet) dSkip)))))))))),[(.t s8)]⟩
def af216:AF:=afG216 fastO
def afG217 (o:Ops):AF:=⟨(dSeq (dOps (vC s4 (.bool false)
dE))
(dSeq (dSeq (dOps (vM s6 s0
(dV s7 (o.nchk (.t s6))
(dV s8 (o.fa 0 (.t s7))
(dV s9 (o.fa 0 (.t s8))
(dV s10 (o.ld1 (.t s9))
(vM s11 s1
(dC (some s12) p116 [(.t s10),(.t s11)]
(dV s13 (o.eql (.t s12) (.c (.int .i64 (.ofNat 0))))
dE)))))))))
(o.cond (.t s13) (dSeq (dOps (vC s4 (.bool false)
dE))
dRet) dSkip))
(dSeq (dOps (vM s14 s0
(dV s15 (o.nchk (.t s14))
(dV s16 (o.fa 6 (.t s15))
(dV s17 (o.ld1 (.t s16))
(vM s18 s1
(dV s19 (o.ia 1 (.t s17) (.t s18))
(dV s20 (o.ld1 (.t s19))
(dC (some s21) p222 [(.t s20)]
(vM s5 s21
dE))))))))))
(dSeq (dOps (vM s22 s5
(dV s23 (o.len (.t s22))
(dV s24 (o.gtr (.t s23) (.c (.int .i64 (.ofNat 0))))
(vM s25 s24
(o.g s25 true (some s26) (vM s26 s5)
(o.g s25 true (some s27) (dV s27 (o.ia 4 (.t s26) (.c (.int .i64 (.ofNat 0)))))
(o.g s25 true (some s28) (dV s28 (o.fa 0 (.t s27)))
(o.g s25 true (some s29) (dV s29 (o.ld1 (.t s28)))
(o.g s25 true (some s30) (dV s30 (o.eql (.t s29) (.c (.int .i64 (.ofNat 0)))))
(dV s31 (o.pick (.t s25) (.t s30) (.c (.bool false)))
(vM s4 s31
dE))))))))))))
dRet)))),[(.t s4)]⟩
def af217:AF:=afG217 fastO
def afG218 (o:Ops):AF:=⟨(dSeq (dOps (dV s3 (oBox 252 (.t s0))
(vC s6 .nilp
dE)))
(dSeq (dSeq (dOps (dV s7 (o.fa 3 (.t s3))
(dV s8 (o.ld1 (.t s7))
(dV s9 (o.eqp true (.t s8) (.c .nilp))
dE))))
(o.cond (.t s9) (dSeq (dOps (dV s10 (o.fa 3 (.t s3))
(dV s11 (o.ld1 (.t s10))
(vM s6 s11
dE))))
dRet) dSkip))
(dSeq (dSeq (dOps (dV s12 (o.fa 0 (.t s3))
(dV s13 (o.fa 2 (.t s12))
(dV s14 (o.ld1 (.t s13))
(dV s15 (o.nchk (.t s14))
(dV s16 (o.fa 0 (.t s15))
(dV s17 (o.fa 0 (.t s16))
(dV s18 (o.ld1 (.t s17))
(vM s19 s1
(dC (some s20) p116 [(.t s18),(.t s19)]
(dV s21 (o.eql (.t s20) (.c (.int .i64 (.ofNat 0))))
dE)))))))))))
(o.cond (.t s21) (dSeq (dOps (dV s22 (o.fa 0 (.t s3))
(dV s23 (o.ldN 3 (.t s22))
(vM s24 s1
(dC (some s25) p219 [(.t s23),(.t s24)]
(vM s6 s25
dE))))))
dRet) dSkip))
(dSeq (dDraw (lN s26 (o.fa 0 (.t s3))
(lN s27 (o.fa 0 (.t s26))
(lN s28 (o.ldN 2 (.t s27))
(lM s29 s2
(lN s32 (o.fa 0 (.t s3))
(lN s33 (o.fa 2 (.t s32))
(lN s34 (o.ld1 (.t s33))
(lM s36 s1
(lE [] [(s28,(o.ldN 2 (.t s27))),(s34,(o.ld1 (.t s33)))] (some s30) (actC p146 [(.t s29)])
(lE [] [(s34,(o.ld1 (.t s33)))] (some s31) (actC p145 [(.t s28),(.t s30)])
(lN s35 (oBuild [.nilp,(.int .i64 (.ofNat 0)),.nilp] [(0,2,(.t s31)),(2,1,(.t s34))])
(lE [] [] (some s37) (actC p219 [(.t s35),(.t s36)])
(lM s6 s37
sEnd))))))))))))))
dRet)))),[(.t s6)]⟩
def af218:AF:=afG218 fastO
def afG219 (o:Ops):AF:=⟨(dSeq (dOps (dV s2 (oBox 168 (.t s0))
(vC s4 .nilp
dE)))
(dSeq (dDraw (lN s5 (o.fa 0 (.t s2))
(lN s6 (o.ldN 2 (.t s5))
(lN s7 (o.fa 2 (.t s2))
(lN s8 (o.ld1 (.t s7))
(lN s9 (o.nchk (.t s8))
(lN s10 (o.fa 6 (.t s9))
(lN s11 (o.ld1 (.t s10))
(lM s12 s1
(lN s13 (o.ia 1 (.t s11) (.t s12))
(lN s14 (o.ld1 (.t s13))
(lN s15 (oBuild [.nilp,(.int .i64 (.ofNat 0)),.nilp] [(0,2,(.t s6)),(2,1,(.t s14))])
(lE [] [] (some s16) (actC p106 [(.t s15)])
(lM s4 s16
sEnd))))))))))))))
dRet)),[(.t s4)]⟩
def af219:AF:=afG219 fastO
def afG220 (o:Ops):AF:=⟨(dSeq (dOps (dV s1 (oBox 30 (.t s0))
(vC s2 .nils
(vC s3 (.int .i64 (.ofNat 0))
dE))))
(dSeq (dSeq (dOps (dV s6 (o.ldN 6 (.t s1))
(dC (some s7) p41 [(.t s6)]
(vM s4 s7
dE))))
(dSeq (dOps (vM s8 s4
(dV s9 (o.neq (.t s8) (.c (.int .i64 (.ofNat 0))))
dE)))
(o.cond (.t s9) (dSeq (dOps (vM s10 s4
(vC s2 .nils
(vM s3 s10
dE))))
dRet) dSkip)))
(dSeq (dOps (dV s11 (oBuild [.nils,(.bool false)] [])
(dV s5 (oNew [.nils,(.bool false)] 181)
(dU (oSt 2 (.t s5) (.t s11))
dE))))
(dSeq (dOps (dV s12 (o.ldN 6 (.t s1))
(dC (some s13) p157 [(.t s5),(.t s12)]
dE)))
(dSeq (dOps (dC (some s14) p89 [(.t s5)]
(dV s15 (o.ext (.t s14) 0)
(dV s16 (o.ext (.t s14) 1)
(vM s2 s15
(vM s3 s16
dE))))))
dRet))))),[(.t s2),(.t s3)]⟩
def af220:AF:=afG220 fastO
def afG221 (o:Ops):AF:=⟨(dSeq (dOps (dV s6 (oNew [(.int .i64 (.ofNat 0)),(.int .i64 (.ofNat 0)),(.bool false),(.str []),.nils,.nils] 30)
(vC s7 (.int .i64 (.ofNat 0))
dE)))
(dSeq (dOps (vM s19 s0
(vM s20 s1
(dC (some s21) p245 [(.t s19),(.t s20)]
(vM s18 s21
(dV s22 (o.ext (.t s18) 0)
(dV s23 (o.ext (.t s18) 1)
(dV s8 (oNew [(.int .i64 (.ofNat 0)),(.str []),(.int .i64 (.ofNat 0)),(.int .i64 (.ofNat 0)),(.int .i64 (.ofNat 0)),(.bool false),(.str []),.nils,.nils,(.int .i64 (.ofNat 0)),(.int .i64 (.ofNat 0)),(.bool false),(.str []),.nils,.nils,(.int .i64 (.ofNat 0)),.nils] 33)
(dU (oSt 17 (.t s8) (.t s22))
(vM s9 s23
dE))))))))))
(dSeq (dOps (dC (some s25) p246 []
(vM s24 s25
(dV s26 (o.ext (.t s24) 0)
(dV s27 (o.ext (.t s24) 1)
(dV s28 (o.ext (.t s24) 2)
(dV s29 (o.ext (.t s24) 3)
(dV s30 (o.ext (.t s24) 4)
(dV s31 (o.ext (.t s24) 5)
(vM s10 s26
(vM s11 s27
(vM s12 s28
(vM s13 s29
(vM s14 s30
(vM s15 s31
dE)))))))))))))))
(dSeq (dSeq (dOps (vM s32 s9
dE))
(dBlock 0 (dSeq (dOps (vM s34 s10
(dV s35 (o.eql (.t s32) (.t s34))
(vM s33 s35
dE))))
(o.cond (.t s33) (dSeq (dOps (dV s36 (oBuild [(.int .i64 (.ofNat 0)),(.int .i64 (.ofNat 0)),(.bool false),(.str []),.nils,.nils] [])
(dU (oSt 6 (.t s6) (.t s36))
(vC s7 (.int .i64 (.ofNat 12))
dE))))
dRet) (dSeq (dOps (vM s38 s15
(dV s39 (o.eql (.t s32) (.t s38))
(vM s37 s39
dE))))
(o.cond (.t s37) (dSeq (dSeq (dOps (vM s40 s2
(dV s41 (o.fa 2 (.t s8))
(dV s42 (o.ld1 (.t s41))
(dV s43 (o.add (.t s42) (.c (.int .i64 (.ofNat 1))))
(dC (some s44) p247 [(.t s40),(.t s43)]
(dV s45 (o.not (.t s44))
dE)))))))
(o.cond (.t s45) (dSeq (dOps (dV s46 (oBuild [(.int .i64 (.ofNat 0)),(.int .i64 (.ofNat 0)),(.bool false),(.str []),.nils,.nils] [])
(dU (oSt 6 (.t s6) (.t s46))
(vC s7 (.int .i64 (.ofNat 13))
dE))))
dRet) dSkip))
(dSeq (dOps (dV s48 (o.ldN 17 (.t s8))
(dC (some s49) p248 [(.t s48)]
(vM s47 s49
(dV s50 (o.ext (.t s47) 0)
(dV s51 (o.ext (.t s47) 1)
(dV s16 (oNew [(.int .i64 (.ofNat 0)),(.int .i64 (.ofNat 0)),(.bool false),(.str []),.nils,.nils] 30)
(dU (oSt 6 (.t s16) (.t s50))
(vM s17 s51
dE)))))))))
(dSeq (dSeq (dOps (vM s52 s17
(dV s53 (o.neq (.t s52) (.c (.int .i64 (.ofNat 0))))
dE)))
(o.cond (.t s53) (dSeq (dOps (dV s54 (oBuild [(.int .i64 (.ofNat 0)),(.int .i64 (.ofNat 0)),(.bool false),(.str []),.nils,.nils] [])
(vM s55 s17
(dU (oSt 6 (.t s6) (.t s54))
(vM s7 s55
dE)))))
dRet) dSkip))
(dSeq (dOps (dV s56 (o.ldN 6 (.t s16))
(vM s57 s2
(dC (some s58) p249 [(.t s56),(.t s57)]
(dV s59 (o.ext (.t s58) 0)
(dV s60 (o.ext (.t s58) 1)
(dU (oSt 6 (.t s6) (.t s59))
(vM s7 s60
dE))))))))
dRet)))) dSkip))))))
(dSeq (dSeq (dOps (vM s61 s2
(dV s62 (o.fa 2 (.t s8))
(dV s63 (o.ld1 (.t s62))
(dC (some s64) p247 [(.t s61),(.t s63)]
(dV s65 (o.not (.t s64))
dE))))))
(o.cond (.t s65) (dSeq (dOps (dV s66 (oBuild [(.int .i64 (.ofNat 0)),(.int .i64 (.ofNat 0)),(.bool false),(.str []),.nils,.nils] [])
(dU (oSt 6 (.t s6) (.t s66))
(vC s7 (.int .i64 (.ofNat 13))
dE))))
dRet) dSkip))
(dSeq (dOps (dV s67 (o.ldN 17 (.t s8))
(vM s68 s9
(dC (some s69) p250 [(.t s67),(.t s68)]
(vM s70 s2
(dC (some s71) p249 [(.t s69),(.t s70)]
(dV s72 (o.ext (.t s71) 0)
(dV s73 (o.ext (.t s71) 1)
(dU (oSt 6 (.t s6) (.t s72))
(vM s7 s73
dE))))))))))
dRet)))))),[(.cN s6 6),(.t s7)]⟩
def af221:AF:=afG221 fastO
def afG222 (o:Ops):AF:=⟨(dSeq (dOps (vC s2 .nils
dE))
(dSeq (dSeq (dOps (vM s3 s0
(dV s4 (o.nchk (.t s3))
(dV s5 (o.fa 10 (.t s4))
(dV s6 (o.ld1 (.t s5))
(dV s7 (oEq .s false (.t s6) (.c .nils))
(vM s8 s7
(o.g s8 true (some s9) (vM s9 s0)
(o.g s8 true (some s10) (dV s10 (o.nchk (.t s9)))
(o.g s8 true (some s11) (dV s11 (o.fa 9 (.t s10)))
(o.g s8 true (some s12) (dV s12 (o.ld1 (.t s11)))
(o.g s8 true (some s13) (dV s13 (o.gtr (.t s12) (.c (.int .i64 (.ofNat 0)))))
(dV s14 (o.pick (.t s8) (.t s13) (.c (.bool false)))
dE)))))))))))))
(o.cond (.t s14) (dOps (vM s15 s0
(vM s16 s0
(dC (some s17) p251 [(.t s16)]
(dV s18 (o.nchk (.t s15))
(dV s19 (o.fa 10 (.t s18))
(dU (o.st1 (.t s19) (.t s17))
dE))))))) dSkip))
(dSeq (dOps (vM s20 s0
(dV s21 (o.nchk (.t s20))
(dV s22 (o.fa 10 (.t s21))
(dV s23 (o.ld1 (.t s22))
(vM s2 s23
dE))))))
dRet))),[(.t s2)]⟩
def af222:AF:=afG222 fastO
def afG223 (o:Ops):AF:=⟨(dSeq (dOps (vM s6 s0
(dV s7 (o.len (.t s6))
(vC s8 (.int .i64 (.ofNat 0))
dE))))
(dBlock 0 (dLoop (dSeq (dOps (dV s9 (o.lss (.t s8) (.t s7))
dE))
(dSeq (o.cond (.t s9) dSkip (dExit 0))
(dSeq (dBlock 1 (dSeq (dOps (dV s10 (o.ia 2 (.t s6) (.t s8))
(dV s11 (o.ldN 2 (.t s10))
(dV s5 (oNew [(.int .i64 (.ofNat 0)),(.int .i64 (.ofNat 0))] 47)
(dU (oSt 2 (.t s5) (.t s11))
dE)))))
(dOps (vM s12 s1
(dV s13 (o.ldN 2 (.t s5))
(dCv (some s14) (.t s12) [(.t s13)]
dE))))))
(dOps (dV s15 (o.add (.t s8) (.c (.int .i64 (.ofNat 1))))
(vM s8 s15
dE))))))))),[]⟩
def af223:AF:=afG223 fastO
def afG224 (o:Ops):AF:=⟨(dSeq (dOps (dV s3 (oBox 47 (.t s1))
dE))
(dSeq (dOps (vM s4 s0
(dV s5 (o.fa 0 (.t s3))
(dV s6 (o.ld1 (.t s5))
(dC (some s7) p121 [(.t s4),(.t s6)]
dE)))))
(dOps (vM s8 s0
(dV s9 (o.fa 1 (.t s3))
(dV s10 (o.ld1 (.t s9))
(dC (some s11) p121 [(.t s8),(.t s10)]
dE))))))),[]⟩
def af224:AF:=afG224 fastO
def afG225 (o:Ops):AF:=⟨(dSeq (dOps (vC s2 (.bool false)
dE))
(dSeq (dOps (vM s3 s0
(dV s4 (o.leq (.c (.int .i64 (.ofNat 0))) (.t s3))
(vM s5 s4
(o.g s5 true (some s6) (vM s6 s0)
(o.g s5 true (some s7) (dV s7 (o.leq (.t s6) (.c (.int .i64 (.ofNat 1000)))))
(dV s8 (o.pick (.t s5) (.t s7) (.c (.bool false)))
(vM s2 s8
dE))))))))
dRet)),[(.t s2)]⟩
def af225:AF:=afG225 fastO
def afG226 (o:Ops):AF:=⟨(dSeq (dOps (dV s3 (oBox 354 (.t s1))
(vC s4 .nils
dE)))
(dSeq (dOps (vM s6 s0
(dV s7 (oApp 47 2 (.c .nils) (.t s6))
(vM s5 s7
dE))))
(dSeq (dOps (vM s8 s5
(dV s9 (oMkf 253 [] [(.t s3)])
(dC (some s10) p252 [(.t s8),(.t s9)]
dE))))
(dSeq (dOps (vM s11 s5
(dV s12 (oMkf 256 [] [(.t s3)])
(dC (some s13) p255 [(.t s11),(.t s12)]
(vM s4 s13
dE)))))
dRet)))),[(.t s4)]⟩
def af226:AF:=afG226 fastO
def afG227 (o:Ops):AF:=⟨(dSeq (dOps (dV s1 (oBox 47 (.t s0))
(vC s2 (.int .i64 (.ofNat 0))
(vC s3 (.int .i64 (.ofNat 0))
dE))))
(dSeq (dDraw (lN s4 (o.fa 0 (.t s1))
(lN s5 (o.ld1 (.t s4))
(lN s6 (o.fa 1 (.t s1))
(lN s7 (o.ld1 (.t s6))
(lM s2 s5
(lM s3 s7
sEnd)))))))
dRet)),[(.t s2),(.t s3)]⟩
def af227:AF:=afG227 fastO
def afG228 (o:Ops):AF:=⟨(dSeq (dOps (dV s2 (oBox 50 (.t s0))
(dV s3 (oBox 50 (.t s1))
(dV s4 (oNew [(.bool false)] 4)
dE))))
(dSeq (dSeq (dOps (dV s7 (o.ldN 2 (.t s2))
(dC (some s8) p195 [(.t s7)]
(dV s9 (o.not (.t s8))
(vM s10 s9
(o.g s10 false (some s11) (dV s11 (o.ldN 2 (.t s3)))
(o.g s10 false (some s12) (dC (some s12) p195 [(.t s11)])
(o.g s10 false (some s13) (dV s13 (o.not (.t s12)))
(dV s14 (o.pick (.t s10) (.c (.bool true)) (.t s13))
dE)))))))))
(o.cond (.t s14) (dSeq (dOps (dU (o.st1 (.t s4) (.c (.bool false)))
dE))
dRet) dSkip))
(dSeq (dSeq (dOps (dV s15 (o.ldN 2 (.t s2))
(dV s16 (o.ldN 2 (.t s3))
(dC (some s17) p257 [(.t s15),(.t s16)]
dE))))
(dBlock 0 (dRange (.t s17) [s18,s19] (dSeq (dOps (vM s5 s18
dE))
(dOps (vM s6 s19
dE))) (dBlock 1 (dSeq (dOps (vM s20 s5
(vM s21 s6
(dV s22 (o.gtr (.t s20) (.t s21))
dE))))
(o.cond (.t s22) (dSeq (dOps (dU (o.st1 (.t s4) (.c (.bool false)))
dE))
dRet) dSkip))))))
(dSeq (dOps (dU (o.st1 (.t s4) (.c (.bool true)))
dE))
dRet)))),[(.c1 s4)]⟩
def af228:AF:=afG228 fastO
def afG229 (o:Ops):AF:=⟨(dSeq (dOps (dV s1 (oBox 253 (.t s0))
(vC s2 .nilf
dE)))
(dSeq (dOps (dV s3 (oMkf 258 [] [(.t s1)])
(vM s2 s3
dE)))
dRet)),[(.t s2)]⟩
def af229:AF:=afG229 fastO
def afG230 (o:Ops):AF:=⟨(dSeq (dOps (dV s1 (oBox 363 (.t s0))
(vC s2 .nilf
dE)))
(dSeq (dOps (dV s3 (oMkf 259 [] [(.t s1)])
(vM s2 s3
dE)))
dRet)),[(.t s2)]⟩
def af230:AF:=afG230 fastO
def afG231 (o:Ops):AF:=⟨(dSeq (dOps (vC s2 .nils
dE))
(dSeq (dOps (vM s3 s0
(dC (some s4) p260 [(.c .nils),(.t s3)]
(vM s2 s4
dE))))
dRet)),[(.t s2)]⟩
def af231:AF:=afG231 fastO
def afG232 (o:Ops):AF:=⟨(dSeq (dOps (vC s6 .nilp
dE))
(dSeq (dDraw (lM s7 s1
(lM s8 s2
(lM s9 s0
(lM s10 s1
(lN s11 (o.nchk (.t s10))
(lN s12 (o.fa 3 (.t s11))
(lN s13 (o.fa 0 (.t s12))
(lN s14 (o.ld1 (.t s13))
(lN s15 (o.add (.t s14) (.c (.int .i64 (.ofNat 1))))
(lN s16 (oBuild [(.int .i64 (.ofNat 0)),(.int .i64 (.ofNat 0))] [(0,1,(.c (.int .i64 (.ofNat 1)))),(1,1,(.t s15))])
(lM s17 s0
(lE [] [(s14,(o.ld1 (.t s13)))] (some s18) (actC p262 [(.t s17)])
(lE [] [] (some s19) (actC p261 [(.t s16),(.t s18)])
(lN s20 (oBuild [.nilp,(.bool false),.nilp,(.int .i64 (.ofNat 0)),(.int .i64 (.ofNat 0))] [(0,1,(.t s7)),(1,1,(.t s8)),(2,1,(.t s9)),(3,2,(.t s19))])
(lA 14 s21 (aBox 359 (.t s20))
(lM s6 s21
sEnd)))))))))))))))))
dRet)),[(.t s6)]⟩
def af232:AF:=afG232 fastO
def afG233 (o:Ops):AF:=⟨(dSeq (dOps (dV s1 (oBox 290 (.t s0))
(dV s2 (oNew [.nilp] 104)
dE)))
(dSeq (dOps (dV s4 (o.ldN 1 (.t s1))
(dC (some s5) p263 [(.t s4)]
(dV s3 (oNew [(.int .i64 (.ofNat 0)),(.int .i64 (.ofNat 0)),(.int .i64 (.ofNat 0)),(.int .i64 (.ofNat 0))] 170)
(dU (oSt 4 (.t s3) (.t s5))
dE)))))
(dSeq (dDraw (lN s6 (o.fa 0 (.t s1))
(lN s7 (o.ld1 (.t s6))
(lN s8 (o.nchk (.t s7))
(lN s9 (o.fa 0 (.t s8))
(lN s10 (o.fa 0 (.t s9))
(lN s11 (o.ldN 3 (.t s10))
(lN s12 (o.ldN 4 (.t s3))
(lN s13 (o.fa 0 (.t s1))
(lN s14 (o.ld1 (.t s13))
(lN s15 (o.ldN 4 (.t s3))
(lN s16 (oBuild [.nilp,(.int .i64 (.ofNat 0)),.nilp,(.int .i64 (.ofNat 0)),(.int .i64 (.ofNat 0)),(.int .i64 (.ofNat 0)),(.int .i64 (.ofNat 0)),.nilp,(.int .i64 (.ofNat 0)),(.int .i64 (.ofNat 0)),(.int .i64 (.ofNat 0)),(.int .i64 (.ofNat 0)),.nilp,(.int .i64 (.ofNat 0))] [(0,3,(.t s11)),(3,4,(.t s12)),(7,1,(.t s14)),(8,4,(.t s15))])
(lA 11 s17 (aBox 174 (.t s16))
(lN s18 (oBuild [.nilp] [(0,1,(.t s17))])
(lE [11] [] none (actV (o.st1 (.t s2) (.t s18)))
sEnd)))))))))))))))
dRet))),[(.cN s2 1)]⟩
def af233:AF:=afG233 fastO
def afG234 (o:Ops):AF:=⟨(dSeq (dOps (dV s2 (oNew [.nilp] 104)
dE))
(dSeq (dSeq (dOps (vM s3 s0
(dV s4 (o.nchk (.t s3))
(dV s5 (o.fa 1 (.t s4))
(dV s6 (o.ld1 (.t s5))
(dV s7 (o.not (.t s6))
dE))))))
(o.cond (.t s7) (dOps (vM s8 s0
(vM s9 s0
(vM s10 s0
(dV s11 (o.nchk (.t s10))
(dV s12 (o.fa 0 (.t s11))
(dV s13 (o.ld1 (.t s12))
(dCv (some s14) (.t s13) []
(dV s15 (o.nchk (.t s8))
(dV s16 (o.fa 2 (.t s15))
(dU (o.st1 (.t s16) (.t s14))
(dV s17 (o.nchk (.t s9))
(dV s18 (o.fa 1 (.t s17))
(dU (o.st1 (.t s18) (.c (.bool true)))
dE)))))))))))))) dSkip))
(dSeq (dOps (vM s19 s0
(dV s20 (o.nchk (.t s19))
(dV s21 (o.fa 2 (.t s20))
(dV s22 (o.ldN 1 (.t s21))
(dU (o.st1 (.t s2) (.t s22))
dE))))))
dRet))),[(.cN s2 1)]⟩
def af234:AF:=afG234 fastO
def afG235 (o:Ops):AF:=⟨(dSeq (dOps (dV s1 (oBox 3 (.t s0))
(vC s2 .nilf
dE)))
(dSeq (dOps (dV s3 (o.ld1 (.t s1))
(dV s4 (oMm false [(.t s3),(.c (.int .i64 (.ofNat 1001)))])
(dU (o.st1 (.t s1) (.t s4))
dE))))
(dSeq (dOps (dV s5 (oMkf 264 [] [(.t s1)])
(vM s2 s5
dE)))
dRet))),[(.t s2)]⟩
def af235:AF:=afG235 fastO
def afG236 (o:Ops):AF:=⟨(dSeq (dOps (dV s1 (oNew [.nilp] 104)
dE))
(dSeq (dOps (dV s2 (o.ldN 1 (.t s0))
(dU (o.st1 (.t s1) (.t s2))
dE)))
dRet)),[(.cN s1 1)]⟩
def af236:AF:=afG236 fastO
def afG239 (o:Ops):AF:=⟨(dSeq (dOps (vC s4 .nilp
dE))
(dSeq (dSeq (dOps (vM s5 s1
(dV s6 (o.nchk (.t s5))
(dV s7 (o.fa 7 (.t s6))
(dV s8 (o.ld1 (.t s7))
(dV s9 (o.eqp false (.t s8) (.c .nilp))
dE))))))
(o.cond (.t s9) (dOps (vM s10 s0
(vM s11 s1
(dV s12 (oBuild [(.int .i64 (.ofNat 0)),(.int .i64 (.ofNat 0))] [])
(dC (some s13) p265 [(.t s10),(.t s11),(.t s12)]
dE))))) dSkip))
(dSeq (dBlock 0 (dLoop (dSeq (dSeq (dOps (vM s14 s0
(dV s15 (o.nchk (.t s14))
(dV s16 (o.fa 7 (.t s15))
(dV s17 (o.ld1 (.t s16))
(dV s18 (o.len (.t s17))
(dV s19 (o.gtr (.t s18) (.c (.int .i64 (.ofNat 0))))
dE)))))))
(o.cond (.t s19) dSkip (dExit 0)))
(dBlock 1 (dSeq (dBlock 2 (dLoop (dSeq (dSeq (dOps (vM s20 s0
(dC (some s21) p266 [(.t s20)]
dE)))
(o.cond (.t s21) dSkip (dExit 2)))
(dBlock 3 dSkip))))
(dDraw (lM s22 s0
(lM s23 s0
(lN s24 (o.nchk (.t s23))
(lN s25 (o.fa 8 (.t s24))
(lN s26 (o.fa 0 (.t s25))
(lN s27 (o.ldN 4 (.t s26))
(lM s28 s0
(lN s29 (o.nchk (.t s28))
(lN s30 (o.fa 8 (.t s29))
(lN s31 (o.fa 4 (.t s30))
(lN s32 (o.ld1 (.t s31))
(lN s33 (oBuild [.nilp,(.int .i64 (.ofNat 0)),.nilp,.nilp,.nilp,.nilp,.nilp,.nilp,(.int .i64 (.ofNat 0))] [(0,4,(.t s27)),(4,1,(.t s32))])
(lE [] [] (some s34) (actC p267 [(.t s22),(.t s33)])
sEnd)))))))))))))))))))
(dSeq (dOps (vM s35 s0
(vM s36 s1
(dV s37 (o.nchk (.t s36))
(dV s38 (o.fa 8 (.t s37))
(dV s39 (o.ldN 4 (.t s38))
(dC (some s40) p150 [(.t s35),(.t s39)]
dE)))))))
(dSeq (dOps (vM s41 s1
(dV s42 (o.nchk (.t s41))
(dV s43 (o.fa 7 (.t s42))
(dV s44 (o.ld1 (.t s43))
(vM s4 s44
dE))))))
dRet))))),[(.t s4)]⟩
def af239:AF:=afG239 fastO
def afG241 (o:Ops):AF:=⟨(dSeq (dOps (vM s7 s0
(dC (some s8) p268 [(.t s7)]
dE)))
(dSeq (dOps (vM s9 s1
(dV s10 (o.len (.t s9))
(dV s11 (oMkC (.t s10))
(vM s4 s11
dE)))))
(dSeq (dSeq (dOps (vM s12 s1
(dV s13 (o.len (.t s12))
(vC s14 (.int .i64 (.ofNat 0))
dE))))
(dBlock 0 (dLoop (dSeq (dOps (dV s15 (o.lss (.t s14) (.t s13))
dE))
(dSeq (o.cond (.t s15) dSkip (dExit 0))
(dSeq (dBlock 1 (dSeq (dOps (dV s16 (o.ia 3 (.t s12) (.t s14))
(dV s17 (o.ldN 3 (.t s16))
(dV s6 (oNew [.nilp,.nilp,(.int .i64 (.ofNat 0))] 323)
(dU (oSt 3 (.t s6) (.t s17))
dE)))))
(dOps (vM s18 s4
(dV s19 (o.ldN 3 (.t s6))
(dSnd none (.t s18) (.t s19)
dE))))))
(dOps (dV s20 (o.add (.t s14) (.c (.int .i64 (.ofNat 1))))
(vM s14 s20
dE)))))))))
(dOps (vM s21 s0
(vM s22 s0
(dV s23 (o.nchk (.t s22))
(dV s24 (o.fa 0 (.t s23))
(dV s25 (o.ld1 (.t s24))
(vM s26 s4
(dV s27 (oBuildS 395 1 [.nilc] [(0,1,(.t s26))])
(dV s28 (oApp 395 1 (.t s25) (.t s27))
(dV s29 (o.nchk (.t s21))
(dV s30 (o.fa 0 (.t s29))
(dU (o.st1 (.t s30) (.t s28))
dE))))))))))))))),[]⟩
def af241:AF:=afG241 fastO
def afG242 (o:Ops):AF:=⟨(dSeq (dOps (dV s2 (oNew [.nilp,.nilp,(.int .i64 (.ofNat 0))] 323)
(vC s3 (.bool false)
dE)))
(dSeq (dSeq (dOps (vM s7 s0
(dV s8 (o.nchk (.t s7))
(dV s9 (o.fa 0 (.t s8))
(dV s10 (o.ld1 (.t s9))
(dV s11 (o.len (.t s10))
(dV s12 (o.sub (.t s11) (.c (.int .i64 (.ofNat 1))))
(vM s4 s12
dE))))))))
(dBlock 0 (dLoop (dSeq (dSeq (dOps (vM s13 s4
(dV s14 (o.geq (.t s13) (.c (.int .i64 (.ofNat 0))))
dE)))
(o.cond (.t s14) dSkip (dExit 0)))
(dSeq (dBlock 1 (dSeq (dOps (vM s17 s0
(dV s18 (o.nchk (.t s17))
(dV s19 (o.fa 0 (.t s18))
(dV s20 (o.ld1 (.t s19))
(vM s21 s4
(dV s22 (o.ia 1 (.t s20) (.t s21))
(dV s23 (o.ld1 (.t s22))
dE))))))))
(dSeq (dOps (dSel (some s24) (.t s23) (.agg [.nilp,.nilp,(.int .i64 (.ofNat 0))])
(dV s25 (o.ext (.t s24) 0)
(dV s26 (o.eql (.t s25) (.c (.int .i64 (.ofNat 0))))
dE))))
(dBlock 2 (o.cond (.t s26) (dSeq (dOps (dV s36 (o.ext (.t s24) 2)
(dV s5 (oNew [.nilp,.nilp,(.int .i64 (.ofNat 0))] 323)
(dU (oSt 3 (.t s5) (.t s36))
dE))))
(dSeq (dOps (dV s37 (o.ldN 3 (.t s5))
(dU (oSt 3 (.t s2) (.t s37))
(vC s3 (.bool true)
dE))))
dRet)) (dOps (vM s27 s0
(vM s28 s0
(dV s29 (o.nchk (.t s28))
(dV s30 (o.fa 0 (.t s29))
(dV s31 (o.ld1 (.t s30))
(vM s32 s4
(dV s33 (oSl 1 (.t s31) none (some (.t s32)) none)
(dV s34 (o.nchk (.t s27))
(dV s35 (o.fa 0 (.t s34))
(dU (o.st1 (.t s35) (.t s33))
dE))))))))))))))))
(dOps (vM s15 s4
(dV s16 (o.sub (.t s15) (.c (.int .i64 (.ofNat 1))))
(vM s4 s16
dE)))))))))
(dSeq (dOps (dV s6 (oNew [.nilp,.nilp,(.int .i64 (.ofNat 0))] 323)
dE))
(dSeq (dOps (dV s38 (o.ldN 3 (.t s6))
(dU (oSt 3 (.t s2) (.t s38))
(vC s3 (.bool false)
dE))))
dRet)))),[(.cN s2 3),(.t s3)]⟩
def af242:AF:=afG242 fastO
def afG243 (o:Ops):AF:=⟨(dSeq (dOps (dV s3 (oBox 323 (.t s1))
(vC s4 (.bool false)
dE)))
(dSeq (dSeq (dOps (dV s5 (o.fa 0 (.t s3))
(dV s6 (o.ldN 1 (.t s5))
(dC (some s7) p269 [(.t s6)]
(dV s8 (o.not (.t s7))
(vM s9 s8
(o.g s9 false (some s10) (dV s10 (o.fa 1 (.t s3)))
(o.g s9 false (some s11) (dV s11 (o.ldN 1 (.t s10)))
(o.g s9 false (some s12) (dC (some s12) p269 [(.t s11)])
(o.g s9 false (some s13) (dV s13 (o.not (.t s12)))
(dV s14 (o.pick (.t s9) (.c (.bool true)) (.t s13))
dE)))))))))))
(o.cond (.t s14) (dSeq (dOps (vC s4 (.bool false)
dE))
dRet) dSkip))
(dSeq (dDraw (lM s15 s0
(lN s16 (o.nchk (.t s15))
(lN s17 (o.fa 2 (.t s16))
(lN s18 (o.ld1 (.t s17))
(lM s19 s0
(lN s20 (o.ldN 3 (.t s3))
(lE [] [(s18,(o.ld1 (.t s17)))] (some s21) (actC p270 [(.t s19),(.t s20)])
(lN s22 (oLkA 3 (.int .i64 (.ofNat 0)) false (.t s18) (.t s21))
(lN s23 (o.gtr (.t s22) (.c (.int .i64 (.ofNat 0))))
(lM s4 s23
sEnd)))))))))))
dRet))),[(.t s4)]⟩
def af243:AF:=afG243 fastO
def afG244 (o:Ops):AF:=⟨(dSeq (dOps (dV s3 (oBox 323 (.t s1))
(vC s4 (.bool false)
dE)))
(dSeq (dDraw (lM s8 s0
(lN s9 (o.nchk (.t s8))
(lN s10 (o.fa 0 (.t s9))
(lN s11 (o.ldN 1 (.t s10))
(lN s12 (o.fa 0 (.t s3))
(lN s13 (o.ldN 1 (.t s12))
(lN s14 (o.fa 2 (.t s3))
(lN s15 (o.ld1 (.t s14))
(lM s17 s0
(lN s18 (o.nchk (.t s17))
(lN s19 (o.fa 0 (.t s18))
(lN s20 (o.ldN 1 (.t s19))
(lN s21 (o.fa 1 (.t s3))
(lN s22 (o.ldN 1 (.t s21))
(lN s23 (o.fa 2 (.t s3))
(lN s24 (o.ld1 (.t s23))
(lN s26 (o.fa 2 (.t s3))
(lN s27 (o.ld1 (.t s26))
(lA 21 s5 (aNew [.nilp,.nilp,(.int .i64 (.ofNat 0))] 292)
(lE [] [(s20,(o.ldN 1 (.t s19))),(s22,(o.ldN 1 (.t s21))),(s24,(o.ld1 (.t s23))),(s27,(o.ld1 (.t s26)))] (some s16) (actC p212 [(.t s11),(.t s13),(.t s15)])
(lE [] [(s27,(o.ld1 (.t s26)))] (some s25) (actC p212 [(.t s20),(.t s22),(.t s24)])
(lN s28 (oBuild [.nilp,.nilp,(.int .i64 (.ofNat 0))] [(0,1,(.t s16)),(1,1,(.t s25)),(2,1,(.t s27))])
(lE [21] [] none (actV (oSt 3 (.t s5) (.t s28)))
sEnd))))))))))))))))))))))))
(dSeq (dDraw (lM s30 s0
(lN s31 (o.fa 0 (.t s5))
(lN s32 (o.ldN 1 (.t s31))
(lN s34 (o.fa 1 (.t s5))
(lN s35 (o.ldN 1 (.t s34))
(lN s38 (o.ldN 3 (.t s5))
(lE [] [(s35,(o.ldN 1 (.t s34))),(s38,(o.ldN 3 (.t s5)))] (some s33) (actC p213 [(.t s32)])
(lE [] [(s38,(o.ldN 3 (.t s5)))] (some s36) (actC p213 [(.t s35)])
(lE [] [(s38,(o.ldN 3 (.t s5)))] (some s37) (actC p271 [(.t s30),(.t s33),(.t s36)])
(lE [] [] (some s39) (eK ⟨(some s39),(.callv (.t s37) [(.t s38)]),none⟩)
(lM s29 s39
(lN s40 (o.ext (.t s29) 0)
(lN s41 (o.ext (.t s29) 1)
(lM s6 s40
(lM s7 s41
sEnd))))))))))))))))
(dSeq (dSeq (dOps (vM s42 s6
(dV s43 (o.len (.t s42))
(dV s44 (o.gtr (.t s43) (.c (.int .i64 (.ofNat 0))))
dE))))
(o.cond (.t s44) (dSeq (dDraw (lM s45 s0
(lN s46 (o.nchk (.t s45))
(lN s47 (o.fa 2 (.t s46))
(lN s48 (o.ld1 (.t s47))
(lM s49 s0
(lN s50 (o.ldN 3 (.t s3))
(lM s52 s6
(lN s53 (o.len (.t s52))
(lE [] [(s48,(o.ld1 (.t s47)))] (some s51) (actC p270 [(.t s49),(.t s50)])
(lE [] [] none (actV (oUpA 3 (.t s48) (.t s51) (.t s53)))
sEnd)))))))))))
(dOps (vM s54 s0
(dV s55 (o.nchk (.t s54))
(dV s56 (o.fa 1 (.t s55))
(vM s57 s6
(dC (some s58) p241 [(.t s56),(.t s57)]
dE))))))) dSkip))
(dSeq (dOps (vM s59 s7
(vM s4 s59
dE)))
dRet))))),[(.t s4)]⟩
def af244:AF:=afG244 fastO
def afG245 (o:Ops):AF:=⟨(dSeq (dOps (dV s4 (oNew [(.int .i64 (.ofNat 0)),(.str []),(.int .i64 (.ofNat 0)),(.int .i64 (.ofNat 0)),(.int .i64 (.ofNat 0)),(.bool false),(.str []),.nils,.nils,(.int .i64 (.ofNat 0)),(.int .i64 (.ofNat 0)),(.bool false),(.str []),.nils,.nils,(.int .i64 (.ofNat 0)),.nils] 33)
(vC s5 (.int .i64 (.ofNat 0))
dE)))
(dSeq (dOps (vM s8 s0
(dC (some s9) p36 [(.t s8)]
(vM s0 s9
dE))))
(dSeq (dOps (vM s11 s0
(dV s12 (o.nchk (.t s11))
(dV s13 (o.fa 1 (.t s12))
(vM s14 s1
(dC (some s15) p272 [(.t s13),(.t s14)]
(vM s10 s15
(dV s16 (o.ext (.t s10) 0)
(dV s17 (o.ext (.t s10) 1)
(dV s6 (oNew [(.int .i64 (.ofNat 0)),(.int .i64 (.ofNat 0))] 97)
(dU (oSt 2 (.t s6) (.t s16))
(vM s7 s17
dE))))))))))))
(dSeq (dSeq (dOps (vM s18 s7
(dV s19 (o.not (.t s18))
dE)))
(o.cond (.t s19) (dSeq (dOps (dV s20 (oBuild [(.int .i64 (.ofNat 0)),(.str []),(.int .i64 (.ofNat 0)),(.int .i64 (.ofNat 0)),(.int .i64 (.ofNat 0)),(.bool false),(.str []),.nils,.nils,(.int .i64 (.ofNat 0)),(.int .i64 (.ofNat 0)),(.bool false),(.str []),.nils,.nils,(.int .i64 (.ofNat 0)),.nils] [])
(dU (oSt 17 (.t s4) (.t s20))
(vC s5 (.int .i64 (.ofNat 0))
dE))))
dRet) dSkip))
(dSeq (dDraw (lM s21 s0
(lN s22 (o.fa 0 (.t s6))
(lN s23 (o.ld1 (.t s22))
(lN s25 (o.fa 1 (.t s6))
(lN s26 (o.ld1 (.t s25))
(lE [] [(s26,(o.ld1 (.t s25)))] (some s24) (actC p273 [(.t s21),(.t s23)])
(lE [] [(s26,(o.ld1 (.t s25)))] none (actV (oSt 17 (.t s4) (.t s24)))
(lM s5 s26
sEnd)))))))))
dRet))))),[(.cN s4 17),(.t s5)]⟩
def af245:AF:=afG245 fastO
def afG246 (o:Ops):AF:=⟨(dSeq (dOps (vC s0 (.int .i64 (.ofNat 0))
(vC s1 (.int .i64 (.ofNat 0))
(vC s2 (.int .i64 (.ofNat 0))
(vC s3 (.int .i64 (.ofNat 0))
(vC s4 (.int .i64 (.ofNat 0))
(vC s5 (.int .i64 (.ofNat 0))
dE)))))))
(dSeq (dOps (vC s0 (.int .i64 (.ofNat 0))
(vC s1 (.int .i64 (.ofNat 1))
(vC s2 (.int .i64 (.ofNat 2))
(vC s3 (.int .i64 (.ofNat 3))
(vC s4 (.int .i64 (.ofNat 4))
(vC s5 (.int .i64 (.ofNat 5))
dE)))))))
dRet)),[(.t s0),(.t s1),(.t s2),(.t s3),(.t s4),(.t s5)]⟩
def af246:AF:=afG246 fastO
def afG247 (o:Ops):AF:=⟨(dSeq (dOps (vC s4 (.bool false)
dE))
(dSeq (dSeq (dOps (vM s9 s0
(dV s10 (o.len (.t s9))
(vC s11 (.int .i64 (.ofNat 0))
dE))))
(dBlock 0 (dLoop (dSeq (dOps (dV s12 (o.lss (.t s11) (.t s10))
dE))
(dSeq (o.cond (.t s12) dSkip (dExit 0))
(dSeq (dBlock 1 (dSeq (dOps (dV s13 (o.ia 2 (.t s9) (.t s11))
(dV s14 (o.ldN 2 (.t s13))
(dV s6 (oNew [(.int .i64 (.ofNat 0)),.nils] 50)
(dU (oSt 2 (.t s6) (.t s14))
dE)))))
(dSeq (dOps (dV s16 (o.ldN 2 (.t s6))
(dC (some s17) p161 [(.t s16)]
(vM s15 s17
(dV s18 (o.ext (.t s15) 0)
(dV s19 (o.ext (.t s15) 1)
(dV s7 (oNew [(.int .i64 (.ofNat 0)),.nils] 50)
(dU (oSt 2 (.t s7) (.t s18))
(vM s8 s19
dE)))))))))
(dSeq (dOps (vM s20 s8
(dV s21 (o.neq (.t s20) (.c (.int .i64 (.ofNat 0))))
dE)))
(o.cond (.t s21) (dSeq (dOps (vC s4 (.bool false)
dE))
dRet) dSkip)))))
(dOps (dV s22 (o.add (.t s11) (.c (.int .i64 (.ofNat 1))))
(vM s11 s22
dE)))))))))
(dSeq (dOps (vM s23 s0
(dV s24 (o.len (.t s23))
(vM s25 s1
(dV s26 (o.eql (.t s24) (.t s25))
(vM s4 s26
dE))))))
dRet))),[(.t s4)]⟩
def af247:AF:=afG247 fastO
def afG248 (o:Ops):AF:=⟨(dSeq (dOps (dV s1 (oBox 33 (.t s0))
(dV s2 (oNew [(.int .i64 (.ofNat 0)),(.int .i64 (.ofNat 0)),(.bool false),(.str []),.nils,.nils] 30)
(dV s3 (oNew [(.int .i64 (.ofNat 0))] 39)
dE))))
(dSeq (dOps (dV s10 (o.ldN 17 (.t s1))
(dC (some s11) p274 [(.t s10)]
(vM s9 s11
(dV s12 (o.ext (.t s9) 0)
(dV s13 (o.ext (.t s9) 1)
(dV s4 (oNew [(.int .i64 (.ofNat 0)),(.str []),(.int .i64 (.ofNat 0)),(.int .i64 (.ofNat 0)),(.int .i64 (.ofNat 0)),(.bool false),(.str []),.nils,.nils,(.int .i64 (.ofNat 0)),(.int .i64 (.ofNat 0)),(.bool false),(.str []),.nils,.nils,(.int .i64 (.ofNat 0)),.nils,.nils,.nils,(.int .i64 (.ofNat 0)),.nils] 404)
(dU (oSt 21 (.t s4) (.t s12))
(vM s5 s13
dE)))))))))
(dSeq (dSeq (dOps (vM s14 s5
(dV s15 (o.neq (.t s14) (.c (.int .i64 (.ofNat 0))))
dE)))
(o.cond (.t s15) (dSeq (dOps (dV s16 (oBuild [(.int .i64 (.ofNat 0)),(.int .i64 (.ofNat 0)),(.bool false),(.str []),.nils,.nils] [])
(vM s17 s5
(dU (oSt 6 (.t s2) (.t s16))
(dU (o.st1 (.t s3) (.t s17))
dE)))))
dRet) dSkip))
(dSeq (dOps (dV s6 (oNew [.nils] 407)
dE))
(dSeq (dSeq (dOps (dV s18 (o.ldN 21 (.t s4))
(dC (some s19) p275 [(.t s18)]
dE)))
(dBlock 0 (dRange (.t s19) [s20,s21] (dSeq (dOps (dV s7 (oNew [(.str []),.nils,.nils,.nils] 413)
(dU (oSt 4 (.t s7) (.t s20))
dE)))
(dOps (vM s8 s21
dE))) (dBlock 1 (dSeq (dSeq (dOps (vM s22 s8
(dV s23 (o.neq (.t s22) (.c (.int .i64 (.ofNat 0))))
dE)))
(o.cond (.t s23) (dSeq (dOps (dV s24 (oBuild [(.int .i64 (.ofNat 0)),(.int .i64 (.ofNat 0)),(.bool false),(.str []),.nils,.nils] [])
(vM s25 s8
(dU (oSt 6 (.t s2) (.t s24))
(dU (o.st1 (.t s3) (.t s25))
dE)))))
dRet) dSkip))
(dOps (dV s26 (o.ld1 (.t s6))
(dV s27 (o.ldN 4 (.t s7))
(dV s28 (oBuildS 413 1 [(.str []),.nils,.nils,.nils] [(0,4,(.t s27))])
(dV s29 (oApp 413 4 (.t s26) (.t s28))
(dU (o.st1 (.t s6) (.t s29))
dE)))))))))))
(dSeq (dOps (dV s30 (o.ldN 21 (.t s4))
(dV s31 (o.ld1 (.t s6))
(dC (some s32) p277 [(.t s30),(.t s31)]
(dC (some s33) p276 [(.t s32)]
(dV s34 (o.ext (.t s33) 0)
(dV s35 (o.ext (.t s33) 1)
(dU (oSt 6 (.t s2) (.t s34))
(dU (o.st1 (.t s3) (.t s35))
dE)))))))))
dRet)))))),[(.cN s2 6),(.c1 s3)]⟩
def af248:AF:=afG248 fastO
def afG249 (o:Ops):AF:=⟨(dSeq (dOps (dV s2 (oBox 30 (.t s0))
(dV s4 (oNew [(.int .i64 (.ofNat 0)),(.int .i64 (.ofNat 0)),(.bool false),(.str []),.nils,.nils] 30)
(vC s5 (.int .i64 (.ofNat 0))
dE))))
(dSeq (dSeq (dOps (dV s8 (o.ldN 6 (.t s2))
(dC (some s9) p41 [(.t s8)]
(vM s6 s9
dE))))
(dSeq (dOps (vM s10 s6
(dV s11 (o.neq (.t s10) (.c (.int .i64 (.ofNat 0))))
dE)))
(o.cond (.t s11) (dSeq (dOps (dV s12 (oBuild [(.int .i64 (.ofNat 0)),(.int .i64 (.ofNat 0)),(.bool false),(.str []),.nils,.nils] [])
(vM s13 s6
(dU (oSt 6 (.t s4) (.t s12))
(vM s5 s13
dE)))))
dRet) dSkip)))
(dSeq (dOps (vM s14 s1
(dV s15 (oBuild [.nils,(.bool false)] [(0,1,(.t s14))])
(dV s7 (oNew [.nils,(.bool false)] 416)
(dU (oSt 2 (.t s7) (.t s15))
dE)))))
(dSeq (dOps (dV s16 (o.ldN 6 (.t s2))
(dV s17 (oBuild [(.int .i64 (.ofNat 0)),(.int .i64 (.ofNat 0))] [])
(dV s18 (oMkf 279 [(.t s7)] [])
(dC (some s19) p124 [(.t s16),(.t s17),(.t s18),(.c (.fn (.func 126) [] []))]
(dV s20 (o.ext (.t s19) 0)
(dV s21 (o.ext (.t s19) 1)
(dC (some s22) p278 [(.t s20),(.t s21)]
(dV s23 (o.ext (.t s22) 0)
(dV s24 (o.ext (.t s22) 1)
(dU (oSt 6 (.t s4) (.t s23))
(vM s5 s24
dE))))))))))))
dRet)))),[(.cN s4 6),(.t s5)]⟩
def af249:AF:=afG249 fastO
def afG250 (o:Ops):AF:=⟨(dSeq (dOps (dV s2 (oBox 33 (.t s0))
(dV s4 (oNew [(.int .i64 (.ofNat 0)),(.int .i64 (.ofNat 0)),(.bool false),(.str []),.nils,.nils] 30)
dE)))
(dSeq (dOps (dC (some s12) p246 []
(vM s11 s12
(dV s13 (o.ext (.t s11) 0)
(dV s14 (o.ext (.t s11) 1)
(dV s15 (o.ext (.t s11) 2)
(dV s16 (o.ext (.t s11) 3)
(dV s17 (o.ext (.t s11) 4)
(dV s18 (o.ext (.t s11) 5)
(vM s5 s13
(vM s6 s14
(vM s7 s15
(vM s8 s16
(vM s9 s17
(vM s10 s18
dE)))))))))))))))
(dSeq (dSeq (dOps (vM s19 s1
(vM s20 s9
(dV s21 (o.lss (.t s19) (.t s20))
dE))))
(o.cond (.t s21) (dSeq (dOps (dV s22 (o.fa 3 (.t s2))
(dV s23 (o.ldN 6 (.t s22))
(dU (oSt 6 (.t s4) (.t s23))
dE))))
dRet) dSkip))
(dSeq (dOps (dV s24 (o.fa 16 (.t s2))
(dV s25 (o.ld1 (.t s24))
(vM s26 s1
(vM s27 s9
(dV s28 (o.sub (.t s26) (.t s27))
(dV s29 (oAr .quo (.t s28) (.c (.int .i64 (.ofNat 2))))
(dV s30 (o.ia 7 (.t s25) (.t s29))
(dV s31 (o.fa 1 (.t s30))
(dV s32 (o.ldN 6 (.t s31))
(dU (oSt 6 (.t s4) (.t s32))
dE)))))))))))
dRet)))),[(.cN s4 6)]⟩
def af250:AF:=afG250 fastO
def afG251 (o:Ops):AF:=⟨(dSeq (dOps (vC s2 .nils
dE))
(dSeq (dSeq (dOps (vM s9 s0
(dV s10 (o.nchk (.t s9))
(dV s11 (o.fa 0 (.t s10))
(dV s12 (o.fa 0 (.t s11))
(dV s13 (o.ld1 (.t s12))
(dV s14 (o.eql (.t s13) (.c (.int .i64 (.ofNat 1))))
dE)))))))
(o.cond (.t s14) (dSeq (dOps (vM s15 s0
(dV s16 (o.nchk (.t s15))
(dV s17 (o.fa 0 (.t s16))
(dV s18 (o.fa 1 (.t s17))
(dV s19 (o.ld1 (.t s18))
(dV s20 (oBuild [(.int .i64 (.ofNat 0)),(.int .i64 (.ofNat 0)),(.int .i64 (.ofNat 0)),(.int .i64 (.ofNat 0))] [(0,1,(.t s19)),(1,1,(.c (.int .i64 (.ofNat 1))))])
(dV s21 (oBuildS 350 1 [(.int .i64 (.ofNat 0)),(.int .i64 (.ofNat 0)),(.int .i64 (.ofNat 0)),(.int .i64 (.ofNat 0))] [(0,4,(.t s20))])
(vM s2 s21
dE)))))))))
dRet) dSkip))
(dSeq (dOps (vC s3 .nils
dE))
(dSeq (dSeq (dOps (vM s22 s0
(dV s23 (o.nchk (.t s22))
(dV s24 (o.fa 6 (.t s23))
(dV s25 (o.ld1 (.t s24))
(dV s26 (o.len (.t s25))
(vC s27 (.int .i64 (.ofNat 0))
dE)))))))
(dBlock 0 (dLoop (dSeq (dOps (dV s28 (o.lss (.t s27) (.t s26))
dE))
(dSeq (o.cond (.t s28) dSkip (dExit 0))
(dSeq (dBlock 1 (dSeq (dOps (vM s29 s27
(dV s30 (o.ia 1 (.t s25) (.t s27))
(dV s31 (o.ld1 (.t s30))
(vM s4 s29
(vM s5 s31
dE))))))
(dSeq (dOps (vM s32 s0
(dV s33 (o.nchk (.t s32))
(dV s34 (o.fa 0 (.t s33))
(dV s35 (o.fa 0 (.t s34))
(dV s36 (o.ld1 (.t s35))
(vM s37 s4
(dC (some s38) p116 [(.t s36),(.t s37)]
(vM s6 s38
dE)))))))))
(dSeq (dOps (vM s39 s5
(dC (some s40) p222 [(.t s39)]
(dV s41 (o.len (.t s40))
(vC s42 (.int .i64 (.ofNat 0))
dE)))))
(dBlock 2 (dLoop (dSeq (dOps (dV s43 (o.lss (.t s42) (.t s41))
dE))
(dSeq (o.cond (.t s43) dSkip (dExit 2))
(dSeq (dBlock 3 (dSeq (dOps (dV s44 (o.ia 4 (.t s40) (.t s42))
(dV s45 (o.ldN 4 (.t s44))
(dV s8 (oNew [(.int .i64 (.ofNat 0)),(.int .i64 (.ofNat 0)),(.int .i64 (.ofNat 0)),(.int .i64 (.ofNat 0))] 350)
(dU (oSt 4 (.t s8) (.t s45))
dE)))))
(dSeq (dOps (dV s46 (o.fa 0 (.t s8))
(dV s47 (o.ld1 (.t s46))
(vM s48 s6
(dV s49 (o.geq (.t s47) (.t s48))
dE)))))
(o.cond (.t s49) (dOps (vM s50 s3
(dV s51 (o.fa 0 (.t s8))
(dV s52 (o.ld1 (.t s51))
(vM s53 s6
(dV s54 (o.sub (.t s52) (.t s53))
(dV s55 (o.fa 1 (.t s8))
(dV s56 (o.ld1 (.t s55))
(dV s57 (o.fa 2 (.t s8))
(dV s58 (o.ld1 (.t s57))
(dV s59 (o.add (.t s58) (.c (.int .i64 (.ofNat 1))))
(dV s60 (o.fa 3 (.t s8))
(dV s61 (o.ld1 (.t s60))
(vM s62 s6
(dV s63 (o.add (.t s61) (.t s62))
(dV s64 (oBuild [(.int .i64 (.ofNat 0)),(.int .i64 (.ofNat 0)),(.int .i64 (.ofNat 0)),(.int .i64 (.ofNat 0))] [(0,1,(.t s54)),(1,1,(.t s56)),(2,1,(.t s59)),(3,1,(.t s63))])
(dV s65 (oBuildS 350 1 [(.int .i64 (.ofNat 0)),(.int .i64 (.ofNat 0)),(.int .i64 (.ofNat 0)),(.int .i64 (.ofNat 0))] [(0,4,(.t s64))])
(dV s66 (oApp 350 4 (.t s50) (.t s65))
(vM s3 s66
dE))))))))))))))))))) dSkip))))
(dOps (dV s67 (o.add (.t s42) (.c (.int .i64 (.ofNat 1))))
(vM s42 s67
dE))))))))))))
(dOps (dV s68 (o.add (.t s27) (.c (.int .i64 (.ofNat 1))))
(vM s27 s68
dE)))))))))
(dSeq (dOps (vM s69 s3
(dC (some s70) p280 [(.t s69)]
(vM s2 s70
dE))))
dRet))))),[(.t s2)]⟩
def af251:AF:=afG251 fastO
def afG252 (o:Ops):AF:=⟨(dSeq (dOps (vM s5 s0
(dV s6 (o.len (.t s5))
(vM s4 s6
dE))))
(dOps (vM s7 s0
(vM s8 s4
(vM s9 s4
(dV s10 (oCvI .u64 (.t s9))
(dC (some s11) p282 [(.t s10)]
(vM s12 s1
(dC (some s13) p281 [(.t s7),(.c (.int .i64 (.ofNat 0))),(.t s8),(.t s11),(.t s12)]
dE))))))))),[]⟩
def af252:AF:=afG252 fastO
def afG253 (o:Ops):AF:=⟨(dSeq (dOps (dV s3 (oBox 47 (.t s0))
(dV s4 (oBox 47 (.t s1))
(vC s5 (.int .i64 (.ofNat 0))
dE))))
(dSeq (dOps (dV s11 (o.ld1 (.t s2))
(dV s12 (o.ldN 2 (.t s3))
(dCv (some s13) (.t s11) [(.t s12)]
(vM s10 s13
(dV s14 (o.ext (.t s10) 0)
(dV s15 (o.ext (.t s10) 1)
(vM s6 s14
(vM s7 s15
dE)))))))))
(dSeq (dOps (dV s17 (o.ld1 (.t s2))
(dV s18 (o.ldN 2 (.t s4))
(dCv (some s19) (.t s17) [(.t s18)]
(vM s16 s19
(dV s20 (o.ext (.t s16) 0)
(dV s21 (o.ext (.t s16) 1)
(vM s8 s20
(vM s9 s21
dE)))))))))
(dSeq (dSeq (dOps (vM s22 s6
(vM s23 s8
(dV s24 (o.neq (.t s22) (.t s23))
dE))))
(o.cond (.t s24) (dSeq (dOps (vM s25 s6
(vM s26 s8
(dC (some s27) p254 [(.t s25),(.t s26)]
(vM s5 s27
dE)))))
dRet) dSkip))
(dSeq (dOps (vM s28 s9
(vM s29 s7
(dC (some s30) p254 [(.t s28),(.t s29)]
(vM s5 s30
dE)))))
dRet))))),[(.t s5)]⟩
def af253:AF:=afG253 fastO
def afG254 (o:Ops):AF:=⟨(dSeq (dOps (vC s4 (.int .i64 (.ofNat 0))
dE))
(dSeq (dOps (vM s7 s0
(dC (some s8) p283 [(.t s7)]
(vM s5 s8
dE))))
(dSeq (dOps (vM s9 s1
(dC (some s10) p283 [(.t s9)]
(vM s6 s10
dE))))
(dSeq (dSeq (dOps (vM s11 s5
dE))
(o.cond (.t s11) (dSeq (dSeq (dOps (vM s12 s6
dE))
(o.cond (.t s12) (dSeq (dOps (vC s4 (.int .i64 (.ofNat 0))
dE))
dRet) dSkip))
(dSeq (dOps (vC s4 (.int .i64 (.negSucc 0))
dE))
dRet)) dSkip))
(dSeq (dSeq (dOps (vM s13 s6
dE))
(o.cond (.t s13) (dSeq (dOps (vC s4 (.int .i64 (.ofNat 1))
dE))
dRet) dSkip))
(dSeq (dSeq (dOps (vM s14 s0
(vM s15 s1
(dV s16 (o.lss (.t s14) (.t s15))
dE))))
(o.cond (.t s16) (dSeq (dOps (vC s4 (.int .i64 (.negSucc 0))
dE))
dRet) dSkip))
(dSeq (dSeq (dOps (vM s17 s0
(vM s18 s1
(dV s19 (o.gtr (.t s17) (.t s18))
dE))))
(o.cond (.t s19) (dSeq (dOps (vC s4 (.int .i64 (.ofNat 1))
dE))
dRet) dSkip))
(dSeq (dOps (vC s4 (.int .i64 (.ofNat 0))
dE))
dRet)))))))),[(.t s4)]⟩
def af254:AF:=afG254 fastO
def afG255 (o:Ops):AF:=⟨(dSeq (dOps (vC s4 .nils
dE))
(dSeq (dSeq (dOps (vM s8 s0
(dV s9 (o.len (.t s8))
(dV s10 (o.lss (.t s9) (.c (.int .i64 (.ofNat 2))))
dE))))
(o.cond (.t s10) (dSeq (dOps (vM s11 s0
(vM s4 s11
dE)))
dRet) dSkip))
(dSeq (dSeq (dOps (vC s5 (.int .i64 (.ofNat 1))
dE))
(dBlock 0 (dLoop (dSeq (dSeq (dOps (vM s12 s5
(vM s13 s0
(dV s14 (o.len (.t s13))
(dV s15 (o.lss (.t s12) (.t s14))
dE)))))
(o.cond (.t s15) dSkip (dExit 0)))
(dSeq (dBlock 1 (dSeq (dDraw (lM s18 s1
(lM s19 s0
(lM s20 s5
(lN s21 (o.ia 2 (.t s19) (.t s20))
(lN s22 (o.ldN 2 (.t s21))
(lM s23 s0
(lM s24 s5
(lN s25 (o.sub (.t s24) (.c (.int .i64 (.ofNat 1))))
(lN s26 (o.ia 2 (.t s23) (.t s25))
(lN s27 (o.ldN 2 (.t s26))
(lE [] [] (some s28) (eK ⟨(some s28),(.callv (.t s18) [(.t s22),(.t s27)]),none⟩)
sEnd))))))))))))
(o.cond (.t s28) (dSeq (dOps (vM s29 s0
(vM s30 s5
(dV s31 (oSl 2 (.t s29) (some (.t s30)) none none)
(vM s6 s31
dE)))))
(dSeq (dSeq (dOps (vC s7 (.int .i64 (.ofNat 1))
dE))
(dBlock 2 (dLoop (dSeq (dSeq (dOps (vM s32 s7
(vM s33 s6
(dV s34 (o.len (.t s33))
(dV s35 (o.lss (.t s32) (.t s34))
dE)))))
(o.cond (.t s35) dSkip (dExit 2)))
(dSeq (dBlock 3 (dSeq (dDraw (lM s38 s1
(lM s39 s6
(lM s40 s7
(lN s41 (o.ia 2 (.t s39) (.t s40))
(lN s42 (o.ldN 2 (.t s41))
(lM s43 s6
(lM s44 s7
(lN s45 (o.sub (.t s44) (.c (.int .i64 (.ofNat 1))))
(lN s46 (o.ia 2 (.t s43) (.t s45))
(lN s47 (o.ldN 2 (.t s46))
(lE [] [] (some s48) (eK ⟨(some s48),(.callv (.t s38) [(.t s42),(.t s47)]),none⟩)
(lN s49 (o.not (.t s48))
sEnd)))))))))))))
(o.cond (.t s49) (dSeq (dOps (vM s50 s0
(vM s51 s5
(vM s52 s6
(vM s53 s7
(dV s54 (o.ia 2 (.t s52) (.t s53))
(dV s55 (o.ldN 2 (.t s54))
(dV s56 (o.ia 2 (.t s50) (.t s51))
(dU (oSt 2 (.t s56) (.t s55))
dE)))))))))
(dOps (vM s57 s5
(dV s58 (o.add (.t s57) (.c (.int .i64 (.ofNat 1))))
(vM s5 s58
dE))))) dSkip)))
(dOps (vM s36 s7
(dV s37 (o.add (.t s36) (.c (.int .i64 (.ofNat 1))))
(vM s7 s37
dE)))))))))
(dSeq (dOps (vM s59 s0
(vM s60 s5
(dV s61 (oSl 2 (.t s59) (some (.t s60)) none none)
(dU (oClr [(.int .i64 (.ofNat 0)),(.int .i64 (.ofNat 0))] (.t s61))
dE)))))
(dSeq (dOps (vM s62 s0
(vM s63 s5
(dV s64 (oSl 2 (.t s62) none (some (.t s63)) none)
(vM s4 s64
dE)))))
dRet)))) dSkip)))
(dOps (vM s16 s5
(dV s17 (o.add (.t s16) (.c (.int .i64 (.ofNat 1))))
(vM s5 s17
dE)))))))))
(dSeq (dOps (vM s65 s0
(vM s4 s65
dE)))
dRet)))),[(.t s4)]⟩
def af255:AF:=afG255 fastO
def afG256 (o:Ops):AF:=⟨(dSeq (dOps (dV s3 (oBox 47 (.t s0))
(dV s4 (oBox 47 (.t s1))
(vC s5 (.bool false)
dE))))
(dSeq (dOps (dV s11 (o.ld1 (.t s2))
(dV s12 (o.ldN 2 (.t s3))
(dCv (some s13) (.t s11) [(.t s12)]
(vM s10 s13
(dV s14 (o.ext (.t s10) 0)
(dV s15 (o.ext (.t s10) 1)
(vM s6 s14
(vM s7 s15
dE)))))))))
(dSeq (dOps (dV s17 (o.ld1 (.t s2))
(dV s18 (o.ldN 2 (.t s4))
(dCv (some s19) (.t s17) [(.t s18)]
(vM s16 s19
(dV s20 (o.ext (.t s16) 0)
(dV s21 (o.ext (.t s16) 1)
(vM s8 s20
(vM s9 s21
dE)))))))))
(dSeq (dOps (vM s22 s6
(vM s23 s8
(dV s24 (o.eql (.t s22) (.t s23))
(vM s5 s24
dE)))))
dRet)))),[(.t s5)]⟩
def af256:AF:=afG256 fastO
def afG257 (o:Ops):AF:=⟨(dSeq (dOps (dV s2 (oBox 50 (.t s0))
(dV s3 (oBox 50 (.t s1))
(vC s4 .nilf
dE))))
(dSeq (dOps (dV s5 (oMkf 284 [] [(.t s2),(.t s3)])
(vM s4 s5
dE)))
dRet)),[(.t s4)]⟩
def af257:AF:=afG257 fastO
def afG258 (o:Ops):AF:=⟨(dBlock 0 (dLoop (dSeq (dSeq (dOps (dV s3 (o.ld1 (.t s1))
(dV s4 (o.eqp true (.t s3) (.c .nilp))
(vM s5 s4
(o.g s5 true (some s6) (vM s6 s0)
(o.g s5 true (some s7) (dV s7 (o.ld1 (.t s1)))
(o.g s5 true (some s8) (dCv (some s8) (.t s6) [(.t s7)])
(dV s9 (o.pick (.t s5) (.t s8) (.c (.bool false)))
dE))))))))
(o.cond (.t s9) dSkip (dExit 0)))
(dSeq (dBlock 1 dSkip)
(dOps (dV s10 (o.ld1 (.t s1))
(dV s11 (o.nchk (.t s10))
(dV s12 (o.fa 2 (.t s11))
(dV s13 (o.ld1 (.t s12))
(dU (o.st1 (.t s1) (.t s13))
dE)))))))))),[]⟩
def af258:AF:=afG258 fastO
def afG259 (o:Ops):AF:=⟨(dSeq (dOps (dV s4 (o.ld1 (.t s1))
(dV s5 (o.len (.t s4))
(dV s6 (o.sub (.t s5) (.c (.int .i64 (.ofNat 1))))
(vM s3 s6
dE)))))
(dBlock 0 (dLoop (dSeq (dSeq (dOps (vM s7 s3
(dV s8 (o.geq (.t s7) (.c (.int .i64 (.ofNat 0))))
dE)))
(o.cond (.t s8) dSkip (dExit 0)))
(dSeq (dBlock 1 (dSeq (dOps (vM s11 s0
(vM s12 s3
(dV s13 (o.ld1 (.t s1))
(vM s14 s3
(dV s15 (o.ia 1 (.t s13) (.t s14))
(dV s16 (o.ld1 (.t s15))
(dCv (some s17) (.t s11) [(.t s12),(.t s16)]
(dV s18 (o.not (.t s17))
dE)))))))))
(o.cond (.t s18) dRet dSkip)))
(dOps (vM s9 s3
(dV s10 (o.sub (.t s9) (.c (.int .i64 (.ofNat 1))))
(vM s3 s10
dE))))))))),[]⟩
def af259:AF:=afG259 fastO
def afG260 (o:Ops):AF:=⟨(dSeq (dOps (dV s2 (oBox 363 (.t s0))
(vC s4 .nils
dE)))
(dSeq (dSeq (dOps (vM s6 s1
dE))
(dBlock 0 (dRange (.t s6) [s7] (dOps (vM s5 s7
dE)) (dBlock 1 (dOps (dV s8 (o.ld1 (.t s2))
(vM s9 s5
(dV s10 (oBuildS 253 1 [.nilp] [(0,1,(.t s9))])
(dV s11 (oApp 253 1 (.t s8) (.t s10))
(dU (o.st1 (.t s2) (.t s11))
dE))))))))))
(dSeq (dOps (dV s12 (o.ld1 (.t s2))
(vM s4 s12
dE)))
dRet))),[(.t s4)]⟩
def af260:AF:=afG260 fastO
def afG261 (o:Ops):AF:=⟨(dSeq (dOps (dV s2 (oBox 255 (.t s0))
(dV s3 (oBox 255 (.t s1))
(dV s4 (oNew [(.int .i64 (.ofNat 0)),(.int .i64 (.ofNat 0))] 255)
dE))))
(dSeq (dOps (dV s5 (o.fa 0 (.t s2))
(dV s6 (o.ld1 (.t s5))
(dV s7 (o.fa 0 (.t s3))
(dV s8 (o.ld1 (.t s7))
(dV s9 (o.add (.t s6) (.t s8))
(dV s10 (o.fa 1 (.t s2))
(dV s11 (o.ld1 (.t s10))
(dV s12 (o.fa 1 (.t s3))
(dV s13 (o.ld1 (.t s12))
(dV s14 (o.add (.t s11) (.t s13))
(dV s15 (oBuild [(.int .i64 (.ofNat 0)),(.int .i64 (.ofNat 0))] [(0,1,(.t s9)),(1,1,(.t s14))])
(dU (oSt 2 (.t s4) (.t s15))
dE)))))))))))))
dRet)),[(.cN s4 2)]⟩
def af261:AF:=afG261 fastO
def afG262 (o:Ops):AF:=⟨(dSeq (dOps (dV s2 (oNew [(.int .i64 (.ofNat 0)),(.int .i64 (.ofNat 0))] 255)
dE))
(dSeq (dSeq (dOps (vM s3 s0
(dV s4 (o.eqp false (.t s3) (.c .nilp))
dE)))
(o.cond (.t s4) (dSeq (dOps (dV s5 (oBuild [(.int .i64 (.ofNat 0)),(.int .i64 (.ofNat 0))] [])
(dU (oSt 2 (.t s2) (.t s5))
dE)))
dRet) dSkip))
(dSeq (dOps (vM s6 s0
(dV s7 (o.nchk (.t s6))
(dV s8 (o.fa 3 (.t s7))
(dV s9 (o.ldN 2 (.t s8))
(dU (oSt 2 (.t s2) (.t s9))
dE))))))
dRet))),[(.cN s2 2)]⟩
def af262:AF:=afG262 fastO
def afG263 (o:Ops):AF:=⟨(dSeq (dOps (dV s1 (oBox 290 (.t s0))
(dV s2 (oNew [(.int .i64 (.ofNat 0)),(.int .i64 (.ofNat 0)),(.int .i64 (.ofNat 0)),(.int .i64 (.ofNat 0))] 170)
dE)))
(dSeq (dOps (dV s5 (o.fa 0 (.t s1))
(dV s6 (o.ld1 (.t s5))
(dV s7 (o.nchk (.t s6))
(dV s8 (o.fa 0 (.t s7))
(dV s9 (o.fa 0 (.t s8))
(dV s10 (o.ldN 3 (.t s9))
(dC (some s11) p186 [(.t s10)]
(dV s3 (oNew [(.int .i64 (.ofNat 0)),(.int .i64 (.ofNat 0)),(.int .i64 (.ofNat 0)),(.int .i64 (.ofNat 0))] 170)
(dU (oSt 4 (.t s3) (.t s11))
dE))))))))))
(dSeq (dSeq (dOps (dV s12 (o.fa 0 (.t s1))
(dV s13 (o.ld1 (.t s12))
(dV s14 (o.nchk (.t s13))
(dV s15 (o.fa 4 (.t s14))
(dV s16 (o.ld1 (.t s15))
(dC (some s17) p229 [(.t s16)]
dE)))))))
(dBlock 0 (dRange (.t s17) [s18] (dOps (vM s4 s18
dE)) (dBlock 1 (dDraw (lN s19 (o.fa 0 (.t s3))
(lN s20 (o.ld1 (.t s19))
(lN s21 (o.add (.t s20) (.c (.int .i64 (.ofNat 1))))
(lM s22 s4
(lN s23 (o.nchk (.t s22))
(lN s24 (o.fa 0 (.t s23))
(lN s25 (o.ld1 (.t s24))
(lN s26 (o.nchk (.t s25))
(lN s27 (o.fa 3 (.t s26))
(lN s28 (o.fa 0 (.t s27))
(lN s29 (o.ld1 (.t s28))
(lN s30 (o.add (.t s21) (.t s29))
(lN s31 (o.fa 1 (.t s3))
(lN s32 (o.ld1 (.t s31))
(lM s33 s4
(lN s34 (o.nchk (.t s33))
(lN s35 (o.fa 0 (.t s34))
(lN s36 (o.ld1 (.t s35))
(lN s37 (o.nchk (.t s36))
(lN s38 (o.fa 3 (.t s37))
(lN s39 (o.fa 1 (.t s38))
(lN s40 (o.ld1 (.t s39))
(lN s41 (oMm true [(.t s32),(.t s40)])
(lN s42 (o.add (.t s41) (.c (.int .i64 (.ofNat 1))))
(lN s43 (o.fa 2 (.t s3))
(lN s44 (o.ld1 (.t s43))
(lM s45 s4
(lN s46 (o.nchk (.t s45))
(lN s47 (o.fa 0 (.t s46))
(lN s48 (o.ld1 (.t s47))
(lN s49 (o.nchk (.t s48))
(lN s50 (o.fa 3 (.t s49))
(lN s51 (o.fa 2 (.t s50))
(lN s52 (o.ld1 (.t s51))
(lN s53 (oMm true [(.t s44),(.t s52)])
(lN s54 (o.fa 3 (.t s3))
(lN s55 (o.ld1 (.t s54))
(lM s56 s4
(lN s57 (o.nchk (.t s56))
(lN s58 (o.fa 0 (.t s57))
(lN s59 (o.ld1 (.t s58))
(lN s60 (o.nchk (.t s59))
(lN s61 (o.fa 3 (.t s60))
(lN s62 (o.fa 3 (.t s61))
(lN s63 (o.ld1 (.t s62))
(lN s64 (oMm true [(.t s55),(.t s63)])
(lN s65 (oBuild [(.int .i64 (.ofNat 0)),(.int .i64 (.ofNat 0)),(.int .i64 (.ofNat 0)),(.int .i64 (.ofNat 0))] [(0,1,(.t s30)),(1,1,(.t s42)),(2,1,(.t s53)),(3,1,(.t s64))])
(lE [] [] none (actV (oSt 4 (.t s3) (.t s65)))
sEnd)))))))))))))))))))))))))))))))))))))))))))))))))))))
(dSeq (dOps (dV s66 (o.ldN 4 (.t s3))
(dU (oSt 4 (.t s2) (.t s66))
dE)))
dRet)))),[(.cN s2 4)]⟩
def af263:AF:=afG263 fastO
def afG264 (o:Ops):AF:=⟨(dSeq (dOps (vC s3 (.int .i64 (.ofNat 0))
dE))
(dSeq (dOps (vM s4 s0
(dV s5 (o.ld1 (.t s1))
(dV s6 (o.add (.t s4) (.t s5))
(vM s3 s6
dE)))))
dRet)),[(.t s3)]⟩
def af264:AF:=afG264 fastO
def afG265 (o:Ops):AF:=⟨(dSeq (dOps (dV s5 (oBox 255 (.t s2))
dE))
(dSeq (dOps (vM s7 s0
(vM s8 s1
(vM s9 s0
(dV s10 (o.nchk (.t s9))
(dV s11 (o.fa 8 (.t s10))
(dV s12 (o.ldN 11 (.t s11))
(dV s13 (oBuild [.nilp,.nilp,.nilp,(.int .i64 (.ofNat 0)),.nilp,.nilp,.nilp,(.int .i64 (.ofNat 0)),(.int .i64 (.ofNat 0)),(.int .i64 (.ofNat 0)),(.int .i64 (.ofNat 0)),(.int .i64 (.ofNat 0)),(.int .i64 (.ofNat 0))] [(0,1,(.t s7)),(1,1,(.t s8)),(2,11,(.t s12))])
(dV s6 (oNew [.nilp,.nilp,.nilp,(.int .i64 (.ofNat 0)),.nilp,.nilp,.nilp,(.int .i64 (.ofNat 0)),(.int .i64 (.ofNat 0)),(.int .i64 (.ofNat 0)),(.int .i64 (.ofNat 0)),(.int .i64 (.ofNat 0)),(.int .i64 (.ofNat 0))] 424)
(dU (oSt 13 (.t s6) (.t s13))
dE))))))))))
(dSeq (dDraw (lM s14 s0
(lM s15 s0
(lN s16 (o.nchk (.t s15))
(lN s17 (o.fa 7 (.t s16))
(lN s18 (o.ld1 (.t s17))
(lN s19 (o.ldN 13 (.t s6))
(lN s20 (oMkf 287 [(.t s19)] [])
(lA 7 s21 (floatK (.buildS 393 1 [.nilf] [(0,1,(.t s20))]))
(lE [7] [] (some s22) (actV (oApp 393 1 (.t s18) (.t s21)))
(lN s23 (o.nchk (.t s14))
(lN s24 (o.fa 7 (.t s23))
(lE [7] [] none (actV (o.st1 (.t s24) (.t s22)))
sEnd)))))))))))))
(dDraw (lM s25 s0
(lM s26 s1
(lN s27 (o.nchk (.t s26))
(lN s28 (o.fa 0 (.t s27))
(lN s29 (o.ldN 3 (.t s28))
(lN s30 (oBuild [.nilp,(.int .i64 (.ofNat 0)),.nilp,.nilp] [(0,3,(.t s29))])
(lN s31 (o.ldN 2 (.t s5))
(lM s32 s1
(lN s33 (o.nchk (.t s32))
(lN s34 (o.fa 3 (.t s33))
(lN s35 (o.ldN 4 (.t s34))
(lN s36 (oBuild [.nilp,(.int .i64 (.ofNat 0)),.nilp,.nilp,.nilp,(.int .i64 (.ofNat 0)),(.int .i64 (.ofNat 0)),(.int .i64 (.ofNat 0)),(.int .i64 (.ofNat 0)),(.int .i64 (.ofNat 0)),(.int .i64 (.ofNat 0))] [(0,4,(.t s30)),(5,2,(.t s31)),(7,4,(.t s35))])
(lN s37 (o.nchk (.t s25))
(lN s38 (o.fa 8 (.t s37))
(lE [] [] none (actV (oSt 11 (.t s38) (.t s36)))
sEnd))))))))))))))))))),[]⟩
def af265:AF:=afG265 fastO
def afG266 (o:Ops):AF:=⟨(dSeq (dOps (vC s2 (.bool false)
dE))
(dSeq (dOps (vC s3 (.int .i64 (.ofNat 1))
dE))
(dSeq (dSeq (dOps (vM s4 s0
(dV s5 (o.nchk (.t s4))
(dV s6 (o.fa 8 (.t s5))
(dV s7 (o.fa 0 (.t s6))
(dV s8 (o.fa 0 (.t s7))
(dV s9 (o.fa 2 (.t s8))
(dV s10 (o.ld1 (.t s9))
(dV s11 (o.nchk (.t s10))
(dV s12 (o.fa 0 (.t s11))
(dV s13 (o.fa 0 (.t s12))
(dV s14 (o.ld1 (.t s13))
dE))))))))))))
(dBlock 0 (dSeq (dBlock 6 (dSeq (dBlock 5 (dSeq (dBlock 4 (dSeq (dBlock 3 (dSeq (dBlock 2 (dSeq (dBlock 1 (dSeq (dSeq (dSeq (dOps (dV s16 (o.eql (.t s14) (.c (.int .i64 (.ofNat 5))))
(vM s15 s16
dE)))
(o.cond (.t s15) (dExit 1) dSkip))
(dSeq (dSeq (dOps (dV s18 (o.eql (.t s14) (.c (.int .i64 (.ofNat 1))))
(vM s17 s18
dE)))
(o.cond (.t s17) (dExit 2) dSkip))
(dSeq (dSeq (dOps (dV s20 (o.eql (.t s14) (.c (.int .i64 (.ofNat 4))))
(vM s19 s20
dE)))
(o.cond (.t s19) (dExit 3) dSkip))
(dSeq (dSeq (dOps (dV s22 (o.eql (.t s14) (.c (.int .i64 (.ofNat 10))))
(vM s21 s22
dE)))
(o.cond (.t s21) (dExit 4) dSkip))
(dSeq (dSeq (dOps (dV s24 (o.eql (.t s14) (.c (.int .i64 (.ofNat 9))))
(vM s23 s24
dE)))
(o.cond (.t s23) (dExit 5) dSkip))
(dSeq (dOps (dV s26 (o.eql (.t s14) (.c (.int .i64 (.ofNat 8))))
(vM s25 s26
dE)))
(o.cond (.t s25) (dExit 6) dSkip)))))))
(dExit 0)))
(dSeq (dSeq (dDraw (lM s27 s0
(lM s28 s0
(lN s29 (o.nchk (.t s28))
(lN s30 (o.fa 8 (.t s29))
(lN s31 (o.fa 4 (.t s30))
(lN s32 (o.ld1 (.t s31))
(lM s33 s0
(lN s34 (o.nchk (.t s33))
(lN s35 (o.fa 8 (.t s34))
(lN s36 (o.fa 0 (.t s35))
(lN s37 (o.fa 0 (.t s36))
(lN s38 (o.ldN 3 (.t s37))
(lM s40 s0
(lN s41 (o.nchk (.t s40))
(lN s42 (o.fa 8 (.t s41))
(lN s43 (o.fa 0 (.t s42))
(lN s44 (o.fa 0 (.t s43))
(lN s45 (o.fa 2 (.t s44))
(lN s46 (o.ld1 (.t s45))
(lN s47 (o.nchk (.t s46))
(lN s48 (o.fa 0 (.t s47))
(lN s49 (o.fa 2 (.t s48))
(lN s50 (o.ld1 (.t s49))
(lE [] [(s32,(o.ld1 (.t s31))),(s46,(o.ld1 (.t s45))),(s50,(o.ld1 (.t s49)))] (some s39) (actC p219 [(.t s38),(.c (.int .i64 (.ofNat 1)))])
(lE [] [] (some s51) (actC p232 [(.t s32),(.t s39),(.t s50)])
(lN s52 (o.nchk (.t s27))
(lN s53 (o.fa 8 (.t s52))
(lN s54 (o.fa 4 (.t s53))
(lE [] [] none (actV (o.st1 (.t s54) (.t s51)))
sEnd))))))))))))))))))))))))))))))
(dSeq (dOps (vM s55 s0
(vM s56 s0
(dV s57 (o.nchk (.t s56))
(dV s58 (o.fa 8 (.t s57))
(dV s59 (o.fa 0 (.t s58))
(dV s60 (o.fa 0 (.t s59))
(dV s61 (o.fa 2 (.t s60))
(dV s62 (o.ld1 (.t s61))
(dV s63 (o.nchk (.t s62))
(dV s64 (o.fa 6 (.t s63))
(dV s65 (o.ld1 (.t s64))
(dV s66 (o.ia 1 (.t s65) (.c (.int .i64 (.ofNat 0))))
(dV s67 (o.ld1 (.t s66))
(dV s68 (o.nchk (.t s55))
(dV s69 (o.fa 8 (.t s68))
(dV s70 (o.fa 0 (.t s69))
(dV s71 (o.fa 0 (.t s70))
(dV s72 (o.fa 2 (.t s71))
(dU (o.st1 (.t s72) (.t s67))
dE))))))))))))))))))))
(dSeq (dOps (vC s2 (.bool true)
dE))
dRet)))
(dExit 0))))
(dSeq (dSeq (dOps (vM s73 s0
(dC (some s74) p288 [(.t s73)]
(vM s2 s74
dE))))
dRet)
(dExit 0))))
(dSeq (dSeq (dOps (vM s75 s0
(dC (some s76) p289 [(.t s75)]
(vM s2 s76
dE))))
dRet)
(dExit 0))))
(dSeq (dSeq (dOps (vM s77 s0
(dC (some s78) p290 [(.t s77)]
(vM s79 s78
(o.g s79 false (some s80) (vM s80 s0)
(o.g s79 false (some s81) (dC (some s81) p291 [(.t s80)])
(dV s82 (o.pick (.t s79) (.c (.bool true)) (.t s81))
(vM s2 s82
dE))))))))
dRet)
(dExit 0))))
(dOps (vM s83 s3
(dV s84 (o.add (.t s83) (.c (.int .i64 (.ofNat 1))))
(vM s3 s84
dE))))))
(dSeq (dSeq (dOps (vM s85 s0
(vM s86 s3
(dC (some s87) p292 [(.t s85),(.t s86)]
(vM s2 s87
dE)))))
dRet)
(dExit 0)))))
(dSeq (dOps (vC s2 (.bool false)
dE))
dRet)))),[(.t s2)]⟩
def af266:AF:=afG266 fastO
def afG267 (o:Ops):AF:=⟨(dSeq (dOps (dV s3 (oBox 343 (.t s1))
dE))
(dSeq (dOps (vM s6 s0
(dV s7 (o.nchk (.t s6))
(dV s8 (o.fa 7 (.t s7))
(dV s9 (o.ld1 (.t s8))
(dV s10 (o.len (.t s9))
(dV s11 (o.sub (.t s10) (.c (.int .i64 (.ofNat 1))))
(vM s4 s11
dE))))))))
(dSeq (dOps (vM s12 s0
(dV s13 (o.nchk (.t s12))
(dV s14 (o.fa 7 (.t s13))
(dV s15 (o.ld1 (.t s14))
(vM s16 s4
(dV s17 (o.ia 1 (.t s15) (.t s16))
(dV s18 (o.ld1 (.t s17))
(vM s5 s18
dE)))))))))
(dSeq (dOps (vM s19 s0
(dV s20 (o.nchk (.t s19))
(dV s21 (o.fa 7 (.t s20))
(dV s22 (o.ld1 (.t s21))
(vM s23 s4
(dV s24 (o.ia 1 (.t s22) (.t s23))
(dU (o.st1 (.t s24) (.c .nilf))
dE))))))))
(dSeq (dOps (vM s25 s0
(vM s26 s0
(dV s27 (o.nchk (.t s26))
(dV s28 (o.fa 7 (.t s27))
(dV s29 (o.ld1 (.t s28))
(vM s30 s4
(dV s31 (oSl 1 (.t s29) none (some (.t s30)) none)
(dV s32 (o.nchk (.t s25))
(dV s33 (o.fa 7 (.t s32))
(dU (o.st1 (.t s33) (.t s31))
dE)))))))))))
(dOps (vM s34 s5
(dV s35 (o.ldN 9 (.t s3))
(dCv (some s36) (.t s34) [(.t s35)]
dE))))))))),[]⟩
def af267:AF:=afG267 fastO
def afG268 (o:Ops):AF:=⟨(dSeq (dOps (vM s3 s0
(dV s4 (o.nchk (.t s3))
(dV s5 (o.fa 0 (.t s4))
(dV s6 (o.ld1 (.t s5))
(dV s7 (o.len (.t s6))
(dV s8 (o.sub (.t s7) (.c (.int .i64 (.ofNat 1))))
(vM s2 s8
dE))))))))
(dSeq (dOps (vM s9 s2
(dV s10 (o.geq (.t s9) (.c (.int .i64 (.ofNat 0))))
(vM s11 s10
(o.g s11 true (some s12) (vM s12 s0)
(o.g s11 true (some s13) (dV s13 (o.nchk (.t s12)))
(o.g s11 true (some s14) (dV s14 (o.fa 0 (.t s13)))
(o.g s11 true (some s15) (dV s15 (o.ld1 (.t s14)))
(o.g s11 true (some s16) (vM s16 s2)
(o.g s11 true (some s17) (dV s17 (o.ia 1 (.t s15) (.t s16)))
(o.g s11 true (some s18) (dV s18 (o.ld1 (.t s17)))
(o.g s11 true (some s19) (dV s19 (oLenC (.t s18)))
(o.g s11 true (some s20) (dV s20 (o.eql (.t s19) (.c (.int .i64 (.ofNat 0)))))
(dV s21 (o.pick (.t s11) (.t s20) (.c (.bool false)))
dE))))))))))))))
(o.cond (.t s21) (dOps (vM s22 s0
(vM s23 s0
(dV s24 (o.nchk (.t s23))
(dV s25 (o.fa 0 (.t s24))
(dV s26 (o.ld1 (.t s25))
(vM s27 s2
(dV s28 (oSl 1 (.t s26) none (some (.t s27)) none)
(dV s29 (o.nchk (.t s22))
(dV s30 (o.fa 0 (.t s29))
(dU (o.st1 (.t s30) (.t s28))
dE))))))))))) dSkip))),[]⟩
def af268:AF:=afG268 fastO
def afG269 (o:Ops):AF:=⟨(dSeq (dOps (dV s1 (oBox 104 (.t s0))
(vC s2 (.bool false)
dE)))
(dSeq (dOps (dV s3 (o.fa 0 (.t s1))
(dV s4 (o.ld1 (.t s3))
(dV s5 (o.nchk (.t s4))
(dV s6 (o.fa 13 (.t s5))
(dV s7 (o.ld1 (.t s6))
(dV s8 (o.gtr (.t s7) (.c (.int .i64 (.ofNat 0))))
(vM s2 s8
dE))))))))
dRet)),[(.t s2)]⟩
def af269:AF:=afG269 fastO
def afG270 (o:Ops):AF:=⟨(dSeq (dOps (dV s3 (oBox 323 (.t s1))
(dV s4 (oNew [(.int .i64 (.ofNat 0)),(.int .i64 (.ofNat 0)),(.int .i64 (.ofNat 0))] 397)
dE)))
(dSeq (dDraw (lM s5 s0
(lN s6 (o.nchk (.t s5))
(lN s7 (o.fa 0 (.t s6))
(lN s8 (o.ldN 1 (.t s7))
(lN s9 (o.fa 0 (.t s3))
(lN s10 (o.ldN 1 (.t s9))
(lM s12 s0
(lN s13 (o.nchk (.t s12))
(lN s14 (o.fa 0 (.t s13))
(lN s15 (o.ldN 1 (.t s14))
(lN s16 (o.fa 1 (.t s3))
(lN s17 (o.ldN 1 (.t s16))
(lN s19 (o.fa 2 (.t s3))
(lN s20 (o.ld1 (.t s19))
(lE [] [(s15,(o.ldN 1 (.t s14))),(s17,(o.ldN 1 (.t s16))),(s20,(o.ld1 (.t s19)))] (some s11) (actC p293 [(.t s8),(.t s10)])
(lE [] [(s20,(o.ld1 (.t s19)))] (some s18) (actC p293 [(.t s15),(.t s17)])
(lN s21 (oBuild [(.int .i64 (.ofNat 0)),(.int .i64 (.ofNat 0)),(.int .i64 (.ofNat 0))] [(0,1,(.t s11)),(1,1,(.t s18)),(2,1,(.t s20))])
(lE [] [] none (actV (oSt 3 (.t s4) (.t s21)))
sEnd)))))))))))))))))))
dRet)),[(.cN s4 3)]⟩
def af270:AF:=afG270 fastO
def afG271 (o:Ops):AF:=⟨(dSeq (dOps (vC s6 .nilf
dE))
(dSeq (dBlock 0 (dSeq (dOps (vM s8 s1
(dV s9 (o.eql (.t s8) (.c (.int .i64 (.ofNat 4))))
(vM s10 s9
(o.g s10 false (some s11) (vM s11 s2)
(o.g s10 false (some s12) (dV s12 (o.eql (.t s11) (.c (.int .i64 (.ofNat 4)))))
(dV s13 (o.pick (.t s10) (.c (.bool true)) (.t s12))
(vM s7 s13
dE))))))))
(o.cond (.t s7) (dSeq (dOps (vC s6 (.fn (.func 294) [] [])
dE))
dRet) (dSeq (dOps (vM s15 s1
(dV s16 (o.eql (.t s15) (.c (.int .i64 (.ofNat 7))))
(vM s17 s16
(o.g s17 false (some s18) (vM s18 s2)
(o.g s17 false (some s19) (dV s19 (o.eql (.t s18) (.c (.int .i64 (.ofNat 7)))))
(dV s20 (o.pick (.t s17) (.c (.bool true)) (.t s19))
(vM s14 s20
dE))))))))
(o.cond (.t s14) (dSeq (dOps (vC s6 (.fn (.func 295) [] [])
dE))
dRet) (dSeq (dOps (vM s22 s1
(vM s23 s2
(dV s24 (o.neq (.t s22) (.t s23))
(vM s21 s24
dE)))))
(o.cond (.t s21) (dSeq (dOps (vC s6 (.fn (.func 296) [] [])
dE))
dRet) dSkip)))))))
(dSeq (dOps (vM s25 s0
(vM s26 s1
(dV s27 (o.nchk (.t s25))
(dV s28 (o.fa 3 (.t s27))
(dV s29 (o.iaA 12 1 (.t s28) (.t s26))
(dV s30 (o.ld1 (.t s29))
(vM s6 s30
dE))))))))
dRet))),[(.t s6)]⟩
def af271:AF:=afG271 fastO
def afG272 (o:Ops):AF:=⟨(dSeq (dOps (dV s4 (oNew [(.int .i64 (.ofNat 0)),(.int .i64 (.ofNat 0))] 97)
(vC s5 (.bool false)
dE)))
(dSeq (dOps (vM s9 s0
(dV s10 (o.nchk (.t s9))
(dV s11 (o.fa 0 (.t s10))
(dV s12 (o.ld1 (.t s11))
(vM s13 s1
(dV s14 (oLk (.agg [(.int .i64 (.ofNat 0)),(.int .i64 (.ofNat 0))]) true (.t s12) (.t s13))
(vM s8 s14
(dV s15 (o.ext (.t s8) 0)
(dV s16 (o.ext (.t s8) 1)
(dV s6 (oNew [(.int .i64 (.ofNat 0)),(.int .i64 (.ofNat 0))] 97)
(dU (oSt 2 (.t s6) (.t s15))
(vM s7 s16
dE)))))))))))))
(dSeq (dOps (dV s17 (o.ldN 2 (.t s6))
(vM s18 s7
(dU (oSt 2 (.t s4) (.t s17))
(vM s5 s18
dE)))))
dRet))),[(.cN s4 2),(.t s5)]⟩
def af272:AF:=afG272 fastO
def afG273 (o:Ops):AF:=⟨(dSeq (dOps (dV s4 (oNew [(.int .i64 (.ofNat 0)),(.str []),(.int .i64 (.ofNat 0)),(.int .i64 (.ofNat 0)),(.int .i64 (.ofNat 0)),(.bool false),(.str []),.nils,.nils,(.int .i64 (.ofNat 0)),(.int .i64 (.ofNat 0)),(.bool false),(.str []),.nils,.nils,(.int .i64 (.ofNat 0)),.nils] 33)
dE))
(dSeq (dOps (vM s5 s0
(dV s6 (o.nchk (.t s5))
(dV s7 (o.fa 0 (.t s6))
(dV s8 (o.ld1 (.t s7))
(vM s9 s1
(dV s10 (o.ia 17 (.t s8) (.t s9))
(dV s11 (o.ldN 17 (.t s10))
(dC (some s12) p58 [(.t s11)]
(dU (oSt 17 (.t s4) (.t s12))
dE))))))))))
dRet)),[(.cN s4 17)]⟩
def af273:AF:=afG273 fastO
def afG274 (o:Ops):AF:=⟨(dSeq (dOps (dV s1 (oBox 33 (.t s0))
(dV s2 (oNew [(.int .i64 (.ofNat 0)),(.str []),(.int .i64 (.ofNat 0)),(.int .i64 (.ofNat 0)),(.int .i64 (.ofNat 0)),(.bool false),(.str []),.nils,.nils,(.int .i64 (.ofNat 0)),(.int .i64 (.ofNat 0)),(.bool false),(.str []),.nils,.nils,(.int .i64 (.ofNat 0)),.nils,.nils,.nils,(.int .i64 (.ofNat 0)),.nils] 404)
(vC s3 (.int .i64 (.ofNat 0))
dE))))
(dSeq (dOps (vC s4 .nils
dE))
(dSeq (dOps (dV s5 (oNew [(.int .i64 (.ofNat 0)),(.int .i64 (.ofNat 0)),(.bool false),(.str []),.nils,.nils] 30)
dE))
(dSeq (dSeq (dOps (dV s9 (o.ldN 17 (.t s1))
(dV s10 (oBuildS 33 1 [(.int .i64 (.ofNat 0)),(.str []),(.int .i64 (.ofNat 0)),(.int .i64 (.ofNat 0)),(.int .i64 (.ofNat 0)),(.bool false),(.str []),.nils,.nils,(.int .i64 (.ofNat 0)),(.int .i64 (.ofNat 0)),(.bool false),(.str []),.nils,.nils,(.int .i64 (.ofNat 0)),.nils] [(0,17,(.t s9))])
(dC (some s11) p57 [(.t s10)]
(vM s8 s11
(dV s12 (o.ext (.t s8) 0)
(dV s13 (o.ext (.t s8) 1)
(vM s6 s12
(vM s7 s13
dE)))))))))
(dSeq (dOps (vM s14 s7
(dV s15 (o.neq (.t s14) (.c (.int .i64 (.ofNat 0))))
dE)))
(o.cond (.t s15) (dSeq (dOps (dV s16 (oBuild [(.int .i64 (.ofNat 0)),(.str []),(.int .i64 (.ofNat 0)),(.int .i64 (.ofNat 0)),(.int .i64 (.ofNat 0)),(.bool false),(.str []),.nils,.nils,(.int .i64 (.ofNat 0)),(.int .i64 (.ofNat 0)),(.bool false),(.str []),.nils,.nils,(.int .i64 (.ofNat 0)),.nils,.nils,.nils,(.int .i64 (.ofNat 0)),.nils] [])
(vM s17 s7
(dU (oSt 21 (.t s2) (.t s16))
(vM s3 s17
dE)))))
dRet) dSkip)))
(dSeq (dSeq (dOps (dV s18 (o.fa 0 (.t s1))
(dV s19 (o.ld1 (.t s18))
(dV s20 (o.neq (.t s19) (.c (.int .i64 (.ofNat 3))))
dE))))
(o.cond (.t s20) dNo dSkip))
(dSeq (dOps (dV s22 (o.fa 3 (.t s1))
(dV s23 (o.ldN 6 (.t s22))
(dC (some s24) p297 [(.t s23)]
(vM s21 s24
(dV s25 (o.ext (.t s21) 0)
(dV s26 (o.ext (.t s21) 1)
(vM s4 s25
(dU (oSt 6 (.t s5) (.t s26))
dE)))))))))
(dSeq (dSeq (dOps (vM s27 s4
(dV s28 (o.len (.t s27))
(dV s29 (o.fa 15 (.t s1))
(dV s30 (o.ld1 (.t s29))
(dV s31 (o.lss (.t s28) (.t s30))
(vM s32 s31
(o.g s32 false (some s33) (dV s33 (o.fa 0 (.t s5)))
(o.g s32 false (some s34) (dV s34 (o.ld1 (.t s33)))
(o.g s32 false (some s35) (dV s35 (o.neq (.t s34) (.c (.int .i64 (.ofNat 2)))))
(dV s36 (o.pick (.t s32) (.c (.bool true)) (.t s35))
dE)))))))))))
(o.cond (.t s36) dNo dSkip))
(dSeq (dSeq (dDraw (lN s37 (o.ldN 17 (.t s1))
(lM s38 s4
(lN s39 (o.fa 15 (.t s1))
(lN s40 (o.ld1 (.t s39))
(lN s41 (oSl 6 (.t s38) none (some (.t s40)) none)
(lM s43 s4
(lN s44 (o.fa 15 (.t s1))
(lN s45 (o.ld1 (.t s44))
(lN s46 (oSl 6 (.t s43) (some (.t s45)) none none)
(lN s48 (o.fa 4 (.t s5))
(lN s49 (o.ld1 (.t s48))
(lN s50 (o.ia 2 (.t s49) (.c (.int .i64 (.ofNat 0))))
(lN s51 (o.ldN 2 (.t s50))
(lE [] [(s37,(o.ldN 17 (.t s1))),(s45,(o.ld1 (.t s44))),(s49,(o.ld1 (.t s48))),(s51,(o.ldN 2 (.t s50)))] (some s42) (actC p298 [(.t s41)])
(lE [] [(s37,(o.ldN 17 (.t s1))),(s49,(o.ld1 (.t s48))),(s51,(o.ldN 2 (.t s50)))] (some s47) (actC p298 [(.t s46)])
(lN s52 (oBuild [(.int .i64 (.ofNat 0)),(.str []),(.int .i64 (.ofNat 0)),(.int .i64 (.ofNat 0)),(.int .i64 (.ofNat 0)),(.bool false),(.str []),.nils,.nils,(.int .i64 (.ofNat 0)),(.int .i64 (.ofNat 0)),(.bool false),(.str []),.nils,.nils,(.int .i64 (.ofNat 0)),.nils,.nils,.nils,(.int .i64 (.ofNat 0)),.nils] [(0,17,(.t s37)),(17,1,(.t s42)),(18,1,(.t s47)),(19,2,(.t s51))])
(lE [] [] none (actV (oSt 21 (.t s2) (.t s52)))
(lC s3 (.int .i64 (.ofNat 0))
sEnd)))))))))))))))))))
dRet)
(dSeq dSkip
(dSeq (dOps (dV s53 (oBuild [(.int .i64 (.ofNat 0)),(.str []),(.int .i64 (.ofNat 0)),(.int .i64 (.ofNat 0)),(.int .i64 (.ofNat 0)),(.bool false),(.str []),.nils,.nils,(.int .i64 (.ofNat 0)),(.int .i64 (.ofNat 0)),(.bool false),(.str []),.nils,.nils,(.int .i64 (.ofNat 0)),.nils,.nils,.nils,(.int .i64 (.ofNat 0)),.nils] [])
(dU (oSt 21 (.t s2) (.t s53))
(vC s3 (.int .i64 (.ofNat 21))
dE))))
dRet)))))))))),[(.cN s2 21),(.t s3)]⟩
def af274:AF:=afG274 fastO
def afG275 (o:Ops):AF:=⟨(dSeq (dOps (dV s1 (oBox 404 (.t s0))
(vC s2 .nilf
dE)))
(dSeq (dOps (dV s3 (oMkf 299 [] [(.t s1)])
(vM s2 s3
dE)))
dRet)),[(.t s2)]⟩
def af275:AF:=afG275 fastO
def afG276 (o:Ops):AF:=⟨(dSeq (dOps (dV s1 (oBox 30 (.t s0))
(dV s2 (oNew [(.int .i64 (.ofNat 0)),(.int .i64 (.ofNat 0)),(.bool false),(.str []),.nils,.nils] 30)
(vC s3 (.int .i64 (.ofNat 0))
dE))))
(dSeq (dSeq (dOps (dV s4 (o.ldN 6 (.t s1))
(dC (some s5) p41 [(.t s4)]
(dV s6 (o.neq (.t s5) (.c (.int .i64 (.ofNat 0))))
dE))))
(o.cond (.t s6) (dSeq (dOps (dV s7 (oBuild [(.int .i64 (.ofNat 0)),(.int .i64 (.ofNat 0)),(.bool false),(.str []),.nils,.nils] [])
(dU (oSt 6 (.t s2) (.t s7))
(vC s3 (.int .i64 (.ofNat 2))
dE))))
dRet) dSkip))
(dSeq (dOps (dV s8 (o.ldN 6 (.t s1))
(dU (oSt 6 (.t s2) (.t s8))
(vC s3 (.int .i64 (.ofNat 0))
dE))))
dRet))),[(.cN s2 6),(.t s3)]⟩
def af276:AF:=afG276 fastO
def afG277 (o:Ops):AF:=⟨(dSeq (dOps (dV s2 (oBox 404 (.t s0))
(dV s3 (oBox 407 (.t s1))
(dV s4 (oNew [(.int .i64 (.ofNat 0)),(.int .i64 (.ofNat 0)),(.bool false),(.str []),.nils,.nils] 30)
dE))))
(dSeq (dOps (dV s5 (oBuild [.nils,(.int .i64 (.ofNat 0))] [])
(dV s6 (o.fa 17 (.t s2))
(dV s7 (o.ld1 (.t s6))
(dV s8 (oMkf 302 [] [(.t s2),(.t s3)])
(dC (some s9) p301 [(.t s5),(.t s7),(.t s8)]
(dU (oSt 6 (.t s4) (.t s9))
dE)))))))
dRet)),[(.cN s4 6)]⟩
def af277:AF:=afG277 fastO
def afG278 (o:Ops):AF:=⟨(dSeq (dOps (dV s2 (oBox 30 (.t s0))
(dV s4 (oNew [(.int .i64 (.ofNat 0)),(.int .i64 (.ofNat 0)),(.bool false),(.str []),.nils,.nils] 30)
(vC s5 (.int .i64 (.ofNat 0))
dE))))
(dSeq (dSeq (dOps (vM s6 s1
(dV s7 (o.eql (.t s6) (.c (.int .i64 (.ofNat 0))))
(vM s8 s7
(o.g s8 true (some s9) (dV s9 (o.ldN 6 (.t s2)))
(o.g s8 true (some s10) (dC (some s10) p41 [(.t s9)])
(o.g s8 true (some s11) (dV s11 (o.neq (.t s10) (.c (.int .i64 (.ofNat 0)))))
(dV s12 (o.pick (.t s8) (.t s11) (.c (.bool false)))
dE))))))))
(o.cond (.t s12) (dOps (vC s1 (.int .i64 (.ofNat 2))
dE)) dSkip))
(dSeq (dSeq (dOps (vM s13 s1
(dV s14 (o.neq (.t s13) (.c (.int .i64 (.ofNat 0))))
dE)))
(o.cond (.t s14) (dSeq (dOps (dV s15 (oBuild [(.int .i64 (.ofNat 0)),(.int .i64 (.ofNat 0)),(.bool false),(.str []),.nils,.nils] [])
(vM s16 s1
(dU (oSt 6 (.t s4) (.t s15))
(vM s5 s16
dE)))))
dRet) dSkip))
(dSeq (dOps (dV s17 (o.ldN 6 (.t s2))
(dU (oSt 6 (.t s4) (.t s17))
(vC s5 (.int .i64 (.ofNat 0))
dE))))
dRet)))),[(.cN s4 6),(.t s5)]⟩
def af278:AF:=afG278 fastO
def afG279 (o:Ops):AF:=⟨(dSeq (dOps (dV s4 (oBox 30 (.t s1))
(dV s5 (oBox 141 (.t s2))
(dV s6 (oNew [(.int .i64 (.ofNat 0)),(.int .i64 (.ofNat 0)),(.bool false),(.str []),.nils,.nils] 30)
(vC s7 (.int .i64 (.ofNat 0))
dE)))))
(dSeq (dOps (dV s13 (o.ldN 6 (.t s4))
(dC (some s14) p160 [(.t s13)]
(dV s8 (oNew [(.int .i64 (.ofNat 0)),(.int .i64 (.ofNat 0)),(.bool false),(.str []),.nils,.nils] 30)
(dU (oSt 6 (.t s8) (.t s14))
dE)))))
(dSeq (dSeq (dOps (dV s15 (o.fa 4 (.t s8))
(dV s16 (o.ld1 (.t s15))
(dV s17 (o.len (.t s16))
(vC s18 (.int .i64 (.ofNat 0))
dE)))))
(dBlock 0 (dLoop (dSeq (dOps (dV s19 (o.lss (.t s18) (.t s17))
dE))
(dSeq (o.cond (.t s19) dSkip (dExit 0))
(dSeq (dBlock 1 (dSeq (dOps (vM s20 s18
(dV s21 (o.ia 2 (.t s16) (.t s18))
(dV s22 (o.ldN 2 (.t s21))
(dV s10 (oNew [(.int .i64 (.ofNat 0)),.nils] 50)
(vM s9 s20
(dU (oSt 2 (.t s10) (.t s22))
dE)))))))
(dSeq (dOps (vM s24 s0
(dV s25 (o.ldN 2 (.t s10))
(dC (some s26) p307 [(.t s24),(.t s25)]
(vM s23 s26
(dV s27 (o.ext (.t s23) 0)
(dV s28 (o.ext (.t s23) 1)
(dV s11 (oNew [(.int .i64 (.ofNat 0)),.nils] 50)
(dU (oSt 2 (.t s11) (.t s27))
(vM s12 s28
dE))))))))))
(dSeq (dSeq (dOps (vM s29 s12
(dV s30 (o.neq (.t s29) (.c (.int .i64 (.ofNat 0))))
dE)))
(o.cond (.t s30) (dSeq (dOps (dV s31 (oBuild [(.int .i64 (.ofNat 0)),(.int .i64 (.ofNat 0)),(.bool false),(.str []),.nils,.nils] [])
(vM s32 s12
(dU (oSt 6 (.t s6) (.t s31))
(vM s7 s32
dE)))))
dRet) dSkip))
(dOps (dV s33 (o.fa 4 (.t s8))
(dV s34 (o.ld1 (.t s33))
(vM s35 s9
(dV s36 (o.ldN 2 (.t s11))
(dV s37 (o.ia 2 (.t s34) (.t s35))
(dU (oSt 2 (.t s37) (.t s36))
dE)))))))))))
(dOps (dV s38 (o.add (.t s18) (.c (.int .i64 (.ofNat 1))))
(vM s18 s38
dE)))))))))
(dSeq (dOps (dV s39 (o.ldN 6 (.t s8))
(dU (oSt 6 (.t s6) (.t s39))
(vC s7 (.int .i64 (.ofNat 0))
dE))))
dRet)))),[(.cN s6 6),(.t s7)]⟩
def af279:AF:=afG279 fastO
def afG280 (o:Ops):AF:=⟨(dSeq (dOps (vC s2 .nils
dE))
(dSeq (dOps (vM s8 s0
(dC (some s9) p308 [(.t s8),(.c (.fn (.func 309) [] []))]
dE)))
(dSeq (dOps (vC s3 .nils
dE))
(dSeq (dSeq (dOps (vM s10 s0
(dV s11 (o.len (.t s10))
(vC s12 (.int .i64 (.ofNat 0))
dE))))
(dBlock 0 (dLoop (dSeq (dOps (dV s13 (o.lss (.t s12) (.t s11))
dE))
(dSeq (o.cond (.t s13) dSkip (dExit 0))
(dSeq (dBlock 1 (dSeq (dOps (dV s14 (o.ia 4 (.t s10) (.t s12))
(dV s15 (o.ldN 4 (.t s14))
(dV s5 (oNew [(.int .i64 (.ofNat 0)),(.int .i64 (.ofNat 0)),(.int .i64 (.ofNat 0)),(.int .i64 (.ofNat 0))] 350)
(dU (oSt 4 (.t s5) (.t s15))
dE)))))
(dSeq (dOps (vM s16 s3
(dV s17 (o.len (.t s16))
(dV s18 (o.sub (.t s17) (.c (.int .i64 (.ofNat 1))))
(vM s6 s18
dE)))))
(dSeq (dSeq (dDraw (lM s19 s6
(lN s20 (o.lss (.t s19) (.c (.int .i64 (.ofNat 0))))
(lM s21 s20
(lG s21 false s22 (oMv (.t s3))
(lG s21 false s23 (oMv (.t s6))
(lG s21 false s24 (o.ia 4 (.t s22) (.t s23))
(lG s21 false s25 (o.fa 0 (.t s24))
(lG s21 false s26 (o.ld1 (.t s25))
(lG s21 false s27 (o.fa 0 (.t s5))
(lG s21 false s28 (o.ld1 (.t s27))
(lG s21 false s29 (o.neq (.t s26) (.t s28))
(lN s30 (o.pick (.t s21) (.c (.bool true)) (.t s29))
sEnd)))))))))))))
(o.cond (.t s30) (dSeq (dOps (vM s31 s3
(dV s32 (o.ldN 4 (.t s5))
(dV s33 (oBuildS 350 1 [(.int .i64 (.ofNat 0)),(.int .i64 (.ofNat 0)),(.int .i64 (.ofNat 0)),(.int .i64 (.ofNat 0))] [(0,4,(.t s32))])
(dV s34 (oApp 350 4 (.t s31) (.t s33))
(vM s3 s34
dE))))))
(dExit 1)) dSkip))
(dSeq (dOps (vM s35 s3
(vM s36 s6
(dV s37 (o.ia 4 (.t s35) (.t s36))
(dV s38 (o.ldN 4 (.t s37))
(dV s7 (oNew [(.int .i64 (.ofNat 0)),(.int .i64 (.ofNat 0)),(.int .i64 (.ofNat 0)),(.int .i64 (.ofNat 0))] 350)
(dU (oSt 4 (.t s7) (.t s38))
dE)))))))
(dOps (vM s39 s3
(vM s40 s6
(dV s41 (o.fa 0 (.t s7))
(dV s42 (o.ld1 (.t s41))
(dV s43 (o.fa 1 (.t s7))
(dV s44 (o.ld1 (.t s43))
(dV s45 (o.fa 1 (.t s5))
(dV s46 (o.ld1 (.t s45))
(dV s47 (o.add (.t s44) (.t s46))
(dV s48 (o.fa 2 (.t s7))
(dV s49 (o.ld1 (.t s48))
(dV s50 (o.fa 2 (.t s5))
(dV s51 (o.ld1 (.t s50))
(dV s52 (oMm true [(.t s49),(.t s51)])
(dV s53 (o.fa 3 (.t s7))
(dV s54 (o.ld1 (.t s53))
(dV s55 (o.fa 3 (.t s5))
(dV s56 (o.ld1 (.t s55))
(dV s57 (oMm true [(.t s54),(.t s56)])
(dV s58 (oBuild [(.int .i64 (.ofNat 0)),(.int .i64 (.ofNat 0)),(.int .i64 (.ofNat 0)),(.int .i64 (.ofNat 0))] [(0,1,(.t s42)),(1,1,(.t s47)),(2,1,(.t s52)),(3,1,(.t s57))])
(dV s59 (o.ia 4 (.t s39) (.t s40))
(dU (oSt 4 (.t s59) (.t s58))
dE))))))))))))))))))))))))))))
(dOps (dV s60 (o.add (.t s12) (.c (.int .i64 (.ofNat 1))))
(vM s12 s60
dE)))))))))
(dSeq (dOps (vM s61 s3
(vM s2 s61
dE)))
dRet))))),[(.t s2)]⟩
def af280:AF:=afG280 fastO
def afG281 (o:Ops):AF:=⟨(dSeq (dOps (vC s10 (.bool true)
dE))
(dSeq (dOps (vC s11 (.bool true)
dE))
(dBlock 0 (dLoop (dBlock 1 (dSeq (dOps (vM s21 s2
(vM s22 s1
(dV s23 (o.sub (.t s21) (.t s22))
(vM s12 s23
dE)))))
(dSeq (dSeq (dOps (vM s24 s12
(dV s25 (o.leq (.t s24) (.c (.int .i64 (.ofNat 12))))
dE)))
(o.cond (.t s25) (dSeq (dOps (vM s26 s0
(vM s27 s1
(vM s28 s2
(vM s29 s4
(dC (some s30) p310 [(.t s26),(.t s27),(.t s28),(.t s29)]
dE))))))
dRet) dSkip))
(dSeq (dSeq (dOps (vM s31 s3
(dV s32 (o.eql (.t s31) (.c (.int .i64 (.ofNat 0))))
dE)))
(o.cond (.t s32) (dSeq (dOps (vM s33 s0
(vM s34 s1
(vM s35 s2
(vM s36 s4
(dC (some s37) p311 [(.t s33),(.t s34),(.t s35),(.t s36)]
dE))))))
dRet) dSkip))
(dSeq (dSeq (dOps (vM s38 s10
(dV s39 (o.not (.t s38))
dE)))
(o.cond (.t s39) (dSeq (dOps (vM s40 s0
(vM s41 s1
(vM s42 s2
(vM s43 s4
(dC (some s44) p312 [(.t s40),(.t s41),(.t s42),(.t s43)]
dE))))))
(dOps (vM s45 s3
(dV s46 (o.sub (.t s45) (.c (.int .i64 (.ofNat 1))))
(vM s3 s46
dE))))) dSkip))
(dSeq (dOps (vM s48 s0
(vM s49 s1
(vM s50 s2
(vM s51 s4
(dC (some s52) p313 [(.t s48),(.t s49),(.t s50),(.t s51)]
(vM s47 s52
(dV s53 (o.ext (.t s47) 0)
(dV s54 (o.ext (.t s47) 1)
(vM s13 s53
(vM s14 s54
dE)))))))))))
(dSeq (dSeq (dOps (vM s55 s14
(dV s56 (o.eql (.t s55) (.c (.int .i64 (.ofNat 2))))
dE)))
(o.cond (.t s56) (dSeq (dOps (vM s57 s0
(vM s58 s1
(vM s59 s2
(vM s60 s4
(dC (some s61) p314 [(.t s57),(.t s58),(.t s59),(.t s60)]
dE))))))
(dSeq (dOps (vM s62 s2
(dV s63 (o.sub (.t s62) (.c (.int .i64 (.ofNat 1))))
(vM s64 s13
(vM s65 s1
(dV s66 (o.sub (.t s64) (.t s65))
(dV s67 (o.sub (.t s63) (.t s66))
(vM s13 s67
dE))))))))
(dOps (vC s14 (.int .i64 (.ofNat 1))
dE)))) dSkip))
(dSeq (dSeq (dOps (vM s68 s10
(vM s69 s68
(o.g s69 true (some s70) (vM s70 s11)
(dV s71 (o.pick (.t s69) (.t s70) (.c (.bool false)))
(vM s72 s71
(o.g s72 true (some s73) (vM s73 s14)
(o.g s72 true (some s74) (dV s74 (o.eql (.t s73) (.c (.int .i64 (.ofNat 1)))))
(dV s75 (o.pick (.t s72) (.t s74) (.c (.bool false)))
dE)))))))))
(o.cond (.t s75) (dSeq (dOps (vM s76 s0
(vM s77 s1
(vM s78 s2
(vM s79 s4
(dC (some s80) p315 [(.t s76),(.t s77),(.t s78),(.t s79)]
dE))))))
(o.cond (.t s80) dRet dSkip)) dSkip))
(dSeq (dSeq (dDraw (lM s81 s1
(lN s82 (o.gtr (.t s81) (.c (.int .i64 (.ofNat 0))))
(lM s83 s82
(lG s83 true s84 (oMv (.t s4))
(lG s83 true s85 (oMv (.t s0))
(lG s83 true s86 (oMv (.t s1))
(lG s83 true s87 (o.sub (.t s86) (.c (.int .i64 (.ofNat 1))))
(lG s83 true s88 (o.ia 2 (.t s85) (.t s87))
(lG s83 true s89 (o.ldN 2 (.t s88))
(lG s83 true s90 (oMv (.t s0))
(lG s83 true s91 (oMv (.t s13))
(lG s83 true s92 (o.ia 2 (.t s90) (.t s91))
(lG s83 true s93 (o.ldN 2 (.t s92))
(lE [] [] (some s94) (eK ⟨(some s94),(.callv (.t s84) [(.t s89),(.t s93)]),(some (s83,true))⟩)
(lG s83 true s95 (o.lss (.t s94) (.c (.int .i64 (.ofNat 0))))
(lG s83 true s96 (o.not (.t s95))
(lN s97 (o.pick (.t s83) (.t s96) (.c (.bool false)))
sEnd))))))))))))))))))
(o.cond (.t s97) (dSeq (dOps (vM s98 s0
(vM s99 s1
(vM s100 s2
(vM s101 s13
(vM s102 s4
(dC (some s103) p316 [(.t s98),(.t s99),(.t s100),(.t s101),(.t s102)]
(vM s15 s103
dE))))))))
(dSeq (dOps (vM s104 s15
(vM s1 s104
dE)))
(dExit 1))) dSkip))
(dSeq (dOps (vM s106 s0
(vM s107 s1
(vM s108 s2
(vM s109 s13
(vM s110 s4
(dC (some s111) p317 [(.t s106),(.t s107),(.t s108),(.t s109),(.t s110)]
(vM s105 s111
(dV s112 (o.ext (.t s105) 0)
(dV s113 (o.ext (.t s105) 1)
(vM s16 s112
(vM s17 s113
dE))))))))))))
(dSeq (dOps (vM s114 s17
(vM s11 s114
dE)))
(dSeq (dOps (vM s115 s16
(vM s116 s1
(dV s117 (o.sub (.t s115) (.t s116))
(vM s118 s2
(vM s119 s16
(dV s120 (o.sub (.t s118) (.t s119))
(vM s18 s117
(vM s19 s120
dE)))))))))
(dSeq (dOps (vM s121 s12
(dV s122 (oAr .quo (.t s121) (.c (.int .i64 (.ofNat 8))))
(vM s20 s122
dE))))
(dSeq (dOps (vM s123 s18
(vM s124 s19
(dV s125 (o.lss (.t s123) (.t s124))
dE))))
(o.cond (.t s125) (dSeq (dOps (vM s126 s18
(vM s127 s20
(dV s128 (o.geq (.t s126) (.t s127))
(vM s10 s128
dE)))))
(dSeq (dOps (vM s129 s0
(vM s130 s1
(vM s131 s16
(vM s132 s3
(vM s133 s4
(dC (some s134) p281 [(.t s129),(.t s130),(.t s131),(.t s132),(.t s133)]
dE)))))))
(dOps (vM s135 s16
(dV s136 (o.add (.t s135) (.c (.int .i64 (.ofNat 1))))
(vM s1 s136
dE)))))) (dSeq (dOps (vM s137 s19
(vM s138 s20
(dV s139 (o.geq (.t s137) (.t s138))
(vM s10 s139
dE)))))
(dSeq (dOps (vM s140 s0
(vM s141 s16
(dV s142 (o.add (.t s141) (.c (.int .i64 (.ofNat 1))))
(vM s143 s2
(vM s144 s3
(vM s145 s4
(dC (some s146) p281 [(.t s140),(.t s142),(.t s143),(.t s144),(.t s145)]
dE))))))))
(dOps (vM s147 s16
(vM s2 s147
dE)))))))))))))))))))))))),[]⟩
def af281:AF:=afG281 fastO
def afG282 (o:Ops):AF:=⟨(dSeq (dOps (vC s2 (.int .i64 (.ofNat 0))
dE))
(dSeq (o.cond (.c (.bool false)) (dSeq (dOps (vM s3 s0
(dV s4 (oCvI .u32 (.t s3))
(dC (some s5) p318 [(.t s4)]
(vM s2 s5
dE)))))
dRet) dSkip)
(dSeq (dOps (vM s6 s0
(dC (some s7) p319 [(.t s6)]
(vM s2 s7
dE))))
dRet))),[(.t s2)]⟩
def af282:AF:=afG282 fastO
def afG283 (o:Ops):AF:=⟨(dSeq (dOps (vC s2 (.bool false)
dE))
(dSeq (dOps (vM s3 s0
(vM s4 s0
(dV s5 (o.neq (.t s3) (.t s4))
(vM s2 s5
dE)))))
dRet)),[(.t s2)]⟩
def af283:AF:=afG283 fastO
def afG284 (o:Ops):AF:=⟨(dSeq (dSeq (dDraw (lM s6 s0
(lN s7 (o.fa 0 (.t s1))
(lN s8 (o.ld1 (.t s7))
(lN s9 (o.ldN 2 (.t s2))
(lE [] [(s8,(o.ld1 (.t s7)))] (some s10) (actC p285 [(.t s9),(.c .nils)])
(lE [] [] (some s11) (eK ⟨(some s11),(.callv (.t s6) [(.t s8),(.t s10)]),none⟩)
(lN s12 (o.not (.t s11))
sEnd))))))))
(o.cond (.t s12) dRet dSkip))
(dSeq (dOps (dV s13 (o.fa 1 (.t s1))
(dV s14 (o.ld1 (.t s13))
(dV s15 (o.len (.t s14))
(vC s16 (.int .i64 (.ofNat 0))
dE)))))
(dBlock 0 (dLoop (dSeq (dOps (dV s17 (o.lss (.t s16) (.t s15))
dE))
(dSeq (o.cond (.t s17) dSkip (dExit 0))
(dSeq (dBlock 1 (dSeq (dOps (dV s18 (o.ia 2 (.t s14) (.t s16))
(dV s19 (o.ldN 2 (.t s18))
(dV s5 (oNew [(.int .i64 (.ofNat 0)),(.int .i64 (.ofNat 0))] 47)
(dU (oSt 2 (.t s5) (.t s19))
dE)))))
(dSeq (dDraw (lM s20 s0
(lN s21 (o.fa 1 (.t s5))
(lN s22 (o.ld1 (.t s21))
(lN s23 (o.ldN 2 (.t s2))
(lN s24 (o.fa 0 (.t s5))
(lN s25 (o.ld1 (.t s24))
(lE [] [(s22,(o.ld1 (.t s21)))] (some s26) (actC p286 [(.t s23),(.t s25)])
(lE [] [] (some s27) (eK ⟨(some s27),(.callv (.t s20) [(.t s22),(.t s26)]),none⟩)
(lN s28 (o.not (.t s27))
sEnd))))))))))
(o.cond (.t s28) dRet dSkip))))
(dOps (dV s29 (o.add (.t s16) (.c (.int .i64 (.ofNat 1))))
(vM s16 s29
dE)))))))))),[]⟩
def af284:AF:=afG284 fastO
def afG285 (o:Ops):AF:=⟨(dSeq (dOps (dV s2 (oBox 50 (.t s0))
(vC s4 (.int .i64 (.ofNat 0))
dE)))
(dSeq (dSeq (dOps (dV s9 (o.ldN 2 (.t s2))
(dC (some s10) p195 [(.t s9)]
(dV s11 (o.not (.t s10))
dE))))
(o.cond (.t s11) (dSeq (dOps (vC s4 (.int .i64 (.ofNat 0))
dE))
dRet) dSkip))
(dSeq (dOps (dV s12 (o.fa 0 (.t s2))
(dV s13 (o.ld1 (.t s12))
(vM s5 s13
dE))))
(dSeq (dSeq (dOps (dV s14 (o.fa 1 (.t s2))
(dV s15 (o.ld1 (.t s14))
(dV s16 (o.len (.t s15))
(vC s17 (.int .i64 (.ofNat 0))
dE)))))
(dBlock 0 (dLoop (dSeq (dOps (dV s18 (o.lss (.t s17) (.t s16))
dE))
(dSeq (o.cond (.t s18) dSkip (dExit 0))
(dSeq (dBlock 1 (dSeq (dOps (dV s19 (o.ia 2 (.t s15) (.t s17))
(dV s20 (o.ldN 2 (.t s19))
(dV s7 (oNew [(.int .i64 (.ofNat 0)),(.int .i64 (.ofNat 0))] 47)
(dU (oSt 2 (.t s7) (.t s20))
dE)))))
(dSeq (dOps (dV s21 (o.fa 1 (.t s7))
(dV s22 (o.ld1 (.t s21))
(dC (some s23) p235 [(.t s22)]
(vM s8 s23
dE)))))
(dOps (vM s24 s5
(vM s25 s8
(vM s26 s1
(dV s27 (o.fa 0 (.t s7))
(dV s28 (o.ld1 (.t s27))
(dC (some s29) p320 [(.t s26),(.t s28)]
(dCv (some s30) (.t s25) [(.t s29)]
(dV s31 (oMm true [(.t s24),(.t s30)])
(vM s5 s31
dE)))))))))))))
(dOps (dV s32 (o.add (.t s17) (.c (.int .i64 (.ofNat 1))))
(vM s17 s32
dE)))))))))
(dSeq (dOps (vM s33 s5
(vM s4 s33
dE)))
dRet))))),[(.t s4)]⟩
def af285:AF:=afG285 fastO
def afG286 (o:Ops):AF:=⟨(dSeq (dOps (dV s2 (oBox 50 (.t s0))
(vC s4 (.int .i64 (.ofNat 0))
dE)))
(dSeq (dOps (vC s5 (.int .i64 (.negSucc 0))
dE))
(dSeq (dSeq (dOps (dV s8 (o.fa 1 (.t s2))
(dV s9 (o.ld1 (.t s8))
(dV s10 (o.len (.t s9))
(vC s11 (.int .i64 (.ofNat 0))
dE)))))
(dBlock 0 (dLoop (dSeq (dOps (dV s12 (o.lss (.t s11) (.t s10))
dE))
(dSeq (o.cond (.t s12) dSkip (dExit 0))
(dSeq (dBlock 1 (dSeq (dOps (dV s13 (o.ia 2 (.t s9) (.t s11))
(dV s14 (o.ldN 2 (.t s13))
(dV s7 (oNew [(.int .i64 (.ofNat 0)),(.int .i64 (.ofNat 0))] 47)
(dU (oSt 2 (.t s7) (.t s14))
dE)))))
(dSeq (dOps (dV s15 (o.fa 0 (.t s7))
(dV s16 (o.ld1 (.t s15))
(vM s17 s1
(dV s18 (o.eql (.t s16) (.t s17))
dE)))))
(o.cond (.t s18) (dOps (vM s19 s5
(dV s20 (o.fa 1 (.t s7))
(dV s21 (o.ld1 (.t s20))
(dV s22 (oMm true [(.t s19),(.t s21)])
(vM s5 s22
dE)))))) dSkip))))
(dOps (dV s23 (o.add (.t s11) (.c (.int .i64 (.ofNat 1))))
(vM s11 s23
dE)))))))))
(dSeq (dOps (vM s24 s5
(vM s4 s24
dE)))
dRet)))),[(.t s4)]⟩
def af286:AF:=afG286 fastO
def afG287 (o:Ops):AF:=⟨(dSeq (dOps (dV s2 (oBox 424 (.t s0))
(dV s3 (oBox 343 (.t s1))
dE)))
(dSeq (dDraw (lN s4 (o.fa 1 (.t s2))
(lN s5 (o.ld1 (.t s4))
(lN s6 (o.fa 1 (.t s2))
(lN s7 (o.ld1 (.t s6))
(lN s8 (o.fa 0 (.t s2))
(lN s9 (o.ld1 (.t s8))
(lN s10 (o.nchk (.t s9))
(lN s11 (o.fa 8 (.t s10))
(lN s12 (o.fa 7 (.t s11))
(lN s13 (o.ldN 4 (.t s12))
(lN s14 (o.nchk (.t s5))
(lN s15 (o.fa 7 (.t s14))
(lE [] [(s7,(o.ld1 (.t s6)))] none (actV (o.st1 (.t s15) (.t s3)))
(lN s16 (o.nchk (.t s7))
(lN s17 (o.fa 8 (.t s16))
(lE [] [] none (actV (oSt 4 (.t s17) (.t s13)))
sEnd)))))))))))))))))
(dOps (dV s18 (o.fa 0 (.t s2))
(dV s19 (o.ld1 (.t s18))
(dV s20 (o.fa 2 (.t s2))
(dV s21 (o.ldN 11 (.t s20))
(dV s22 (o.nchk (.t s19))
(dV s23 (o.fa 8 (.t s22))
(dU (oSt 11 (.t s23) (.t s21))
dE)))))))))),[]⟩
def af287:AF:=afG287 fastO
def afG288 (o:Ops):AF:=⟨(dSeq (dOps (vC s2 (.bool false)
dE))
(dSeq (dDraw (lM s4 s0
(lN s5 (o.nchk (.t s4))
(lN s6 (o.fa 8 (.t s5))
(lN s7 (o.fa 0 (.t s6))
(lN s8 (o.fa 0 (.t s7))
(lN s9 (o.fa 0 (.t s8))
(lN s10 (o.ldN 2 (.t s9))
(lM s11 s0
(lN s12 (o.nchk (.t s11))
(lN s13 (o.fa 8 (.t s12))
(lN s14 (o.fa 0 (.t s13))
(lN s15 (o.fa 0 (.t s14))
(lN s16 (o.fa 2 (.t s15))
(lN s17 (o.ld1 (.t s16))
(lN s18 (o.nchk (.t s17))
(lN s19 (o.fa 0 (.t s18))
(lN s20 (o.fa 1 (.t s19))
(lN s21 (o.ld1 (.t s20))
(lE [] [] (some s22) (actC p115 [(.t s10),(.t s21)])
(lM s3 s22
sEnd)))))))))))))))))))))
(dSeq (dSeq (dOps (vM s23 s3
(dV s24 (o.eqp false (.t s23) (.c .nilp))
dE)))
(o.cond (.t s24) (dSeq (dOps (vC s2 (.bool false)
dE))
dRet) dSkip))
(dSeq (dSeq (dOps (vM s25 s3
(dV s26 (o.nchk (.t s25))
(dV s27 (o.fa 7 (.t s26))
(dV s28 (o.ld1 (.t s27))
(dV s29 (o.eqp false (.t s28) (.c .nilp))
dE))))))
(o.cond (.t s29) (dSeq (dDraw (lM s30 s0
(lM s31 s3
(lM s32 s0
(lN s33 (o.nchk (.t s32))
(lN s34 (o.fa 8 (.t s33))
(lN s35 (o.fa 4 (.t s34))
(lN s36 (o.ld1 (.t s35))
(lM s38 s0
(lN s39 (o.nchk (.t s38))
(lN s40 (o.fa 8 (.t s39))
(lN s41 (o.fa 5 (.t s40))
(lN s42 (o.ldN 2 (.t s41))
(lE [] [(s42,(o.ldN 2 (.t s41)))] (some s37) (actC p262 [(.t s36)])
(lE [] [] (some s43) (actC p261 [(.t s37),(.t s42)])
(lE [] [] (some s44) (actC p265 [(.t s30),(.t s31),(.t s43)])
sEnd))))))))))))))))
(dSeq (dOps (vC s2 (.bool true)
dE))
dRet)) dSkip))
(dSeq (dOps (vM s45 s0
(vM s46 s3
(dV s47 (o.nchk (.t s46))
(dV s48 (o.fa 8 (.t s47))
(dV s49 (o.ldN 4 (.t s48))
(dC (some s50) p321 [(.t s45),(.t s49)]
dE)))))))
(dSeq (dDraw (lM s51 s0
(lM s52 s0
(lM s53 s3
(lN s54 (o.nchk (.t s53))
(lN s55 (o.fa 7 (.t s54))
(lN s56 (o.ld1 (.t s55))
(lN s57 (o.nchk (.t s56))
(lN s58 (o.fa 0 (.t s57))
(lN s59 (o.ldN 4 (.t s58))
(lM s60 s3
(lN s61 (o.nchk (.t s60))
(lN s62 (o.fa 7 (.t s61))
(lN s63 (o.ld1 (.t s62))
(lN s64 (o.nchk (.t s63))
(lN s65 (o.fa 4 (.t s64))
(lN s66 (o.ld1 (.t s65))
(lM s67 s0
(lN s68 (o.nchk (.t s67))
(lN s69 (o.fa 8 (.t s68))
(lN s70 (o.fa 4 (.t s69))
(lN s71 (o.ld1 (.t s70))
(lE [] [(s56,(o.ld1 (.t s55))),(s59,(o.ldN 4 (.t s58)))] (some s72) (actC p322 [(.t s66),(.t s71)])
(lN s73 (o.nchk (.t s51))
(lN s74 (o.fa 8 (.t s73))
(lN s75 (o.fa 0 (.t s74))
(lE [] [] none (actV (oSt 4 (.t s75) (.t s59)))
(lN s76 (o.nchk (.t s52))
(lN s77 (o.fa 8 (.t s76))
(lN s78 (o.fa 4 (.t s77))
(lE [] [] none (actV (o.st1 (.t s78) (.t s72)))
sEnd)))))))))))))))))))))))))))))))
(dSeq (dOps (vC s2 (.bool true)
dE))
dRet))))))),[(.t s2)]⟩
def af288:AF:=afG288 fastO
def afG289 (o:Ops):AF:=⟨(dSeq (dOps (vC s2 (.bool false)
dE))
(dSeq (dSeq (dOps (vM s3 s0
(dV s4 (o.nchk (.t s3))
(dV s5 (o.fa 8 (.t s4))
(dV s6 (o.fa 4 (.t s5))
(dV s7 (o.ld1 (.t s6))
(dV s8 (o.eqp false (.t s7) (.c .nilp))
dE)))))))
(o.cond (.t s8) (dSeq (dOps (vC s2 (.bool false)
dE))
dRet) dSkip))
(dSeq (dOps (vM s9 s0
(dC (some s10) p323 [(.t s9)]
dE)))
(dSeq (dDraw (lM s11 s0
(lM s12 s0
(lN s13 (o.nchk (.t s12))
(lN s14 (o.fa 8 (.t s13))
(lN s15 (o.fa 0 (.t s14))
(lN s16 (o.fa 0 (.t s15))
(lN s17 (o.fa 0 (.t s16))
(lN s18 (o.ldN 2 (.t s17))
(lM s19 s0
(lN s20 (o.nchk (.t s19))
(lN s21 (o.fa 8 (.t s20))
(lN s22 (o.fa 4 (.t s21))
(lN s23 (o.ld1 (.t s22))
(lN s24 (o.nchk (.t s23))
(lN s25 (o.fa 0 (.t s24))
(lN s26 (o.ld1 (.t s25))
(lM s28 s0
(lN s29 (o.nchk (.t s28))
(lN s30 (o.fa 8 (.t s29))
(lN s31 (o.fa 0 (.t s30))
(lN s32 (o.fa 0 (.t s31))
(lN s33 (o.fa 2 (.t s32))
(lN s34 (o.ld1 (.t s33))
(lN s35 (o.nchk (.t s34))
(lN s36 (o.fa 6 (.t s35))
(lN s37 (o.ld1 (.t s36))
(lN s38 (o.ia 1 (.t s37) (.c (.int .i64 (.ofNat 1))))
(lN s39 (o.ld1 (.t s38))
(lM s41 s0
(lN s42 (o.nchk (.t s41))
(lN s43 (o.fa 8 (.t s42))
(lN s44 (o.fa 4 (.t s43))
(lN s45 (o.ld1 (.t s44))
(lN s46 (o.nchk (.t s45))
(lN s47 (o.fa 2 (.t s46))
(lN s48 (o.ld1 (.t s47))
(lE [] [(s34,(o.ld1 (.t s33))),(s37,(o.ld1 (.t s36))),(s39,(o.ld1 (.t s38))),(s45,(o.ld1 (.t s44))),(s48,(o.ld1 (.t s47)))] (some s27) (actC p145 [(.t s18),(.t s26)])
(lN s40 (oBuild [.nilp,(.int .i64 (.ofNat 0)),.nilp] [(0,2,(.t s27)),(2,1,(.t s39))])
(lE [] [] (some s49) (actC p324 [(.t s11),(.t s40),(.t s48)])
sEnd))))))))))))))))))))))))))))))))))))))))
(dSeq (dOps (vC s2 (.bool true)
dE))
dRet))))),[(.t s2)]⟩
def af289:AF:=afG289 fastO
def afG290 (o:Ops):AF:=⟨(dSeq (dOps (vC s2 (.bool false)
dE))
(dSeq (dOps (vM s4 s0
(vM s5 s0
(dV s6 (o.nchk (.t s5))
(dV s7 (o.fa 8 (.t s6))
(dV s8 (o.fa 0 (.t s7))
(dV s9 (o.fa 0 (.t s8))
(dV s10 (o.fa 2 (.t s9))
(dV s11 (o.ld1 (.t s10))
(dC (some s12) p325 [(.t s4),(.t s11)]
(vM s3 s12
dE)))))))))))
(dSeq (dSeq (dOps (vM s13 s3
(dC (some s14) p326 [(.t s13)]
(dV s15 (o.not (.t s14))
dE))))
(o.cond (.t s15) (dSeq (dOps (vC s2 (.bool false)
dE))
dRet) dSkip))
(dSeq (dOps (vM s16 s0
(dC (some s17) p323 [(.t s16)]
dE)))
(dSeq (dDraw (lM s18 s0
(lM s19 s3
(lM s22 s0
(lN s23 (o.nchk (.t s22))
(lN s24 (o.fa 8 (.t s23))
(lN s25 (o.fa 4 (.t s24))
(lN s26 (o.ld1 (.t s25))
(lE [] [(s26,(o.ld1 (.t s25)))] (some s20) (actC p327 [(.t s19)])
(lN s21 (oBuild [.nilp,(.int .i64 (.ofNat 0)),.nilp] [(2,1,(.t s20))])
(lE [] [] (some s27) (actC p324 [(.t s18),(.t s21),(.t s26)])
sEnd)))))))))))
(dSeq (dOps (vC s2 (.bool true)
dE))
dRet)))))),[(.t s2)]⟩
def af290:AF:=afG290 fastO
def afG291 (o:Ops):AF:=⟨(dSeq (dOps (vC s2 (.bool false)
dE))
(dSeq (dOps (vM s7 s0
(vM s8 s0
(dV s9 (o.nchk (.t s8))
(dV s10 (o.fa 8 (.t s9))
(dV s11 (o.fa 0 (.t s10))
(dV s12 (o.fa 0 (.t s11))
(dV s13 (o.fa 2 (.t s12))
(dV s14 (o.ld1 (.t s13))
(dC (some s15) p325 [(.t s7),(.t s14)]
(vM s3 s15
dE)))))))))))
(dSeq (dSeq (dOps (vM s16 s3
(dC (some s17) p328 [(.t s16)]
(dV s18 (o.not (.t s17))
dE))))
(o.cond (.t s18) (dSeq (dOps (vC s2 (.bool false)
dE))
dRet) dSkip))
(dSeq (dDraw (lM s19 s0
(lN s20 (o.nchk (.t s19))
(lN s21 (o.fa 8 (.t s20))
(lN s22 (o.fa 4 (.t s21))
(lN s23 (o.ld1 (.t s22))
(lM s24 s3
(lN s25 (o.nchk (.t s24))
(lN s26 (o.fa 24 (.t s25))
(lN s27 (o.ld1 (.t s26))
(lE [] [(s23,(o.ld1 (.t s22)))] (some s28) (actC p330 [(.t s27)])
(lE [] [] (some s29) (actC p329 [(.t s23),(.t s28)])
(lM s4 s29
sEnd)))))))))))))
(dSeq (dSeq (dOps (vM s30 s4
(dV s31 (o.eqp false (.t s30) (.c .nilp))
dE)))
(o.cond (.t s31) (dSeq (dOps (vC s2 (.bool false)
dE))
dRet) dSkip))
(dSeq (dSeq (dOps (vM s32 s0
(vM s33 s4
(dV s34 (o.nchk (.t s33))
(dV s35 (o.fa 0 (.t s34))
(dV s36 (o.ld1 (.t s35))
(dC (some s37) p331 [(.t s32),(.t s36)]
dE)))))))
(o.cond (.t s37) (dSeq (dOps (vC s2 (.bool true)
dE))
dRet) dSkip))
(dSeq (dDraw (lM s39 s0
(lM s40 s4
(lN s41 (o.nchk (.t s40))
(lN s42 (o.fa 0 (.t s41))
(lN s43 (o.ld1 (.t s42))
(lN s44 (o.nchk (.t s43))
(lN s45 (o.fa 7 (.t s44))
(lN s46 (o.ld1 (.t s45))
(lM s47 s3
(lN s48 (o.nchk (.t s47))
(lN s49 (o.fa 24 (.t s48))
(lN s50 (o.ld1 (.t s49))
(lE [] [] (some s51) (actC p332 [(.t s39),(.t s46),(.t s50)])
(lM s38 s51
(lN s52 (o.ext (.t s38) 0)
(lN s53 (o.ext (.t s38) 1)
(lM s5 s52
(lM s6 s53
sEnd)))))))))))))))))))
(dSeq (dSeq (dOps (vM s54 s6
(dV s55 (o.not (.t s54))
dE)))
(o.cond (.t s55) (dSeq (dOps (vC s2 (.bool false)
dE))
dRet) dSkip))
(dSeq (dOps (vM s56 s0
(dC (some s57) p323 [(.t s56)]
dE)))
(dSeq (dDraw (lM s58 s0
(lM s59 s3
(lN s60 (o.nchk (.t s59))
(lN s61 (o.fa 24 (.t s60))
(lN s62 (o.ld1 (.t s61))
(lM s63 s0
(lN s64 (o.nchk (.t s63))
(lN s65 (o.fa 8 (.t s64))
(lN s66 (o.fa 4 (.t s65))
(lN s67 (o.ld1 (.t s66))
(lM s68 s4
(lN s69 (o.nchk (.t s68))
(lN s70 (o.fa 0 (.t s69))
(lN s71 (o.ld1 (.t s70))
(lN s72 (o.nchk (.t s71))
(lN s73 (o.fa 7 (.t s72))
(lN s74 (o.ld1 (.t s73))
(lN s75 (o.nchk (.t s74))
(lN s76 (o.fa 4 (.t s75))
(lN s77 (o.ld1 (.t s76))
(lM s79 s3
(lM s80 s5
(lM s83 s4
(lN s84 (o.nchk (.t s83))
(lN s85 (o.fa 2 (.t s84))
(lN s86 (o.ld1 (.t s85))
(lE [] [(s86,(o.ld1 (.t s85)))] (some s78) (actC p333 [(.t s62),(.t s67),(.t s77)])
(lE [] [(s86,(o.ld1 (.t s85)))] (some s81) (actC p334 [(.t s79),(.t s80)])
(lN s82 (oBuild [.nilp,(.int .i64 (.ofNat 0)),.nilp] [(0,2,(.t s78)),(2,1,(.t s81))])
(lE [] [] (some s87) (actC p324 [(.t s58),(.t s82),(.t s86)])
sEnd)))))))))))))))))))))))))))))))
(dSeq (dOps (vC s2 (.bool true)
dE))
dRet))))))))))),[(.t s2)]⟩
def af291:AF:=afG291 fastO
def afG292 (o:Ops):AF:=⟨(dSeq (dOps (vC s4 (.bool false)
dE))
(dSeq (dSeq (dOps (vM s6 s0
(dV s7 (o.nchk (.t s6))
(dV s8 (o.fa 8 (.t s7))
(dV s9 (o.fa 0 (.t s8))
(dV s10 (o.fa 3 (.t s9))
(dV s11 (o.ld1 (.t s10))
(dV s12 (o.eqp false (.t s11) (.c .nilp))
dE))))))))
(o.cond (.t s12) (dOps (vM s13 s0
(vM s14 s0
(dV s15 (o.nchk (.t s14))
(dV s16 (o.fa 8 (.t s15))
(dV s17 (o.fa 0 (.t s16))
(dV s18 (o.fa 0 (.t s17))
(dV s19 (o.ldN 3 (.t s18))
(dC (some s20) p219 [(.t s19),(.c (.int .i64 (.ofNat 0)))]
(dV s21 (o.nchk (.t s13))
(dV s22 (o.fa 8 (.t s21))
(dV s23 (o.fa 0 (.t s22))
(dV s24 (o.fa 3 (.t s23))
(dU (o.st1 (.t s24) (.t s20))
dE)))))))))))))) dSkip))
(dSeq (dSeq (dOps (vM s25 s0
(vM s26 s0
(dV s27 (o.nchk (.t s26))
(dV s28 (o.fa 8 (.t s27))
(dV s29 (o.fa 0 (.t s28))
(dV s30 (o.fa 3 (.t s29))
(dV s31 (o.ld1 (.t s30))
(dC (some s32) p331 [(.t s25),(.t s31)]
dE)))))))))
(o.cond (.t s32) (dSeq (dOps (vC s4 (.bool true)
dE))
dRet) dSkip))
(dSeq (dOps (vM s33 s0
(dV s34 (o.nchk (.t s33))
(dV s35 (o.fa 8 (.t s34))
(dV s36 (o.fa 0 (.t s35))
(dV s37 (o.fa 3 (.t s36))
(dV s38 (o.ld1 (.t s37))
(dV s39 (o.nchk (.t s38))
(dV s40 (o.fa 7 (.t s39))
(dV s41 (o.ld1 (.t s40))
(vM s5 s41
dE)))))))))))
(dSeq (dSeq (dOps (vM s42 s5
(dV s43 (o.nchk (.t s42))
(dV s44 (o.fa 0 (.t s43))
(dV s45 (o.fa 0 (.t s44))
(dV s46 (o.fa 2 (.t s45))
(dV s47 (o.ld1 (.t s46))
(dV s48 (o.nchk (.t s47))
(dV s49 (o.fa 0 (.t s48))
(dV s50 (o.fa 0 (.t s49))
(dV s51 (o.ld1 (.t s50))
(dV s52 (o.neq (.t s51) (.c (.int .i64 (.ofNat 7))))
(vM s53 s52
(o.g s53 false (some s54) (vM s54 s5)
(o.g s53 false (some s55) (dV s55 (o.nchk (.t s54)))
(o.g s53 false (some s56) (dV s56 (o.fa 4 (.t s55)))
(o.g s53 false (some s57) (dV s57 (o.ld1 (.t s56)))
(o.g s53 false (some s58) (dV s58 (o.eqp true (.t s57) (.c .nilp)))
(dV s59 (o.pick (.t s53) (.c (.bool true)) (.t s58))
dE)))))))))))))))))))
(o.cond (.t s59) (dSeq (dOps (vC s4 (.bool false)
dE))
dRet) dSkip))
(dSeq (dOps (vM s60 s0
(dC (some s61) p323 [(.t s60)]
dE)))
(dSeq (dDraw (lM s62 s0
(lM s63 s5
(lN s64 (o.nchk (.t s63))
(lN s65 (o.fa 0 (.t s64))
(lN s66 (o.fa 0 (.t s65))
(lN s67 (o.fa 0 (.t s66))
(lN s68 (o.ldN 2 (.t s67))
(lM s69 s5
(lN s70 (o.nchk (.t s69))
(lN s71 (o.fa 0 (.t s70))
(lN s72 (o.fa 0 (.t s71))
(lN s73 (o.fa 2 (.t s72))
(lN s74 (o.ld1 (.t s73))
(lN s75 (o.nchk (.t s74))
(lN s76 (o.fa 6 (.t s75))
(lN s77 (o.ld1 (.t s76))
(lM s78 s1
(lN s79 (o.ia 1 (.t s77) (.t s78))
(lN s80 (o.ld1 (.t s79))
(lN s81 (oBuild [.nilp,(.int .i64 (.ofNat 0)),.nilp] [(0,2,(.t s68)),(2,1,(.t s80))])
(lM s82 s0
(lN s83 (o.nchk (.t s82))
(lN s84 (o.fa 8 (.t s83))
(lN s85 (o.fa 4 (.t s84))
(lN s86 (o.ld1 (.t s85))
(lE [] [] (some s87) (actC p324 [(.t s62),(.t s81),(.t s86)])
sEnd)))))))))))))))))))))))))))
(dSeq (dOps (vC s4 (.bool true)
dE))
dRet)))))))),[(.t s4)]⟩
def af292:AF:=afG292 fastO
def afG293 (o:Ops):AF:=⟨(dSeq (dOps (dV s2 (oBox 152 (.t s0))
(dV s3 (oBox 104 (.t s1))
(vC s4 (.int .i64 (.ofNat 0))
dE))))
(dSeq (dSeq (dOps (dV s5 (o.fa 0 (.t s3))
(dV s6 (o.ld1 (.t s5))
(dV s7 (o.nchk (.t s6))
(dV s8 (o.fa 13 (.t s7))
(dV s9 (o.ld1 (.t s8))
(dV s10 (o.eql (.t s9) (.c (.int .i64 (.ofNat 0))))
dE)))))))
(o.cond (.t s10) (dSeq (dOps (dV s11 (o.fa 0 (.t s2))
(dV s12 (o.ld1 (.t s11))
(dV s13 (o.nchk (.t s12))
(dV s14 (o.fa 4 (.t s13))
(dV s15 (o.ld1 (.t s14))
(dV s16 (o.add (.t s15) (.c (.int .i64 (.ofNat 1))))
(dV s17 (o.nchk (.t s12))
(dV s18 (o.fa 4 (.t s17))
(dU (o.st1 (.t s18) (.t s16))
dE))))))))))
(dDraw (lN s19 (o.fa 0 (.t s3))
(lN s20 (o.ld1 (.t s19))
(lN s21 (o.fa 0 (.t s2))
(lN s22 (o.ld1 (.t s21))
(lN s23 (o.nchk (.t s22))
(lN s24 (o.fa 4 (.t s23))
(lN s25 (o.ld1 (.t s24))
(lN s26 (o.nchk (.t s20))
(lN s27 (o.fa 13 (.t s26))
(lE [] [] none (actV (o.st1 (.t s27) (.t s25)))
sEnd)))))))))))) dSkip))
(dSeq (dOps (dV s28 (o.fa 0 (.t s3))
(dV s29 (o.ld1 (.t s28))
(dV s30 (o.nchk (.t s29))
(dV s31 (o.fa 13 (.t s30))
(dV s32 (o.ld1 (.t s31))
(vM s4 s32
dE)))))))
dRet))),[(.t s4)]⟩
def af293:AF:=afG293 fastO
def afG294 (o:Ops):AF:=⟨(dSeq (dOps (dV s1 (oBox 292 (.t s0))
(vC s2 .nils
(vC s3 (.bool false)
dE))))
(dSeq (dOps (dV s5 (oMkf 335 [] [(.t s1)])
(vM s4 s5
dE)))
(dSeq (dDraw (lM s6 s4
(lN s7 (o.fa 0 (.t s1))
(lN s8 (o.ldN 1 (.t s7))
(lM s10 s4
(lN s11 (o.fa 1 (.t s1))
(lN s12 (o.ldN 1 (.t s11))
(lN s14 (o.fa 2 (.t s1))
(lN s15 (o.ld1 (.t s14))
(lN s16 (o.add (.t s15) (.c (.int .i64 (.ofNat 1))))
(lE [] [(s12,(o.ldN 1 (.t s11))),(s15,(o.ld1 (.t s14)))] (some s9) (eK ⟨(some s9),(.callv (.t s6) [(.t s8)]),none⟩)
(lE [] [(s15,(o.ld1 (.t s14)))] (some s13) (eK ⟨(some s13),(.callv (.t s10) [(.t s12)]),none⟩)
(lN s17 (oBuild [.nilp,.nilp,(.int .i64 (.ofNat 0))] [(0,1,(.t s9)),(1,1,(.t s13)),(2,1,(.t s16))])
(lA 12 s18 (floatK (.buildS 323 1 [.nilp,.nilp,(.int .i64 (.ofNat 0))] [(0,3,(.t s17))]))
(lM s2 s18
(lC s3 (.bool true)
sEnd))))))))))))))))
dRet))),[(.t s2),(.t s3)]⟩
def af294:AF:=afG294 fastO
def afG295 (o:Ops):AF:=⟨(dSeq (dOps (dV s1 (oBox 292 (.t s0))
(vC s2 .nils
(vC s3 (.bool false)
dE))))
(dSeq (dOps (dV s7 (oMkf 337 [] [(.t s1)])
(vM s4 s7
dE)))
(dSeq (dDraw (lM s8 s4
(lN s9 (o.fa 0 (.t s1))
(lN s10 (o.ldN 1 (.t s9))
(lM s12 s4
(lN s13 (o.fa 1 (.t s1))
(lN s14 (o.ldN 1 (.t s13))
(lN s16 (o.fa 2 (.t s1))
(lN s17 (o.ld1 (.t s16))
(lA 11 s5 (aNew [.nilp,.nilp,(.int .i64 (.ofNat 0))] 323)
(lE [] [(s14,(o.ldN 1 (.t s13))),(s17,(o.ld1 (.t s16)))] (some s11) (eK ⟨(some s11),(.callv (.t s8) [(.t s10),(.c (.int .i64 (.ofNat 8)))]),none⟩)
(lE [] [(s17,(o.ld1 (.t s16)))] (some s15) (eK ⟨(some s15),(.callv (.t s12) [(.t s14),(.c (.int .i64 (.ofNat 8)))]),none⟩)
(lN s18 (oBuild [.nilp,.nilp,(.int .i64 (.ofNat 0))] [(0,1,(.t s11)),(1,1,(.t s15)),(2,1,(.t s17))])
(lE [11] [] none (actV (oSt 3 (.t s5) (.t s18)))
sEnd))))))))))))))
(dSeq (dDraw (lM s19 s4
(lN s20 (o.fa 0 (.t s1))
(lN s21 (o.ldN 1 (.t s20))
(lM s23 s4
(lN s24 (o.fa 1 (.t s1))
(lN s25 (o.ldN 1 (.t s24))
(lN s27 (o.fa 2 (.t s1))
(lN s28 (o.ld1 (.t s27))
(lA 11 s6 (aNew [.nilp,.nilp,(.int .i64 (.ofNat 0))] 323)
(lE [] [(s25,(o.ldN 1 (.t s24))),(s28,(o.ld1 (.t s27)))] (some s22) (eK ⟨(some s22),(.callv (.t s19) [(.t s21),(.c (.int .i64 (.ofNat 9)))]),none⟩)
(lE [] [(s28,(o.ld1 (.t s27)))] (some s26) (eK ⟨(some s26),(.callv (.t s23) [(.t s25),(.c (.int .i64 (.ofNat 9)))]),none⟩)
(lN s29 (oBuild [.nilp,.nilp,(.int .i64 (.ofNat 0))] [(0,1,(.t s22)),(1,1,(.t s26)),(2,1,(.t s28))])
(lE [11] [] none (actV (oSt 3 (.t s6) (.t s29)))
sEnd))))))))))))))
(dSeq (dOps (dV s30 (o.ldN 3 (.t s5))
(dV s31 (o.ldN 3 (.t s6))
(dV s32 (oBuildS 323 2 [.nilp,.nilp,(.int .i64 (.ofNat 0)),.nilp,.nilp,(.int .i64 (.ofNat 0))] [(0,3,(.t s30)),(3,3,(.t s31))])
(vM s2 s32
(vC s3 (.bool true)
dE))))))
dRet))))),[(.t s2),(.t s3)]⟩
def af295:AF:=afG295 fastO
def afG296 (o:Ops):AF:=⟨(dSeq (dOps (dV s1 (oBox 292 (.t s0))
(vC s2 .nils
(vC s3 (.bool false)
dE))))
(dSeq (dOps (vC s2 .nils
(vC s3 (.bool false)
dE)))
dRet)),[(.t s2),(.t s3)]⟩
def af296:AF:=afG296 fastO
def afG297 (o:Ops):AF:=⟨(dSeq (dOps (dV s1 (oBox 30 (.t s0))
(vC s2 .nils
(dV s3 (oNew [(.int .i64 (.ofNat 0)),(.int .i64 (.ofNat 0)),(.bool false),(.str []),.nils,.nils] 30)
dE))))
(dSeq (dOps (vC s4 (.int .i64 (.ofNat 0))
dE))
(dSeq (dSeq (dOps (dV s10 (o.ldN 6 (.t s1))
(dV s5 (oNew [(.int .i64 (.ofNat 0)),(.int .i64 (.ofNat 0)),(.bool false),(.str []),.nils,.nils] 30)
(dU (oSt 6 (.t s5) (.t s10))
dE))))
(dBlock 0 (dLoop (dSeq (dSeq (dOps (dV s11 (o.fa 0 (.t s5))
(dV s12 (o.ld1 (.t s11))
(dV s13 (o.eql (.t s12) (.c (.int .i64 (.ofNat 3))))
dE))))
(o.cond (.t s13) dSkip (dExit 0)))
(dSeq (dBlock 1 (dOps (vM s18 s4
(dV s19 (o.add (.t s18) (.c (.int .i64 (.ofNat 1))))
(vM s4 s19
dE)))))
(dSeq (dSeq (dOps (dV s20 (o.ldN 6 (.t s5))
dE))
(dOps (dV s5 (oNew [(.int .i64 (.ofNat 0)),(.int .i64 (.ofNat 0)),(.bool false),(.str []),.nils,.nils] 30)
(dU (oSt 6 (.t s5) (.t s20))
dE))))
(dOps (dV s14 (o.fa 5 (.t s5))
(dV s15 (o.ld1 (.t s14))
(dV s16 (o.ia 6 (.t s15) (.c (.int .i64 (.ofNat 1))))
(dV s17 (o.ldN 6 (.t s16))
(dU (oSt 6 (.t s5) (.t s17))
dE))))))))))))
(dSeq (dOps (dV s22 (o.ldN 6 (.t s1))
(vM s23 s4
(dC (some s24) p339 [(.t s22),(.t s23)]
(vM s21 s24
(dV s25 (o.ext (.t s21) 0)
(dV s26 (o.ext (.t s21) 1)
(dV s27 (o.ext (.t s21) 2)
(dV s28 (o.ext (.t s21) 3)
(dV s8 (oNew [(.int .i64 (.ofNat 0)),(.int .i64 (.ofNat 0)),(.bool false),(.str []),.nils,.nils] 30)
(vM s6 s25
(vM s7 s26
(dU (oSt 6 (.t s8) (.t s27))
(vM s9 s28
dE))))))))))))))
(dSeq (dDraw (lM s29 s6
(lN s30 (o.ldN 6 (.t s8))
(lM s2 s29
(lE [] [] none (actV (oSt 6 (.t s3) (.t s30)))
sEnd)))))
dRet))))),[(.t s2),(.cN s3 6)]⟩
def af297:AF:=afG297 fastO
def afG298 (o:Ops):AF:=⟨(dSeq (dOps (vC s2 .nils
dE))
(dSeq (dSeq (dOps (vM s3 s0
(dV s4 (oEq .s false (.t s3) (.c .nils))
dE)))
(o.cond (.t s4) (dSeq (dOps (vC s2 .nils
dE))
dRet) dSkip))
(dSeq (dOps (dV s5 (oBuildS 30 0 [] [])
(vM s6 s0
(dV s7 (oApp 30 6 (.t s5) (.t s6))
(vM s2 s7
dE)))))
dRet))),[(.t s2)]⟩
def af298:AF:=afG298 fastO
def afG299 (o:Ops):AF:=⟨(dSeq (dOps (dV s5 (o.fa 0 (.t s1))
(dV s6 (o.fa 16 (.t s5))
(dV s7 (o.ld1 (.t s6))
(dV s8 (o.len (.t s7))
(vC s9 (.int .i64 (.ofNat 0))
dE))))))
(dBlock 0 (dLoop (dSeq (dOps (dV s10 (o.lss (.t s9) (.t s8))
dE))
(dSeq (o.cond (.t s10) dSkip (dExit 0))
(dSeq (dBlock 1 (dSeq (dOps (dV s11 (o.ia 7 (.t s7) (.t s9))
(dV s12 (o.ldN 7 (.t s11))
(dV s4 (oNew [(.str []),(.int .i64 (.ofNat 0)),(.int .i64 (.ofNat 0)),(.bool false),(.str []),.nils,.nils] 61)
(dU (oSt 7 (.t s4) (.t s12))
dE)))))
(dSeq (dOps (vM s13 s0
(dV s14 (o.ldN 21 (.t s1))
(dV s15 (o.ldN 7 (.t s4))
(dC (some s16) p300 [(.t s14),(.t s15)]
(dV s17 (o.ext (.t s16) 0)
(dV s18 (o.ext (.t s16) 1)
(dCv (some s19) (.t s13) [(.t s17),(.t s18)]
(dV s20 (o.not (.t s19))
dE)))))))))
(o.cond (.t s20) dRet dSkip))))
(dOps (dV s21 (o.add (.t s9) (.c (.int .i64 (.ofNat 1))))
(vM s9 s21
dE))))))))),[]⟩
def af299:AF:=afG299 fastO
def afG300 (o:Ops):AF:=⟨(dSeq (dOps (dV s2 (oBox 404 (.t s0))
(dV s3 (oBox 61 (.t s1))
(dV s4 (oNew [(.str []),.nils,.nils,.nils] 413)
(vC s5 (.int .i64 (.ofNat 0))
dE)))))
(dSeq (dOps (vC s6 .nils
(vC s7 .nils
dE)))
(dSeq (dOps (vC s8 (.bool false)
dE))
(dSeq (dOps (dV s12 (o.fa 1 (.t s3))
(dV s13 (o.ldN 6 (.t s12))
(dC (some s14) p297 [(.t s13)]
(vM s11 s14
(dV s15 (o.ext (.t s11) 0)
(dV s16 (o.ext (.t s11) 1)
(dV s10 (oNew [(.int .i64 (.ofNat 0)),(.int .i64 (.ofNat 0)),(.bool false),(.str []),.nils,.nils] 30)
(vM s9 s15
(dU (oSt 6 (.t s10) (.t s16))
dE))))))))))
(dSeq (dSeq (dDraw (lM s17 s9
(lN s18 (o.len (.t s17))
(lN s19 (o.fa 17 (.t s2))
(lN s20 (o.ld1 (.t s19))
(lN s21 (o.len (.t s20))
(lN s22 (o.lss (.t s18) (.t s21))
(lM s23 s22
(lG s23 false s24 (oMv (.t s9))
(lG s23 false s25 (o.fa 17 (.t s2))
(lG s23 false s26 (o.ld1 (.t s25))
(lG s23 false s27 (o.len (.t s26))
(lG s23 false s28 (oSl 6 (.t s24) none (some (.t s27)) none)
(lG s23 false s29 (o.fa 17 (.t s2))
(lG s23 false s30 (o.ld1 (.t s29))
(lE [] [] (some s31) (eK ⟨(some s31),(.call p340 [(.t s28),(.t s30),(.c (.fn (.func 341) [] []))]),(some (s23,false))⟩)
(lG s23 false s32 (o.not (.t s31))
(lN s33 (o.pick (.t s23) (.c (.bool true)) (.t s32))
sEnd))))))))))))))))))
(o.cond (.t s33) dNo dSkip))
(dSeq (dOps (vM s34 s9
(dV s35 (o.fa 17 (.t s2))
(dV s36 (o.ld1 (.t s35))
(dV s37 (o.len (.t s36))
(dV s38 (oSl 6 (.t s34) (some (.t s37)) none none)
(dC (some s39) p298 [(.t s38)]
(vM s6 s39
dE))))))))
(dSeq (dSeq (dOps (dV s41 (o.ldN 21 (.t s2))
(dV s42 (o.ldN 6 (.t s10))
(vM s43 s6
(dV s44 (o.len (.t s43))
(dC (some s45) p342 [(.t s41),(.t s42),(.t s44)]
(vM s40 s45
(dV s46 (o.ext (.t s40) 0)
(dV s47 (o.ext (.t s40) 1)
(vM s7 s46
(vM s8 s47
dE)))))))))))
(dSeq (dOps (vM s48 s8
(dV s49 (o.not (.t s48))
dE)))
(o.cond (.t s49) dNo dSkip)))
(dSeq (dSeq (dDraw (lN s50 (o.fa 0 (.t s3))
(lN s51 (o.ld1 (.t s50))
(lM s52 s6
(lN s53 (o.ldN 21 (.t s2))
(lM s54 s6
(lM s56 s7
(lE [] [(s51,(o.ld1 (.t s50)))] (some s55) (actC p343 [(.t s53),(.t s54)])
(lN s57 (oBuild [(.str []),.nils,.nils,.nils] [(0,1,(.t s51)),(1,1,(.t s52)),(2,1,(.t s55)),(3,1,(.t s56))])
(lE [] [] none (actV (oSt 4 (.t s4) (.t s57)))
(lC s5 (.int .i64 (.ofNat 0))
sEnd)))))))))))
dRet)
(dSeq dSkip
(dSeq (dOps (dV s58 (oBuild [(.str []),.nils,.nils,.nils] [])
(dU (oSt 4 (.t s4) (.t s58))
(vC s5 (.int .i64 (.ofNat 21))
dE))))
dRet)))))))))),[(.cN s4 4),(.t s5)]⟩
def af300:AF:=afG300 fastO
def afG301 (o:Ops):AF:=⟨(dSeq (dOps (dV s3 (oBox 434 (.t s0))
(dV s6 (oNew [(.int .i64 (.ofNat 0)),(.int .i64 (.ofNat 0)),(.bool false),(.str []),.nils,.nils] 30)
dE)))
(dSeq (dSeq (dOps (vM s7 s1
(dV s8 (o.len (.t s7))
(dV s9 (o.eql (.t s8) (.c (.int .i64 (.ofNat 0))))
dE))))
(o.cond (.t s9) (dSeq (dOps (vM s10 s2
(dV s11 (o.ldN 2 (.t s3))
(dCv (some s12) (.t s10) [(.t s11)]
(dU (oSt 6 (.t s6) (.t s12))
dE)))))
dRet) dSkip))
(dSeq (dDraw (lN s13 (o.ldN 2 (.t s3))
(lM s14 s1
(lN s15 (o.ia 6 (.t s14) (.c (.int .i64 (.ofNat 0))))
(lN s16 (o.ldN 6 (.t s15))
(lN s18 (o.ldN 2 (.t s3))
(lM s20 s1
(lN s21 (oSl 6 (.t s20) (some (.c (.int .i64 (.ofNat 1)))) none none)
(lM s22 s2
(lE [] [(s18,(o.ldN 2 (.t s3)))] (some s17) (actC p344 [(.t s13),(.t s16)])
(lE [] [] (some s19) (actC p345 [(.t s18)])
(lE [] [] (some s23) (actC p301 [(.t s19),(.t s21),(.t s22)])
(lE [] [] (some s24) (actC p303 [(.t s17),(.t s23)])
(lE [] [] none (actV (oSt 6 (.t s6) (.t s24)))
sEnd))))))))))))))
dRet))),[(.cN s6 6)]⟩
def af301:AF:=afG301 fastO
def afG302 (o:Ops):AF:=⟨(dSeq (dOps (dV s3 (oBox 434 (.t s0))
(dV s4 (oNew [(.int .i64 (.ofNat 0)),(.int .i64 (.ofNat 0)),(.bool false),(.str []),.nils,.nils] 30)
dE)))
(dSeq (dDraw (lN s5 (o.ldN 21 (.t s1))
(lN s6 (o.ldN 2 (.t s3))
(lN s8 (o.ldN 21 (.t s1))
(lN s9 (o.ld1 (.t s2))
(lN s10 (o.ldN 2 (.t s3))
(lE [] [(s8,(o.ldN 21 (.t s1))),(s9,(o.ld1 (.t s2))),(s10,(o.ldN 2 (.t s3)))] (some s7) (actC p304 [(.t s5),(.t s6)])
(lE [] [(s8,(o.ldN 21 (.t s1))),(s9,(o.ld1 (.t s2)))] (some s11) (actC p306 [(.t s10)])
(lE [] [] (some s12) (actC p305 [(.t s8),(.t s9),(.t s11)])
(lE [] [] (some s13) (actC p303 [(.t s7),(.t s12)])
(lE [] [] none (actV (oSt 6 (.t s4) (.t s13)))
sEnd)))))))))))
dRet)),[(.cN s4 6)]⟩
def af302:AF:=afG302 fastO
def afG303 (o:Ops):AF:=⟨(dSeq (dOps (dV s2 (oBox 30 (.t s0))
(dV s3 (oBox 30 (.t s1))
(dV s4 (oNew [(.int .i64 (.ofNat 0)),(.int .i64 (.ofNat 0)),(.bool false),(.str []),.nils,.nils] 30)
dE))))
(dSeq (dOps (dV s5 (o.ldN 6 (.t s2))
(dV s6 (o.ldN 6 (.t s3))
(dV s7 (oBuildS 30 2 [(.int .i64 (.ofNat 0)),(.int .i64 (.ofNat 0)),(.bool false),(.str []),.nils,.nils,(.int .i64 (.ofNat 0)),(.int .i64 (.ofNat 0)),(.bool false),(.str []),.nils,.nils] [(0,6,(.t s5)),(6,6,(.t s6))])
(dV s8 (oBuild [(.int .i64 (.ofNat 0)),(.int .i64 (.ofNat 0)),(.bool false),(.str []),.nils,.nils] [(0,1,(.c (.int .i64 (.ofNat 3)))),(5,1,(.t s7))])
(dU (oSt 6 (.t s4) (.t s8))
dE))))))
dRet)),[(.cN s4 6)]⟩
def af303:AF:=afG303 fastO
def afG304 (o:Ops):AF:=⟨(dSeq (dOps (dV s2 (oBox 404 (.t s0))
(dV s3 (oBox 434 (.t s1))
(dV s4 (oNew [(.int .i64 (.ofNat 0)),(.int .i64 (.ofNat 0)),(.bool false),(.str []),.nils,.nils] 30)
dE))))
(dSeq (dOps (dV s6 (o.fa 0 (.t s2))
(dV s7 (o.fa 2 (.t s6))
(dV s8 (o.ld1 (.t s7))
(dC (some s9) p346 [(.t s8)]
(dV s10 (oBuildS 50 1 [(.int .i64 (.ofNat 0)),.nils] [(0,2,(.t s9))])
(dV s11 (oBuild [(.int .i64 (.ofNat 0)),(.int .i64 (.ofNat 0)),(.bool false),(.str []),.nils,.nils] [(0,1,(.c (.int .i64 (.ofNat 2)))),(4,1,(.t s10))])
(dV s5 (oNew [(.int .i64 (.ofNat 0)),(.int .i64 (.ofNat 0)),(.bool false),(.str []),.nils,.nils] 30)
(dU (oSt 6 (.t s5) (.t s11))
dE)))))))))
(dSeq (dOps (dV s12 (o.ldN 2 (.t s3))
(dV s13 (o.fa 18 (.t s2))
(dV s14 (o.ld1 (.t s13))
(dV s15 (oMkf 347 [] [(.t s2),(.t s5)])
(dC (some s16) p301 [(.t s12),(.t s14),(.t s15)]
(dU (oSt 6 (.t s4) (.t s16))
dE)))))))
dRet))),[(.cN s4 6)]⟩
def af304:AF:=afG304 fastO
def afG305 (o:Ops):AF:=⟨(dSeq (dOps (dV s3 (oBox 404 (.t s0))
(dV s5 (oBox 434 (.t s2))
(dV s6 (oNew [(.int .i64 (.ofNat 0)),(.int .i64 (.ofNat 0)),(.bool false),(.str []),.nils,.nils] 30)
dE))))
(dSeq (dSeq (dOps (vM s7 s1
(dV s8 (o.len (.t s7))
(dV s9 (o.gtr (.t s8) (.c (.int .i64 (.ofNat 0))))
dE))))
(o.cond (.t s9) (dSeq (dDraw (lN s10 (o.ldN 21 (.t s3))
(lM s11 s1
(lN s12 (o.ia 4 (.t s11) (.c (.int .i64 (.ofNat 0))))
(lN s13 (o.ldN 4 (.t s12))
(lN s14 (o.ldN 2 (.t s5))
(lN s16 (o.ldN 21 (.t s3))
(lM s17 s1
(lN s18 (oSl 4 (.t s17) (some (.c (.int .i64 (.ofNat 1)))) none none)
(lN s19 (o.ldN 2 (.t s5))
(lE [] [(s16,(o.ldN 21 (.t s3))),(s19,(o.ldN 2 (.t s5)))] (some s15) (actC p349 [(.t s10),(.t s13),(.t s14)])
(lE [] [(s16,(o.ldN 21 (.t s3)))] (some s20) (actC p306 [(.t s19)])
(lE [] [] (some s21) (actC p305 [(.t s16),(.t s18),(.t s20)])
(lE [] [] (some s22) (actC p303 [(.t s15),(.t s21)])
(lE [] [] none (actV (oSt 6 (.t s6) (.t s22)))
sEnd)))))))))))))))
dRet) dSkip))
(dSeq (dOps (dV s23 (o.ldN 2 (.t s5))
(dV s24 (o.fa 18 (.t s3))
(dV s25 (o.ld1 (.t s24))
(dV s26 (oMkf 350 [] [(.t s3)])
(dC (some s27) p301 [(.t s23),(.t s25),(.t s26)]
(dU (oSt 6 (.t s6) (.t s27))
dE)))))))
dRet))),[(.cN s6 6)]⟩
def af305:AF:=afG305 fastO
def afG306 (o:Ops):AF:=⟨(dSeq (dOps (dV s1 (oBox 434 (.t s0))
(dV s2 (oNew [.nils,(.int .i64 (.ofNat 0))] 434)
dE)))
(dSeq (dOps (dV s3 (o.fa 0 (.t s1))
(dV s4 (o.ld1 (.t s3))
(dV s5 (o.fa 1 (.t s1))
(dV s6 (o.ld1 (.t s5))
(dV s7 (o.add (.t s6) (.c (.int .i64 (.ofNat 1))))
(dV s8 (oBuild [.nils,(.int .i64 (.ofNat 0))] [(0,1,(.t s4)),(1,1,(.t s7))])
(dU (oSt 2 (.t s2) (.t s8))
dE))))))))
dRet)),[(.cN s2 2)]⟩
def af306:AF:=afG306 fastO
def afG307 (o:Ops):AF:=⟨(dSeq (dOps (dV s3 (oBox 50 (.t s1))
(dV s4 (oNew [(.int .i64 (.ofNat 0)),.nils] 50)
(vC s5 (.int .i64 (.ofNat 0))
dE))))
(dSeq (dOps (vM s9 s0
(dV s10 (o.nchk (.t s9))
(dV s11 (o.fa 0 (.t s10))
(dV s12 (o.ld1 (.t s11))
(vM s6 s12
dE))))))
(dSeq (dSeq (dOps (vM s13 s0
(dV s14 (o.nchk (.t s13))
(dV s15 (o.fa 1 (.t s14))
(dV s16 (o.ld1 (.t s15))
dE)))))
(o.cond (.t s16) (dOps (vM s17 s6
(vM s18 s6
(dV s19 (o.len (.t s18))
(dV s20 (o.ldN 2 (.t s3))
(dC (some s21) p205 [(.t s20)]
(dV s22 (oMm false [(.t s19),(.t s21)])
(dV s23 (oSl 2 (.t s17) none (some (.t s22)) none)
(vM s6 s23
dE))))))))) dSkip))
(dSeq (dOps (dV s25 (o.ldN 2 (.t s3))
(vM s26 s6
(dC (some s27) p355 [(.t s25),(.t s26)]
(vM s24 s27
(dV s28 (o.ext (.t s24) 0)
(dV s29 (o.ext (.t s24) 1)
(dV s7 (oNew [(.int .i64 (.ofNat 0)),.nils] 50)
(dU (oSt 2 (.t s7) (.t s28))
(vM s8 s29
dE))))))))))
(dSeq (dOps (vM s30 s0
(vM s31 s8
(dV s32 (o.eql (.t s31) (.c (.int .i64 (.ofNat 0))))
(dV s33 (o.nchk (.t s30))
(dV s34 (o.fa 1 (.t s33))
(dU (o.st1 (.t s34) (.t s32))
dE)))))))
(dSeq (dOps (dV s35 (o.ldN 2 (.t s7))
(vM s36 s8
(dU (oSt 2 (.t s4) (.t s35))
(vM s5 s36
dE)))))
dRet)))))),[(.cN s4 2),(.t s5)]⟩
def af307:AF:=afG307 fastO
def afG308 (o:Ops):AF:=⟨(dSeq (dOps (vM s5 s0
(dV s6 (o.len (.t s5))
(vM s4 s6
dE))))
(dOps (vM s7 s0
(vM s8 s4
(vM s9 s4
(dV s10 (oCvI .u64 (.t s9))
(dC (some s11) p282 [(.t s10)]
(vM s12 s1
(dC (some s13) p356 [(.t s7),(.c (.int .i64 (.ofNat 0))),(.t s8),(.t s11),(.t s12)]
dE))))))))),[]⟩
def af308:AF:=afG308 fastO
def afG309 (o:Ops):AF:=⟨(dSeq (dOps (dV s2 (oBox 350 (.t s0))
(dV s3 (oBox 350 (.t s1))
(vC s4 (.int .i64 (.ofNat 0))
dE))))
(dSeq (dOps (dV s5 (o.fa 0 (.t s2))
(dV s6 (o.ld1 (.t s5))
(dV s7 (o.fa 0 (.t s3))
(dV s8 (o.ld1 (.t s7))
(dC (some s9) p254 [(.t s6),(.t s8)]
(vM s4 s9
dE)))))))
dRet)),[(.t s4)]⟩
def af309:AF:=afG309 fastO
def afG310 (o:Ops):AF:=⟨(dSeq (dOps (vM s10 s1
(dV s11 (o.add (.t s10) (.c (.int .i64 (.ofNat 1))))
(vM s8 s11
dE))))
(dBlock 0 (dLoop (dSeq (dSeq (dOps (vM s12 s8
(vM s13 s2
(dV s14 (o.lss (.t s12) (.t s13))
dE))))
(o.cond (.t s14) dSkip (dExit 0)))
(dSeq (dBlock 1 (dSeq (dOps (vM s17 s8
(vM s9 s17
dE)))
(dBlock 2 (dLoop (dSeq (dSeq (dDraw (lM s18 s9
(lM s19 s1
(lN s20 (o.gtr (.t s18) (.t s19))
(lM s21 s20
(lG s21 true s22 (oMv (.t s3))
(lG s21 true s23 (oMv (.t s0))
(lG s21 true s24 (oMv (.t s9))
(lG s21 true s25 (o.ia 2 (.t s23) (.t s24))
(lG s21 true s26 (o.ldN 2 (.t s25))
(lG s21 true s27 (oMv (.t s0))
(lG s21 true s28 (oMv (.t s9))
(lG s21 true s29 (o.sub (.t s28) (.c (.int .i64 (.ofNat 1))))
(lG s21 true s30 (o.ia 2 (.t s27) (.t s29))
(lG s21 true s31 (o.ldN 2 (.t s30))
(lE [] [] (some s32) (eK ⟨(some s32),(.callv (.t s22) [(.t s26),(.t s31)]),(some (s21,true))⟩)
(lG s21 true s33 (o.lss (.t s32) (.c (.int .i64 (.ofNat 0))))
(lN s34 (o.pick (.t s21) (.t s33) (.c (.bool false)))
sEnd))))))))))))))))))
(o.cond (.t s34) dSkip (dExit 2)))
(dSeq (dBlock 3 (dDraw (lM s37 s0
(lM s38 s9
(lM s39 s0
(lM s40 s9
(lN s41 (o.sub (.t s40) (.c (.int .i64 (.ofNat 1))))
(lM s42 s0
(lM s43 s9
(lN s44 (o.sub (.t s43) (.c (.int .i64 (.ofNat 1))))
(lN s45 (o.ia 2 (.t s42) (.t s44))
(lN s46 (o.ldN 2 (.t s45))
(lM s47 s0
(lM s48 s9
(lN s49 (o.ia 2 (.t s47) (.t s48))
(lN s50 (o.ldN 2 (.t s49))
(lN s51 (o.ia 2 (.t s37) (.t s38))
(lE [] [] none (actV (oSt 2 (.t s51) (.t s46)))
(lN s52 (o.ia 2 (.t s39) (.t s41))
(lE [] [] none (actV (oSt 2 (.t s52) (.t s50)))
sEnd))))))))))))))))))))
(dOps (vM s35 s9
(dV s36 (o.sub (.t s35) (.c (.int .i64 (.ofNat 1))))
(vM s9 s36
dE))))))))))
(dOps (vM s15 s8
(dV s16 (o.add (.t s15) (.c (.int .i64 (.ofNat 1))))
(vM s8 s16
dE))))))))),[]⟩
def af310:AF:=afG310 fastO
def afG311 (o:Ops):AF:=⟨(dSeq (dOps (vM s13 s1
(vM s8 s13
dE)))
(dSeq (dOps (vC s9 (.int .i64 (.ofNat 0))
dE))
(dSeq (dOps (vM s14 s2
(vM s15 s1
(dV s16 (o.sub (.t s14) (.t s15))
(vM s10 s16
dE)))))
(dSeq (dSeq (dOps (vM s17 s10
(dV s18 (o.sub (.t s17) (.c (.int .i64 (.ofNat 1))))
(dV s19 (oAr .quo (.t s18) (.c (.int .i64 (.ofNat 2))))
(vM s11 s19
dE)))))
(dBlock 0 (dLoop (dSeq (dSeq (dOps (vM s20 s11
(dV s21 (o.geq (.t s20) (.c (.int .i64 (.ofNat 0))))
dE)))
(o.cond (.t s21) dSkip (dExit 0)))
(dSeq (dBlock 1 (dOps (vM s24 s0
(vM s25 s11
(vM s26 s10
(vM s27 s8
(vM s28 s3
(dC (some s29) p357 [(.t s24),(.t s25),(.t s26),(.t s27),(.t s28)]
dE))))))))
(dOps (vM s22 s11
(dV s23 (o.sub (.t s22) (.c (.int .i64 (.ofNat 1))))
(vM s11 s23
dE)))))))))
(dSeq (dOps (vM s30 s10
(dV s31 (o.sub (.t s30) (.c (.int .i64 (.ofNat 1))))
(vM s12 s31
dE))))
(dBlock 2 (dLoop (dSeq (dSeq (dOps (vM s32 s12
(dV s33 (o.geq (.t s32) (.c (.int .i64 (.ofNat 0))))
dE)))
(o.cond (.t s33) dSkip (dExit 2)))
(dSeq (dBlock 3 (dSeq (dDraw (lM s36 s0
(lM s37 s8
(lM s38 s0
(lM s39 s8
(lM s40 s12
(lN s41 (o.add (.t s39) (.t s40))
(lM s42 s0
(lM s43 s8
(lM s44 s12
(lN s45 (o.add (.t s43) (.t s44))
(lN s46 (o.ia 2 (.t s42) (.t s45))
(lN s47 (o.ldN 2 (.t s46))
(lM s48 s0
(lM s49 s8
(lN s50 (o.ia 2 (.t s48) (.t s49))
(lN s51 (o.ldN 2 (.t s50))
(lN s52 (o.ia 2 (.t s36) (.t s37))
(lE [] [] none (actV (oSt 2 (.t s52) (.t s47)))
(lN s53 (o.ia 2 (.t s38) (.t s41))
(lE [] [] none (actV (oSt 2 (.t s53) (.t s51)))
sEnd)))))))))))))))))))))
(dOps (vM s54 s0
(vM s55 s9
(vM s56 s12
(vM s57 s8
(vM s58 s3
(dC (some s59) p357 [(.t s54),(.t s55),(.t s56),(.t s57),(.t s58)]
dE)))))))))
(dOps (vM s34 s12
(dV s35 (o.sub (.t s34) (.c (.int .i64 (.ofNat 1))))
(vM s12 s35
dE))))))))))))),[]⟩
def af311:AF:=afG311 fastO
def afG312 (o:Ops):AF:=⟨(dSeq (dOps (vM s13 s2
(vM s14 s1
(dV s15 (o.sub (.t s13) (.t s14))
(vM s8 s15
dE)))))
(dSeq (dOps (vM s16 s8
(dV s17 (o.geq (.t s16) (.c (.int .i64 (.ofNat 8))))
dE)))
(o.cond (.t s17) (dSeq (dOps (vM s18 s8
(dV s19 (oCvI .u64 (.t s18))
(dV s9 (oNew [(.int .u64 (.ofNat 0))] 480)
(dU (o.st1 (.t s9) (.t s19))
dE)))))
(dSeq (dOps (vM s20 s8
(dC (some s21) p358 [(.t s20)]
(vM s10 s21
dE))))
(dSeq (dOps (vM s22 s1
(vM s23 s8
(dV s24 (oAr .quo (.t s23) (.c (.int .i64 (.ofNat 4))))
(dV s25 (oAr .mul (.t s24) (.c (.int .i64 (.ofNat 2))))
(dV s26 (o.add (.t s22) (.t s25))
(dV s27 (o.sub (.t s26) (.c (.int .i64 (.ofNat 1))))
(vM s11 s27
dE))))))))
(dBlock 0 (dLoop (dSeq (dSeq (dOps (vM s28 s11
(vM s29 s1
(vM s30 s8
(dV s31 (oAr .quo (.t s30) (.c (.int .i64 (.ofNat 4))))
(dV s32 (oAr .mul (.t s31) (.c (.int .i64 (.ofNat 2))))
(dV s33 (o.add (.t s29) (.t s32))
(dV s34 (o.add (.t s33) (.c (.int .i64 (.ofNat 1))))
(dV s35 (o.leq (.t s28) (.t s34))
dE)))))))))
(o.cond (.t s35) dSkip (dExit 0)))
(dSeq (dBlock 1 (dSeq (dOps (dC (some s38) p359 [(.t s9)]
(vM s39 s10
(dV s40 (o.sub (.t s39) (.c (.int .u64 (.ofNat 1))))
(dV s41 (oAr .and (.t s38) (.t s40))
(dV s42 (oCvI .i64 (.t s41))
(vM s12 s42
dE)))))))
(dSeq (dSeq (dOps (vM s43 s12
(vM s44 s8
(dV s45 (o.geq (.t s43) (.t s44))
dE))))
(o.cond (.t s45) (dOps (vM s46 s12
(vM s47 s8
(dV s48 (o.sub (.t s46) (.t s47))
(vM s12 s48
dE))))) dSkip))
(dDraw (lM s49 s0
(lM s50 s11
(lM s51 s0
(lM s52 s1
(lM s53 s12
(lN s54 (o.add (.t s52) (.t s53))
(lM s55 s0
(lM s56 s1
(lM s57 s12
(lN s58 (o.add (.t s56) (.t s57))
(lN s59 (o.ia 2 (.t s55) (.t s58))
(lN s60 (o.ldN 2 (.t s59))
(lM s61 s0
(lM s62 s11
(lN s63 (o.ia 2 (.t s61) (.t s62))
(lN s64 (o.ldN 2 (.t s63))
(lN s65 (o.ia 2 (.t s49) (.t s50))
(lE [] [] none (actV (oSt 2 (.t s65) (.t s60)))
(lN s66 (o.ia 2 (.t s51) (.t s54))
(lE [] [] none (actV (oSt 2 (.t s66) (.t s64)))
sEnd))))))))))))))))))))))))
(dOps (vM s36 s11
(dV s37 (o.add (.t s36) (.c (.int .i64 (.ofNat 1))))
(vM s11 s37
dE))))))))))) dSkip))),[]⟩
def af312:AF:=afG312 fastO
def afG313 (o:Ops):AF:=⟨(dSeq (dOps (vC s8 (.int .i64 (.ofNat 0))
(vC s9 (.int .i64 (.ofNat 0))
dE)))
(dSeq (dOps (vM s15 s2
(vM s16 s1
(dV s17 (o.sub (.t s15) (.t s16))
(vM s10 s17
dE)))))
(dSeq (dOps (dV s11 (oNew [(.int .i64 (.ofNat 0))] 3)
dE))
(dSeq (dOps (vM s18 s1
(vM s19 s10
(dV s20 (oAr .quo (.t s19) (.c (.int .i64 (.ofNat 4))))
(dV s21 (oAr .mul (.t s20) (.c (.int .i64 (.ofNat 1))))
(dV s22 (o.add (.t s18) (.t s21))
(vM s12 s22
dE)))))))
(dSeq (dOps (vM s23 s1
(vM s24 s10
(dV s25 (oAr .quo (.t s24) (.c (.int .i64 (.ofNat 4))))
(dV s26 (oAr .mul (.t s25) (.c (.int .i64 (.ofNat 2))))
(dV s27 (o.add (.t s23) (.t s26))
(vM s13 s27
dE)))))))
(dSeq (dOps (vM s28 s1
(vM s29 s10
(dV s30 (oAr .quo (.t s29) (.c (.int .i64 (.ofNat 4))))
(dV s31 (oAr .mul (.t s30) (.c (.int .i64 (.ofNat 3))))
(dV s32 (o.add (.t s28) (.t s31))
(vM s14 s32
dE)))))))
(dSeq (dSeq (dOps (vM s33 s10
(dV s34 (o.geq (.t s33) (.c (.int .i64 (.ofNat 8))))
dE)))
(o.cond (.t s34) (dSeq (dSeq (dOps (vM s35 s10
(dV s36 (o.geq (.t s35) (.c (.int .i64 (.ofNat 50))))
dE)))
(o.cond (.t s36) (dSeq (dOps (vM s37 s0
(vM s38 s12
(vM s39 s3
(dC (some s40) p360 [(.t s37),(.t s38),(.t s11),(.t s39)]
(vM s12 s40
dE))))))
(dSeq (dOps (vM s41 s0
(vM s42 s13
(vM s43 s3
(dC (some s44) p360 [(.t s41),(.t s42),(.t s11),(.t s43)]
(vM s13 s44
dE))))))
(dOps (vM s45 s0
(vM s46 s14
(vM s47 s3
(dC (some s48) p360 [(.t s45),(.t s46),(.t s11),(.t s47)]
(vM s14 s48
dE)))))))) dSkip))
(dOps (vM s49 s0
(vM s50 s12
(vM s51 s13
(vM s52 s14
(vM s53 s3
(dC (some s54) p361 [(.t s49),(.t s50),(.t s51),(.t s52),(.t s11),(.t s53)]
(vM s13 s54
dE))))))))) dSkip))
(dSeq (dOps (dV s55 (o.ld1 (.t s11))
dE))
(dBlock 0 (dSeq (dOps (dV s58 (o.eql (.t s55) (.c (.int .i64 (.ofNat 0))))
(vM s57 s58
dE)))
(o.cond (.t s57) (dSeq (dOps (vM s59 s13
(vM s8 s59
(vC s9 (.int .i64 (.ofNat 1))
dE))))
dRet) (dSeq (dOps (dV s61 (o.eql (.t s55) (.c (.int .i64 (.ofNat 12))))
(vM s60 s61
dE)))
(o.cond (.t s60) (dSeq (dOps (vM s62 s13
(vM s8 s62
(vC s9 (.int .i64 (.ofNat 2))
dE))))
dRet) (dSeq (dOps (vM s56 s13
(vM s8 s56
(vC s9 (.int .i64 (.ofNat 0))
dE))))
dRet)))))))))))))),[(.t s8),(.t s9)]⟩
def af313:AF:=afG313 fastO
def afG314 (o:Ops):AF:=⟨(dSeq (dOps (vM s10 s1
(vM s8 s10
dE)))
(dSeq (dOps (vM s11 s2
(dV s12 (o.sub (.t s11) (.c (.int .i64 (.ofNat 1))))
(vM s9 s12
dE))))
(dBlock 0 (dLoop (dSeq (dSeq (dOps (vM s13 s8
(vM s14 s9
(dV s15 (o.lss (.t s13) (.t s14))
dE))))
(o.cond (.t s15) dSkip (dExit 0)))
(dBlock 1 (dSeq (dDraw (lM s16 s0
(lM s17 s8
(lM s18 s0
(lM s19 s9
(lM s20 s0
(lM s21 s9
(lN s22 (o.ia 2 (.t s20) (.t s21))
(lN s23 (o.ldN 2 (.t s22))
(lM s24 s0
(lM s25 s8
(lN s26 (o.ia 2 (.t s24) (.t s25))
(lN s27 (o.ldN 2 (.t s26))
(lN s28 (o.ia 2 (.t s16) (.t s17))
(lE [] [] none (actV (oSt 2 (.t s28) (.t s23)))
(lN s29 (o.ia 2 (.t s18) (.t s19))
(lE [] [] none (actV (oSt 2 (.t s29) (.t s27)))
sEnd)))))))))))))))))
(dSeq (dOps (vM s30 s8
(dV s31 (o.add (.t s30) (.c (.int .i64 (.ofNat 1))))
(vM s8 s31
dE))))
(dOps (vM s32 s9
(dV s33 (o.sub (.t s32) (.c (.int .i64 (.ofNat 1))))
(vM s9 s33
dE)))))))))))),[]⟩
def af314:AF:=afG314 fastO
def afG315 (o:Ops):AF:=⟨(dSeq (dOps (vC s8 (.bool false)
dE))
(dSeq (dOps (vM s13 s1
(dV s14 (o.add (.t s13) (.c (.int .i64 (.ofNat 1))))
(vM s9 s14
dE))))
(dSeq (dSeq (dOps (vC s10 (.int .i64 (.ofNat 0))
dE))
(dBlock 0 (dLoop (dSeq (dSeq (dOps (vM s15 s10
(dV s16 (o.lss (.t s15) (.c (.int .i64 (.ofNat 5))))
dE)))
(o.cond (.t s16) dSkip (dExit 0)))
(dSeq (dBlock 1 (dSeq (dBlock 2 (dLoop (dSeq (dSeq (dDraw (lM s19 s9
(lM s20 s2
(lN s21 (o.lss (.t s19) (.t s20))
(lM s22 s21
(lG s22 true s23 (oMv (.t s3))
(lG s22 true s24 (oMv (.t s0))
(lG s22 true s25 (oMv (.t s9))
(lG s22 true s26 (o.ia 2 (.t s24) (.t s25))
(lG s22 true s27 (o.ldN 2 (.t s26))
(lG s22 true s28 (oMv (.t s0))
(lG s22 true s29 (oMv (.t s9))
(lG s22 true s30 (o.sub (.t s29) (.c (.int .i64 (.ofNat 1))))
(lG s22 true s31 (o.ia 2 (.t s28) (.t s30))
(lG s22 true s32 (o.ldN 2 (.t s31))
(lE [] [] (some s33) (eK ⟨(some s33),(.callv (.t s23) [(.t s27),(.t s32)]),(some (s22,true))⟩)
(lG s22 true s34 (o.lss (.t s33) (.c (.int .i64 (.ofNat 0))))
(lG s22 true s35 (o.not (.t s34))
(lN s36 (o.pick (.t s22) (.t s35) (.c (.bool false)))
sEnd)))))))))))))))))))
(o.cond (.t s36) dSkip (dExit 2)))
(dBlock 3 (dOps (vM s37 s9
(dV s38 (o.add (.t s37) (.c (.int .i64 (.ofNat 1))))
(vM s9 s38
dE))))))))
(dSeq (dSeq (dOps (vM s39 s9
(vM s40 s2
(dV s41 (o.eql (.t s39) (.t s40))
dE))))
(o.cond (.t s41) (dSeq (dOps (vC s8 (.bool true)
dE))
dRet) dSkip))
(dSeq (dSeq (dOps (vM s42 s2
(vM s43 s1
(dV s44 (o.sub (.t s42) (.t s43))
(dV s45 (o.lss (.t s44) (.c (.int .i64 (.ofNat 50))))
dE)))))
(o.cond (.t s45) (dSeq (dOps (vC s8 (.bool false)
dE))
dRet) dSkip))
(dSeq (dDraw (lM s46 s0
(lM s47 s9
(lM s48 s0
(lM s49 s9
(lN s50 (o.sub (.t s49) (.c (.int .i64 (.ofNat 1))))
(lM s51 s0
(lM s52 s9
(lN s53 (o.sub (.t s52) (.c (.int .i64 (.ofNat 1))))
(lN s54 (o.ia 2 (.t s51) (.t s53))
(lN s55 (o.ldN 2 (.t s54))
(lM s56 s0
(lM s57 s9
(lN s58 (o.ia 2 (.t s56) (.t s57))
(lN s59 (o.ldN 2 (.t s58))
(lN s60 (o.ia 2 (.t s46) (.t s47))
(lE [] [] none (actV (oSt 2 (.t s60) (.t s55)))
(lN s61 (o.ia 2 (.t s48) (.t s50))
(lE [] [] none (actV (oSt 2 (.t s61) (.t s59)))
sEnd)))))))))))))))))))
(dSeq (dSeq (dOps (vM s62 s9
(vM s63 s1
(dV s64 (o.sub (.t s62) (.t s63))
(dV s65 (o.geq (.t s64) (.c (.int .i64 (.ofNat 2))))
dE)))))
(o.cond (.t s65) (dSeq (dOps (vM s66 s9
(dV s67 (o.sub (.t s66) (.c (.int .i64 (.ofNat 1))))
(vM s11 s67
dE))))
(dBlock 4 (dLoop (dSeq (dSeq (dOps (vM s68 s11
(dV s69 (o.geq (.t s68) (.c (.int .i64 (.ofNat 1))))
dE)))
(o.cond (.t s69) dSkip (dExit 4)))
(dSeq (dBlock 5 (dSeq (dSeq (dDraw (lM s72 s3
(lM s73 s0
(lM s74 s11
(lN s75 (o.ia 2 (.t s73) (.t s74))
(lN s76 (o.ldN 2 (.t s75))
(lM s77 s0
(lM s78 s11
(lN s79 (o.sub (.t s78) (.c (.int .i64 (.ofNat 1))))
(lN s80 (o.ia 2 (.t s77) (.t s79))
(lN s81 (o.ldN 2 (.t s80))
(lE [] [] (some s82) (eK ⟨(some s82),(.callv (.t s72) [(.t s76),(.t s81)]),none⟩)
(lN s83 (o.lss (.t s82) (.c (.int .i64 (.ofNat 0))))
(lN s84 (o.not (.t s83))
sEnd))))))))))))))
(o.cond (.t s84) (dExit 4) dSkip))
(dDraw (lM s85 s0
(lM s86 s11
(lM s87 s0
(lM s88 s11
(lN s89 (o.sub (.t s88) (.c (.int .i64 (.ofNat 1))))
(lM s90 s0
(lM s91 s11
(lN s92 (o.sub (.t s91) (.c (.int .i64 (.ofNat 1))))
(lN s93 (o.ia 2 (.t s90) (.t s92))
(lN s94 (o.ldN 2 (.t s93))
(lM s95 s0
(lM s96 s11
(lN s97 (o.ia 2 (.t s95) (.t s96))
(lN s98 (o.ldN 2 (.t s97))
(lN s99 (o.ia 2 (.t s85) (.t s86))
(lE [] [] none (actV (oSt 2 (.t s99) (.t s94)))
(lN s100 (o.ia 2 (.t s87) (.t s89))
(lE [] [] none (actV (oSt 2 (.t s100) (.t s98)))
sEnd)))))))))))))))))))))
(dOps (vM s70 s11
(dV s71 (o.sub (.t s70) (.c (.int .i64 (.ofNat 1))))
(vM s11 s71
dE))))))))) dSkip))
(dSeq (dOps (vM s101 s2
(vM s102 s9
(dV s103 (o.sub (.t s101) (.t s102))
(dV s104 (o.geq (.t s103) (.c (.int .i64 (.ofNat 2))))
dE)))))
(o.cond (.t s104) (dSeq (dOps (vM s105 s9
(dV s106 (o.add (.t s105) (.c (.int .i64 (.ofNat 1))))
(vM s12 s106
dE))))
(dBlock 6 (dLoop (dSeq (dSeq (dOps (vM s107 s12
(vM s108 s2
(dV s109 (o.lss (.t s107) (.t s108))
dE))))
(o.cond (.t s109) dSkip (dExit 6)))
(dSeq (dBlock 7 (dSeq (dSeq (dDraw (lM s112 s3
(lM s113 s0
(lM s114 s12
(lN s115 (o.ia 2 (.t s113) (.t s114))
(lN s116 (o.ldN 2 (.t s115))
(lM s117 s0
(lM s118 s12
(lN s119 (o.sub (.t s118) (.c (.int .i64 (.ofNat 1))))
(lN s120 (o.ia 2 (.t s117) (.t s119))
(lN s121 (o.ldN 2 (.t s120))
(lE [] [] (some s122) (eK ⟨(some s122),(.callv (.t s112) [(.t s116),(.t s121)]),none⟩)
(lN s123 (o.lss (.t s122) (.c (.int .i64 (.ofNat 0))))
(lN s124 (o.not (.t s123))
sEnd))))))))))))))
(o.cond (.t s124) (dExit 6) dSkip))
(dDraw (lM s125 s0
(lM s126 s12
(lM s127 s0
(lM s128 s12
(lN s129 (o.sub (.t s128) (.c (.int .i64 (.ofNat 1))))
(lM s130 s0
(lM s131 s12
(lN s132 (o.sub (.t s131) (.c (.int .i64 (.ofNat 1))))
(lN s133 (o.ia 2 (.t s130) (.t s132))
(lN s134 (o.ldN 2 (.t s133))
(lM s135 s0
(lM s136 s12
(lN s137 (o.ia 2 (.t s135) (.t s136))
(lN s138 (o.ldN 2 (.t s137))
(lN s139 (o.ia 2 (.t s125) (.t s126))
(lE [] [] none (actV (oSt 2 (.t s139) (.t s134)))
(lN s140 (o.ia 2 (.t s127) (.t s129))
(lE [] [] none (actV (oSt 2 (.t s140) (.t s138)))
sEnd)))))))))))))))))))))
(dOps (vM s110 s12
(dV s111 (o.add (.t s110) (.c (.int .i64 (.ofNat 1))))
(vM s12 s111
dE))))))))) dSkip))))))))
(dOps (vM s17 s10
(dV s18 (o.add (.t s17) (.c (.int .i64 (.ofNat 1))))
(vM s10 s18
dE)))))))))
(dSeq (dOps (vC s8 (.bool false)
dE))
dRet)))),[(.t s8)]⟩
def af315:AF:=afG315 fastO
def afG316 (o:Ops):AF:=⟨(dSeq (dOps (vC s10 (.int .i64 (.ofNat 0))
dE))
(dSeq (dDraw (lM s13 s0
(lM s14 s1
(lM s15 s0
(lM s16 s3
(lM s17 s0
(lM s18 s3
(lN s19 (o.ia 2 (.t s17) (.t s18))
(lN s20 (o.ldN 2 (.t s19))
(lM s21 s0
(lM s22 s1
(lN s23 (o.ia 2 (.t s21) (.t s22))
(lN s24 (o.ldN 2 (.t s23))
(lN s25 (o.ia 2 (.t s13) (.t s14))
(lE [] [] none (actV (oSt 2 (.t s25) (.t s20)))
(lN s26 (o.ia 2 (.t s15) (.t s16))
(lE [] [] none (actV (oSt 2 (.t s26) (.t s24)))
sEnd)))))))))))))))))
(dSeq (dOps (vM s27 s1
(dV s28 (o.add (.t s27) (.c (.int .i64 (.ofNat 1))))
(vM s29 s2
(dV s30 (o.sub (.t s29) (.c (.int .i64 (.ofNat 1))))
(vM s11 s28
(vM s12 s30
dE)))))))
(dSeq (dBlock 0 (dLoop (dBlock 1 (dSeq (dBlock 2 (dLoop (dSeq (dSeq (dDraw (lM s31 s11
(lM s32 s12
(lN s33 (o.leq (.t s31) (.t s32))
(lM s34 s33
(lG s34 true s35 (oMv (.t s4))
(lG s34 true s36 (oMv (.t s0))
(lG s34 true s37 (oMv (.t s1))
(lG s34 true s38 (o.ia 2 (.t s36) (.t s37))
(lG s34 true s39 (o.ldN 2 (.t s38))
(lG s34 true s40 (oMv (.t s0))
(lG s34 true s41 (oMv (.t s11))
(lG s34 true s42 (o.ia 2 (.t s40) (.t s41))
(lG s34 true s43 (o.ldN 2 (.t s42))
(lE [] [] (some s44) (eK ⟨(some s44),(.callv (.t s35) [(.t s39),(.t s43)]),(some (s34,true))⟩)
(lG s34 true s45 (o.lss (.t s44) (.c (.int .i64 (.ofNat 0))))
(lG s34 true s46 (o.not (.t s45))
(lN s47 (o.pick (.t s34) (.t s46) (.c (.bool false)))
sEnd))))))))))))))))))
(o.cond (.t s47) dSkip (dExit 2)))
(dBlock 3 (dOps (vM s48 s11
(dV s49 (o.add (.t s48) (.c (.int .i64 (.ofNat 1))))
(vM s11 s49
dE))))))))
(dSeq (dBlock 4 (dLoop (dSeq (dSeq (dDraw (lM s50 s11
(lM s51 s12
(lN s52 (o.leq (.t s50) (.t s51))
(lM s53 s52
(lG s53 true s54 (oMv (.t s4))
(lG s53 true s55 (oMv (.t s0))
(lG s53 true s56 (oMv (.t s1))
(lG s53 true s57 (o.ia 2 (.t s55) (.t s56))
(lG s53 true s58 (o.ldN 2 (.t s57))
(lG s53 true s59 (oMv (.t s0))
(lG s53 true s60 (oMv (.t s12))
(lG s53 true s61 (o.ia 2 (.t s59) (.t s60))
(lG s53 true s62 (o.ldN 2 (.t s61))
(lE [] [] (some s63) (eK ⟨(some s63),(.callv (.t s54) [(.t s58),(.t s62)]),(some (s53,true))⟩)
(lG s53 true s64 (o.lss (.t s63) (.c (.int .i64 (.ofNat 0))))
(lN s65 (o.pick (.t s53) (.t s64) (.c (.bool false)))
sEnd)))))))))))))))))
(o.cond (.t s65) dSkip (dExit 4)))
(dBlock 5 (dOps (vM s66 s12
(dV s67 (o.sub (.t s66) (.c (.int .i64 (.ofNat 1))))
(vM s12 s67
dE))))))))
(dSeq (dSeq (dOps (vM s68 s11
(vM s69 s12
(dV s70 (o.gtr (.t s68) (.t s69))
dE))))
(o.cond (.t s70) (dExit 0) dSkip))
(dSeq (dDraw (lM s71 s0
(lM s72 s11
(lM s73 s0
(lM s74 s12
(lM s75 s0
(lM s76 s12
(lN s77 (o.ia 2 (.t s75) (.t s76))
(lN s78 (o.ldN 2 (.t s77))
(lM s79 s0
(lM s80 s11
(lN s81 (o.ia 2 (.t s79) (.t s80))
(lN s82 (o.ldN 2 (.t s81))
(lN s83 (o.ia 2 (.t s71) (.t s72))
(lE [] [] none (actV (oSt 2 (.t s83) (.t s78)))
(lN s84 (o.ia 2 (.t s73) (.t s74))
(lE [] [] none (actV (oSt 2 (.t s84) (.t s82)))
sEnd)))))))))))))))))
(dSeq (dOps (vM s85 s11
(dV s86 (o.add (.t s85) (.c (.int .i64 (.ofNat 1))))
(vM s11 s86
dE))))
(dOps (vM s87 s12
(dV s88 (o.sub (.t s87) (.c (.int .i64 (.ofNat 1))))
(vM s12 s88
dE))))))))))))
(dSeq (dOps (vM s89 s11
(vM s10 s89
dE)))
dRet))))),[(.t s10)]⟩
def af316:AF:=afG316 fastO
def afG317 (o:Ops):AF:=⟨(dSeq (dOps (vC s10 (.int .i64 (.ofNat 0))
(vC s11 (.bool false)
dE)))
(dSeq (dDraw (lM s14 s0
(lM s15 s1
(lM s16 s0
(lM s17 s3
(lM s18 s0
(lM s19 s3
(lN s20 (o.ia 2 (.t s18) (.t s19))
(lN s21 (o.ldN 2 (.t s20))
(lM s22 s0
(lM s23 s1
(lN s24 (o.ia 2 (.t s22) (.t s23))
(lN s25 (o.ldN 2 (.t s24))
(lN s26 (o.ia 2 (.t s14) (.t s15))
(lE [] [] none (actV (oSt 2 (.t s26) (.t s21)))
(lN s27 (o.ia 2 (.t s16) (.t s17))
(lE [] [] none (actV (oSt 2 (.t s27) (.t s25)))
sEnd)))))))))))))))))
(dSeq (dOps (vM s28 s1
(dV s29 (o.add (.t s28) (.c (.int .i64 (.ofNat 1))))
(vM s30 s2
(dV s31 (o.sub (.t s30) (.c (.int .i64 (.ofNat 1))))
(vM s12 s29
(vM s13 s31
dE)))))))
(dSeq (dBlock 0 (dLoop (dSeq (dSeq (dDraw (lM s32 s12
(lM s33 s13
(lN s34 (o.leq (.t s32) (.t s33))
(lM s35 s34
(lG s35 true s36 (oMv (.t s4))
(lG s35 true s37 (oMv (.t s0))
(lG s35 true s38 (oMv (.t s12))
(lG s35 true s39 (o.ia 2 (.t s37) (.t s38))
(lG s35 true s40 (o.ldN 2 (.t s39))
(lG s35 true s41 (oMv (.t s0))
(lG s35 true s42 (oMv (.t s1))
(lG s35 true s43 (o.ia 2 (.t s41) (.t s42))
(lG s35 true s44 (o.ldN 2 (.t s43))
(lE [] [] (some s45) (eK ⟨(some s45),(.callv (.t s36) [(.t s40),(.t s44)]),(some (s35,true))⟩)
(lG s35 true s46 (o.lss (.t s45) (.c (.int .i64 (.ofNat 0))))
(lN s47 (o.pick (.t s35) (.t s46) (.c (.bool false)))
sEnd)))))))))))))))))
(o.cond (.t s47) dSkip (dExit 0)))
(dBlock 1 (dOps (vM s48 s12
(dV s49 (o.add (.t s48) (.c (.int .i64 (.ofNat 1))))
(vM s12 s49
dE))))))))
(dSeq (dBlock 2 (dLoop (dSeq (dSeq (dDraw (lM s50 s12
(lM s51 s13
(lN s52 (o.leq (.t s50) (.t s51))
(lM s53 s52
(lG s53 true s54 (oMv (.t s4))
(lG s53 true s55 (oMv (.t s0))
(lG s53 true s56 (oMv (.t s13))
(lG s53 true s57 (o.ia 2 (.t s55) (.t s56))
(lG s53 true s58 (o.ldN 2 (.t s57))
(lG s53 true s59 (oMv (.t s0))
(lG s53 true s60 (oMv (.t s1))
(lG s53 true s61 (o.ia 2 (.t s59) (.t s60))
(lG s53 true s62 (o.ldN 2 (.t s61))
(lE [] [] (some s63) (eK ⟨(some s63),(.callv (.t s54) [(.t s58),(.t s62)]),(some (s53,true))⟩)
(lG s53 true s64 (o.lss (.t s63) (.c (.int .i64 (.ofNat 0))))
(lG s53 true s65 (o.not (.t s64))
(lN s66 (o.pick (.t s53) (.t s65) (.c (.bool false)))
sEnd))))))))))))))))))
(o.cond (.t s66) dSkip (dExit 2)))
(dBlock 3 (dOps (vM s67 s13
(dV s68 (o.sub (.t s67) (.c (.int .i64 (.ofNat 1))))
(vM s13 s68
dE))))))))
(dSeq (dSeq (dOps (vM s69 s12
(vM s70 s13
(dV s71 (o.gtr (.t s69) (.t s70))
dE))))
(o.cond (.t s71) (dSeq (dDraw (lM s72 s0
(lM s73 s13
(lM s74 s0
(lM s75 s1
(lM s76 s0
(lM s77 s1
(lN s78 (o.ia 2 (.t s76) (.t s77))
(lN s79 (o.ldN 2 (.t s78))
(lM s80 s0
(lM s81 s13
(lN s82 (o.ia 2 (.t s80) (.t s81))
(lN s83 (o.ldN 2 (.t s82))
(lN s84 (o.ia 2 (.t s72) (.t s73))
(lE [] [] none (actV (oSt 2 (.t s84) (.t s79)))
(lN s85 (o.ia 2 (.t s74) (.t s75))
(lE [] [] none (actV (oSt 2 (.t s85) (.t s83)))
sEnd)))))))))))))))))
(dSeq (dOps (vM s86 s13
(vM s10 s86
(vC s11 (.bool true)
dE))))
dRet)) dSkip))
(dSeq (dDraw (lM s87 s0
(lM s88 s12
(lM s89 s0
(lM s90 s13
(lM s91 s0
(lM s92 s13
(lN s93 (o.ia 2 (.t s91) (.t s92))
(lN s94 (o.ldN 2 (.t s93))
(lM s95 s0
(lM s96 s12
(lN s97 (o.ia 2 (.t s95) (.t s96))
(lN s98 (o.ldN 2 (.t s97))
(lN s99 (o.ia 2 (.t s87) (.t s88))
(lE [] [] none (actV (oSt 2 (.t s99) (.t s94)))
(lN s100 (o.ia 2 (.t s89) (.t s90))
(lE [] [] none (actV (oSt 2 (.t s100) (.t s98)))
sEnd)))))))))))))))))
(dSeq (dOps (vM s101 s12
(dV s102 (o.add (.t s101) (.c (.int .i64 (.ofNat 1))))
(vM s12 s102
dE))))
(dSeq (dOps (vM s103 s13
(dV s104 (o.sub (.t s103) (.c (.int .i64 (.ofNat 1))))
(vM s13 s104
dE))))
(dSeq (dBlock 4 (dLoop (dBlock 5 (dSeq (dBlock 6 (dLoop (dSeq (dSeq (dDraw (lM s105 s12
(lM s106 s13
(lN s107 (o.leq (.t s105) (.t s106))
(lM s108 s107
(lG s108 true s109 (oMv (.t s4))
(lG s108 true s110 (oMv (.t s0))
(lG s108 true s111 (oMv (.t s12))
(lG s108 true s112 (o.ia 2 (.t s110) (.t s111))
(lG s108 true s113 (o.ldN 2 (.t s112))
(lG s108 true s114 (oMv (.t s0))
(lG s108 true s115 (oMv (.t s1))
(lG s108 true s116 (o.ia 2 (.t s114) (.t s115))
(lG s108 true s117 (o.ldN 2 (.t s116))
(lE [] [] (some s118) (eK ⟨(some s118),(.callv (.t s109) [(.t s113),(.t s117)]),(some (s108,true))⟩)
(lG s108 true s119 (o.lss (.t s118) (.c (.int .i64 (.ofNat 0))))
(lN s120 (o.pick (.t s108) (.t s119) (.c (.bool false)))
sEnd)))))))))))))))))
(o.cond (.t s120) dSkip (dExit 6)))
(dBlock 7 (dOps (vM s121 s12
(dV s122 (o.add (.t s121) (.c (.int .i64 (.ofNat 1))))
(vM s12 s122
dE))))))))
(dSeq (dBlock 8 (dLoop (dSeq (dSeq (dDraw (lM s123 s12
(lM s124 s13
(lN s125 (o.leq (.t s123) (.t s124))
(lM s126 s125
(lG s126 true s127 (oMv (.t s4))
(lG s126 true s128 (oMv (.t s0))
(lG s126 true s129 (oMv (.t s13))
(lG s126 true s130 (o.ia 2 (.t s128) (.t s129))
(lG s126 true s131 (o.ldN 2 (.t s130))
(lG s126 true s132 (oMv (.t s0))
(lG s126 true s133 (oMv (.t s1))
(lG s126 true s134 (o.ia 2 (.t s132) (.t s133))
(lG s126 true s135 (o.ldN 2 (.t s134))
(lE [] [] (some s136) (eK ⟨(some s136),(.callv (.t s127) [(.t s131),(.t s135)]),(some (s126,true))⟩)
(lG s126 true s137 (o.lss (.t s136) (.c (.int .i64 (.ofNat 0))))
(lG s126 true s138 (o.not (.t s137))
(lN s139 (o.pick (.t s126) (.t s138) (.c (.bool false)))
sEnd))))))))))))))))))
(o.cond (.t s139) dSkip (dExit 8)))
(dBlock 9 (dOps (vM s140 s13
(dV s141 (o.sub (.t s140) (.c (.int .i64 (.ofNat 1))))
(vM s13 s141
dE))))))))
(dSeq (dSeq (dOps (vM s142 s12
(vM s143 s13
(dV s144 (o.gtr (.t s142) (.t s143))
dE))))
(o.cond (.t s144) (dExit 4) dSkip))
(dSeq (dDraw (lM s145 s0
(lM s146 s12
(lM s147 s0
(lM s148 s13
(lM s149 s0
(lM s150 s13
(lN s151 (o.ia 2 (.t s149) (.t s150))
(lN s152 (o.ldN 2 (.t s151))
(lM s153 s0
(lM s154 s12
(lN s155 (o.ia 2 (.t s153) (.t s154))
(lN s156 (o.ldN 2 (.t s155))
(lN s157 (o.ia 2 (.t s145) (.t s146))
(lE [] [] none (actV (oSt 2 (.t s157) (.t s152)))
(lN s158 (o.ia 2 (.t s147) (.t s148))
(lE [] [] none (actV (oSt 2 (.t s158) (.t s156)))
sEnd)))))))))))))))))
(dSeq (dOps (vM s159 s12
(dV s160 (o.add (.t s159) (.c (.int .i64 (.ofNat 1))))
(vM s12 s160
dE))))
(dOps (vM s161 s13
(dV s162 (o.sub (.t s161) (.c (.int .i64 (.ofNat 1))))
(vM s13 s162
dE))))))))))))
(dSeq (dDraw (lM s163 s0
(lM s164 s13
(lM s165 s0
(lM s166 s1
(lM s167 s0
(lM s168 s1
(lN s169 (o.ia 2 (.t s167) (.t s168))
(lN s170 (o.ldN 2 (.t s169))
(lM s171 s0
(lM s172 s13
(lN s173 (o.ia 2 (.t s171) (.t s172))
(lN s174 (o.ldN 2 (.t s173))
(lN s175 (o.ia 2 (.t s163) (.t s164))
(lE [] [] none (actV (oSt 2 (.t s175) (.t s170)))
(lN s176 (o.ia 2 (.t s165) (.t s166))
(lE [] [] none (actV (oSt 2 (.t s176) (.t s174)))
sEnd)))))))))))))))))
(dSeq (dOps (vM s177 s13
(vM s10 s177
(vC s11 (.bool false)
dE))))
dRet)))))))))))),[(.t s10),(.t s11)]⟩
def af317:AF:=afG317 fastO
def afG318 (o:Ops):AF:=⟨(dSeq (dOps (vC s2 (.int .i64 (.ofNat 0))
dE))
(dSeq (dSeq (dOps (vM s3 s0
(dV s4 (o.geq (.t s3) (.c (.int .u32 (.ofNat 65536))))
dE)))
(o.cond (.t s4) (dSeq (dOps (vM s5 s0
(dV s6 (oAr .shr (.t s5) (.c (.int .u64 (.ofNat 16))))
(vM s0 s6
dE))))
(dOps (vC s2 (.int .i64 (.ofNat 16))
dE))) dSkip))
(dSeq (dSeq (dOps (vM s7 s0
(dV s8 (o.geq (.t s7) (.c (.int .u32 (.ofNat 256))))
dE)))
(o.cond (.t s8) (dSeq (dOps (vM s9 s0
(dV s10 (oAr .shr (.t s9) (.c (.int .u64 (.ofNat 8))))
(vM s0 s10
dE))))
(dOps (vM s11 s2
(dV s12 (o.add (.t s11) (.c (.int .i64 (.ofNat 8))))
(vM s2 s12
dE))))) dSkip))
(dSeq (dOps (vM s13 s2
(vM s14 s0
(dV s15 (oCvI .u8 (.t s14))
(dV s16 (o.ixS (.c (.str [0,1,2,2,3,3,3,3,4,4,4,4,4,4,4,4,5,5,5,5,5,5,5,5,5,5,5,5,5,5,5,5,6,6,6,6,6,6,6,6,6,6,6,6,6,6,6,6,6,6,6,6,6,6,6,6,6,6,6,6,6,6,6,6,7,7,7,7,7,7,7,7,7,7,7,7,7,7,7,7,7,7,7,7,7,7,7,7,7,7,7,7,7,7,7,7,7,7,7,7,7,7,7,7,7,7,7,7,7,7,7,7,7,7,7,7,7,7,7,7,7,7,7,7,7,7,7,7,8,8,8,8,8,8,8,8,8,8,8,8,8,8,8,8,8,8,8,8,8,8,8,8,8,8,8,8,8,8,8,8,8,8,8,8,8,8,8,8,8,8,8,8,8,8,8,8,8,8,8,8,8,8,8,8,8,8,8,8,8,8,8,8,8,8,8,8,8,8,8,8,8,8,8,8,8,8,8,8,8,8,8,8,8,8,8,8,8,8,8,8,8,8,8,8,8,8,8,8,8,8,8,8,8,8,8,8,8,8,8,8,8,8,8,8,8,8,8,8,8,8,8,8,8,8,8,8])) (.t s15))
(dV s17 (oCvI .i64 (.t s16))
(dV s18 (o.add (.t s13) (.t s17))
(vM s2 s18
dE))))))))
dRet)))),[(.t s2)]⟩
def af318:AF:=afG318 fastO
def afG319 (o:Ops):AF:=⟨(dSeq (dOps (vC s2 (.int .i64 (.ofNat 0))
dE))
(dSeq (dSeq (dOps (vM s3 s0
(dV s4 (o.geq (.t s3) (.c (.int .u64 (.ofNat 4294967296))))
dE)))
(o.cond (.t s4) (dSeq (dOps (vM s5 s0
(dV s6 (oAr .shr (.t s5) (.c (.int .u64 (.ofNat 32))))
(vM s0 s6
dE))))
(dOps (vC s2 (.int .i64 (.ofNat 32))
dE))) dSkip))
(dSeq (dSeq (dOps (vM s7 s0
(dV s8 (o.geq (.t s7) (.c (.int .u64 (.ofNat 65536))))
dE)))
(o.cond (.t s8) (dSeq (dOps (vM s9 s0
(dV s10 (oAr .shr (.t s9) (.c (.int .u64 (.ofNat 16))))
(vM s0 s10
dE))))
(dOps (vM s11 s2
(dV s12 (o.add (.t s11) (.c (.int .i64 (.ofNat 16))))
(vM s2 s12
dE))))) dSkip))
(dSeq (dSeq (dOps (vM s13 s0
(dV s14 (o.geq (.t s13) (.c (.int .u64 (.ofNat 256))))
dE)))
(o.cond (.t s14) (dSeq (dOps (vM s15 s0
(dV s16 (oAr .shr (.t s15) (.c (.int .u64 (.ofNat 8))))
(vM s0 s16
dE))))
(dOps (vM s17 s2
(dV s18 (o.add (.t s17) (.c (.int .i64 (.ofNat 8))))
(vM s2 s18
dE))))) dSkip))
(dSeq (dOps (vM s19 s2
(vM s20 s0
(dV s21 (oCvI .u8 (.t s20))
(dV s22 (o.ixS (.c (.str [0,1,2,2,3,3,3,3,4,4,4,4,4,4,4,4,5,5,5,5,5,5,5,5,5,5,5,5,5,5,5,5,6,6,6,6,6,6,6,6,6,6,6,6,6,6,6,6,6,6,6,6,6,6,6,6,6,6,6,6,6,6,6,6,7,7,7,7,7,7,7,7,7,7,7,7,7,7,7,7,7,7,7,7,7,7,7,7,7,7,7,7,7,7,7,7,7,7,7,7,7,7,7,7,7,7,7,7,7,7,7,7,7,7,7,7,7,7,7,7,7,7,7,7,7,7,7,7,8,8,8,8,8,8,8,8,8,8,8,8,8,8,8,8,8,8,8,8,8,8,8,8,8,8,8,8,8,8,8,8,8,8,8,8,8,8,8,8,8,8,8,8,8,8,8,8,8,8,8,8,8,8,8,8,8,8,8,8,8,8,8,8,8,8,8,8,8,8,8,8,8,8,8,8,8,8,8,8,8,8,8,8,8,8,8,8,8,8,8,8,8,8,8,8,8,8,8,8,8,8,8,8,8,8,8,8,8,8,8,8,8,8,8,8,8,8,8,8,8,8,8,8,8,8,8,8])) (.t s21))
(dV s23 (oCvI .i64 (.t s22))
(dV s24 (o.add (.t s19) (.t s23))
(vM s2 s24
dE))))))))
dRet))))),[(.t s2)]⟩
def af319:AF:=afG319 fastO
def afG320 (o:Ops):AF:=⟨(dSeq (dOps (vC s4 (.int .i64 (.ofNat 0))
dE))
(dSeq (dSeq (dOps (vM s5 s1
(vM s6 s0
(dV s7 (o.len (.t s6))
(dV s8 (o.geq (.t s5) (.t s7))
dE)))))
(o.cond (.t s8) (dSeq (dOps (vC s4 (.int .i64 (.ofNat 0))
dE))
dRet) dSkip))
(dSeq (dOps (vM s9 s0
(vM s10 s1
(dV s11 (o.ia 1 (.t s9) (.t s10))
(dV s12 (o.ld1 (.t s11))
(dV s13 (oMm true [(.t s12),(.c (.int .i64 (.ofNat 0)))])
(dV s14 (oMm false [(.t s13),(.c (.int .i64 (.ofNat 4611686018427387904)))])
(vM s4 s14
dE))))))))
dRet))),[(.t s4)]⟩
def af320:AF:=afG320 fastO
def afG321 (o:Ops):AF:=⟨(dSeq (dOps (dV s3 (oBox 170 (.t s1))
dE))
(dSeq (dDraw (lM s5 s0
(lN s6 (o.nchk (.t s5))
(lN s7 (o.fa 8 (.t s6))
(lN s8 (o.fa 4 (.t s7))
(lN s9 (o.ld1 (.t s8))
(lN s11 (o.ldN 4 (.t s3))
(lA 8 s4 (aNew [(.int .i64 (.ofNat 0)),(.int .i64 (.ofNat 0)),(.int .i64 (.ofNat 0)),(.int .i64 (.ofNat 0))] 170)
(lE [] [(s11,(o.ldN 4 (.t s3)))] (some s10) (actC p262 [(.t s9)])
(lE [] [] (some s12) (actC p362 [(.t s10),(.t s11)])
(lE [8] [] none (actV (oSt 4 (.t s4) (.t s12)))
sEnd)))))))))))
(dSeq (dDraw (lM s13 s0
(lM s14 s0
(lN s15 (o.nchk (.t s14))
(lN s16 (o.fa 8 (.t s15))
(lN s17 (o.fa 7 (.t s16))
(lN s18 (o.ldN 4 (.t s17))
(lN s19 (o.ldN 4 (.t s4))
(lE [] [] (some s20) (actC p363 [(.t s18),(.t s19)])
(lN s21 (o.nchk (.t s13))
(lN s22 (o.fa 8 (.t s21))
(lN s23 (o.fa 7 (.t s22))
(lE [] [] none (actV (oSt 4 (.t s23) (.t s20)))
sEnd)))))))))))))
(dDraw (lM s24 s0
(lM s25 s0
(lN s26 (o.nchk (.t s25))
(lN s27 (o.fa 8 (.t s26))
(lN s28 (o.fa 5 (.t s27))
(lN s29 (o.ldN 2 (.t s28))
(lN s30 (o.ldN 4 (.t s4))
(lE [] [] (some s31) (actC p362 [(.t s29),(.t s30)])
(lE [] [] (some s32) (actC p150 [(.t s24),(.t s31)])
sEnd))))))))))))),[]⟩
def af321:AF:=afG321 fastO
def afG322 (o:Ops):AF:=⟨(dSeq (dOps (dV s3 (oBox 253 (.t s1))
(vC s4 .nilp
dE)))
(dSeq (dSeq (dOps (dV s7 (o.ld1 (.t s3))
(dV s8 (o.eqp false (.t s7) (.c .nilp))
dE)))
(o.cond (.t s8) (dSeq (dOps (vM s9 s0
(vM s4 s9
dE)))
dRet) dSkip))
(dSeq (dSeq (dOps (vM s10 s0
(dC (some s11) p229 [(.t s10)]
(dC (some s12) p231 [(.t s11)]
(dC (some s13) p230 [(.t s12)]
dE)))))
(dBlock 0 (dRange (.t s13) [s14,s15] (dOps (vM s6 s15
dE)) (dBlock 1 (dDraw (lN s16 (o.ld1 (.t s3))
(lM s17 s6
(lN s18 (o.nchk (.t s17))
(lN s19 (o.fa 0 (.t s18))
(lN s20 (o.ld1 (.t s19))
(lM s21 s6
(lN s22 (o.nchk (.t s21))
(lN s23 (o.fa 1 (.t s22))
(lN s24 (o.ld1 (.t s23))
(lE [] [] (some s25) (actC p232 [(.t s16),(.t s20),(.t s24)])
(lE [] [] none (actV (o.st1 (.t s3) (.t s25)))
sEnd))))))))))))))))
(dSeq (dOps (dV s26 (o.ld1 (.t s3))
(vM s4 s26
dE)))
dRet)))),[(.t s4)]⟩
def af322:AF:=afG322 fastO
def afG323 (o:Ops):AF:=⟨(dSeq (dSeq (dOps (vM s2 s0
(dV s3 (o.nchk (.t s2))
(dV s4 (o.fa 1 (.t s3))
(dV s5 (o.ld1 (.t s4))
(dV s6 (o.leq (.t s5) (.c (.int .i64 (.ofNat 0))))
dE))))))
(o.cond (.t s6) (dOps (dC (some s7) p187 [(.c (.int .i64 (.ofNat 3)))]
dE)) dSkip))
(dOps (vM s8 s0
(dV s9 (o.nchk (.t s8))
(dV s10 (o.fa 1 (.t s9))
(dV s11 (o.ld1 (.t s10))
(dV s12 (o.sub (.t s11) (.c (.int .i64 (.ofNat 1))))
(dV s13 (o.nchk (.t s8))
(dV s14 (o.fa 1 (.t s13))
(dU (o.st1 (.t s14) (.t s12))
dE)))))))))),[]⟩
def af323:AF:=afG323 fastO
def afG324 (o:Ops):AF:=⟨(dSeq (dOps (dV s4 (oBox 168 (.t s1))
dE))
(dSeq (dOps (vM s6 s0
(vM s7 s0
(dV s8 (o.ldN 3 (.t s4))
(dV s9 (oBuild [.nilp,(.int .i64 (.ofNat 0)),.nilp,.nilp] [(0,3,(.t s8))])
(vM s10 s2
(dV s11 (o.nchk (.t s6))
(dV s12 (o.fa 8 (.t s11))
(dV s13 (o.fa 0 (.t s12))
(dU (oSt 4 (.t s13) (.t s9))
(dV s14 (o.nchk (.t s7))
(dV s15 (o.fa 8 (.t s14))
(dV s16 (o.fa 4 (.t s15))
(dU (o.st1 (.t s16) (.t s10))
dE))))))))))))))
(dOps (vM s17 s0
(dV s18 (o.ldN 3 (.t s4))
(dC (some s19) p186 [(.t s18)]
(dC (some s20) p321 [(.t s17),(.t s19)]
dE))))))),[]⟩
def af324:AF:=afG324 fastO
def afG325 (o:Ops):AF:=⟨(dSeq (dOps (vC s4 .nilp
dE))
(dSeq (dSeq (dOps (vM s5 s1
(dV s6 (o.nchk (.t s5))
(dV s7 (o.fa 11 (.t s6))
(dV s8 (o.ld1 (.t s7))
(dV s9 (o.eqp false (.t s8) (.c .nilp))
dE))))))
(o.cond (.t s9) (dOps (vM s10 s1
(vM s11 s0
(vM s12 s1
(dV s13 (o.nchk (.t s12))
(dV s14 (o.fa 0 (.t s13))
(dV s15 (o.ldN 6 (.t s14))
(dC (some s16) p364 [(.t s11),(.t s15)]
(dV s17 (o.nchk (.t s10))
(dV s18 (o.fa 11 (.t s17))
(dU (o.st1 (.t s18) (.t s16))
dE))))))))))) dSkip))
(dSeq (dOps (vM s19 s1
(dV s20 (o.nchk (.t s19))
(dV s21 (o.fa 11 (.t s20))
(dV s22 (o.ld1 (.t s21))
(vM s4 s22
dE))))))
dRet))),[(.t s4)]⟩
def af325:AF:=afG325 fastO
def afG326 (o:Ops):AF:=⟨(dSeq (dOps (vC s2 (.bool false)
dE))
(dSeq (dOps (dC (some s10) p246 []
(vM s9 s10
(dV s11 (o.ext (.t s9) 0)
(dV s12 (o.ext (.t s9) 1)
(dV s13 (o.ext (.t s9) 2)
(dV s14 (o.ext (.t s9) 3)
(dV s15 (o.ext (.t s9) 4)
(dV s16 (o.ext (.t s9) 5)
(vM s3 s11
(vM s4 s12
(vM s5 s13
(vM s6 s14
(vM s7 s15
(vM s8 s16
dE)))))))))))))))
(dSeq (dDraw (lM s17 s0
(lN s18 (o.nchk (.t s17))
(lN s19 (o.fa 6 (.t s18))
(lN s20 (o.ld1 (.t s19))
(lM s21 s5
(lN s22 (o.eql (.t s20) (.t s21))
(lM s23 s22
(lG s23 true s24 (oMv (.t s0))
(lG s23 true s25 (o.nchk (.t s24))
(lG s23 true s26 (o.fa 0 (.t s25))
(lG s23 true s27 (o.fa 4 (.t s26))
(lG s23 true s28 (o.ld1 (.t s27))
(lG s23 true s29 (o.len (.t s28))
(lG s23 true s30 (oMv (.t s0))
(lG s23 true s31 (o.nchk (.t s30))
(lG s23 true s32 (o.fa 7 (.t s31))
(lG s23 true s33 (o.fa 2 (.t s32))
(lG s23 true s34 (o.ld1 (.t s33))
(lG s23 true s35 (o.eql (.t s29) (.t s34))
(lN s36 (o.pick (.t s23) (.t s35) (.c (.bool false)))
(lM s2 s36
sEnd))))))))))))))))))))))
dRet))),[(.t s2)]⟩
def af326:AF:=afG326 fastO
def afG327 (o:Ops):AF:=⟨(dSeq (dOps (vC s2 .nilp
dE))
(dSeq (dSeq (dOps (vM s3 s0
(dV s4 (o.nchk (.t s3))
(dV s5 (o.fa 25 (.t s4))
(dV s6 (o.ld1 (.t s5))
(dV s7 (o.eqp false (.t s6) (.c .nilp))
dE))))))
(o.cond (.t s7) (dDraw (lM s8 s0
(lM s9 s0
(lN s10 (o.nchk (.t s9))
(lN s11 (o.fa 7 (.t s10))
(lN s12 (o.fa 9 (.t s11))
(lN s13 (o.ldN 6 (.t s12))
(lM s14 s0
(lN s15 (o.nchk (.t s14))
(lN s16 (o.fa 0 (.t s15))
(lN s17 (o.fa 4 (.t s16))
(lN s18 (o.ld1 (.t s17))
(lE [] [] (some s19) (actC p365 [(.t s13),(.t s18)])
(lE [] [] (some s20) (actC p105 [(.t s19)])
(lN s21 (o.nchk (.t s8))
(lN s22 (o.fa 25 (.t s21))
(lE [] [] none (actV (o.st1 (.t s22) (.t s20)))
sEnd))))))))))))))))) dSkip))
(dSeq (dOps (vM s23 s0
(dV s24 (o.nchk (.t s23))
(dV s25 (o.fa 25 (.t s24))
(dV s26 (o.ld1 (.t s25))
(vM s2 s26
dE))))))
dRet))),[(.t s2)]⟩
def af327:AF:=afG327 fastO
def afG328 (o:Ops):AF:=⟨(dSeq (dOps (vC s2 (.bool false)
dE))
(dSeq (dOps (dC (some s10) p246 []
(vM s9 s10
(dV s11 (o.ext (.t s9) 0)
(dV s12 (o.ext (.t s9) 1)
(dV s13 (o.ext (.t s9) 2)
(dV s14 (o.ext (.t s9) 3)
(dV s15 (o.ext (.t s9) 4)
(dV s16 (o.ext (.t s9) 5)
(vM s3 s11
(vM s4 s12
(vM s5 s13
(vM s6 s14
(vM s7 s15
(vM s8 s16
dE)))))))))))))))
(dSeq (dDraw (lM s17 s0
(lN s18 (o.nchk (.t s17))
(lN s19 (o.fa 6 (.t s18))
(lN s20 (o.ld1 (.t s19))
(lM s21 s8
(lN s22 (o.eql (.t s20) (.t s21))
(lM s23 s22
(lG s23 true s24 (oMv (.t s0))
(lG s23 true s25 (o.nchk (.t s24))
(lG s23 true s26 (o.fa 0 (.t s25))
(lG s23 true s27 (o.fa 4 (.t s26))
(lG s23 true s28 (o.ld1 (.t s27))
(lG s23 true s29 (o.len (.t s28))
(lG s23 true s30 (oMv (.t s0))
(lG s23 true s31 (o.nchk (.t s30))
(lG s23 true s32 (o.fa 7 (.t s31))
(lG s23 true s33 (o.fa 2 (.t s32))
(lG s23 true s34 (o.ld1 (.t s33))
(lG s23 true s35 (o.add (.t s34) (.c (.int .i64 (.ofNat 1))))
(lG s23 true s36 (o.eql (.t s29) (.t s35))
(lN s37 (o.pick (.t s23) (.t s36) (.c (.bool false)))
(lM s38 s37
(lG s38 true s39 (oMv (.t s0))
(lG s38 true s40 (o.nchk (.t s39))
(lG s38 true s41 (o.fa 24 (.t s40))
(lG s38 true s42 (o.ld1 (.t s41))
(lG s38 true s43 (o.nchk (.t s42))
(lG s38 true s44 (o.fa 17 (.t s43))
(lG s38 true s45 (o.ld1 (.t s44))
(lN s46 (o.pick (.t s38) (.t s45) (.c (.bool false)))
(lM s47 s46
(lG s47 true s48 (oMv (.t s0))
(lG s47 true s49 (o.nchk (.t s48))
(lG s47 true s50 (o.fa 7 (.t s49))
(lG s47 true s51 (o.fa 16 (.t s50))
(lG s47 true s52 (o.ld1 (.t s51))
(lG s47 true s53 (o.len (.t s52))
(lG s47 true s54 (o.gtr (.t s53) (.c (.int .i64 (.ofNat 0))))
(lN s55 (o.pick (.t s47) (.t s54) (.c (.bool false)))
(lM s2 s55
sEnd)))))))))))))))))))))))))))))))))))))))))
dRet))),[(.t s2)]⟩
def af328:AF:=afG328 fastO
def afG329 (o:Ops):AF:=⟨(dSeq (dOps (vC s4 .nilp
dE))
(dSeq (dBlock 0 (dLoop (dSeq (dSeq (dOps (vM s5 s0
(dV s6 (o.eqp true (.t s5) (.c .nilp))
(vM s7 s6
(o.g s7 true (some s8) (vM s8 s1)
(o.g s7 true (some s9) (dV s9 (o.gtr (.t s8) (.c (.int .i64 (.ofNat 0)))))
(dV s10 (o.pick (.t s7) (.t s9) (.c (.bool false)))
dE)))))))
(o.cond (.t s10) dSkip (dExit 0)))
(dSeq (dBlock 1 (dOps (vM s13 s0
(dV s14 (o.nchk (.t s13))
(dV s15 (o.fa 2 (.t s14))
(dV s16 (o.ld1 (.t s15))
(vM s0 s16
dE)))))))
(dOps (vM s11 s1
(dV s12 (o.sub (.t s11) (.c (.int .i64 (.ofNat 1))))
(vM s1 s12
dE))))))))
(dSeq (dOps (vM s17 s0
(vM s4 s17
dE)))
dRet))),[(.t s4)]⟩
def af329:AF:=afG329 fastO
def afG330 (o:Ops):AF:=⟨(dSeq (dOps (vC s2 (.int .i64 (.ofNat 0))
dE))
(dSeq (dDraw (lM s3 s0
(lM s5 s0
(lN s6 (o.nchk (.t s5))
(lN s7 (o.fa 19 (.t s6))
(lN s8 (o.ld1 (.t s7))
(lE [] [(s8,(o.ld1 (.t s7)))] (some s4) (actC p366 [(.t s3)])
(lN s9 (o.add (.t s4) (.t s8))
(lM s2 s9
sEnd)))))))))
dRet)),[(.t s2)]⟩
def af330:AF:=afG330 fastO
def afG331 (o:Ops):AF:=⟨(dSeq (dOps (vC s4 (.bool false)
dE))
(dSeq (dSeq (dOps (vM s5 s1
(dV s6 (o.nchk (.t s5))
(dV s7 (o.fa 7 (.t s6))
(dV s8 (o.ld1 (.t s7))
(dV s9 (o.eqp false (.t s8) (.c .nilp))
dE))))))
(o.cond (.t s9) (dSeq (dOps (vM s10 s0
(vM s11 s1
(dV s12 (oBuild [(.int .i64 (.ofNat 0)),(.int .i64 (.ofNat 0))] [])
(dC (some s13) p265 [(.t s10),(.t s11),(.t s12)]
dE)))))
(dSeq (dOps (vC s4 (.bool true)
dE))
dRet)) dSkip))
(dSeq (dOps (vM s14 s0
(vM s15 s1
(dV s16 (o.nchk (.t s15))
(dV s17 (o.fa 8 (.t s16))
(dV s18 (o.ldN 4 (.t s17))
(dC (some s19) p150 [(.t s14),(.t s18)]
dE)))))))
(dSeq (dOps (vC s4 (.bool false)
dE))
dRet)))),[(.t s4)]⟩
def af331:AF:=afG331 fastO
def afG332 (o:Ops):AF:=⟨(dSeq (dOps (vC s6 (.int .i64 (.ofNat 0))
(vC s7 (.bool false)
dE)))
(dSeq (dSeq (dOps (vM s12 s1
(dV s13 (o.nchk (.t s12))
(dV s14 (o.fa 0 (.t s13))
(dV s15 (o.fa 0 (.t s14))
(dV s16 (o.fa 2 (.t s15))
(dV s17 (o.ld1 (.t s16))
(dV s18 (o.nchk (.t s17))
(dV s19 (o.fa 0 (.t s18))
(dV s20 (o.fa 0 (.t s19))
(dV s21 (o.ld1 (.t s20))
(dV s22 (o.neq (.t s21) (.c (.int .i64 (.ofNat 10))))
dE))))))))))))
(o.cond (.t s22) (dSeq (dOps (vC s6 (.int .i64 (.ofNat 0))
(vC s7 (.bool false)
dE)))
dRet) dSkip))
(dSeq (dOps (vM s23 s0
(vM s24 s1
(dV s25 (o.nchk (.t s24))
(dV s26 (o.fa 0 (.t s25))
(dV s27 (o.fa 0 (.t s26))
(dV s28 (o.fa 2 (.t s27))
(dV s29 (o.ld1 (.t s28))
(dC (some s30) p325 [(.t s23),(.t s29)]
(vM s8 s30
dE))))))))))
(dSeq (dOps (vM s32 s8
(dC (some s33) p367 [(.t s32)]
(vM s31 s33
(dV s34 (o.ext (.t s31) 0)
(dV s35 (o.ext (.t s31) 1)
(vM s9 s34
(vM s10 s35
dE))))))))
(dSeq (dSeq (dOps (vM s36 s10
(dV s37 (o.not (.t s36))
(vM s38 s37
(o.g s38 false (some s39) (vM s39 s8)
(o.g s38 false (some s40) (dV s40 (o.nchk (.t s39)))
(o.g s38 false (some s41) (dV s41 (o.fa 24 (.t s40)))
(o.g s38 false (some s42) (dV s42 (o.ld1 (.t s41)))
(o.g s38 false (some s43) (vM s43 s2)
(o.g s38 false (some s44) (dV s44 (o.eqp true (.t s42) (.t s43)))
(dV s45 (o.pick (.t s38) (.c (.bool true)) (.t s44))
dE)))))))))))
(o.cond (.t s45) (dSeq (dOps (vC s6 (.int .i64 (.ofNat 0))
(vC s7 (.bool false)
dE)))
dRet) dSkip))
(dSeq (dOps (vM s46 s2
(vM s47 s9
(dC (some s48) p368 [(.t s46),(.t s47)]
(vM s11 s48
dE)))))
(dSeq (dDraw (lM s49 s9
(lM s50 s11
(lN s51 (o.nchk (.t s50))
(lN s52 (o.fa 0 (.t s51))
(lN s53 (o.ld1 (.t s52))
(lM s54 s53
(lG s54 true s55 (oMv (.t s11))
(lG s54 true s56 (o.nchk (.t s55))
(lG s54 true s57 (o.fa 1 (.t s56))
(lG s54 true s58 (o.ld1 (.t s57))
(lG s54 true s59 (oMv (.t s1))
(lG s54 true s60 (o.nchk (.t s59))
(lG s54 true s61 (o.fa 4 (.t s60))
(lG s54 true s62 (o.ld1 (.t s61))
(lE [] [(s58,(gV ⟨(some s58),(.v (.ld1 (.t s57))),(some (s54,true))⟩))] (some s63) (eK ⟨(some s63),(.call p262 [(.t s62)]),(some (s54,true))⟩)
(lG s54 true s64 (o.fld1 0 (.t s63))
(lG s54 true s65 (o.eql (.t s58) (.t s64))
(lN s66 (o.pick (.t s54) (.t s65) (.c (.bool false)))
(lM s6 s49
(lM s7 s66
sEnd)))))))))))))))))))))
dRet))))))),[(.t s6),(.t s7)]⟩
def af332:AF:=afG332 fastO
def afG333 (o:Ops):AF:=⟨(dSeq (dOps (dV s6 (oNew [.nilp,(.int .i64 (.ofNat 0))] 68)
dE))
(dSeq (dOps (dV s10 (oBuild [.nilp,(.int .i64 (.ofNat 0))] [])
(dV s7 (oNew [.nilp,(.int .i64 (.ofNat 0))] 68)
(dU (oSt 2 (.t s7) (.t s10))
dE))))
(dSeq (dSeq (dOps (vC s8 (.int .i64 (.ofNat 0))
dE))
(dBlock 0 (dLoop (dSeq (dSeq (dOps (vM s11 s8
(vM s12 s0
(dC (some s13) p366 [(.t s12)]
(dV s14 (o.lss (.t s11) (.t s13))
dE)))))
(o.cond (.t s14) dSkip (dExit 0)))
(dSeq (dBlock 1 (dDraw (lN s21 (o.ldN 2 (.t s7))
(lM s22 s1
(lN s23 (o.nchk (.t s22))
(lN s24 (o.fa 0 (.t s23))
(lN s25 (o.ld1 (.t s24))
(lE [] [] (some s26) (actC p145 [(.t s21),(.t s25)])
(lE [] [] none (actV (oSt 2 (.t s7) (.t s26)))
sEnd)))))))))
(dDraw (lM s15 s8
(lN s16 (o.add (.t s15) (.c (.int .i64 (.ofNat 1))))
(lM s17 s1
(lN s18 (o.nchk (.t s17))
(lN s19 (o.fa 2 (.t s18))
(lN s20 (o.ld1 (.t s19))
(lE [] [(s20,(o.ld1 (.t s19)))] (some s8) (actV (oMv (.t s16)))
(lE [] [] (some s1) (actV (oMv (.t s20)))
sEnd))))))))))))))
(dSeq (dSeq (dOps (vM s27 s2
(vM s28 s0
(dV s29 (o.nchk (.t s28))
(dV s30 (o.fa 18 (.t s29))
(dV s31 (o.ld1 (.t s30))
(dC (some s32) p329 [(.t s27),(.t s31)]
(dC (some s33) p229 [(.t s32)]
dE))))))))
(dBlock 2 (dRange (.t s33) [s34] (dOps (vM s9 s34
dE)) (dBlock 3 (dDraw (lN s35 (o.ldN 2 (.t s7))
(lM s36 s9
(lN s37 (o.nchk (.t s36))
(lN s38 (o.fa 0 (.t s37))
(lN s39 (o.ld1 (.t s38))
(lE [] [] (some s40) (actC p145 [(.t s35),(.t s39)])
(lE [] [] none (actV (oSt 2 (.t s7) (.t s40)))
sEnd))))))))))))
(dSeq (dOps (dV s41 (o.ldN 2 (.t s7))
(dU (oSt 2 (.t s6) (.t s41))
dE)))
dRet))))),[(.cN s6 2)]⟩
def af333:AF:=afG333 fastO
def afG334 (o:Ops):AF:=⟨(dSeq (dOps (vC s4 .nilp
dE))
(dSeq (dSeq (dOps (vM s6 s0
(dV s7 (o.nchk (.t s6))
(dV s8 (o.fa 26 (.t s7))
(dV s9 (o.ld1 (.t s8))
(vM s10 s1
(dV s11 (o.ia 1 (.t s9) (.t s10))
(dV s12 (o.ld1 (.t s11))
(dV s13 (o.eqp false (.t s12) (.c .nilp))
dE)))))))))
(o.cond (.t s13) (dSeq (dDraw (lM s14 s0
(lN s15 (o.nchk (.t s14))
(lN s16 (o.fa 0 (.t s15))
(lN s17 (o.ldN 6 (.t s16))
(lM s18 s0
(lN s19 (o.nchk (.t s18))
(lN s20 (o.fa 24 (.t s19))
(lN s21 (o.ld1 (.t s20))
(lM s22 s0
(lN s23 (o.nchk (.t s22))
(lN s24 (o.fa 24 (.t s23))
(lN s25 (o.ld1 (.t s24))
(lM s26 s1
(lA 15 s5 (aNew [(.int .i64 (.ofNat 0)),(.int .i64 (.ofNat 0)),(.bool false),(.str []),.nils,.nils,.nilp,.nilp] 497)
(lE [] [(s17,(o.ldN 6 (.t s16))),(s21,(o.ld1 (.t s20)))] (some s27) (actC p368 [(.t s25),(.t s26)])
(lN s28 (oBuild [(.int .i64 (.ofNat 0)),(.int .i64 (.ofNat 0)),(.bool false),(.str []),.nils,.nils,.nilp,.nilp] [(0,6,(.t s17)),(6,1,(.t s21)),(7,1,(.t s27))])
(lE [15] [] none (actV (oSt 8 (.t s5) (.t s28)))
sEnd))))))))))))))))))
(dDraw (lM s29 s0
(lN s30 (o.nchk (.t s29))
(lN s31 (o.fa 26 (.t s30))
(lN s32 (o.ld1 (.t s31))
(lM s33 s1
(lN s34 (o.ldN 8 (.t s5))
(lM s35 s1
(lE [] [(s32,(o.ld1 (.t s31)))] (some s36) (actC p369 [(.t s34),(.t s35)])
(lE [] [(s32,(o.ld1 (.t s31)))] (some s37) (actC p105 [(.t s36)])
(lN s38 (o.ia 1 (.t s32) (.t s33))
(lE [] [] none (actV (o.st1 (.t s38) (.t s37)))
sEnd))))))))))))) dSkip))
(dSeq (dOps (vM s39 s0
(dV s40 (o.nchk (.t s39))
(dV s41 (o.fa 26 (.t s40))
(dV s42 (o.ld1 (.t s41))
(vM s43 s1
(dV s44 (o.ia 1 (.t s42) (.t s43))
(dV s45 (o.ld1 (.t s44))
(vM s4 s45
dE)))))))))
dRet))),[(.t s4)]⟩
def af334:AF:=afG334 fastO
def afG335 (o:Ops):AF:=⟨(dSeq (dOps (dV s2 (oBox 290 (.t s0))
(dV s3 (oNew [.nilp] 104)
dE)))
(dSeq (dSeq (dOps (dV s4 (o.ldN 1 (.t s2))
(dC (some s5) p213 [(.t s4)]
(dV s6 (o.eql (.t s5) (.c (.int .i64 (.ofNat 4))))
dE))))
(o.cond (.t s6) (dSeq (dOps (dV s7 (o.ldN 1 (.t s2))
(dV s8 (o.fa 2 (.t s1))
(dV s9 (o.ld1 (.t s8))
(dC (some s10) p181 [(.t s7),(.c (.int .i64 (.ofNat 1))),(.t s9)]
(dU (o.st1 (.t s3) (.t s10))
dE))))))
dRet) dSkip))
(dSeq (dOps (dV s11 (o.ldN 1 (.t s2))
(dV s12 (o.fa 2 (.t s1))
(dV s13 (o.ld1 (.t s12))
(dC (some s14) p336 [(.t s11),(.t s13)]
(dU (o.st1 (.t s3) (.t s14))
dE))))))
dRet))),[(.cN s3 1)]⟩
def af335:AF:=afG335 fastO
def afG336 (o:Ops):AF:=⟨(dSeq (dOps (dV s2 (oBox 290 (.t s0))
(dV s4 (oNew [.nilp] 104)
dE)))
(dSeq (dOps (dV s6 (oBuild [(.int .i64 (.ofNat 0)),(.int .i64 (.ofNat 0)),(.bool false),(.str []),.nils,.nils] [(0,1,(.c (.int .i64 (.ofNat 1)))),(1,1,(.c (.int .i64 (.ofNat 1))))])
(dV s7 (oBuild [(.int .i64 (.ofNat 0)),(.int .i64 (.ofNat 0)),(.bool false),(.str []),.nils,.nils] [(0,1,(.c (.int .i64 (.ofNat 1)))),(1,1,(.c (.int .i64 (.ofNat 0))))])
(dV s8 (oBuildS 30 2 [(.int .i64 (.ofNat 0)),(.int .i64 (.ofNat 0)),(.bool false),(.str []),.nils,.nils,(.int .i64 (.ofNat 0)),(.int .i64 (.ofNat 0)),(.bool false),(.str []),.nils,.nils] [(0,6,(.t s6)),(6,6,(.t s7))])
(dV s9 (oBuild [(.int .i64 (.ofNat 0)),(.int .i64 (.ofNat 0)),(.bool false),(.str []),.nils,.nils] [(0,1,(.c (.int .i64 (.ofNat 5)))),(5,1,(.t s8))])
(dV s5 (oNew [(.int .i64 (.ofNat 0)),(.int .i64 (.ofNat 0)),(.bool false),(.str []),.nils,.nils] 30)
(dU (oSt 6 (.t s5) (.t s9))
dE)))))))
(dSeq (dDraw (lN s10 (oBuild [.nilp,(.int .i64 (.ofNat 0))] [])
(lN s11 (o.ldN 1 (.t s2))
(lM s15 s1
(lN s18 (o.ldN 6 (.t s5))
(lE [] [(s18,(o.ldN 6 (.t s5)))] (some s12) (actC p233 [(.t s11)])
(lN s13 (o.fld1 0 (.t s12))
(lE [] [(s18,(o.ldN 6 (.t s5)))] (some s14) (actC p145 [(.t s10),(.t s13)])
(lE [] [(s18,(o.ldN 6 (.t s5)))] (some s16) (actC p146 [(.t s15)])
(lE [] [(s18,(o.ldN 6 (.t s5)))] (some s17) (actC p145 [(.t s14),(.t s16)])
(lE [] [] (some s19) (actC p105 [(.t s18)])
(lN s20 (oBuild [.nilp,(.int .i64 (.ofNat 0)),.nilp] [(0,2,(.t s17)),(2,1,(.t s19))])
(lE [] [] (some s21) (actC p147 [(.t s20)])
(lN s22 (oBuild [.nilp] [(0,1,(.t s21))])
(lE [] [] none (actV (o.st1 (.t s4) (.t s22)))
sEnd)))))))))))))))
dRet))),[(.cN s4 1)]⟩
def af336:AF:=afG336 fastO
def afG337 (o:Ops):AF:=⟨(dSeq (dOps (dV s3 (oBox 290 (.t s0))
(dV s5 (oNew [.nilp] 104)
dE)))
(dSeq (dSeq (dOps (dV s6 (o.ldN 1 (.t s3))
(dC (some s7) p213 [(.t s6)]
(dV s8 (o.eql (.t s7) (.c (.int .i64 (.ofNat 7))))
dE))))
(o.cond (.t s8) (dSeq (dOps (dV s9 (o.ldN 1 (.t s3))
(vM s10 s1
(dV s11 (o.add (.c (.int .i64 (.ofNat 1))) (.t s10))
(dV s12 (o.sub (.t s11) (.c (.int .i64 (.ofNat 8))))
(dV s13 (o.fa 2 (.t s2))
(dV s14 (o.ld1 (.t s13))
(dC (some s15) p181 [(.t s9),(.t s12),(.t s14)]
(dU (o.st1 (.t s5) (.t s15))
dE)))))))))
dRet) dSkip))
(dSeq (dOps (dV s16 (o.ldN 1 (.t s3))
(vM s17 s1
(dC (some s18) p338 [(.t s16),(.t s17)]
(dU (o.st1 (.t s5) (.t s18))
dE)))))
dRet))),[(.cN s5 1)]⟩
def af337:AF:=afG337 fastO
def afG338 (o:Ops):AF:=⟨(dSeq (dOps (dV s2 (oBox 290 (.t s0))
(dV s4 (oNew [.nilp] 104)
dE)))
(dSeq (dOps (dV s5 (o.ldN 1 (.t s2))
(dC (some s6) p233 [(.t s5)]
(vM s7 s1
(dC (some s8) p184 [(.t s6),(.t s7)]
(dU (o.st1 (.t s4) (.t s8))
dE))))))
dRet)),[(.cN s4 1)]⟩
def af338:AF:=afG338 fastO
def afG339 (o:Ops):AF:=⟨(dSeq (dOps (dV s2 (oBox 30 (.t s0))
(vC s4 .nils
(vC s5 .nils
(dV s6 (oNew [(.int .i64 (.ofNat 0)),(.int .i64 (.ofNat 0)),(.bool false),(.str []),.nils,.nils] 30)
(vC s7 (.bool false)
dE))))))
(dSeq (dSeq (dOps (vM s13 s1
(dV s14 (o.lss (.t s13) (.c (.int .i64 (.ofNat 0))))
(vM s15 s14
(o.g s15 false (some s16) (dV s16 (o.ldN 6 (.t s2)))
(o.g s15 false (some s17) (dC (some s17) p41 [(.t s16)])
(o.g s15 false (some s18) (dV s18 (o.neq (.t s17) (.c (.int .i64 (.ofNat 0)))))
(dV s19 (o.pick (.t s15) (.c (.bool true)) (.t s18))
dE))))))))
(o.cond (.t s19) (dSeq (dOps (dV s20 (oBuild [(.int .i64 (.ofNat 0)),(.int .i64 (.ofNat 0)),(.bool false),(.str []),.nils,.nils] [])
(vC s4 .nils
(vC s5 .nils
(dU (oSt 6 (.t s6) (.t s20))
(vC s7 (.bool false)
dE))))))
dRet) dSkip))
(dSeq (dOps (dV s21 (o.ldN 6 (.t s2))
(dV s8 (oNew [(.int .i64 (.ofNat 0)),(.int .i64 (.ofNat 0)),(.bool false),(.str []),.nils,.nils] 30)
(dU (oSt 6 (.t s8) (.t s21))
dE))))
(dSeq (dOps (dV s9 (oNew [.nils] 28)
dE))
(dSeq (dOps (dV s10 (oNew [.nils] 81)
dE))
(dSeq (dOps (dC (some s22) p370 [(.t s10)]
(dV s11 (oNew [.nilf] 282)
(dU (o.st1 (.t s11) (.t s22))
dE))))
(dSeq (dSeq (dOps (dV s23 (o.ldN 6 (.t s2))
(vM s24 s1
(dC (some s25) p371 [(.t s23),(.t s24)]
dE))))
(dBlock 0 (dRange (.t s25) [s26] (dOps (dV s12 (oNew [(.int .i64 (.ofNat 0)),(.int .i64 (.ofNat 0)),(.bool false),(.str []),.nils,.nils] 30)
(dU (oSt 6 (.t s12) (.t s26))
dE))) (dBlock 1 (dSeq (dDraw2 (lN s27 (o.ld1 (.t s9))
(lN s28 (o.fa 5 (.t s12))
(lN s29 (o.ld1 (.t s28))
(lN s30 (o.ia 6 (.t s29) (.c (.int .i64 (.ofNat 0))))
(lN s31 (o.ldN 6 (.t s30))
(lN s33 (o.len (.t s27))
(lA 7 s34 (floatK (.buildS 30 1 [(.int .i64 (.ofNat 0)),(.int .i64 (.ofNat 0)),(.bool false),(.str []),.nils,.nils] [(0,6,(.c (.agg [(.int .i64 (.ofNat 0)),(.int .i64 (.ofNat 0)),(.bool false),(.str []),.nils,.nils])))]))
(lE [] [(s27,(o.ld1 (.t s9)))] (some s32) (actC p90 [(.t s31)])
(lE [7] [] (some s35) (actV (oApp 30 6 (.t s27) (.t s34)))
sEnd))))))))) s36 6 (.t s35) (.t s33) 6 (.t s32) s9 1 (.t s35))
(dSeq (dOps (dV s37 (o.ld1 (.t s11))
(dV s38 (o.ldN 6 (.t s12))
(dCv (some s39) (.t s37) [(.t s38)]
dE))))
(dOps (dV s40 (o.fa 5 (.t s12))
(dV s41 (o.ld1 (.t s40))
(dV s42 (o.ia 6 (.t s41) (.c (.int .i64 (.ofNat 1))))
(dV s43 (o.ldN 6 (.t s42))
(dU (oSt 6 (.t s8) (.t s43))
dE))))))))))))
(dSeq (dSeq (dOps (dV s44 (o.ld1 (.t s9))
(dV s45 (o.len (.t s44))
(vM s46 s1
(dV s47 (o.lss (.t s45) (.t s46))
dE)))))
(o.cond (.t s47) (dSeq (dOps (dV s48 (oBuild [(.int .i64 (.ofNat 0)),(.int .i64 (.ofNat 0)),(.bool false),(.str []),.nils,.nils] [])
(vC s4 .nils
(vC s5 .nils
(dU (oSt 6 (.t s6) (.t s48))
(vC s7 (.bool false)
dE))))))
dRet) dSkip))
(dSeq (dDraw (lN s49 (o.ld1 (.t s9))
(lN s50 (o.ld1 (.t s10))
(lN s51 (o.ldN 6 (.t s8))
(lE [] [(s49,(o.ld1 (.t s9))),(s50,(o.ld1 (.t s10)))] (some s52) (actC p90 [(.t s51)])
(lM s4 s49
(lM s5 s50
(lE [] [] none (actV (oSt 6 (.t s6) (.t s52)))
(lC s7 (.bool true)
sEnd)))))))))
dRet))))))))),[(.t s4),(.t s5),(.cN s6 6),(.t s7)]⟩
def af339:AF:=afG339 fastO
def afG340 (o:Ops):AF:=⟨(dSeq (dOps (vC s6 (.bool false)
dE))
(dSeq (dSeq (dOps (vM s10 s0
(dV s11 (o.len (.t s10))
(vM s12 s1
(dV s13 (o.len (.t s12))
(dV s14 (o.neq (.t s11) (.t s13))
dE))))))
(o.cond (.t s14) (dSeq (dOps (vC s6 (.bool false)
dE))
dRet) dSkip))
(dSeq (dSeq (dOps (vM s15 s0
(dV s16 (o.len (.t s15))
(vC s17 (.int .i64 (.ofNat 0))
dE))))
(dBlock 0 (dLoop (dSeq (dOps (dV s18 (o.lss (.t s17) (.t s16))
dE))
(dSeq (o.cond (.t s18) dSkip (dExit 0))
(dSeq (dBlock 1 (dSeq (dOps (vM s19 s17
(dV s20 (o.ia 6 (.t s15) (.t s17))
(dV s21 (o.ldN 6 (.t s20))
(dV s8 (oNew [(.int .i64 (.ofNat 0)),(.int .i64 (.ofNat 0)),(.bool false),(.str []),.nils,.nils] 30)
(vM s7 s19
(dU (oSt 6 (.t s8) (.t s21))
dE)))))))
(dSeq (dOps (vM s22 s1
(vM s23 s7
(dV s24 (o.ia 6 (.t s22) (.t s23))
(dV s25 (o.ldN 6 (.t s24))
(dV s9 (oNew [(.int .i64 (.ofNat 0)),(.int .i64 (.ofNat 0)),(.bool false),(.str []),.nils,.nils] 30)
(dU (oSt 6 (.t s9) (.t s25))
dE)))))))
(dSeq (dOps (vM s26 s2
(dV s27 (o.ldN 6 (.t s8))
(dV s28 (o.ldN 6 (.t s9))
(dCv (some s29) (.t s26) [(.t s27),(.t s28)]
(dV s30 (o.not (.t s29))
dE))))))
(o.cond (.t s30) (dSeq (dOps (vC s6 (.bool false)
dE))
dRet) dSkip)))))
(dOps (dV s31 (o.add (.t s17) (.c (.int .i64 (.ofNat 1))))
(vM s17 s31
dE)))))))))
(dSeq (dOps (vC s6 (.bool true)
dE))
dRet)))),[(.t s6)]⟩
def af340:AF:=afG340 fastO
def afG341 (o:Ops):AF:=⟨(dSeq (dOps (dV s2 (oBox 30 (.t s0))
(dV s3 (oBox 30 (.t s1))
(vC s4 (.bool false)
dE))))
(dSeq (dDraw (lN s5 (o.ldN 6 (.t s2))
(lN s7 (o.ldN 6 (.t s3))
(lE [] [(s7,(o.ldN 6 (.t s3)))] (some s6) (actC p373 [(.t s5)])
(lE [] [] (some s8) (actC p373 [(.t s7)])
(lE [] [] (some s9) (actC p372 [(.t s6),(.t s8)])
(lM s4 s9
sEnd)))))))
dRet)),[(.t s4)]⟩
def af341:AF:=afG341 fastO
def afG342 (o:Ops):AF:=⟨(dSeq (dOps (dV s3 (oBox 404 (.t s0))
(dV s4 (oBox 30 (.t s1))
(vC s6 .nils
(vC s7 (.bool false)
dE)))))
(dSeq (dOps (dV s14 (o.ldN 6 (.t s4))
(dC (some s15) p374 [(.t s14)]
(vM s13 s15
(dV s16 (o.ext (.t s13) 0)
(dV s17 (o.ext (.t s13) 1)
(dV s18 (o.ext (.t s13) 2)
(dV s8 (oNew [(.int .i64 (.ofNat 0)),(.int .i64 (.ofNat 0)),(.bool false),(.str []),.nils,.nils] 30)
(dU (oSt 6 (.t s8) (.t s16))
(vM s9 s17
(vM s10 s18
dE)))))))))))
(dSeq (dSeq (dDraw (lN s19 (o.ldN 6 (.t s8))
(lN s20 (o.ldN 21 (.t s3))
(lN s21 (o.fa 0 (.t s3))
(lN s22 (o.fa 1 (.t s21))
(lN s23 (o.ld1 (.t s22))
(lE [] [(s19,(o.ldN 6 (.t s8)))] (some s24) (actC p375 [(.t s20),(.t s23)])
(lE [] [] (some s25) (actC p372 [(.t s19),(.t s24)])
(lN s26 (o.not (.t s25))
(lM s27 s26
(lG s27 false s28 (oMv (.t s9))
(lG s27 false s29 (o.len (.t s28))
(lG s27 false s30 (o.fa 17 (.t s3))
(lG s27 false s31 (o.ld1 (.t s30))
(lG s27 false s32 (o.len (.t s31))
(lG s27 false s33 (o.fa 18 (.t s3))
(lG s27 false s34 (o.ld1 (.t s33))
(lG s27 false s35 (o.len (.t s34))
(lG s27 false s36 (o.add (.t s32) (.t s35))
(lG s27 false s37 (o.neq (.t s29) (.t s36))
(lN s38 (o.pick (.t s27) (.c (.bool true)) (.t s37))
sEnd)))))))))))))))))))))
(o.cond (.t s38) (dSeq (dOps (vC s6 .nils
(vC s7 (.bool false)
dE)))
dRet) dSkip))
(dSeq (dSeq (dOps (vM s39 s9
(dV s40 (o.fa 17 (.t s3))
(dV s41 (o.ld1 (.t s40))
(dV s42 (o.len (.t s41))
(dV s43 (oSl 6 (.t s39) none (some (.t s42)) none)
(dV s44 (o.len (.t s43))
(vC s45 (.int .i64 (.ofNat 0))
dE))))))))
(dBlock 0 (dLoop (dSeq (dOps (dV s46 (o.lss (.t s45) (.t s44))
dE))
(dSeq (o.cond (.t s46) dSkip (dExit 0))
(dSeq (dBlock 1 (dSeq (dOps (vM s47 s45
(dV s48 (o.ia 6 (.t s43) (.t s45))
(dV s49 (o.ldN 6 (.t s48))
(dV s12 (oNew [(.int .i64 (.ofNat 0)),(.int .i64 (.ofNat 0)),(.bool false),(.str []),.nils,.nils] 30)
(vM s11 s47
(dU (oSt 6 (.t s12) (.t s49))
dE)))))))
(dSeq (dDraw (lN s50 (o.ldN 6 (.t s12))
(lM s51 s2
(lN s52 (o.fa 17 (.t s3))
(lN s53 (o.ld1 (.t s52))
(lN s54 (o.len (.t s53))
(lN s55 (o.add (.t s51) (.t s54))
(lN s56 (o.sub (.t s55) (.c (.int .i64 (.ofNat 1))))
(lM s57 s11
(lN s58 (o.sub (.t s56) (.t s57))
(lE [] [(s50,(o.ldN 6 (.t s12)))] (some s59) (actC p376 [(.t s58)])
(lE [] [] (some s60) (actC p372 [(.t s50),(.t s59)])
(lN s61 (o.not (.t s60))
sEnd)))))))))))))
(o.cond (.t s61) (dSeq (dOps (vC s6 .nils
(vC s7 (.bool false)
dE)))
dRet) dSkip))))
(dOps (dV s62 (o.add (.t s45) (.c (.int .i64 (.ofNat 1))))
(vM s45 s62
dE)))))))))
(dSeq (dOps (vM s63 s9
(dV s64 (o.fa 17 (.t s3))
(dV s65 (o.ld1 (.t s64))
(dV s66 (o.len (.t s65))
(dV s67 (oSl 6 (.t s63) (some (.t s66)) none none)
(dC (some s68) p298 [(.t s67)]
(vM s6 s68
(vC s7 (.bool true)
dE)))))))))
dRet))))),[(.t s6),(.t s7)]⟩
def af342:AF:=afG342 fastO
def afG343 (o:Ops):AF:=⟨(dSeq (dOps (dV s2 (oBox 404 (.t s0))
(vC s4 .nils
dE)))
(dSeq (dOps (vC s5 .nils
dE))
(dSeq (dSeq (dOps (vM s12 s1
(dV s13 (o.len (.t s12))
(vC s14 (.int .i64 (.ofNat 0))
dE))))
(dBlock 0 (dLoop (dSeq (dOps (dV s15 (o.lss (.t s14) (.t s13))
dE))
(dSeq (o.cond (.t s15) dSkip (dExit 0))
(dSeq (dBlock 1 (dSeq (dOps (vM s16 s14
(dV s17 (o.ia 6 (.t s12) (.t s14))
(dV s18 (o.ldN 6 (.t s17))
(dV s7 (oNew [(.int .i64 (.ofNat 0)),(.int .i64 (.ofNat 0)),(.bool false),(.str []),.nils,.nils] 30)
(vM s6 s16
(dU (oSt 6 (.t s7) (.t s18))
dE)))))))
(dSeq (dOps (dV s20 (o.ldN 6 (.t s7))
(dC (some s21) p297 [(.t s20)]
(vM s19 s21
(dV s22 (o.ext (.t s19) 0)
(dV s23 (o.ext (.t s19) 1)
(dV s9 (oNew [(.int .i64 (.ofNat 0)),(.int .i64 (.ofNat 0)),(.bool false),(.str []),.nils,.nils] 30)
(vM s8 s22
(dU (oSt 6 (.t s9) (.t s23))
dE)))))))))
(dSeq (dOps (dV s25 (o.ldN 21 (.t s2))
(dV s26 (o.ldN 6 (.t s9))
(vM s27 s6
(vM s28 s8
(dV s29 (o.len (.t s28))
(dV s30 (o.add (.t s27) (.t s29))
(dC (some s31) p342 [(.t s25),(.t s26),(.t s30)]
(vM s24 s31
(dV s32 (o.ext (.t s24) 0)
(dV s33 (o.ext (.t s24) 1)
(vM s10 s32
(vM s11 s33
dE)))))))))))))
(dSeq (dOps (vM s34 s11
dE))
(o.cond (.t s34) (dOps (vM s35 s5
(vM s36 s6
(vM s37 s8
(vM s38 s10
(dV s39 (oBuild [(.int .i64 (.ofNat 0)),.nils,.nils] [(0,1,(.t s36)),(1,1,(.t s37)),(2,1,(.t s38))])
(dV s40 (oBuildS 506 1 [(.int .i64 (.ofNat 0)),.nils,.nils] [(0,3,(.t s39))])
(dV s41 (oApp 506 3 (.t s35) (.t s40))
(vM s5 s41
dE))))))))) dSkip))))))
(dOps (dV s42 (o.add (.t s14) (.c (.int .i64 (.ofNat 1))))
(vM s14 s42
dE)))))))))
(dSeq (dOps (vM s43 s5
(vM s4 s43
dE)))
dRet)))),[(.t s4)]⟩
def af343:AF:=afG343 fastO
def afG344 (o:Ops):AF:=⟨(dSeq (dOps (dV s2 (oBox 434 (.t s0))
(dV s3 (oBox 30 (.t s1))
(dV s4 (oNew [(.int .i64 (.ofNat 0)),(.int .i64 (.ofNat 0)),(.bool false),(.str []),.nils,.nils] 30)
dE))))
(dSeq (dOps (vC s5 (.int .i64 (.ofNat 0))
dE))
(dSeq (dSeq (dDraw (lN s8 (o.fa 0 (.t s2))
(lN s9 (o.ld1 (.t s8))
(lN s11 (o.fa 1 (.t s2))
(lN s12 (o.ld1 (.t s11))
(lA 5 s13 (floatK (.buildS 3 1 [(.int .i64 (.ofNat 0))] [(0,1,(.t s12))]))
(lC s16 (.int .i64 (.ofNat 0))
(lE [] [(s12,(o.ld1 (.t s11)))] (some s10) (actC p377 [(.t s9)])
(lE [5] [] (some s14) (actV (oApp 3 1 (.t s10) (.t s13)))
(lN s15 (o.len (.t s14))
sEnd))))))))))
(dBlock 0 (dLoop (dSeq (dOps (dV s17 (o.lss (.t s16) (.t s15))
dE))
(dSeq (o.cond (.t s17) dSkip (dExit 0))
(dSeq (dBlock 1 (dSeq (dOps (vM s18 s16
(dV s19 (o.ia 1 (.t s14) (.t s16))
(dV s20 (o.ld1 (.t s19))
(vM s6 s18
(vM s7 s20
dE))))))
(dSeq (dOps (dV s21 (o.ldN 6 (.t s3))
(dV s22 (o.fa 0 (.t s2))
(dV s23 (o.ld1 (.t s22))
(dV s24 (o.len (.t s23))
(vM s25 s6
(dV s26 (o.sub (.t s24) (.t s25))
(vM s27 s7
(vM s28 s5
(dV s29 (o.sub (.t s27) (.t s28))
(dC (some s30) p378 [(.t s21),(.t s26),(.t s29)]
(dU (oSt 6 (.t s3) (.t s30))
dE))))))))))))
(dOps (vM s31 s7
(dV s32 (o.add (.t s31) (.c (.int .i64 (.ofNat 1))))
(vM s5 s32
dE)))))))
(dOps (dV s33 (o.add (.t s16) (.c (.int .i64 (.ofNat 1))))
(vM s16 s33
dE)))))))))
(dSeq (dOps (dV s34 (o.ldN 6 (.t s3))
(dU (oSt 6 (.t s4) (.t s34))
dE)))
dRet)))),[(.cN s4 6)]⟩
def af344:AF:=afG344 fastO
def afG345 (o:Ops):AF:=⟨(dSeq (dOps (dV s1 (oBox 434 (.t s0))
(dV s2 (oNew [.nils,(.int .i64 (.ofNat 0))] 434)
dE)))
(dSeq (dDraw (lN s3 (o.fa 0 (.t s1))
(lN s4 (o.ld1 (.t s3))
(lN s6 (o.fa 1 (.t s1))
(lN s7 (o.ld1 (.t s6))
(lA 5 s8 (floatK (.buildS 3 1 [(.int .i64 (.ofNat 0))] [(0,1,(.t s7))]))
(lN s10 (o.fa 1 (.t s1))
(lN s11 (o.ld1 (.t s10))
(lN s12 (o.add (.t s11) (.c (.int .i64 (.ofNat 1))))
(lE [] [(s7,(o.ld1 (.t s6))),(s11,(o.ld1 (.t s10)))] (some s5) (actC p377 [(.t s4)])
(lE [5] [(s11,(o.ld1 (.t s10)))] (some s9) (actV (oApp 3 1 (.t s5) (.t s8)))
(lN s13 (oBuild [.nils,(.int .i64 (.ofNat 0))] [(0,1,(.t s9)),(1,1,(.t s12))])
(lE [5] [] none (actV (oSt 2 (.t s2) (.t s13)))
sEnd)))))))))))))
dRet)),[(.cN s2 2)]⟩
def af345:AF:=afG345 fastO
def afG346 (o:Ops):AF:=⟨(dSeq (dOps (dV s2 (oNew [(.int .i64 (.ofNat 0)),.nils] 50)
dE))
(dSeq (dOps (vM s3 s0
(dV s4 (oBuild [(.int .i64 (.ofNat 0)),(.int .i64 (.ofNat 0))] [(0,1,(.t s3))])
(dV s5 (oBuildS 47 1 [(.int .i64 (.ofNat 0)),(.int .i64 (.ofNat 0))] [(0,2,(.t s4))])
(dV s6 (oBuild [(.int .i64 (.ofNat 0)),.nils] [(1,1,(.t s5))])
(dU (oSt 2 (.t s2) (.t s6))
dE))))))
dRet)),[(.cN s2 2)]⟩
def af346:AF:=afG346 fastO
def afG347 (o:Ops):AF:=⟨(dSeq (dOps (dV s3 (oBox 434 (.t s0))
(dV s4 (oNew [(.int .i64 (.ofNat 0)),(.int .i64 (.ofNat 0)),(.bool false),(.str []),.nils,.nils] 30)
dE)))
(dSeq (dDraw (lN s5 (o.ldN 21 (.t s1))
(lN s6 (o.ldN 2 (.t s3))
(lN s8 (o.ldN 6 (.t s2))
(lE [] [(s8,(o.ldN 6 (.t s2)))] (some s7) (actC p348 [(.t s5),(.t s6)])
(lE [] [] (some s9) (actC p303 [(.t s7),(.t s8)])
(lE [] [] none (actV (oSt 6 (.t s4) (.t s9)))
sEnd)))))))
dRet)),[(.cN s4 6)]⟩
def af347:AF:=afG347 fastO
def afG348 (o:Ops):AF:=⟨(dSeq (dOps (dV s2 (oBox 404 (.t s0))
(dV s3 (oBox 434 (.t s1))
(dV s4 (oNew [(.int .i64 (.ofNat 0)),(.int .i64 (.ofNat 0)),(.bool false),(.str []),.nils,.nils] 30)
dE))))
(dSeq (dDraw (lN s5 (o.ldN 21 (.t s2))
(lN s6 (o.fa 0 (.t s2))
(lN s7 (o.fa 1 (.t s6))
(lN s8 (o.ld1 (.t s7))
(lN s10 (o.ldN 2 (.t s3))
(lN s11 (o.fa 0 (.t s3))
(lN s12 (o.ld1 (.t s11))
(lE [] [(s10,(o.ldN 2 (.t s3))),(s12,(o.ld1 (.t s11)))] (some s9) (actC p375 [(.t s5),(.t s8)])
(lE [] [] (some s13) (actC p351 [(.t s10),(.t s12)])
(lE [] [] (some s14) (actC p352 [(.t s9),(.t s13)])
(lE [] [] none (actV (oSt 6 (.t s4) (.t s14)))
sEnd))))))))))))
dRet)),[(.cN s4 6)]⟩
def af348:AF:=afG348 fastO
def afG349 (o:Ops):AF:=⟨(dSeq (dOps (dV s3 (oBox 404 (.t s0))
(dV s4 (oBox 413 (.t s1))
(dV s5 (oBox 434 (.t s2))
(dV s6 (oNew [(.int .i64 (.ofNat 0)),(.int .i64 (.ofNat 0)),(.bool false),(.str []),.nils,.nils] 30)
dE)))))
(dSeq (dOps (dV s7 (o.ldN 2 (.t s5))
(dV s8 (o.fa 1 (.t s4))
(dV s9 (o.ld1 (.t s8))
(dV s10 (oMkf 379 [] [(.t s3),(.t s4)])
(dC (some s11) p301 [(.t s7),(.t s9),(.t s10)]
(dU (oSt 6 (.t s6) (.t s11))
dE)))))))
dRet)),[(.cN s6 6)]⟩
def af349:AF:=afG349 fastO
def afG350 (o:Ops):AF:=⟨(dSeq (dOps (dV s2 (oBox 434 (.t s0))
(dV s3 (oNew [(.int .i64 (.ofNat 0)),(.int .i64 (.ofNat 0)),(.bool false),(.str []),.nils,.nils] 30)
dE)))
(dSeq (dDraw (lN s7 (o.fa 1 (.t s2))
(lN s8 (o.ld1 (.t s7))
(lN s9 (o.ldN 2 (.t s2))
(lA 4 s5 (aNew [.nils,(.int .i64 (.ofNat 0))] 434)
(lE [] [(s8,(o.ld1 (.t s7)))] (some s10) (actC p306 [(.t s9)])
(lM s4 s8
(lE [4] [] none (actV (oSt 2 (.t s5) (.t s10)))
sEnd))))))))
(dSeq (dDraw (lN s11 (o.ldN 2 (.t s5))
(lN s12 (o.fa 0 (.t s2))
(lN s13 (o.ld1 (.t s12))
(lN s14 (o.fa 17 (.t s1))
(lN s15 (o.ld1 (.t s14))
(lN s16 (o.len (.t s15))
(lN s17 (oSl 1 (.t s13) (some (.t s16)) none none)
(lE [] [] (some s18) (actC p351 [(.t s11),(.t s17)])
(lM s6 s18
sEnd))))))))))
(dSeq (dDraw (lN s19 (o.ldN 21 (.t s1))
(lN s20 (o.ldN 2 (.t s2))
(lN s22 (o.ldN 2 (.t s5))
(lN s23 (o.ldN 21 (.t s1))
(lM s26 s6
(lN s27 (o.ldN 2 (.t s5))
(lM s28 s4
(lE [] [(s22,(o.ldN 2 (.t s5))),(s23,(o.ldN 21 (.t s1))),(s27,(o.ldN 2 (.t s5)))] (some s21) (actC p348 [(.t s19),(.t s20)])
(lE [] [(s22,(o.ldN 2 (.t s5))),(s27,(o.ldN 2 (.t s5)))] (some s24) (actC p354 [(.t s23)])
(lE [] [(s27,(o.ldN 2 (.t s5)))] (some s25) (actC p353 [(.t s22),(.t s24)])
(lE [] [] (some s29) (actC p353 [(.t s27),(.t s28)])
(lA 11 s30 (floatK (.buildS 30 1 [(.int .i64 (.ofNat 0)),(.int .i64 (.ofNat 0)),(.bool false),(.str []),.nils,.nils] [(0,6,(.t s29))]))
(lE [11] [] (some s31) (actV (oApp 30 6 (.t s26) (.t s30)))
(lE [11] [] (some s32) (actC p352 [(.t s25),(.t s31)])
(lE [11] [] (some s33) (actC p303 [(.t s21),(.t s32)])
(lE [11] [] none (actV (oSt 6 (.t s3) (.t s33)))
sEnd)))))))))))))))))
dRet)))),[(.cN s3 6)]⟩
def af350:AF:=afG350 fastO
def afG351 (o:Ops):AF:=⟨(dSeq (dOps (dV s2 (oBox 434 (.t s0))
(vC s4 .nils
dE)))
(dSeq (dOps (vM s5 s1
(dV s6 (o.ldN 2 (.t s2))
(dV s7 (oMkf 353 [(.t s6)] [])
(dC (some s8) p381 [(.t s5),(.t s7)]
(vM s4 s8
dE))))))
dRet)),[(.t s4)]⟩
def af351:AF:=afG351 fastO
def afG352 (o:Ops):AF:=⟨(dSeq (dOps (dV s2 (oBox 30 (.t s0))
(dV s4 (oNew [(.int .i64 (.ofNat 0)),(.int .i64 (.ofNat 0)),(.bool false),(.str []),.nils,.nils] 30)
dE)))
(dSeq (dSeq (dOps (vM s7 s1
(dV s8 (o.len (.t s7))
(vC s9 (.int .i64 (.ofNat 0))
dE))))
(dBlock 0 (dLoop (dSeq (dOps (dV s10 (o.lss (.t s9) (.t s8))
dE))
(dSeq (o.cond (.t s10) dSkip (dExit 0))
(dSeq (dBlock 1 (dSeq (dOps (dV s11 (o.ia 6 (.t s7) (.t s9))
(dV s12 (o.ldN 6 (.t s11))
(dV s6 (oNew [(.int .i64 (.ofNat 0)),(.int .i64 (.ofNat 0)),(.bool false),(.str []),.nils,.nils] 30)
(dU (oSt 6 (.t s6) (.t s12))
dE)))))
(dOps (dV s13 (o.ldN 6 (.t s2))
(dV s14 (o.ldN 6 (.t s6))
(dV s15 (oBuildS 30 2 [(.int .i64 (.ofNat 0)),(.int .i64 (.ofNat 0)),(.bool false),(.str []),.nils,.nils,(.int .i64 (.ofNat 0)),(.int .i64 (.ofNat 0)),(.bool false),(.str []),.nils,.nils] [(0,6,(.t s13)),(6,6,(.t s14))])
(dV s16 (oBuild [(.int .i64 (.ofNat 0)),(.int .i64 (.ofNat 0)),(.bool false),(.str []),.nils,.nils] [(0,1,(.c (.int .i64 (.ofNat 5)))),(5,1,(.t s15))])
(dU (oSt 6 (.t s2) (.t s16))
dE))))))))
(dOps (dV s17 (o.add (.t s9) (.c (.int .i64 (.ofNat 1))))
(vM s9 s17
dE)))))))))
(dSeq (dOps (dV s18 (o.ldN 6 (.t s2))
(dU (oSt 6 (.t s4) (.t s18))
dE)))
dRet))),[(.cN s4 6)]⟩
def af352:AF:=afG352 fastO
def afG353 (o:Ops):AF:=⟨(dSeq (dOps (dV s2 (oBox 434 (.t s0))
(dV s4 (oNew [(.int .i64 (.ofNat 0)),(.int .i64 (.ofNat 0)),(.bool false),(.str []),.nils,.nils] 30)
dE)))
(dSeq (dOps (dV s5 (o.fa 1 (.t s2))
(dV s6 (o.ld1 (.t s5))
(dV s7 (o.sub (.t s6) (.c (.int .i64 (.ofNat 1))))
(vM s8 s1
(dV s9 (o.sub (.t s7) (.t s8))
(dC (some s10) p376 [(.t s9)]
(dU (oSt 6 (.t s4) (.t s10))
dE))))))))
dRet)),[(.cN s4 6)]⟩
def af353:AF:=afG353 fastO
def afG354 (o:Ops):AF:=⟨(dSeq (dOps (dV s1 (oBox 404 (.t s0))
(vC s2 (.int .i64 (.ofNat 0))
dE)))
(dSeq (dOps (dV s3 (o.fa 17 (.t s1))
(dV s4 (o.ld1 (.t s3))
(dV s5 (o.len (.t s4))
(vM s2 s5
dE)))))
dRet)),[(.t s2)]⟩
def af354:AF:=afG354 fastO
def afG355 (o:Ops):AF:=⟨(dSeq (dOps (dV s2 (oBox 50 (.t s0))
(dV s4 (oNew [(.int .i64 (.ofNat 0)),.nils] 50)
(vC s5 (.int .i64 (.ofNat 0))
dE))))
(dSeq (dSeq (dOps (dV s12 (o.ldN 2 (.t s2))
(dC (some s13) p195 [(.t s12)]
(dV s14 (o.not (.t s13))
(vM s15 s14
(o.g s15 false (some s16) (dV s16 (o.ldN 2 (.t s2)))
(o.g s15 false (some s17) (dC (some s17) p205 [(.t s16)])
(o.g s15 false (some s18) (vM s18 s1)
(o.g s15 false (some s19) (dV s19 (o.len (.t s18)))
(o.g s15 false (some s20) (dV s20 (o.gtr (.t s17) (.t s19)))
(dV s21 (o.pick (.t s15) (.c (.bool true)) (.t s20))
(vM s22 s21
(o.g s22 false (some s23) (vM s23 s1)
(o.g s22 false (some s24) (dC (some s24) p131 [(.t s23),(.c (.fn (.func 382) [] []))])
(dV s25 (o.pick (.t s22) (.c (.bool true)) (.t s24))
dE)))))))))))))))
(o.cond (.t s25) (dSeq (dOps (dV s26 (oBuild [(.int .i64 (.ofNat 0)),.nils] [])
(dU (oSt 2 (.t s4) (.t s26))
(vC s5 (.int .i64 (.ofNat 13))
dE))))
dRet) dSkip))
(dSeq (dOps (dV s27 (o.fa 0 (.t s2))
(dV s28 (o.ld1 (.t s27))
(vM s6 s28
dE))))
(dSeq (dOps (vC s7 .nils
dE))
(dSeq (dSeq (dOps (dV s29 (o.fa 1 (.t s2))
(dV s30 (o.ld1 (.t s29))
(dV s31 (o.len (.t s30))
(vC s32 (.int .i64 (.ofNat 0))
dE)))))
(dBlock 0 (dLoop (dSeq (dOps (dV s33 (o.lss (.t s32) (.t s31))
dE))
(dSeq (o.cond (.t s33) dSkip (dExit 0))
(dSeq (dBlock 1 (dSeq (dOps (dV s34 (o.ia 2 (.t s30) (.t s32))
(dV s35 (o.ldN 2 (.t s34))
(dV s9 (oNew [(.int .i64 (.ofNat 0)),(.int .i64 (.ofNat 0))] 47)
(dU (oSt 2 (.t s9) (.t s35))
dE)))))
(dSeq (dDraw (lM s37 s1
(lN s38 (o.fa 0 (.t s9))
(lN s39 (o.ld1 (.t s38))
(lN s40 (o.ia 2 (.t s37) (.t s39))
(lN s41 (o.ldN 2 (.t s40))
(lN s42 (o.fa 1 (.t s9))
(lN s43 (o.ld1 (.t s42))
(lE [] [] (some s44) (actC p206 [(.t s41),(.t s43)])
(lM s36 s44
(lN s45 (o.ext (.t s36) 0)
(lN s46 (o.ext (.t s36) 1)
(lM s10 s45
(lM s11 s46
sEnd))))))))))))))
(dSeq (dOps (vM s47 s6
(vM s48 s10
(dV s49 (oMm true [(.t s47),(.t s48)])
(vM s6 s49
dE)))))
(dOps (vM s50 s7
(vM s51 s11
(dV s52 (oApp 47 2 (.t s50) (.t s51))
(vM s7 s52
dE)))))))))
(dOps (dV s53 (o.add (.t s32) (.c (.int .i64 (.ofNat 1))))
(vM s32 s53
dE)))))))))
(dSeq (dOps (vM s54 s6
(vM s55 s7
(dC (some s56) p196 [(.t s54),(.t s55)]
(dV s57 (o.ext (.t s56) 0)
(dV s58 (o.ext (.t s56) 1)
(dU (oSt 2 (.t s4) (.t s57))
(vM s5 s58
dE))))))))
dRet)))))),[(.cN s4 2),(.t s5)]⟩
def af355:AF:=afG355 fastO
def afG356 (o:Ops):AF:=⟨(dSeq (dOps (vC s10 (.bool true)
dE))
(dSeq (dOps (vC s11 (.bool true)
dE))
(dBlock 0 (dLoop (dBlock 1 (dSeq (dOps (vM s21 s2
(vM s22 s1
(dV s23 (o.sub (.t s21) (.t s22))
(vM s12 s23
dE)))))
(dSeq (dSeq (dOps (vM s24 s12
(dV s25 (o.leq (.t s24) (.c (.int .i64 (.ofNat 12))))
dE)))
(o.cond (.t s25) (dSeq (dOps (vM s26 s0
(vM s27 s1
(vM s28 s2
(vM s29 s4
(dC (some s30) p383 [(.t s26),(.t s27),(.t s28),(.t s29)]
dE))))))
dRet) dSkip))
(dSeq (dSeq (dOps (vM s31 s3
(dV s32 (o.eql (.t s31) (.c (.int .i64 (.ofNat 0))))
dE)))
(o.cond (.t s32) (dSeq (dOps (vM s33 s0
(vM s34 s1
(vM s35 s2
(vM s36 s4
(dC (some s37) p384 [(.t s33),(.t s34),(.t s35),(.t s36)]
dE))))))
dRet) dSkip))
(dSeq (dSeq (dOps (vM s38 s10
(dV s39 (o.not (.t s38))
dE)))
(o.cond (.t s39) (dSeq (dOps (vM s40 s0
(vM s41 s1
(vM s42 s2
(vM s43 s4
(dC (some s44) p385 [(.t s40),(.t s41),(.t s42),(.t s43)]
dE))))))
(dOps (vM s45 s3
(dV s46 (o.sub (.t s45) (.c (.int .i64 (.ofNat 1))))
(vM s3 s46
dE))))) dSkip))
(dSeq (dOps (vM s48 s0
(vM s49 s1
(vM s50 s2
(vM s51 s4
(dC (some s52) p386 [(.t s48),(.t s49),(.t s50),(.t s51)]
(vM s47 s52
(dV s53 (o.ext (.t s47) 0)
(dV s54 (o.ext (.t s47) 1)
(vM s13 s53
(vM s14 s54
dE)))))))))))
(dSeq (dSeq (dOps (vM s55 s14
(dV s56 (o.eql (.t s55) (.c (.int .i64 (.ofNat 2))))
dE)))
(o.cond (.t s56) (dSeq (dOps (vM s57 s0
(vM s58 s1
(vM s59 s2
(vM s60 s4
(dC (some s61) p387 [(.t s57),(.t s58),(.t s59),(.t s60)]
dE))))))
(dSeq (dOps (vM s62 s2
(dV s63 (o.sub (.t s62) (.c (.int .i64 (.ofNat 1))))
(vM s64 s13
(vM s65 s1
(dV s66 (o.sub (.t s64) (.t s65))
(dV s67 (o.sub (.t s63) (.t s66))
(vM s13 s67
dE))))))))
(dOps (vC s14 (.int .i64 (.ofNat 1))
dE)))) dSkip))
(dSeq (dSeq (dOps (vM s68 s10
(vM s69 s68
(o.g s69 true (some s70) (vM s70 s11)
(dV s71 (o.pick (.t s69) (.t s70) (.c (.bool false)))
(vM s72 s71
(o.g s72 true (some s73) (vM s73 s14)
(o.g s72 true (some s74) (dV s74 (o.eql (.t s73) (.c (.int .i64 (.ofNat 1)))))
(dV s75 (o.pick (.t s72) (.t s74) (.c (.bool false)))
dE)))))))))
(o.cond (.t s75) (dSeq (dOps (vM s76 s0
(vM s77 s1
(vM s78 s2
(vM s79 s4
(dC (some s80) p388 [(.t s76),(.t s77),(.t s78),(.t s79)]
dE))))))
(o.cond (.t s80) dRet dSkip)) dSkip))
(dSeq (dSeq (dDraw (lM s81 s1
(lN s82 (o.gtr (.t s81) (.c (.int .i64 (.ofNat 0))))
(lM s83 s82
(lG s83 true s84 (oMv (.t s4))
(lG s83 true s85 (oMv (.t s0))
(lG s83 true s86 (oMv (.t s1))
(lG s83 true s87 (o.sub (.t s86) (.c (.int .i64 (.ofNat 1))))
(lG s83 true s88 (o.ia 4 (.t s85) (.t s87))
(lG s83 true s89 (o.ldN 4 (.t s88))
(lG s83 true s90 (oMv (.t s0))
(lG s83 true s91 (oMv (.t s13))
(lG s83 true s92 (o.ia 4 (.t s90) (.t s91))
(lG s83 true s93 (o.ldN 4 (.t s92))
(lE [] [] (some s94) (eK ⟨(some s94),(.callv (.t s84) [(.t s89),(.t s93)]),(some (s83,true))⟩)
(lG s83 true s95 (o.lss (.t s94) (.c (.int .i64 (.ofNat 0))))
(lG s83 true s96 (o.not (.t s95))
(lN s97 (o.pick (.t s83) (.t s96) (.c (.bool false)))
sEnd))))))))))))))))))
(o.cond (.t s97) (dSeq (dOps (vM s98 s0
(vM s99 s1
(vM s100 s2
(vM s101 s13
(vM s102 s4
(dC (some s103) p389 [(.t s98),(.t s99),(.t s100),(.t s101),(.t s102)]
(vM s15 s103
dE))))))))
(dSeq (dOps (vM s104 s15
(vM s1 s104
dE)))
(dExit 1))) dSkip))
(dSeq (dOps (vM s106 s0
(vM s107 s1
(vM s108 s2
(vM s109 s13
(vM s110 s4
(dC (some s111) p390 [(.t s106),(.t s107),(.t s108),(.t s109),(.t s110)]
(vM s105 s111
(dV s112 (o.ext (.t s105) 0)
(dV s113 (o.ext (.t s105) 1)
(vM s16 s112
(vM s17 s113
dE))))))))))))
(dSeq (dOps (vM s114 s17
(vM s11 s114
dE)))
(dSeq (dOps (vM s115 s16
(vM s116 s1
(dV s117 (o.sub (.t s115) (.t s116))
(vM s118 s2
(vM s119 s16
(dV s120 (o.sub (.t s118) (.t s119))
(vM s18 s117
(vM s19 s120
dE)))))))))
(dSeq (dOps (vM s121 s12
(dV s122 (oAr .quo (.t s121) (.c (.int .i64 (.ofNat 8))))
(vM s20 s122
dE))))
(dSeq (dOps (vM s123 s18
(vM s124 s19
(dV s125 (o.lss (.t s123) (.t s124))
dE))))
(o.cond (.t s125) (dSeq (dOps (vM s126 s18
(vM s127 s20
(dV s128 (o.geq (.t s126) (.t s127))
(vM s10 s128
dE)))))
(dSeq (dOps (vM s129 s0
(vM s130 s1
(vM s131 s16
(vM s132 s3
(vM s133 s4
(dC (some s134) p356 [(.t s129),(.t s130),(.t s131),(.t s132),(.t s133)]
dE)))))))
(dOps (vM s135 s16
(dV s136 (o.add (.t s135) (.c (.int .i64 (.ofNat 1))))
(vM s1 s136
dE)))))) (dSeq (dOps (vM s137 s19
(vM s138 s20
(dV s139 (o.geq (.t s137) (.t s138))
(vM s10 s139
dE)))))
(dSeq (dOps (vM s140 s0
(vM s141 s16
(dV s142 (o.add (.t s141) (.c (.int .i64 (.ofNat 1))))
(vM s143 s2
(vM s144 s3
(vM s145 s4
(dC (some s146) p356 [(.t s140),(.t s142),(.t s143),(.t s144),(.t s145)]
dE))))))))
(dOps (vM s147 s16
(vM s2 s147
dE)))))))))))))))))))))))),[]⟩
def af356:AF:=afG356 fastO
def afG357 (o:Ops):AF:=⟨(dSeq (dOps (vM s12 s1
(vM s10 s12
dE)))
(dBlock 0 (dLoop (dBlock 1 (dSeq (dOps (vM s13 s10
(dV s14 (oAr .mul (.c (.int .i64 (.ofNat 2))) (.t s13))
(dV s15 (o.add (.t s14) (.c (.int .i64 (.ofNat 1))))
(vM s11 s15
dE)))))
(dSeq (dSeq (dOps (vM s16 s11
(vM s17 s2
(dV s18 (o.geq (.t s16) (.t s17))
dE))))
(o.cond (.t s18) (dExit 0) dSkip))
(dSeq (dSeq (dDraw (lM s19 s11
(lN s20 (o.add (.t s19) (.c (.int .i64 (.ofNat 1))))
(lM s21 s2
(lN s22 (o.lss (.t s20) (.t s21))
(lM s23 s22
(lG s23 true s24 (oMv (.t s4))
(lG s23 true s25 (oMv (.t s0))
(lG s23 true s26 (oMv (.t s3))
(lG s23 true s27 (oMv (.t s11))
(lG s23 true s28 (o.add (.t s26) (.t s27))
(lG s23 true s29 (o.ia 2 (.t s25) (.t s28))
(lG s23 true s30 (o.ldN 2 (.t s29))
(lG s23 true s31 (oMv (.t s0))
(lG s23 true s32 (oMv (.t s3))
(lG s23 true s33 (oMv (.t s11))
(lG s23 true s34 (o.add (.t s32) (.t s33))
(lG s23 true s35 (o.add (.t s34) (.c (.int .i64 (.ofNat 1))))
(lG s23 true s36 (o.ia 2 (.t s31) (.t s35))
(lG s23 true s37 (o.ldN 2 (.t s36))
(lE [] [] (some s38) (eK ⟨(some s38),(.callv (.t s24) [(.t s30),(.t s37)]),(some (s23,true))⟩)
(lG s23 true s39 (o.lss (.t s38) (.c (.int .i64 (.ofNat 0))))
(lN s40 (o.pick (.t s23) (.t s39) (.c (.bool false)))
sEnd)))))))))))))))))))))))
(o.cond (.t s40) (dOps (vM s41 s11
(dV s42 (o.add (.t s41) (.c (.int .i64 (.ofNat 1))))
(vM s11 s42
dE)))) dSkip))
(dSeq (dSeq (dDraw (lM s43 s4
(lM s44 s0
(lM s45 s3
(lM s46 s10
(lN s47 (o.add (.t s45) (.t s46))
(lN s48 (o.ia 2 (.t s44) (.t s47))
(lN s49 (o.ldN 2 (.t s48))
(lM s50 s0
(lM s51 s3
(lM s52 s11
(lN s53 (o.add (.t s51) (.t s52))
(lN s54 (o.ia 2 (.t s50) (.t s53))
(lN s55 (o.ldN 2 (.t s54))
(lE [] [] (some s56) (eK ⟨(some s56),(.callv (.t s43) [(.t s49),(.t s55)]),none⟩)
(lN s57 (o.lss (.t s56) (.c (.int .i64 (.ofNat 0))))
(lN s58 (o.not (.t s57))
sEnd)))))))))))))))))
(o.cond (.t s58) dRet dSkip))
(dSeq (dDraw (lM s59 s0
(lM s60 s3
(lM s61 s10
(lN s62 (o.add (.t s60) (.t s61))
(lM s63 s0
(lM s64 s3
(lM s65 s11
(lN s66 (o.add (.t s64) (.t s65))
(lM s67 s0
(lM s68 s3
(lM s69 s11
(lN s70 (o.add (.t s68) (.t s69))
(lN s71 (o.ia 2 (.t s67) (.t s70))
(lN s72 (o.ldN 2 (.t s71))
(lM s73 s0
(lM s74 s3
(lM s75 s10
(lN s76 (o.add (.t s74) (.t s75))
(lN s77 (o.ia 2 (.t s73) (.t s76))
(lN s78 (o.ldN 2 (.t s77))
(lN s79 (o.ia 2 (.t s59) (.t s62))
(lE [] [] none (actV (oSt 2 (.t s79) (.t s72)))
(lN s80 (o.ia 2 (.t s63) (.t s66))
(lE [] [] none (actV (oSt 2 (.t s80) (.t s78)))
sEnd)))))))))))))))))))))))))
(dOps (vM s81 s11
(vM s10 s81
dE)))))))))))),[]⟩
def af357:AF:=afG357 fastO
def afG358 (o:Ops):AF:=⟨(dSeq (dOps (vC s2 (.int .u64 (.ofNat 0))
dE))
(dSeq (dOps (vM s3 s0
(dV s4 (oCvI .u64 (.t s3))
(dC (some s5) p282 [(.t s4)]
(dV s6 (oAr .shl (.c (.int .u64 (.ofNat 1))) (.t s5))
(vM s2 s6
dE))))))
dRet)),[(.t s2)]⟩
def af358:AF:=afG358 fastO
def afG359 (o:Ops):AF:=⟨(dSeq (dOps (vC s2 (.int .u64 (.ofNat 0))
dE))
(dSeq (dDraw (lM s3 s0
(lN s4 (o.nchk (.t s3))
(lN s5 (o.ld1 (.t s4))
(lM s6 s0
(lN s7 (o.nchk (.t s6))
(lN s8 (o.ld1 (.t s7))
(lN s9 (oAr .shl (.t s8) (.c (.int .u64 (.ofNat 13))))
(lN s10 (oAr .xor (.t s5) (.t s9))
(lN s11 (o.nchk (.t s3))
(lE [] [] none (actV (o.st1 (.t s11) (.t s10)))
sEnd)))))))))))
(dSeq (dDraw (lM s12 s0
(lN s13 (o.nchk (.t s12))
(lN s14 (o.ld1 (.t s13))
(lM s15 s0
(lN s16 (o.nchk (.t s15))
(lN s17 (o.ld1 (.t s16))
(lN s18 (oAr .shr (.t s17) (.c (.int .u64 (.ofNat 7))))
(lN s19 (oAr .xor (.t s14) (.t s18))
(lN s20 (o.nchk (.t s12))
(lE [] [] none (actV (o.st1 (.t s20) (.t s19)))
sEnd)))))))))))
(dSeq (dDraw (lM s21 s0
(lN s22 (o.nchk (.t s21))
(lN s23 (o.ld1 (.t s22))
(lM s24 s0
(lN s25 (o.nchk (.t s24))
(lN s26 (o.ld1 (.t s25))
(lN s27 (oAr .shl (.t s26) (.c (.int .u64 (.ofNat 17))))
(lN s28 (oAr .xor (.t s23) (.t s27))
(lN s29 (o.nchk (.t s21))
(lE [] [] none (actV (o.st1 (.t s29) (.t s28)))
sEnd)))))))))))
(dSeq (dOps (vM s30 s0
(dV s31 (o.nchk (.t s30))
(dV s32 (o.ld1 (.t s31))
(vM s2 s32
dE)))))
dRet))))),[(.t s2)]⟩
def af359:AF:=afG359 fastO
def afG360 (o:Ops):AF:=⟨(dSeq (dOps (vC s8 (.int .i64 (.ofNat 0))
dE))
(dSeq (dOps (vM s9 s0
(vM s10 s1
(dV s11 (o.sub (.t s10) (.c (.int .i64 (.ofNat 1))))
(vM s12 s1
(vM s13 s1
(dV s14 (o.add (.t s13) (.c (.int .i64 (.ofNat 1))))
(vM s15 s2
(vM s16 s3
(dC (some s17) p361 [(.t s9),(.t s11),(.t s12),(.t s14),(.t s15),(.t s16)]
(vM s8 s17
dE)))))))))))
dRet)),[(.t s8)]⟩
def af360:AF:=afG360 fastO
def afG361 (o:Ops):AF:=⟨(dSeq (dOps (vC s12 (.int .i64 (.ofNat 0))
dE))
(dSeq (dOps (vM s14 s0
(vM s15 s1
(vM s16 s2
(vM s17 s4
(vM s18 s5
(dC (some s19) p391 [(.t s14),(.t s15),(.t s16),(.t s17),(.t s18)]
(vM s13 s19
(dV s20 (o.ext (.t s13) 0)
(dV s21 (o.ext (.t s13) 1)
(vM s1 s20
(vM s2 s21
dE))))))))))))
(dSeq (dOps (vM s23 s0
(vM s24 s2
(vM s25 s3
(vM s26 s4
(vM s27 s5
(dC (some s28) p391 [(.t s23),(.t s24),(.t s25),(.t s26),(.t s27)]
(vM s22 s28
(dV s29 (o.ext (.t s22) 0)
(dV s30 (o.ext (.t s22) 1)
(vM s2 s29
(vM s3 s30
dE))))))))))))
(dSeq (dOps (vM s32 s0
(vM s33 s1
(vM s34 s2
(vM s35 s4
(vM s36 s5
(dC (some s37) p391 [(.t s32),(.t s33),(.t s34),(.t s35),(.t s36)]
(vM s31 s37
(dV s38 (o.ext (.t s31) 0)
(dV s39 (o.ext (.t s31) 1)
(vM s1 s38
(vM s2 s39
dE))))))))))))
(dSeq (dOps (vM s40 s2
(vM s12 s40
dE)))
dRet))))),[(.t s12)]⟩
def af361:AF:=afG361 fastO
def afG362 (o:Ops):AF:=⟨(dSeq (dOps (dV s2 (oBox 255 (.t s0))
(dV s3 (oBox 170 (.t s1))
(dV s4 (oNew [(.int .i64 (.ofNat 0)),(.int .i64 (.ofNat 0)),(.int .i64 (.ofNat 0)),(.int .i64 (.ofNat 0))] 170)
dE))))
(dSeq (dOps (dV s5 (o.fa 0 (.t s3))
(dV s6 (o.ld1 (.t s5))
(dV s7 (o.fa 1 (.t s2))
(dV s8 (o.ld1 (.t s7))
(dV s9 (o.add (.t s6) (.t s8))
(dV s10 (o.fa 1 (.t s3))
(dV s11 (o.ld1 (.t s10))
(dV s12 (o.fa 0 (.t s2))
(dV s13 (o.ld1 (.t s12))
(dV s14 (o.add (.t s11) (.t s13))
(dV s15 (o.fa 2 (.t s3))
(dV s16 (o.ld1 (.t s15))
(dV s17 (o.fa 3 (.t s3))
(dV s18 (o.ld1 (.t s17))
(dV s19 (oBuild [(.int .i64 (.ofNat 0)),(.int .i64 (.ofNat 0)),(.int .i64 (.ofNat 0)),(.int .i64 (.ofNat 0))] [(0,1,(.t s9)),(1,1,(.t s14)),(2,1,(.t s16)),(3,1,(.t s18))])
(dU (oSt 4 (.t s4) (.t s19))
dE)))))))))))))))))
dRet)),[(.cN s4 4)]⟩
def af362:AF:=afG362 fastO
def afG363 (o:Ops):AF:=⟨(dSeq (dOps (dV s2 (oBox 170 (.t s0))
(dV s3 (oBox 170 (.t s1))
(dV s4 (oNew [(.int .i64 (.ofNat 0)),(.int .i64 (.ofNat 0)),(.int .i64 (.ofNat 0)),(.int .i64 (.ofNat 0))] 170)
dE))))
(dSeq (dOps (dV s5 (o.fa 0 (.t s2))
(dV s6 (o.ld1 (.t s5))
(dV s7 (o.fa 0 (.t s3))
(dV s8 (o.ld1 (.t s7))
(dV s9 (oMm true [(.t s6),(.t s8)])
(dV s10 (o.fa 1 (.t s2))
(dV s11 (o.ld1 (.t s10))
(dV s12 (o.fa 1 (.t s3))
(dV s13 (o.ld1 (.t s12))
(dV s14 (oMm true [(.t s11),(.t s13)])
(dV s15 (o.fa 2 (.t s2))
(dV s16 (o.ld1 (.t s15))
(dV s17 (o.fa 2 (.t s3))
(dV s18 (o.ld1 (.t s17))
(dV s19 (oMm true [(.t s16),(.t s18)])
(dV s20 (o.fa 3 (.t s2))
(dV s21 (o.ld1 (.t s20))
(dV s22 (o.fa 3 (.t s3))
(dV s23 (o.ld1 (.t s22))
(dV s24 (oMm true [(.t s21),(.t s23)])
(dV s25 (oBuild [(.int .i64 (.ofNat 0)),(.int .i64 (.ofNat 0)),(.int .i64 (.ofNat 0)),(.int .i64 (.ofNat 0))] [(0,1,(.t s9)),(1,1,(.t s14)),(2,1,(.t s19)),(3,1,(.t s24))])
(dU (oSt 4 (.t s4) (.t s25))
dE)))))))))))))))))))))))
dRet)),[(.cN s4 4)]⟩
def af363:AF:=afG363 fastO
def afG364 (o:Ops):AF:=⟨(dSeq (dOps (dV s3 (oBox 30 (.t s1))
(vC s4 .nilp
dE)))
(dSeq (dOps (dV s8 (o.ldN 6 (.t s3))
(dC (some s9) p220 [(.t s8)]
(vM s7 s9
(dV s10 (o.ext (.t s7) 0)
(dV s11 (o.ext (.t s7) 1)
(vM s5 s10
(vM s6 s11
dE))))))))
(dSeq (dSeq (dOps (vM s12 s6
(dV s13 (o.neq (.t s12) (.c (.int .i64 (.ofNat 0))))
dE)))
(o.cond (.t s13) (dSeq (dOps (vM s14 s0
(dV s15 (o.ldN 6 (.t s3))
(dC (some s16) p392 [(.t s14),(.t s15)]
(vM s4 s16
dE)))))
dRet) dSkip))
(dSeq (dSeq (dDraw (lM s17 s0
(lN s18 (o.nchk (.t s17))
(lN s19 (o.fa 5 (.t s18))
(lN s20 (o.ld1 (.t s19))
(lM s21 s5
(lN s22 (oCvT (.t s21))
(lN s23 (oLk .nilp false (.t s20) (.t s22))
(lN s24 (o.eqp false (.t s23) (.c .nilp))
sEnd)))))))))
(o.cond (.t s24) (dDraw (lM s25 s0
(lN s26 (o.nchk (.t s25))
(lN s27 (o.fa 5 (.t s26))
(lN s28 (o.ld1 (.t s27))
(lM s29 s5
(lN s30 (oCvT (.t s29))
(lM s31 s0
(lN s32 (o.ldN 6 (.t s3))
(lE [] [(s28,(o.ld1 (.t s27))),(s30,(oCvT (.t s29)))] (some s33) (actC p392 [(.t s31),(.t s32)])
(lE [] [] none (actV (oUp (.t s28) (.t s30) (.t s33)))
sEnd))))))))))) dSkip))
(dSeq (dDraw (lM s34 s0
(lN s35 (o.nchk (.t s34))
(lN s36 (o.fa 5 (.t s35))
(lN s37 (o.ld1 (.t s36))
(lM s38 s5
(lN s39 (oCvT (.t s38))
(lN s40 (oLk .nilp false (.t s37) (.t s39))
(lM s4 s40
sEnd)))))))))
dRet))))),[(.t s4)]⟩
def af364:AF:=afG364 fastO
def afG365 (o:Ops):AF:=⟨(dSeq (dOps (dV s2 (oBox 30 (.t s0))
(dV s4 (oNew [(.int .i64 (.ofNat 0)),(.int .i64 (.ofNat 0)),(.bool false),(.str []),.nils,.nils] 30)
dE)))
(dSeq (dOps (dV s8 (o.ldN 6 (.t s2))
(vM s9 s1
(dC (some s10) p249 [(.t s8),(.t s9)]
(vM s7 s10
(dV s11 (o.ext (.t s7) 0)
(dV s12 (o.ext (.t s7) 1)
(dV s5 (oNew [(.int .i64 (.ofNat 0)),(.int .i64 (.ofNat 0)),(.bool false),(.str []),.nils,.nils] 30)
(dU (oSt 6 (.t s5) (.t s11))
(vM s6 s12
dE))))))))))
(dSeq (dSeq (dOps (vM s13 s6
(dV s14 (o.eql (.t s13) (.c (.int .i64 (.ofNat 0))))
dE)))
(o.cond (.t s14) (dSeq (dOps (dV s15 (o.ldN 6 (.t s5))
(dU (oSt 6 (.t s4) (.t s15))
dE)))
dRet) dSkip))
(dSeq (dSeq (dDraw (lN s17 (o.ldN 6 (.t s2))
(lM s18 s1
(lN s19 (o.len (.t s18))
(lE [] [(s17,(o.ldN 6 (.t s2)))] (some s20) (actV (oMkS 50 2 [(.int .i64 (.ofNat 0)),.nils] (.t s19) (.t s19)))
(lE [] [] (some s21) (actC p249 [(.t s17),(.t s20)])
(lM s16 s21
(lN s22 (o.ext (.t s16) 0)
(lN s23 (o.ext (.t s16) 1)
(lM s6 s23
sEnd))))))))))
(dSeq (dOps (vM s24 s6
(dV s25 (o.eql (.t s24) (.c (.int .i64 (.ofNat 0))))
dE)))
(o.cond (.t s25) (dOps (vC s6 (.int .i64 (.ofNat 2))
dE)) dSkip)))
(dSeq (dOps (vM s26 s6
(dC (some s27) p187 [(.t s26)]
dE)))
(dSeq (dOps (dV s28 (oBuild [(.int .i64 (.ofNat 0)),(.int .i64 (.ofNat 0)),(.bool false),(.str []),.nils,.nils] [])
(dU (oSt 6 (.t s4) (.t s28))
dE)))
dRet)))))),[(.cN s4 6)]⟩
def af365:AF:=afG365 fastO
def afG366 (o:Ops):AF:=⟨(dSeq (dOps (vC s2 (.int .i64 (.ofNat 0))
dE))
(dSeq (dDraw (lM s3 s0
(lN s4 (o.nchk (.t s3))
(lN s5 (o.fa 18 (.t s4))
(lN s6 (o.ld1 (.t s5))
(lN s7 (o.add (.t s6) (.c (.int .i64 (.ofNat 1))))
(lM s8 s0
(lN s9 (o.nchk (.t s8))
(lN s10 (o.fa 20 (.t s9))
(lN s11 (o.ld1 (.t s10))
(lN s12 (o.len (.t s11))
(lN s13 (o.add (.t s7) (.t s12))
(lM s2 s13
sEnd)))))))))))))
dRet)),[(.t s2)]⟩
def af366:AF:=afG366 fastO
def afG367 (o:Ops):AF:=⟨(dSeq (dOps (vC s2 (.int .i64 (.ofNat 0))
(vC s3 (.bool false)
dE)))
(dSeq (dOps (dC (some s11) p246 []
(vM s10 s11
(dV s12 (o.ext (.t s10) 0)
(dV s13 (o.ext (.t s10) 1)
(dV s14 (o.ext (.t s10) 2)
(dV s15 (o.ext (.t s10) 3)
(dV s16 (o.ext (.t s10) 4)
(dV s17 (o.ext (.t s10) 5)
(vM s4 s12
(vM s5 s13
(vM s6 s14
(vM s7 s15
(vM s8 s16
(vM s9 s17
dE)))))))))))))))
(dSeq (dDraw (lM s18 s0
(lN s19 (o.nchk (.t s18))
(lN s20 (o.fa 6 (.t s19))
(lN s21 (o.ld1 (.t s20))
(lM s22 s8
(lN s23 (o.sub (.t s21) (.t s22))
(lN s24 (oAr .quo (.t s23) (.c (.int .i64 (.ofNat 2))))
(lM s25 s0
(lN s26 (o.nchk (.t s25))
(lN s27 (o.fa 6 (.t s26))
(lN s28 (o.ld1 (.t s27))
(lM s29 s8
(lN s30 (o.geq (.t s28) (.t s29))
(lM s31 s30
(lG s31 true s32 (oMv (.t s0))
(lG s31 true s33 (o.nchk (.t s32))
(lG s31 true s34 (o.fa 6 (.t s33))
(lG s31 true s35 (o.ld1 (.t s34))
(lG s31 true s36 (oMv (.t s9))
(lG s31 true s37 (o.neq (.t s35) (.t s36))
(lN s38 (o.pick (.t s31) (.t s37) (.c (.bool false)))
(lM s2 s24
(lM s3 s38
sEnd))))))))))))))))))))))))
dRet))),[(.t s2),(.t s3)]⟩
def af367:AF:=afG367 fastO
def afG368 (o:Ops):AF:=⟨(dSeq (dOps (vC s4 .nilp
dE))
(dSeq (dSeq (dOps (vM s9 s0
(dV s10 (o.nchk (.t s9))
(dV s11 (o.fa 20 (.t s10))
(dV s12 (o.ld1 (.t s11))
(vM s13 s1
(dV s14 (o.ia 1 (.t s12) (.t s13))
(dV s15 (o.ld1 (.t s14))
(dV s16 (o.eqp false (.t s15) (.c .nilp))
dE)))))))))
(o.cond (.t s16) (dSeq (dOps (vM s18 s0
(dV s19 (o.nchk (.t s18))
(dV s20 (o.fa 0 (.t s19))
(dV s21 (o.ldN 17 (.t s20))
(vM s22 s1
(dC (some s23) p393 [(.t s21),(.t s22)]
(vM s17 s23
(dV s24 (o.ext (.t s17) 0)
(dV s25 (o.ext (.t s17) 1)
(dV s26 (o.ext (.t s17) 2)
(dV s27 (o.ext (.t s17) 3)
(vM s5 s24
(vM s6 s25
(vM s7 s26
(vM s8 s27
dE))))))))))))))))
(dDraw (lM s28 s0
(lN s29 (o.nchk (.t s28))
(lN s30 (o.fa 20 (.t s29))
(lN s31 (o.ld1 (.t s30))
(lM s32 s1
(lM s33 s8
(lN s34 (o.eql (.t s33) (.c (.int .i64 (.ofNat 0))))
(lM s35 s0
(lN s36 (o.nchk (.t s35))
(lN s37 (o.fa 18 (.t s36))
(lN s38 (o.ld1 (.t s37))
(lM s39 s5
(lN s40 (o.len (.t s39))
(lN s41 (o.add (.t s38) (.t s40))
(lM s42 s5
(lM s43 s6
(lN s44 (oBuild [(.bool false),(.int .i64 (.ofNat 0)),.nils,.nils] [(0,1,(.t s34)),(1,1,(.t s41)),(2,1,(.t s42)),(3,1,(.t s43))])
(lA 17 s45 (aBox 495 (.t s44))
(lN s46 (o.ia 1 (.t s31) (.t s32))
(lE [17] [] none (actV (o.st1 (.t s46) (.t s45)))
sEnd)))))))))))))))))))))) dSkip))
(dSeq (dOps (vM s47 s0
(dV s48 (o.nchk (.t s47))
(dV s49 (o.fa 20 (.t s48))
(dV s50 (o.ld1 (.t s49))
(vM s51 s1
(dV s52 (o.ia 1 (.t s50) (.t s51))
(dV s53 (o.ld1 (.t s52))
(vM s4 s53
dE)))))))))
dRet))),[(.t s4)]⟩
def af368:AF:=afG368 fastO
def afG369 (o:Ops):AF:=⟨(dSeq (dOps (dV s2 (oBox 497 (.t s0))
(dV s4 (oNew [(.int .i64 (.ofNat 0)),(.int .i64 (.ofNat 0)),(.bool false),(.str []),.nils,.nils] 30)
dE)))
(dSeq (dDraw (lN s9 (o.fa 6 (.t s2))
(lN s10 (o.ld1 (.t s9))
(lN s12 (o.fa 7 (.t s2))
(lN s13 (o.ld1 (.t s12))
(lN s14 (o.nchk (.t s13))
(lN s15 (o.fa 2 (.t s14))
(lN s16 (o.ld1 (.t s15))
(lN s17 (o.len (.t s16))
(lE [] [(s13,(o.ld1 (.t s12))),(s16,(o.ld1 (.t s15)))] (some s11) (actC p366 [(.t s10)])
(lN s18 (o.add (.t s11) (.t s17))
(lM s5 s18
sEnd))))))))))))
(dSeq (dDraw (lM s19 s5
(lN s20 (o.fa 6 (.t s2))
(lN s21 (o.ld1 (.t s20))
(lN s22 (o.nchk (.t s21))
(lN s23 (o.fa 18 (.t s22))
(lN s24 (o.ld1 (.t s23))
(lN s25 (o.add (.t s24) (.c (.int .i64 (.ofNat 1))))
(lM s26 s1
(lN s27 (o.add (.t s25) (.t s26))
(lM s31 s5
(lN s32 (o.fa 6 (.t s2))
(lN s33 (o.ld1 (.t s32))
(lN s35 (o.fa 7 (.t s2))
(lN s36 (o.ld1 (.t s35))
(lN s37 (o.nchk (.t s36))
(lN s38 (o.fa 2 (.t s37))
(lN s39 (o.ld1 (.t s38))
(lN s40 (o.len (.t s39))
(lA 24 s6 (aNew [(.int .i64 (.ofNat 0)),(.int .i64 (.ofNat 0)),(.bool false),(.str []),.nils,.nils] 30)
(lE [] [(s33,(o.ld1 (.t s32))),(s36,(o.ld1 (.t s35))),(s39,(o.ld1 (.t s38)))] (some s28) (actC p395 [(.t s19),(.t s27),(.c (.int .i64 (.ofNat 1)))])
(lN s29 (o.ia 6 (.t s28) (.c (.int .i64 (.ofNat 0))))
(lN s30 (o.ldN 6 (.t s29))
(lE [] [(s36,(o.ld1 (.t s35))),(s39,(o.ld1 (.t s38))),(s30,(o.ldN 6 (.t s29)))] (some s34) (actC p366 [(.t s33)])
(lE [] [(s30,(o.ldN 6 (.t s29)))] (some s41) (actC p395 [(.t s31),(.t s34),(.t s40)])
(lE [] [] (some s42) (actC p394 [(.t s30),(.t s41)])
(lE [24] [] none (actV (oSt 6 (.t s6) (.t s42)))
sEnd)))))))))))))))))))))))))))
(dSeq (dSeq (dOps (dV s43 (o.fa 7 (.t s2))
(dV s44 (o.ld1 (.t s43))
(dV s45 (o.nchk (.t s44))
(dV s46 (o.fa 3 (.t s45))
(dV s47 (o.ld1 (.t s46))
(dV s48 (o.len (.t s47))
(vC s49 (.int .i64 (.ofNat 0))
dE))))))))
(dBlock 0 (dLoop (dSeq (dOps (dV s50 (o.lss (.t s49) (.t s48))
dE))
(dSeq (o.cond (.t s50) dSkip (dExit 0))
(dSeq (dBlock 1 (dSeq (dOps (dV s51 (o.ia 1 (.t s47) (.t s49))
(dV s52 (o.ld1 (.t s51))
(vM s8 s52
dE))))
(dDraw (lN s53 (o.ldN 6 (.t s6))
(lN s54 (o.ldN 8 (.t s2))
(lM s55 s8
(lE [] [(s53,(o.ldN 6 (.t s6)))] (some s56) (actC p396 [(.t s54),(.t s55)])
(lA 4 s57 (floatK (.buildS 30 1 [(.int .i64 (.ofNat 0)),(.int .i64 (.ofNat 0)),(.bool false),(.str []),.nils,.nils] [(0,6,(.t s56))]))
(lE [4] [] (some s58) (actC p394 [(.t s53),(.t s57)])
(lE [4] [] none (actV (oSt 6 (.t s6) (.t s58)))
sEnd))))))))))
(dOps (dV s59 (o.add (.t s49) (.c (.int .i64 (.ofNat 1))))
(vM s49 s59
dE)))))))))
(dSeq (dOps (dV s60 (o.ldN 6 (.t s6))
(dU (oSt 6 (.t s4) (.t s60))
dE)))
dRet))))),[(.cN s4 6)]⟩
def af369:AF:=afG369 fastO
def afG370 (o:Ops):AF:=⟨(dSeq (dOps (dV s1 (oBox 499 (.t s0))
(vC s2 .nilf
dE)))
(dSeq (dOps (dV s3 (oMkf 397 [] [(.t s1)])
(vM s2 s3
dE)))
dRet)),[(.t s2)]⟩
def af370:AF:=afG370 fastO
def afG371 (o:Ops):AF:=⟨(dSeq (dOps (dV s2 (oBox 30 (.t s0))
(dV s3 (oBox 3 (.t s1))
(vC s4 .nilf
dE))))
(dSeq (dOps (dV s5 (oMkf 398 [] [(.t s2),(.t s3)])
(vM s4 s5
dE)))
dRet)),[(.t s4)]⟩
def af371:AF:=afG371 fastO
def afG372 (o:Ops):AF:=⟨(dSeq (dOps (dV s2 (oBox 30 (.t s0))
(dV s3 (oBox 30 (.t s1))
(vC s4 (.bool false)
dE))))
(dSeq (dOps (dV s5 (o.ldN 6 (.t s2))
(dC (some s6) p41 [(.t s5)]
(dV s7 (o.eql (.t s6) (.c (.int .i64 (.ofNat 0))))
(vM s8 s7
(o.g s8 true (some s9) (dV s9 (o.ldN 6 (.t s3)))
(o.g s8 true (some s10) (dC (some s10) p41 [(.t s9)])
(o.g s8 true (some s11) (dV s11 (o.eql (.t s10) (.c (.int .i64 (.ofNat 0)))))
(dV s12 (o.pick (.t s8) (.t s11) (.c (.bool false)))
(vM s13 s12
(o.g s13 true (some s14) (dV s14 (o.ldN 6 (.t s2)))
(o.g s13 true (some s15) (dV s15 (o.ldN 6 (.t s3)))
(o.g s13 true (some s16) (dC (some s16) p399 [(.t s14),(.t s15)])
(dV s17 (o.pick (.t s13) (.t s16) (.c (.bool false)))
(vM s4 s17
dE)))))))))))))))
dRet)),[(.t s4)]⟩
def af372:AF:=afG372 fastO
def afG373 (o:Ops):AF:=⟨(dSeq (dOps (dV s1 (oBox 30 (.t s0))
(dV s2 (oNew [(.int .i64 (.ofNat 0)),(.int .i64 (.ofNat 0)),(.bool false),(.str []),.nils,.nils] 30)
dE)))
(dSeq (dOps (dV s3 (o.fa 2 (.t s1))
(dU (o.st1 (.t s3) (.c (.bool false)))
dE)))
(dSeq (dOps (dV s4 (o.fa 5 (.t s1))
(dV s5 (o.ld1 (.t s4))
(dC (some s6) p400 [(.t s5),(.c (.fn (.func 373) [] []))]
(dV s7 (o.fa 5 (.t s1))
(dU (o.st1 (.t s7) (.t s6))
dE))))))
(dSeq (dOps (dV s8 (o.ldN 6 (.t s1))
(dU (oSt 6 (.t s2) (.t s8))
dE)))
dRet)))),[(.cN s2 6)]⟩
def af373:AF:=afG373 fastO
def afG374 (o:Ops):AF:=⟨(dSeq (dOps (dV s1 (oBox 30 (.t s0))
(dV s2 (oNew [(.int .i64 (.ofNat 0)),(.int .i64 (.ofNat 0)),(.bool false),(.str []),.nils,.nils] 30)
(vC s3 .nils
(vC s4 .nils
dE)))))
(dSeq (dSeq (dOps (dV s6 (o.ldN 6 (.t s1))
(dC (some s7) p41 [(.t s6)]
(dV s8 (o.neq (.t s7) (.c (.int .i64 (.ofNat 0))))
dE))))
(o.cond (.t s8) (dSeq (dOps (dV s9 (o.ldN 6 (.t s1))
(dC (some s10) p90 [(.t s9)]
(dU (oSt 6 (.t s2) (.t s10))
(vC s3 .nils
(vC s4 .nils
dE))))))
dRet) dSkip))
(dSeq (dOps (vC s5 .nils
dE))
(dSeq (dBlock 0 (dLoop (dSeq (dSeq (dOps (dV s11 (o.fa 0 (.t s1))
(dV s12 (o.ld1 (.t s11))
(dV s13 (o.eql (.t s12) (.c (.int .i64 (.ofNat 5))))
dE))))
(o.cond (.t s13) dSkip (dExit 0)))
(dBlock 1 (dSeq (dOps (vM s14 s5
(dV s15 (o.ldN 6 (.t s1))
(dV s16 (oBuildS 30 1 [(.int .i64 (.ofNat 0)),(.int .i64 (.ofNat 0)),(.bool false),(.str []),.nils,.nils] [(0,6,(.t s15))])
(dV s17 (oApp 30 6 (.t s14) (.t s16))
(vM s5 s17
dE))))))
(dOps (dV s18 (o.fa 5 (.t s1))
(dV s19 (o.ld1 (.t s18))
(dV s20 (o.ia 6 (.t s19) (.c (.int .i64 (.ofNat 0))))
(dV s21 (o.ldN 6 (.t s20))
(dU (oSt 6 (.t s1) (.t s21))
dE)))))))))))
(dSeq (dOps (dV s22 (o.ldN 6 (.t s1))
(vM s23 s5
(dC (some s24) p401 [(.t s22),(.t s23)]
(dV s25 (o.ext (.t s24) 0)
(dV s26 (o.ext (.t s24) 1)
(dV s27 (o.ext (.t s24) 2)
(dU (oSt 6 (.t s2) (.t s25))
(vM s3 s26
(vM s4 s27
dE))))))))))
dRet))))),[(.cN s2 6),(.t s3),(.t s4)]⟩
def af374:AF:=afG374 fastO
def afG375 (o:Ops):AF:=⟨(dSeq (dOps (dV s2 (oBox 404 (.t s0))
(dV s4 (oNew [(.int .i64 (.ofNat 0)),(.int .i64 (.ofNat 0)),(.bool false),(.str []),.nils,.nils] 30)
dE)))
(dSeq (dOps (vM s7 s1
(dV s8 (oBuild [(.int .i64 (.ofNat 0)),(.int .i64 (.ofNat 0)),(.bool false),(.str []),.nils,.nils] [(0,1,(.c (.int .i64 (.ofNat 10)))),(3,1,(.t s7))])
(dV s5 (oNew [(.int .i64 (.ofNat 0)),(.int .i64 (.ofNat 0)),(.bool false),(.str []),.nils,.nils] 30)
(dU (oSt 6 (.t s5) (.t s8))
dE)))))
(dSeq (dSeq (dOps (dV s9 (o.fa 0 (.t s2))
(dV s10 (o.fa 2 (.t s9))
(dV s11 (o.ld1 (.t s10))
(vC s12 (.int .i64 (.ofNat 0))
dE)))))
(dBlock 0 (dLoop (dSeq (dOps (dV s13 (o.lss (.t s12) (.t s11))
dE))
(dSeq (o.cond (.t s13) dSkip (dExit 0))
(dSeq (dBlock 1 (dSeq (dOps (vM s14 s12
(vM s6 s14
dE)))
(dDraw (lN s15 (o.fa 4 (.t s5))
(lN s16 (o.ld1 (.t s15))
(lM s17 s6
(lE [] [(s16,(o.ld1 (.t s15)))] (some s18) (actC p346 [(.t s17)])
(lA 4 s19 (floatK (.buildS 50 1 [(.int .i64 (.ofNat 0)),.nils] [(0,2,(.t s18))]))
(lE [4] [] (some s20) (actV (oApp 50 2 (.t s16) (.t s19)))
(lN s21 (o.fa 4 (.t s5))
(lE [4] [] none (actV (o.st1 (.t s21) (.t s20)))
sEnd)))))))))))
(dOps (dV s22 (o.add (.t s12) (.c (.int .i64 (.ofNat 1))))
(vM s12 s22
dE)))))))))
(dSeq (dOps (dV s23 (o.ldN 6 (.t s5))
(dU (oSt 6 (.t s4) (.t s23))
dE)))
dRet)))),[(.cN s4 6)]⟩
def af375:AF:=afG375 fastO
def afG376 (o:Ops):AF:=⟨(dSeq (dOps (dV s2 (oNew [(.int .i64 (.ofNat 0)),(.int .i64 (.ofNat 0)),(.bool false),(.str []),.nils,.nils] 30)
dE))
(dSeq (dOps (vM s3 s0
(dV s4 (oBuild [(.int .i64 (.ofNat 0)),(.int .i64 (.ofNat 0)),(.bool false),(.str []),.nils,.nils] [(0,1,(.c (.int .i64 (.ofNat 1)))),(1,1,(.t s3))])
(dU (oSt 6 (.t s2) (.t s4))
dE))))
dRet)),[(.cN s2 6)]⟩
def af376:AF:=afG376 fastO
def afG377 (o:Ops):AF:=⟨(dSeq (dOps (vC s2 .nils
dE))
(dSeq (dOps (vM s3 s0
(vM s4 s0
(dV s5 (o.len (.t s4))
(vM s6 s0
(dV s7 (o.len (.t s6))
(dV s8 (oSl 1 (.t s3) none (some (.t s5)) (some (.t s7)))
(vM s2 s8
dE))))))))
dRet)),[(.t s2)]⟩
def af377:AF:=afG377 fastO
def afG378 (o:Ops):AF:=⟨(dSeq (dOps (dV s3 (oBox 30 (.t s0))
(dV s6 (oNew [(.int .i64 (.ofNat 0)),(.int .i64 (.ofNat 0)),(.bool false),(.str []),.nils,.nils] 30)
dE)))
(dSeq (dSeq (dOps (vM s7 s2
(dV s8 (o.eql (.t s7) (.c (.int .i64 (.ofNat 0))))
dE)))
(o.cond (.t s8) (dSeq (dOps (dV s9 (o.ldN 6 (.t s3))
(dU (oSt 6 (.t s6) (.t s9))
dE)))
dRet) dSkip))
(dSeq (dOps (dV s11 (o.ldN 6 (.t s3))
(vM s12 s1
(vM s13 s2
(dC (some s14) p402 [(.t s11),(.t s12),(.t s13)]
(vM s10 s14
(dV s15 (o.ext (.t s10) 0)
(dV s16 (o.ext (.t s10) 1)
(dU (oSt 6 (.t s3) (.t s15))
dE)))))))))
(dSeq (dOps (dV s17 (o.ldN 6 (.t s3))
(dU (oSt 6 (.t s6) (.t s17))
dE)))
dRet)))),[(.cN s6 6)]⟩
def af378:AF:=afG378 fastO
def afG379 (o:Ops):AF:=⟨(dSeq (dOps (dV s3 (oBox 434 (.t s0))
(dV s4 (oNew [(.int .i64 (.ofNat 0)),(.int .i64 (.ofNat 0)),(.bool false),(.str []),.nils,.nils] 30)
dE)))
(dSeq (dOps (dV s5 (o.ldN 21 (.t s1))
(dV s6 (o.ldN 4 (.t s2))
(dV s7 (o.fa 2 (.t s2))
(dV s8 (o.ld1 (.t s7))
(dV s9 (o.ldN 2 (.t s3))
(dC (some s10) p380 [(.t s5),(.t s6),(.t s8),(.t s9)]
(dU (oSt 6 (.t s4) (.t s10))
dE))))))))
dRet)),[(.cN s4 6)]⟩
def af379:AF:=afG379 fastO
def afG380 (o:Ops):AF:=⟨(dSeq (dOps (dV s4 (oBox 404 (.t s0))
(dV s5 (oBox 413 (.t s1))
(dV s7 (oBox 434 (.t s3))
(dV s8 (oNew [(.int .i64 (.ofNat 0)),(.int .i64 (.ofNat 0)),(.bool false),(.str []),.nils,.nils] 30)
dE)))))
(dSeq (dSeq (dOps (vM s10 s2
(dV s11 (o.len (.t s10))
(dV s12 (o.gtr (.t s11) (.c (.int .i64 (.ofNat 0))))
dE))))
(o.cond (.t s12) (dSeq (dDraw (lN s13 (o.ldN 21 (.t s4))
(lM s14 s2
(lN s15 (o.ia 3 (.t s14) (.c (.int .i64 (.ofNat 0))))
(lN s16 (o.ldN 3 (.t s15))
(lN s17 (o.ldN 2 (.t s7))
(lN s19 (o.ldN 21 (.t s4))
(lN s20 (o.ldN 4 (.t s5))
(lM s21 s2
(lN s22 (oSl 3 (.t s21) (some (.c (.int .i64 (.ofNat 1)))) none none)
(lN s23 (o.ldN 2 (.t s7))
(lE [] [(s19,(o.ldN 21 (.t s4))),(s20,(o.ldN 4 (.t s5))),(s23,(o.ldN 2 (.t s7)))] (some s18) (actC p403 [(.t s13),(.t s16),(.t s17)])
(lE [] [(s19,(o.ldN 21 (.t s4))),(s20,(o.ldN 4 (.t s5)))] (some s24) (actC p306 [(.t s23)])
(lE [] [] (some s25) (actC p380 [(.t s19),(.t s20),(.t s22),(.t s24)])
(lE [] [] (some s26) (actC p303 [(.t s18),(.t s25)])
(lE [] [] none (actV (oSt 6 (.t s8) (.t s26)))
sEnd))))))))))))))))
dRet) dSkip))
(dSeq (dDraw (lN s27 (o.ldN 21 (.t s4))
(lN s28 (o.fa 0 (.t s5))
(lN s29 (o.ld1 (.t s28))
(lN s31 (o.ldN 2 (.t s7))
(lN s32 (o.fa 0 (.t s7))
(lN s33 (o.ld1 (.t s32))
(lA 9 s9 (aNew [(.int .i64 (.ofNat 0)),(.int .i64 (.ofNat 0)),(.bool false),(.str []),.nils,.nils] 30)
(lE [] [(s31,(o.ldN 2 (.t s7))),(s33,(o.ld1 (.t s32)))] (some s30) (actC p375 [(.t s27),(.t s29)])
(lE [] [] (some s34) (actC p351 [(.t s31),(.t s33)])
(lE [] [] (some s35) (actC p352 [(.t s30),(.t s34)])
(lE [9] [] none (actV (oSt 6 (.t s9) (.t s35)))
sEnd))))))))))))
(dSeq (dDraw (lN s36 (o.ldN 2 (.t s7))
(lN s37 (o.ldN 21 (.t s4))
(lN s40 (o.ldN 2 (.t s7))
(lN s41 (o.fa 3 (.t s5))
(lN s42 (o.ld1 (.t s41))
(lN s44 (o.ldN 6 (.t s9))
(lA 9 s45 (floatK (.buildS 30 1 [(.int .i64 (.ofNat 0)),(.int .i64 (.ofNat 0)),(.bool false),(.str []),.nils,.nils] [(0,6,(.t s44))]))
(lE [] [(s36,(o.ldN 2 (.t s7))),(s40,(o.ldN 2 (.t s7))),(s42,(o.ld1 (.t s41))),(s44,(o.ldN 6 (.t s9)))] (some s38) (actC p354 [(.t s37)])
(lE [] [(s40,(o.ldN 2 (.t s7))),(s42,(o.ld1 (.t s41))),(s44,(o.ldN 6 (.t s9)))] (some s39) (actC p353 [(.t s36),(.t s38)])
(lE [] [(s44,(o.ldN 6 (.t s9)))] (some s43) (actC p404 [(.t s40),(.t s42)])
(lE [9] [] (some s46) (actV (oApp 30 6 (.t s43) (.t s45)))
(lE [9] [] (some s47) (actC p352 [(.t s39),(.t s46)])
(lE [9] [] none (actV (oSt 6 (.t s8) (.t s47)))
sEnd))))))))))))))
dRet)))),[(.cN s8 6)]⟩
def af380:AF:=afG380 fastO
def afG381 (o:Ops):AF:=⟨(dSeq (dOps (vC s4 .nils
dE))
(dSeq (dOps (vC s5 .nils
dE))
(dSeq (dSeq (dOps (vM s8 s0
(dV s9 (o.len (.t s8))
(vC s10 (.int .i64 (.ofNat 0))
dE))))
(dBlock 0 (dLoop (dSeq (dOps (dV s11 (o.lss (.t s10) (.t s9))
dE))
(dSeq (o.cond (.t s11) dSkip (dExit 0))
(dSeq (dBlock 1 (dSeq (dOps (dV s12 (o.ia 1 (.t s8) (.t s10))
(dV s13 (o.ld1 (.t s12))
(vM s7 s13
dE))))
(dOps (vM s14 s5
(vM s15 s1
(vM s16 s7
(dCv (some s17) (.t s15) [(.t s16)]
(dV s18 (oBuildS 30 1 [(.int .i64 (.ofNat 0)),(.int .i64 (.ofNat 0)),(.bool false),(.str []),.nils,.nils] [(0,6,(.t s17))])
(dV s19 (oApp 30 6 (.t s14) (.t s18))
(vM s5 s19
dE))))))))))
(dOps (dV s20 (o.add (.t s10) (.c (.int .i64 (.ofNat 1))))
(vM s10 s20
dE)))))))))
(dSeq (dOps (vM s21 s5
(vM s4 s21
dE)))
dRet)))),[(.t s4)]⟩
def af381:AF:=afG381 fastO
def afG382 (o:Ops):AF:=⟨(dSeq (dOps (dV s1 (oBox 50 (.t s0))
(vC s2 (.bool false)
dE)))
(dSeq (dOps (dV s3 (o.ldN 2 (.t s1))
(dC (some s4) p195 [(.t s3)]
(dV s5 (o.not (.t s4))
(vM s2 s5
dE)))))
dRet)),[(.t s2)]⟩
def af382:AF:=afG382 fastO
def afG383 (o:Ops):AF:=⟨(dSeq (dOps (vM s10 s1
(dV s11 (o.add (.t s10) (.c (.int .i64 (.ofNat 1))))
(vM s8 s11
dE))))
(dBlock 0 (dLoop (dSeq (dSeq (dOps (vM s12 s8
(vM s13 s2
(dV s14 (o.lss (.t s12) (.t s13))
dE))))
(o.cond (.t s14) dSkip (dExit 0)))
(dSeq (dBlock 1 (dSeq (dOps (vM s17 s8
(vM s9 s17
dE)))
(dBlock 2 (dLoop (dSeq (dSeq (dDraw (lM s18 s9
(lM s19 s1
(lN s20 (o.gtr (.t s18) (.t s19))
(lM s21 s20
(lG s21 true s22 (oMv (.t s3))
(lG s21 true s23 (oMv (.t s0))
(lG s21 true s24 (oMv (.t s9))
(lG s21 true s25 (o.ia 4 (.t s23) (.t s24))
(lG s21 true s26 (o.ldN 4 (.t s25))
(lG s21 true s27 (oMv (.t s0))
(lG s21 true s28 (oMv (.t s9))
(lG s21 true s29 (o.sub (.t s28) (.c (.int .i64 (.ofNat 1))))
(lG s21 true s30 (o.ia 4 (.t s27) (.t s29))
(lG s21 true s31 (o.ldN 4 (.t s30))
(lE [] [] (some s32) (eK ⟨(some s32),(.callv (.t s22) [(.t s26),(.t s31)]),(some (s21,true))⟩)
(lG s21 true s33 (o.lss (.t s32) (.c (.int .i64 (.ofNat 0))))
(lN s34 (o.pick (.t s21) (.t s33) (.c (.bool false)))
sEnd))))))))))))))))))
(o.cond (.t s34) dSkip (dExit 2)))
(dSeq (dBlock 3 (dDraw (lM s37 s0
(lM s38 s9
(lM s39 s0
(lM s40 s9
(lN s41 (o.sub (.t s40) (.c (.int .i64 (.ofNat 1))))
(lM s42 s0
(lM s43 s9
(lN s44 (o.sub (.t s43) (.c (.int .i64 (.ofNat 1))))
(lN s45 (o.ia 4 (.t s42) (.t s44))
(lN s46 (o.ldN 4 (.t s45))
(lM s47 s0
(lM s48 s9
(lN s49 (o.ia 4 (.t s47) (.t s48))
(lN s50 (o.ldN 4 (.t s49))
(lN s51 (o.ia 4 (.t s37) (.t s38))
(lE [] [] none (actV (oSt 4 (.t s51) (.t s46)))
(lN s52 (o.ia 4 (.t s39) (.t s41))
(lE [] [] none (actV (oSt 4 (.t s52) (.t s50)))
sEnd))))))))))))))))))))
(dOps (vM s35 s9
(dV s36 (o.sub (.t s35) (.c (.int .i64 (.ofNat 1))))
(vM s9 s36
dE))))))))))
(dOps (vM s15 s8
(dV s16 (o.add (.t s15) (.c (.int .i64 (.ofNat 1))))
(vM s8 s16
dE))))))))),[]⟩
def af383:AF:=afG383 fastO
def afG384 (o:Ops):AF:=⟨(dSeq (dOps (vM s13 s1
(vM s8 s13
dE)))
(dSeq (dOps (vC s9 (.int .i64 (.ofNat 0))
dE))
(dSeq (dOps (vM s14 s2
(vM s15 s1
(dV s16 (o.sub (.t s14) (.t s15))
(vM s10 s16
dE)))))
(dSeq (dSeq (dOps (vM s17 s10
(dV s18 (o.sub (.t s17) (.c (.int .i64 (.ofNat 1))))
(dV s19 (oAr .quo (.t s18) (.c (.int .i64 (.ofNat 2))))
(vM s11 s19
dE)))))
(dBlock 0 (dLoop (dSeq (dSeq (dOps (vM s20 s11
(dV s21 (o.geq (.t s20) (.c (.int .i64 (.ofNat 0))))
dE)))
(o.cond (.t s21) dSkip (dExit 0)))
(dSeq (dBlock 1 (dOps (vM s24 s0
(vM s25 s11
(vM s26 s10
(vM s27 s8
(vM s28 s3
(dC (some s29) p405 [(.t s24),(.t s25),(.t s26),(.t s27),(.t s28)]
dE))))))))
(dOps (vM s22 s11
(dV s23 (o.sub (.t s22) (.c (.int .i64 (.ofNat 1))))
(vM s11 s23
dE)))))))))
(dSeq (dOps (vM s30 s10
(dV s31 (o.sub (.t s30) (.c (.int .i64 (.ofNat 1))))
(vM s12 s31
dE))))
(dBlock 2 (dLoop (dSeq (dSeq (dOps (vM s32 s12
(dV s33 (o.geq (.t s32) (.c (.int .i64 (.ofNat 0))))
dE)))
(o.cond (.t s33) dSkip (dExit 2)))
(dSeq (dBlock 3 (dSeq (dDraw (lM s36 s0
(lM s37 s8
(lM s38 s0
(lM s39 s8
(lM s40 s12
(lN s41 (o.add (.t s39) (.t s40))
(lM s42 s0
(lM s43 s8
(lM s44 s12
(lN s45 (o.add (.t s43) (.t s44))
(lN s46 (o.ia 4 (.t s42) (.t s45))
(lN s47 (o.ldN 4 (.t s46))
(lM s48 s0
(lM s49 s8
(lN s50 (o.ia 4 (.t s48) (.t s49))
(lN s51 (o.ldN 4 (.t s50))
(lN s52 (o.ia 4 (.t s36) (.t s37))
(lE [] [] none (actV (oSt 4 (.t s52) (.t s47)))
(lN s53 (o.ia 4 (.t s38) (.t s41))
(lE [] [] none (actV (oSt 4 (.t s53) (.t s51)))
sEnd)))))))))))))))))))))
(dOps (vM s54 s0
(vM s55 s9
(vM s56 s12
(vM s57 s8
(vM s58 s3
(dC (some s59) p405 [(.t s54),(.t s55),(.t s56),(.t s57),(.t s58)]
dE)))))))))
(dOps (vM s34 s12
(dV s35 (o.sub (.t s34) (.c (.int .i64 (.ofNat 1))))
(vM s12 s35
dE))))))))))))),[]⟩
def af384:AF:=afG384 fastO
theorem ok180:FunSem Tryz.prog 180 af180:=okF (g:=afG180) (.of mixed (by kernel_rfl))
theorem ok181:FunSem Tryz.prog 181 af181:=okF (g:=afG181) (.of mixed (by kernel_rfl))
theorem ok182:FunSem Tryz.prog 182 af182:=okF (g:=afG182) (.of mixed (by kernel_rfl))
theorem ok183:FunSem Tryz.prog 183 af183:=okF (g:=afG183) (.of mixed (by kernel_rfl))
theorem ok184:FunSem Tryz.prog 184 af184:=okF (g:=afG184) (.of mixed (by kernel_rfl))
theorem ok185:FunSem Tryz.prog 185 af185:=okF (g:=afG185) (.of mixed (by kernel_rfl))
theorem ok186:FunSem Tryz.prog 186 af186:=okF (g:=afG186) (.of mixed (by kernel_rfl))
theorem ok187:FunSem Tryz.prog 187 af187:=okF (g:=afG187) (.of mixed (by kernel_rfl))
theorem ok188:FunSem Tryz.prog 188 af188:=okF (g:=afG188) (.of mixed (by kernel_rfl))
theorem ok189:FunSem Tryz.prog 189 af189:=okF (g:=afG189) (.of mixed (by kernel_rfl))
theorem ok190:FunSem Tryz.prog 190 af190:=okF (g:=afG190) (.of mixed (by kernel_rfl))
theorem ok191:FunSem Tryz.prog 191 af191:=okF (g:=afG191) (.of mixed (by kernel_rfl))
theorem ok192:FunSem Tryz.prog 192 af192:=okF (g:=afG192) (.of mixed (by kernel_rfl))
theorem ok193:FunSem Tryz.prog 193 af193:=okF (g:=afG193) (.of mixed (by kernel_rfl))
theorem ok194:FunSem Tryz.prog 194 af194:=okF (g:=afG194) (.of mixed (by kernel_rfl))
theorem ok195:FunSem Tryz.prog 195 af195:=okF (g:=afG195) (.of mixed (by kernel_rfl))
theorem ok196:FunSem Tryz.prog 196 af196:=okF (g:=afG196) (.of mixed (by kernel_rfl))
theorem ok197:FunSem Tryz.prog 197 af197:=okF (g:=afG197) (.of mixed (by kernel_rfl))
theorem ok198:FunSem Tryz.prog 198 af198:=okF (g:=afG198) (.of mixed (by kernel_rfl))
theorem ok199:FunSem Tryz.prog 199 af199:=okF (g:=afG199) (.of mixed (by kernel_rfl))
theorem ok200:FunSem Tryz.prog 200 af200:=okF (g:=afG200) (.of mixed (by kernel_rfl))
theorem ok201:FunSem Tryz.prog 201 af201:=okF (g:=afG201) (.of mixed (by kernel_rfl))
theorem ok202:FunSem Tryz.prog 202 af202:=okF (g:=afG202) (.of mixed (by kernel_rfl))
theorem ok203:FunSem Tryz.prog 203 af203:=okF (g:=afG203) (.of mixed (by kernel_rfl))
theorem ok204:FunSem Tryz.prog 204 af204:=okF (g:=afG204) (.of mixed (by kernel_rfl))
theorem ok205:FunSem Tryz.prog 205 af205:=okF (g:=afG205) (.of mixed (by kernel_rfl))
theorem ok206:FunSem Tryz.prog 206 af206:=okF (g:=afG206) (.of mixed (by kernel_rfl))
theorem ok207:FunSem Tryz.prog 207 af207:=okF (g:=afG207) (.of mixed (by kernel_rfl))
theorem ok208:FunSem Tryz.prog 208 af208:=okF (g:=afG208) (.of mixed (by kernel_rfl))
theorem ok209:FunSem Tryz.prog 209 af209:=okF (g:=afG209) (.of mixed (by kernel_rfl))
theorem ok211:FunSem Tryz.prog 211 af211:=okF (g:=afG211) (.of mixed (by kernel_rfl))
theorem ok212:FunSem Tryz.prog 212 af212:=okF (g:=afG212) (.of mixed (by kernel_rfl))
theorem ok213:FunSem Tryz.prog 213 af213:=okF (g:=afG213) (.of mixed (by kernel_rfl))
theorem ok215:FunSem Tryz.prog 215 af215:=okF (g:=afG215) (.of mixed (by kernel_rfl))
theorem ok216:FunSem Tryz.prog 216 af216:=okF (g:=afG216) (.of mixed (by kernel_rfl))
theorem ok217:FunSem Tryz.prog 217 af217:=okF (g:=afG217) (.of mixed (by kernel_rfl))
theorem ok218:FunSem Tryz.prog 218 af218:=okF (g:=afG218) (.of mixed (by kernel_rfl))
theorem ok219:FunSem Tryz.prog 219 af219:=okF (g:=afG219) (.of mixed (by kernel_rfl))
theorem ok220:FunSem Tryz.prog 220 af220:=okF (g:=afG220) (.of mixed (by kernel_rfl))
theorem ok221:FunSem Tryz.prog 221 af221:=okF (g:=afG221) (.of mixed (by kernel_rfl))
theorem ok222:FunSem Tryz.prog 222 af222:=okF (g:=afG222) (.of mixed (by kernel_rfl))
theorem ok223:FunSem Tryz.prog 223 af223:=okF (g:=afG223) (.of mixed (by kernel_rfl))
theorem ok224:FunSem Tryz.prog 224 af224:=okF (g:=afG224) (.of mixed (by kernel_rfl))
theorem ok225:FunSem Tryz.prog 225 af225:=okF (g:=afG225) (.of mixed (by kernel_rfl))
theorem ok226:FunSem Tryz.prog 226 af226:=okF (g:=afG226) (.of mixed (by kernel_rfl))
theorem ok227:FunSem Tryz.prog 227 af227:=okF (g:=afG227) (.of mixed (by kernel_rfl))
theorem ok228:FunSem Tryz.prog 228 af228:=okF (g:=afG228) (.of mixed (by kernel_rfl))
theorem ok229:FunSem Tryz.prog 229 af229:=okF (g:=afG229) (.of mixed (by kernel_rfl))
theorem ok230:FunSem Tryz.prog 230 af230:=okF (g:=afG230) (.of mixed (by kernel_rfl))
theorem ok231:FunSem Tryz.prog 231 af231:=okF (g:=afG231) (.of mixed (by kernel_rfl))
theorem ok232:FunSem Tryz.prog 232 af232:=okF (g:=afG232) (.of mixed (by kernel_rfl))
theorem ok233:FunSem Tryz.prog 233 af233:=okF (g:=afG233) (.of mixed (by kernel_rfl))
theorem ok234:FunSem Tryz.prog 234 af234:=okF (g:=afG234) (.of mixed (by kernel_rfl))
theorem ok235:FunSem Tryz.prog 235 af235:=okF (g:=afG235) (.of mixed (by kernel_rfl))
theorem ok236:FunSem Tryz.prog 236 af236:=okF (g:=afG236) (.of mixed (by kernel_rfl))
theorem ok239:FunSem Tryz.prog 239 af239:=okF (g:=afG239) (.of mixed (by kernel_rfl))
theorem ok241:FunSem Tryz.prog 241 af241:=okF (g:=afG241) (.of mixed (by kernel_rfl))
theorem ok242:FunSem Tryz.prog 242 af242:=okF (g:=afG242) (.of mixed (by kernel_rfl))
theorem ok243:FunSem Tryz.prog 243 af243:=okF (g:=afG243) (.of mixed (by kernel_rfl))
theorem ok244:FunSem Tryz.prog 244 af244:=okF (g:=afG244) (.of mixed (by kernel_rfl))
theorem ok245:FunSem Tryz.prog 245 af245:=okF (g:=afG245) (.of mixed (by kernel_rfl))
theorem ok246:FunSem Tryz.prog 246 af246:=okF (g:=afG246) (.of mixed (by kernel_rfl))
theorem ok247:FunSem Tryz.prog 247 af247:=okF (g:=afG247) (.of mixed (by kernel_rfl))
theorem ok248:FunSem Tryz.prog 248 af248:=okF (g:=afG248) (.of mixed (by kernel_rfl))
theorem ok249:FunSem Tryz.prog 249 af249:=okF (g:=afG249) (.of mixed (by kernel_rfl))
theorem ok250:FunSem Tryz.prog 250 af250:=okF (g:=afG250) (.of mixed (by kernel_rfl))
theorem ok251:FunSem Tryz.prog 251 af251:=okF (g:=afG251) (.of mixed (by kernel_rfl))
theorem ok252:FunSem Tryz.prog 252 af252:=okF (g:=afG252) (.of mixed (by kernel_rfl))
theorem ok253:FunSem Tryz.prog 253 af253:=okF (g:=afG253) (.of mixed (by kernel_rfl))
theorem ok254:FunSem Tryz.prog 254 af254:=okF (g:=afG254) (.of mixed (by kernel_rfl))
theorem ok255:FunSem Tryz.prog 255 af255:=okF (g:=afG255) (.of mixed (by kernel_rfl))
theorem ok256:FunSem Tryz.prog 256 af256:=okF (g:=afG256) (.of mixed (by kernel_rfl))
theorem ok257:FunSem Tryz.prog 257 af257:=okF (g:=afG257) (.of mixed (by kernel_rfl))
theorem ok258:FunSem Tryz.prog 258 af258:=okF (g:=afG258) (.of mixed (by kernel_rfl))
theorem ok259:FunSem Tryz.prog 259 af259:=okF (g:=afG259) (.of mixed (by kernel_rfl))
theorem ok260:FunSem Tryz.prog 260 af260:=okF (g:=afG260) (.of mixed (by kernel_rfl))
theorem ok261:FunSem Tryz.prog 261 af261:=okF (g:=afG261) (.of mixed (by kernel_rfl))
theorem ok262:FunSem Tryz.prog 262 af262:=okF (g:=afG262) (.of mixed (by kernel_rfl))
theorem ok263:FunSem Tryz.prog 263 af263:=okF (g:=afG263) (.of mixed (by kernel_rfl))
theorem ok264:FunSem Tryz.prog 264 af264:=okF (g:=afG264) (.of mixed (by kernel_rfl))
theorem ok265:FunSem Tryz.prog 265 af265:=okF (g:=afG265) (.of mixed (by kernel_rfl))
theorem ok266:FunSem Tryz.prog 266 af266:=okF (g:=afG266) (.of mixed (by kernel_rfl))
theorem ok267:FunSem Tryz.prog 267 af267:=okF (g:=afG267) (.of mixed (by kernel_rfl))
theorem ok268:FunSem Tryz.prog 268 af268:=okF (g:=afG268) (.of mixed (by kernel_rfl))
theorem ok269:FunSem Tryz.prog 269 af269:=okF (g:=afG269) (.of mixed (by kernel_rfl))
theorem ok270:FunSem Tryz.prog 270 af270:=okF (g:=afG270) (.of mixed (by kernel_rfl))
theorem ok271:FunSem Tryz.prog 271 af271:=okF (g:=afG271) (.of mixed (by kernel_rfl))
theorem ok272:FunSem Tryz.prog 272 af272:=okF (g:=afG272) (.of mixed (by kernel_rfl))
theorem ok273:FunSem Tryz.prog 273 af273:=okF (g:=afG273) (.of mixed (by kernel_rfl))
theorem ok274:FunSem Tryz.prog 274 af274:=okF (g:=afG274) (.of mixed (by kernel_rfl))
theorem ok275:FunSem Tryz.prog 275 af275:=okF (g:=afG275) (.of mixed (by kernel_rfl))
theorem ok276:FunSem Tryz.prog 276 af276:=okF (g:=afG276) (.of mixed (by kernel_rfl))
theorem ok277:FunSem Tryz.prog 277 af277:=okF (g:=afG277) (.of mixed (by kernel_rfl))
theorem ok278:FunSem Tryz.prog 278 af278:=okF (g:=afG278) (.of mixed (by kernel_rfl))
theorem ok279:FunSem Tryz.prog 279 af279:=okF (g:=afG279) (.of mixed (by kernel_rfl))
theorem ok280:FunSem Tryz.prog 280 af280:=okF (g:=afG280) (.of mixed (by kernel_rfl))
theorem ok281:FunSem Tryz.prog 281 af281:=okF (g:=afG281) (.of mixed (by kernel_rfl))
theorem ok282:FunSem Tryz.prog 282 af282:=okF (g:=afG282) (.of mixed (by kernel_rfl))
theorem ok283:FunSem Tryz.prog 283 af283:=okF (g:=afG283) (.of mixed (by kernel_rfl))
theorem ok284:FunSem Tryz.prog 284 af284:=okF (g:=afG284) (.of mixed (by kernel_rfl))
theorem ok285:FunSem Tryz.prog 285 af285:=okF (g:=afG285) (.of mixed (by kernel_rfl))
theorem ok286:FunSem Tryz.prog 286 af286:=okF (g:=afG286) (.of mixed (by kernel_rfl))
theorem ok287:FunSem Tryz.prog 287 af287:=okF (g:=afG287) (.of mixed (by kernel_rfl))
theorem ok288:FunSem Tryz.prog 288 af288:=okF (g:=afG288) (.of mixed (by kernel_rfl))
theorem ok289:FunSem Tryz.prog 289 af289:=okF (g:=afG289) (.of mixed (by kernel_rfl))
theorem ok290:FunSem Tryz.prog 290 af290:=okF (g:=afG290) (.of mixed (by kernel_rfl))
theorem ok291:FunSem Tryz.prog 291 af291:=okF (g:=afG291) (.of mixed (by kernel_rfl))
theorem ok292:FunSem Tryz.prog 292 af292:=okF (g:=afG292) (.of mixed (by kernel_rfl))
theorem ok293:FunSem Tryz.prog 293 af293:=okF (g:=afG293) (.of mixed (by kernel_rfl))
theorem ok294:FunSem Tryz.prog 294 af294:=okF (g:=afG294) (.of mixed (by kernel_rfl))
theorem ok295:FunSem Tryz.prog 295 af295:=okF (g:=afG295) (.of mixed (by kernel_rfl))
theorem ok296:FunSem Tryz.prog 296 af296:=okF (g:=afG296) (.of mixed (by kernel_rfl))
theorem ok297:FunSem Tryz.prog 297 af297:=okF (g:=afG297) (.of mixed (by kernel_rfl))
theorem ok298:FunSem Tryz.prog 298 af298:=okF (g:=afG298) (.of mixed (by kernel_rfl))
theorem ok299:FunSem Tryz.prog 299 af299:=okF (g:=afG299) (.of mixed (by kernel_rfl))
theorem ok300:FunSem Tryz.prog 300 af300:=okF (g:=afG300) (.of mixed (by kernel_rfl))
theorem ok301:FunSem Tryz.prog 301 af301:=okF (g:=afG301) (.of mixed (by kernel_rfl))
theorem ok302:FunSem Tryz.prog 302 af302:=okF (g:=afG302) (.of mixed (by kernel_rfl))
theorem ok303:FunSem Tryz.prog 303 af303:=okF (g:=afG303) (.of mixed (by kernel_rfl))
theorem ok304:FunSem Tryz.prog 304 af304:=okF (g:=afG304) (.of mixed (by kernel_rfl))
theorem ok305:FunSem Tryz.prog 305 af305:=okF (g:=afG305) (.of mixed (by kernel_rfl))
theorem ok306:FunSem Tryz.prog 306 af306:=okF (g:=afG306) (.of mixed (by kernel_rfl))
theorem ok307:FunSem Tryz.prog 307 af307:=okF (g:=afG307) (.of mixed (by kernel_rfl))
theorem ok308:FunSem Tryz.prog 308 af308:=okF (g:=afG308) (.of mixed (by kernel_rfl))
theorem ok309:FunSem Tryz.prog 309 af309:=okF (g:=afG309) (.of mixed (by kernel_rfl))
theorem ok310:FunSem Tryz.prog 310 af310:=okF (g:=afG310) (.of mixed (by kernel_rfl))
theorem ok311:FunSem Tryz.prog 311 af311:=okF (g:=afG311) (.of mixed (by kernel_rfl))
theorem ok312:FunSem Tryz.prog 312 af312:=okF (g:=afG312) (.of mixed (by kernel_rfl))
theorem ok313:FunSem Tryz.prog 313 af313:=okF (g:=afG313) (.of mixed (by kernel_rfl))
theorem ok314:FunSem Tryz.prog 314 af314:=okF (g:=afG314) (.of mixed (by kernel_rfl))
theorem ok315:FunSem Tryz.prog 315 af315:=okF (g:=afG315) (.of mixed (by kernel_rfl))
theorem ok316:FunSem Tryz.prog 316 af316:=okF (g:=afG316) (.of mixed (by kernel_rfl))
theorem ok317:FunSem Tryz.prog 317 af317:=okF (g:=afG317) (.of mixed (by kernel_rfl))
theorem ok318:FunSem Tryz.prog 318 af318:=okF (g:=afG318) (.of mixed (by kernel_rfl))
theorem ok319:FunSem Tryz.prog 319 af319:=okF (g:=afG319) (.of mixed (by kernel_rfl))
theorem ok320:FunSem Tryz.prog 320 af320:=okF (g:=afG320) (.of mixed (by kernel_rfl))
theorem ok321:FunSem Tryz.prog 321 af321:=okF (g:=afG321) (.of mixed (by kernel_rfl))
theorem ok322:FunSem Tryz.prog 322 af322:=okF (g:=afG322) (.of mixed (by kernel_rfl))
theorem ok323:FunSem Tryz.prog 323 af323:=okF (g:=afG323) (.of mixed (by kernel_rfl))
theorem ok324:FunSem Tryz.prog 324 af324:=okF (g:=afG324) (.of mixed (by kernel_rfl))
theorem ok325:FunSem Tryz.prog 325 af325:=okF (g:=afG325) (.of mixed (by kernel_rfl))
theorem ok326:FunSem Tryz.prog 326 af326:=okF (g:=afG326) (.of mixed (by kernel_rfl))
theorem ok327:FunSem Tryz.prog 327 af327:=okF (g:=afG327) (.of mixed (by kernel_rfl))
theorem ok328:FunSem Tryz.prog 328 af328:=okF (g:=afG328) (.of mixed (by kernel_rfl))
theorem ok329:FunSem Tryz.prog 329 af329:=okF (g:=afG329) (.of mixed (by kernel_rfl))
theorem ok330:FunSem Tryz.prog 330 af330:=okF (g:=afG330) (.of mixed (by kernel_rfl))
theorem ok331:FunSem Tryz.prog 331 af331:=okF (g:=afG331) (.of mixed (by kernel_rfl))
theorem ok332:FunSem Tryz.prog 332 af332:=okF (g:=afG332) (.of mixed (by kernel_rfl))
theorem ok333:FunSem Tryz.prog 333 af333:=okF (g:=afG333) (.of mixed (by kernel_rfl))
theorem ok334:FunSem Tryz.prog 334 af334:=okF (g:=afG334) (.of mixed (by kernel_rfl))
theorem ok335:FunSem Tryz.prog 335 af335:=okF (g:=afG335) (.of mixed (by kernel_rfl))
theorem ok336:FunSem Tryz.prog 336 af336:=okF (g:=afG336) (.of mixed (by kernel_rfl))
theorem ok337:FunSem Tryz.prog 337 af337:=okF (g:=afG337) (.of mixed (by kernel_rfl))
theorem ok338:FunSem Tryz.prog 338 af338:=okF (g:=afG338) (.of mixed (by kernel_rfl))
theorem ok339:FunSem Tryz.prog 339 af339:=okF (g:=afG339) (.of mixed (by kernel_rfl))
theorem ok340:FunSem Tryz.prog 340 af340:=okF (g:=afG340) (.of mixed (by kernel_rfl))
theorem ok341:FunSem Tryz.prog 341 af341:=okF (g:=afG341) (.of mixed (by kernel_rfl))
theorem ok342:FunSem Tryz.prog 342 af342:=okF (g:=afG342) (.of mixed (by kernel_rfl))
theorem ok343:FunSem Tryz.prog 343 af343:=okF (g:=afG343) (.of mixed (by kernel_rfl))
theorem ok344:FunSem Tryz.prog 344 af344:=okF (g:=afG344) (.of mixed (by kernel_rfl))
theorem ok345:FunSem Tryz.prog 345 af345:=okF (g:=afG345) (.of mixed (by kernel_rfl))
theorem ok346:FunSem Tryz.prog 346 af346:=okF (g:=afG346) (.of mixed (by kernel_rfl))
theorem ok347:FunSem Tryz.prog 347 af347:=okF (g:=afG347) (.of mixed (by kernel_rfl))
theorem ok348:FunSem Tryz.prog 348 af348:=okF (g:=afG348) (.of mixed (by kernel_rfl))
theorem ok349:FunSem Tryz.prog 349 af349:=okF (g:=afG349) (.of mixed (by kernel_rfl))
theorem ok350:FunSem Tryz.prog 350 af350:=okF (g:=afG350) (.of mixed (by kernel_rfl))
theorem ok351:FunSem Tryz.prog 351 af351:=okF (g:=afG351) (.of mixed (by kernel_rfl))
theorem ok352:FunSem Tryz.prog 352 af352:=okF (g:=afG352) (.of mixed (by kernel_rfl))
theorem ok353:FunSem Tryz.prog 353 af353:=okF (g:=afG353) (.of mixed (by kernel_rfl))
theorem ok354:FunSem Tryz.prog 354 af354:=okF (g:=afG354) (.of mixed (by kernel_rfl))
theorem ok355:FunSem Tryz.prog 355 af355:=okF (g:=afG355) (.of mixed (by kernel_rfl))
theorem ok356:FunSem Tryz.prog 356 af356:=okF (g:=afG356) (.of mixed (by kernel_rfl))
theorem ok357:FunSem Tryz.prog 357 af357:=okF (g:=afG357) (.of mixed (by kernel_rfl))
theorem ok358:FunSem Tryz.prog 358 af358:=okF (g:=afG358) (.of mixed (by kernel_rfl))
theorem ok359:FunSem Tryz.prog 359 af359:=okF (g:=afG359) (.of mixed (by kernel_rfl))
theorem ok360:FunSem Tryz.prog 360 af360:=okF (g:=afG360) (.of mixed (by kernel_rfl))
theorem ok361:FunSem Tryz.prog 361 af361:=okF (g:=afG361) (.of mixed (by kernel_rfl))
theorem ok362:FunSem Tryz.prog 362 af362:=okF (g:=afG362) (.of mixed (by kernel_rfl))
theorem ok363:FunSem Tryz.prog 363 af363:=okF (g:=afG363) (.of mixed (by kernel_rfl))
theorem ok364:FunSem Tryz.prog 364 af364:=okF (g:=afG364) (.of mixed (by kernel_rfl))
theorem ok365:FunSem Tryz.prog 365 af365:=okF (g:=afG365) (.of mixed (by kernel_rfl))
theorem ok366:FunSem Tryz.prog 366 af366:=okF (g:=afG366) (.of mixed (by kernel_rfl))
theorem ok367:FunSem Tryz.prog 367 af367:=okF (g:=afG367) (.of mixed (by kernel_rfl))
theorem ok368:FunSem Tryz.prog 368 af368:=okF (g:=afG368) (.of mixed (by kernel_rfl))
theorem ok369:FunSem Tryz.prog 369 af369:=okF (g:=afG369) (.of mixed (by kernel_rfl))
theorem ok370:FunSem Tryz.prog 370 af370:=okF (g:=afG370) (.of mixed (by kernel_rfl))
theorem ok371:FunSem Tryz.prog 371 af371:=okF (g:=afG371) (.of mixed (by kernel_rfl))
theorem ok372:FunSem Tryz.prog 372 af372:=okF (g:=afG372) (.of mixed (by kernel_rfl))
theorem ok373:FunSem Tryz.prog 373 af373:=okF (g:=afG373) (.of mixed (by kernel_rfl))
theorem ok374:FunSem Tryz.prog 374 af374:=okF (g:=afG374) (.of mixed (by kernel_rfl))
theorem ok375:FunSem Tryz.prog 375 af375:=okF (g:=afG375) (.of mixed (by kernel_rfl))
theorem ok376:FunSem Tryz.prog 376 af376:=okF (g:=afG376) (.of mixed (by kernel_rfl))
theorem ok377:FunSem Tryz.prog 377 af377:=okF (g:=afG377) (.of mixed (by kernel_rfl))
theorem ok378:FunSem Tryz.prog 378 af378:=okF (g:=afG378) (.of mixed (by kernel_rfl))
theorem ok379:FunSem Tryz.prog 379 af379:=okF (g:=afG379) (.of mixed (by kernel_rfl))
theorem ok380:FunSem Tryz.prog 380 af380:=okF (g:=afG380) (.of mixed (by kernel_rfl))
theorem ok381:FunSem Tryz.prog 381 af381:=okF (g:=afG381) (.of mixed (by kernel_rfl))
theorem ok382:FunSem Tryz.prog 382 af382:=okF (g:=afG382) (.of mixed (by kernel_rfl))
theorem ok383:FunSem Tryz.prog 383 af383:=okF (g:=afG383) (.of mixed (by kernel_rfl))
theorem ok384:FunSem Tryz.prog 384 af384:=okF (g:=afG384) (.of mixed (by kernel_rfl))
end Go.Proofs.YtcakhpfonailhaaGreatDoor.X
