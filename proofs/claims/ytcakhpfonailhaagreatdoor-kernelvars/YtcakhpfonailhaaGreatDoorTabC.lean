/- Functions of the program, as the executor runs them, and that they are the program's. -/
import Derived.Test.YtcakhpfonailhaaGreatDoorTabB
set_option maxRecDepth 100000
set_option linter.unusedVariables false
namespace Go.Proofs.YtcakhpfonailhaaGreatDoor.X
open Go.RowKit
def afG385 (o:Ops):AF:=⟨(dSeq (dOps (vM s13 s2
(vM s14 s1
(dV s15 (o.sub (.t s13) (.t s14))
(vM s8 s15
dE)))))
(dSeq (dOps (vM s16 s8
(dV s17 (o.geq (.t s16) (.c (.int .i64 (.ofNat 8))))
dE)))
(o.cond (.t s17) (dSeq (dOps (vM s18 s8
(dV s19 (oCvI .u64 (.t s18))
(dV s9 (oNew [(.int .u64 (.ofNat 0))] 480)
(dU (o.st1 (.t s9) (.t s19))
dE)))))
(dSeq (dOps (vM s20 s8
(dC (some s21) p358 [(.t s20)]
(vM s10 s21
dE))))
(dSeq (dOps (vM s22 s1
(vM s23 s8
(dV s24 (oAr .quo (.t s23) (.c (.int .i64 (.ofNat 4))))
(dV s25 (oAr .mul (.t s24) (.c (.int .i64 (.ofNat 2))))
(dV s26 (o.add (.t s22) (.t s25))
(dV s27 (o.sub (.t s26) (.c (.int .i64 (.ofNat 1))))
(vM s11 s27
dE))))))))
(dBlock 0 (dLoop (dSeq (dSeq (dOps (vM s28 s11
(vM s29 s1
(vM s30 s8
(dV s31 (oAr .quo (.t s30) (.c (.int .i64 (.ofNat 4))))
(dV s32 (oAr .mul (.t s31) (.c (.int .i64 (.ofNat 2))))
(dV s33 (o.add (.t s29) (.t s32))
(dV s34 (o.add (.t s33) (.c (.int .i64 (.ofNat 1))))
(dV s35 (o.leq (.t s28) (.t s34))
dE)))))))))
(o.cond (.t s35) dSkip (dExit 0)))
(dSeq (dBlock 1 (dSeq (dOps (dC (some s38) p359 [(.t s9)]
(vM s39 s10
(dV s40 (o.sub (.t s39) (.c (.int .u64 (.ofNat 1))))
(dV s41 (oAr .and (.t s38) (.t s40))
(dV s42 (oCvI .i64 (.t s41))
(vM s12 s42
dE)))))))
(dSeq (dSeq (dOps (vM s43 s12
(vM s44 s8
(dV s45 (o.geq (.t s43) (.t s44))
dE))))
(o.cond (.t s45) (dOps (vM s46 s12
(vM s47 s8
(dV s48 (o.sub (.t s46) (.t s47))
(vM s12 s48
dE))))) dSkip))
(dDraw (lM s49 s0
(lM s50 s11
(lM s51 s0
(lM s52 s1
(lM s53 s12
(lN s54 (o.add (.t s52) (.t s53))
(lM s55 s0
(lM s56 s1
(lM s57 s12
(lN s58 (o.add (.t s56) (.t s57))
(lN s59 (o.ia 4 (.t s55) (.t s58))
(lN s60 (o.ldN 4 (.t s59))
(lM s61 s0
(lM s62 s11
(lN s63 (o.ia 4 (.t s61) (.t s62))
(lN s64 (o.ldN 4 (.t s63))
(lN s65 (o.ia 4 (.t s49) (.t s50))
(lE [] [] none (actV (oSt 4 (.t s65) (.t s60)))
(lN s66 (o.ia 4 (.t s51) (.t s54))
(lE [] [] none (actV (oSt 4 (.t s66) (.t s64)))
sEnd))))))))))))))))))))))))
(dOps (vM s36 s11
(dV s37 (o.add (.t s36) (.c (.int .i64 (.ofNat 1))))
(vM s11 s37
dE))))))))))) dSkip))),[]⟩
def af385:AF:=afG385 fastO
def afG386 (o:Ops):AF:=⟨(dSeq (dOps (vC s8 (.int .i64 (.ofNat 0))
(vC s9 (.int .i64 (.ofNat 0))
dE)))
(dSeq (dOps (vM s15 s2
(vM s16 s1
(dV s17 (o.sub (.t s15) (.t s16))
(vM s10 s17
dE)))))
(dSeq (dOps (dV s11 (oNew [(.int .i64 (.ofNat 0))] 3)
dE))
(dSeq (dOps (vM s18 s1
(vM s19 s10
(dV s20 (oAr .quo (.t s19) (.c (.int .i64 (.ofNat 4))))
(dV s21 (oAr .mul (.t s20) (.c (.int .i64 (.ofNat 1))))
(dV s22 (o.add (.t s18) (.t s21))
(vM s12 s22
dE)))))))
(dSeq (dOps (vM s23 s1
(vM s24 s10
(dV s25 (oAr .quo (.t s24) (.c (.int .i64 (.ofNat 4))))
(dV s26 (oAr .mul (.t s25) (.c (.int .i64 (.ofNat 2))))
(dV s27 (o.add (.t s23) (.t s26))
(vM s13 s27
dE)))))))
(dSeq (dOps (vM s28 s1
(vM s29 s10
(dV s30 (oAr .quo (.t s29) (.c (.int .i64 (.ofNat 4))))
(dV s31 (oAr .mul (.t s30) (.c (.int .i64 (.ofNat 3))))
(dV s32 (o.add (.t s28) (.t s31))
(vM s14 s32
dE)))))))
(dSeq (dSeq (dOps (vM s33 s10
(dV s34 (o.geq (.t s33) (.c (.int .i64 (.ofNat 8))))
dE)))
(o.cond (.t s34) (dSeq (dSeq (dOps (vM s35 s10
(dV s36 (o.geq (.t s35) (.c (.int .i64 (.ofNat 50))))
dE)))
(o.cond (.t s36) (dSeq (dOps (vM s37 s0
(vM s38 s12
(vM s39 s3
(dC (some s40) p406 [(.t s37),(.t s38),(.t s11),(.t s39)]
(vM s12 s40
dE))))))
(dSeq (dOps (vM s41 s0
(vM s42 s13
(vM s43 s3
(dC (some s44) p406 [(.t s41),(.t s42),(.t s11),(.t s43)]
(vM s13 s44
dE))))))
(dOps (vM s45 s0
(vM s46 s14
(vM s47 s3
(dC (some s48) p406 [(.t s45),(.t s46),(.t s11),(.t s47)]
(vM s14 s48
dE)))))))) dSkip))
(dOps (vM s49 s0
(vM s50 s12
(vM s51 s13
(vM s52 s14
(vM s53 s3
(dC (some s54) p407 [(.t s49),(.t s50),(.t s51),(.t s52),(.t s11),(.t s53)]
(vM s13 s54
dE))))))))) dSkip))
(dSeq (dOps (dV s55 (o.ld1 (.t s11))
dE))
(dBlock 0 (dSeq (dOps (dV s58 (o.eql (.t s55) (.c (.int .i64 (.ofNat 0))))
(vM s57 s58
dE)))
(o.cond (.t s57) (dSeq (dOps (vM s59 s13
(vM s8 s59
(vC s9 (.int .i64 (.ofNat 1))
dE))))
dRet) (dSeq (dOps (dV s61 (o.eql (.t s55) (.c (.int .i64 (.ofNat 12))))
(vM s60 s61
dE)))
(o.cond (.t s60) (dSeq (dOps (vM s62 s13
(vM s8 s62
(vC s9 (.int .i64 (.ofNat 2))
dE))))
dRet) (dSeq (dOps (vM s56 s13
(vM s8 s56
(vC s9 (.int .i64 (.ofNat 0))
dE))))
dRet)))))))))))))),[(.t s8),(.t s9)]⟩
def af386:AF:=afG386 fastO
def afG387 (o:Ops):AF:=⟨(dSeq (dOps (vM s10 s1
(vM s8 s10
dE)))
(dSeq (dOps (vM s11 s2
(dV s12 (o.sub (.t s11) (.c (.int .i64 (.ofNat 1))))
(vM s9 s12
dE))))
(dBlock 0 (dLoop (dSeq (dSeq (dOps (vM s13 s8
(vM s14 s9
(dV s15 (o.lss (.t s13) (.t s14))
dE))))
(o.cond (.t s15) dSkip (dExit 0)))
(dBlock 1 (dSeq (dDraw (lM s16 s0
(lM s17 s8
(lM s18 s0
(lM s19 s9
(lM s20 s0
(lM s21 s9
(lN s22 (o.ia 4 (.t s20) (.t s21))
(lN s23 (o.ldN 4 (.t s22))
(lM s24 s0
(lM s25 s8
(lN s26 (o.ia 4 (.t s24) (.t s25))
(lN s27 (o.ldN 4 (.t s26))
(lN s28 (o.ia 4 (.t s16) (.t s17))
(lE [] [] none (actV (oSt 4 (.t s28) (.t s23)))
(lN s29 (o.ia 4 (.t s18) (.t s19))
(lE [] [] none (actV (oSt 4 (.t s29) (.t s27)))
sEnd)))))))))))))))))
(dSeq (dOps (vM s30 s8
(dV s31 (o.add (.t s30) (.c (.int .i64 (.ofNat 1))))
(vM s8 s31
dE))))
(dOps (vM s32 s9
(dV s33 (o.sub (.t s32) (.c (.int .i64 (.ofNat 1))))
(vM s9 s33
dE)))))))))))),[]⟩
def af387:AF:=afG387 fastO
def afG388 (o:Ops):AF:=⟨(dSeq (dOps (vC s8 (.bool false)
dE))
(dSeq (dOps (vM s13 s1
(dV s14 (o.add (.t s13) (.c (.int .i64 (.ofNat 1))))
(vM s9 s14
dE))))
(dSeq (dSeq (dOps (vC s10 (.int .i64 (.ofNat 0))
dE))
(dBlock 0 (dLoop (dSeq (dSeq (dOps (vM s15 s10
(dV s16 (o.lss (.t s15) (.c (.int .i64 (.ofNat 5))))
dE)))
(o.cond (.t s16) dSkip (dExit 0)))
(dSeq (dBlock 1 (dSeq (dBlock 2 (dLoop (dSeq (dSeq (dDraw (lM s19 s9
(lM s20 s2
(lN s21 (o.lss (.t s19) (.t s20))
(lM s22 s21
(lG s22 true s23 (oMv (.t s3))
(lG s22 true s24 (oMv (.t s0))
(lG s22 true s25 (oMv (.t s9))
(lG s22 true s26 (o.ia 4 (.t s24) (.t s25))
(lG s22 true s27 (o.ldN 4 (.t s26))
(lG s22 true s28 (oMv (.t s0))
(lG s22 true s29 (oMv (.t s9))
(lG s22 true s30 (o.sub (.t s29) (.c (.int .i64 (.ofNat 1))))
(lG s22 true s31 (o.ia 4 (.t s28) (.t s30))
(lG s22 true s32 (o.ldN 4 (.t s31))
(lE [] [] (some s33) (eK ⟨(some s33),(.callv (.t s23) [(.t s27),(.t s32)]),(some (s22,true))⟩)
(lG s22 true s34 (o.lss (.t s33) (.c (.int .i64 (.ofNat 0))))
(lG s22 true s35 (o.not (.t s34))
(lN s36 (o.pick (.t s22) (.t s35) (.c (.bool false)))
sEnd)))))))))))))))))))
(o.cond (.t s36) dSkip (dExit 2)))
(dBlock 3 (dOps (vM s37 s9
(dV s38 (o.add (.t s37) (.c (.int .i64 (.ofNat 1))))
(vM s9 s38
dE))))))))
(dSeq (dSeq (dOps (vM s39 s9
(vM s40 s2
(dV s41 (o.eql (.t s39) (.t s40))
dE))))
(o.cond (.t s41) (dSeq (dOps (vC s8 (.bool true)
dE))
dRet) dSkip))
(dSeq (dSeq (dOps (vM s42 s2
(vM s43 s1
(dV s44 (o.sub (.t s42) (.t s43))
(dV s45 (o.lss (.t s44) (.c (.int .i64 (.ofNat 50))))
dE)))))
(o.cond (.t s45) (dSeq (dOps (vC s8 (.bool false)
dE))
dRet) dSkip))
(dSeq (dDraw (lM s46 s0
(lM s47 s9
(lM s48 s0
(lM s49 s9
(lN s50 (o.sub (.t s49) (.c (.int .i64 (.ofNat 1))))
(lM s51 s0
(lM s52 s9
(lN s53 (o.sub (.t s52) (.c (.int .i64 (.ofNat 1))))
(lN s54 (o.ia 4 (.t s51) (.t s53))
(lN s55 (o.ldN 4 (.t s54))
(lM s56 s0
(lM s57 s9
(lN s58 (o.ia 4 (.t s56) (.t s57))
(lN s59 (o.ldN 4 (.t s58))
(lN s60 (o.ia 4 (.t s46) (.t s47))
(lE [] [] none (actV (oSt 4 (.t s60) (.t s55)))
(lN s61 (o.ia 4 (.t s48) (.t s50))
(lE [] [] none (actV (oSt 4 (.t s61) (.t s59)))
sEnd)))))))))))))))))))
(dSeq (dSeq (dOps (vM s62 s9
(vM s63 s1
(dV s64 (o.sub (.t s62) (.t s63))
(dV s65 (o.geq (.t s64) (.c (.int .i64 (.ofNat 2))))
dE)))))
(o.cond (.t s65) (dSeq (dOps (vM s66 s9
(dV s67 (o.sub (.t s66) (.c (.int .i64 (.ofNat 1))))
(vM s11 s67
dE))))
(dBlock 4 (dLoop (dSeq (dSeq (dOps (vM s68 s11
(dV s69 (o.geq (.t s68) (.c (.int .i64 (.ofNat 1))))
dE)))
(o.cond (.t s69) dSkip (dExit 4)))
(dSeq (dBlock 5 (dSeq (dSeq (dDraw (lM s72 s3
(lM s73 s0
(lM s74 s11
(lN s75 (o.ia 4 (.t s73) (.t s74))
(lN s76 (o.ldN 4 (.t s75))
(lM s77 s0
(lM s78 s11
(lN s79 (o.sub (.t s78) (.c (.int .i64 (.ofNat 1))))
(lN s80 (o.ia 4 (.t s77) (.t s79))
(lN s81 (o.ldN 4 (.t s80))
(lE [] [] (some s82) (eK ⟨(some s82),(.callv (.t s72) [(.t s76),(.t s81)]),none⟩)
(lN s83 (o.lss (.t s82) (.c (.int .i64 (.ofNat 0))))
(lN s84 (o.not (.t s83))
sEnd))))))))))))))
(o.cond (.t s84) (dExit 4) dSkip))
(dDraw (lM s85 s0
(lM s86 s11
(lM s87 s0
(lM s88 s11
(lN s89 (o.sub (.t s88) (.c (.int .i64 (.ofNat 1))))
(lM s90 s0
(lM s91 s11
(lN s92 (o.sub (.t s91) (.c (.int .i64 (.ofNat 1))))
(lN s93 (o.ia 4 (.t s90) (.t s92))
(lN s94 (o.ldN 4 (.t s93))
(lM s95 s0
(lM s96 s11
(lN s97 (o.ia 4 (.t s95) (.t s96))
(lN s98 (o.ldN 4 (.t s97))
(lN s99 (o.ia 4 (.t s85) (.t s86))
(lE [] [] none (actV (oSt 4 (.t s99) (.t s94)))
(lN s100 (o.ia 4 (.t s87) (.t s89))
(lE [] [] none (actV (oSt 4 (.t s100) (.t s98)))
sEnd)))))))))))))))))))))
(dOps (vM s70 s11
(dV s71 (o.sub (.t s70) (.c (.int .i64 (.ofNat 1))))
(vM s11 s71
dE))))))))) dSkip))
(dSeq (dOps (vM s101 s2
(vM s102 s9
(dV s103 (o.sub (.t s101) (.t s102))
(dV s104 (o.geq (.t s103) (.c (.int .i64 (.ofNat 2))))
dE)))))
(o.cond (.t s104) (dSeq (dOps (vM s105 s9
(dV s106 (o.add (.t s105) (.c (.int .i64 (.ofNat 1))))
(vM s12 s106
dE))))
(dBlock 6 (dLoop (dSeq (dSeq (dOps (vM s107 s12
(vM s108 s2
(dV s109 (o.lss (.t s107) (.t s108))
dE))))
(o.cond (.t s109) dSkip (dExit 6)))
(dSeq (dBlock 7 (dSeq (dSeq (dDraw (lM s112 s3
(lM s113 s0
(lM s114 s12
(lN s115 (o.ia 4 (.t s113) (.t s114))
(lN s116 (o.ldN 4 (.t s115))
(lM s117 s0
(lM s118 s12
(lN s119 (o.sub (.t s118) (.c (.int .i64 (.ofNat 1))))
(lN s120 (o.ia 4 (.t s117) (.t s119))
(lN s121 (o.ldN 4 (.t s120))
(lE [] [] (some s122) (eK ⟨(some s122),(.callv (.t s112) [(.t s116),(.t s121)]),none⟩)
(lN s123 (o.lss (.t s122) (.c (.int .i64 (.ofNat 0))))
(lN s124 (o.not (.t s123))
sEnd))))))))))))))
(o.cond (.t s124) (dExit 6) dSkip))
(dDraw (lM s125 s0
(lM s126 s12
(lM s127 s0
(lM s128 s12
(lN s129 (o.sub (.t s128) (.c (.int .i64 (.ofNat 1))))
(lM s130 s0
(lM s131 s12
(lN s132 (o.sub (.t s131) (.c (.int .i64 (.ofNat 1))))
(lN s133 (o.ia 4 (.t s130) (.t s132))
(lN s134 (o.ldN 4 (.t s133))
(lM s135 s0
(lM s136 s12
(lN s137 (o.ia 4 (.t s135) (.t s136))
(lN s138 (o.ldN 4 (.t s137))
(lN s139 (o.ia 4 (.t s125) (.t s126))
(lE [] [] none (actV (oSt 4 (.t s139) (.t s134)))
(lN s140 (o.ia 4 (.t s127) (.t s129))
(lE [] [] none (actV (oSt 4 (.t s140) (.t s138)))
sEnd)))))))))))))))))))))
(dOps (vM s110 s12
(dV s111 (o.add (.t s110) (.c (.int .i64 (.ofNat 1))))
(vM s12 s111
dE))))))))) dSkip))))))))
(dOps (vM s17 s10
(dV s18 (o.add (.t s17) (.c (.int .i64 (.ofNat 1))))
(vM s10 s18
dE)))))))))
(dSeq (dOps (vC s8 (.bool false)
dE))
dRet)))),[(.t s8)]⟩
def af388:AF:=afG388 fastO
def afG389 (o:Ops):AF:=⟨(dSeq (dOps (vC s10 (.int .i64 (.ofNat 0))
dE))
(dSeq (dDraw (lM s13 s0
(lM s14 s1
(lM s15 s0
(lM s16 s3
(lM s17 s0
(lM s18 s3
(lN s19 (o.ia 4 (.t s17) (.t s18))
(lN s20 (o.ldN 4 (.t s19))
(lM s21 s0
(lM s22 s1
(lN s23 (o.ia 4 (.t s21) (.t s22))
(lN s24 (o.ldN 4 (.t s23))
(lN s25 (o.ia 4 (.t s13) (.t s14))
(lE [] [] none (actV (oSt 4 (.t s25) (.t s20)))
(lN s26 (o.ia 4 (.t s15) (.t s16))
(lE [] [] none (actV (oSt 4 (.t s26) (.t s24)))
sEnd)))))))))))))))))
(dSeq (dOps (vM s27 s1
(dV s28 (o.add (.t s27) (.c (.int .i64 (.ofNat 1))))
(vM s29 s2
(dV s30 (o.sub (.t s29) (.c (.int .i64 (.ofNat 1))))
(vM s11 s28
(vM s12 s30
dE)))))))
(dSeq (dBlock 0 (dLoop (dBlock 1 (dSeq (dBlock 2 (dLoop (dSeq (dSeq (dDraw (lM s31 s11
(lM s32 s12
(lN s33 (o.leq (.t s31) (.t s32))
(lM s34 s33
(lG s34 true s35 (oMv (.t s4))
(lG s34 true s36 (oMv (.t s0))
(lG s34 true s37 (oMv (.t s1))
(lG s34 true s38 (o.ia 4 (.t s36) (.t s37))
(lG s34 true s39 (o.ldN 4 (.t s38))
(lG s34 true s40 (oMv (.t s0))
(lG s34 true s41 (oMv (.t s11))
(lG s34 true s42 (o.ia 4 (.t s40) (.t s41))
(lG s34 true s43 (o.ldN 4 (.t s42))
(lE [] [] (some s44) (eK ⟨(some s44),(.callv (.t s35) [(.t s39),(.t s43)]),(some (s34,true))⟩)
(lG s34 true s45 (o.lss (.t s44) (.c (.int .i64 (.ofNat 0))))
(lG s34 true s46 (o.not (.t s45))
(lN s47 (o.pick (.t s34) (.t s46) (.c (.bool false)))
sEnd))))))))))))))))))
(o.cond (.t s47) dSkip (dExit 2)))
(dBlock 3 (dOps (vM s48 s11
(dV s49 (o.add (.t s48) (.c (.int .i64 (.ofNat 1))))
(vM s11 s49
dE))))))))
(dSeq (dBlock 4 (dLoop (dSeq (dSeq (dDraw (lM s50 s11
(lM s51 s12
(lN s52 (o.leq (.t s50) (.t s51))
(lM s53 s52
(lG s53 true s54 (oMv (.t s4))
(lG s53 true s55 (oMv (.t s0))
(lG s53 true s56 (oMv (.t s1))
(lG s53 true s57 (o.ia 4 (.t s55) (.t s56))
(lG s53 true s58 (o.ldN 4 (.t s57))
(lG s53 true s59 (oMv (.t s0))
(lG s53 true s60 (oMv (.t s12))
(lG s53 true s61 (o.ia 4 (.t s59) (.t s60))
(lG s53 true s62 (o.ldN 4 (.t s61))
(lE [] [] (some s63) (eK ⟨(some s63),(.callv (.t s54) [(.t s58),(.t s62)]),(some (s53,true))⟩)
(lG s53 true s64 (o.lss (.t s63) (.c (.int .i64 (.ofNat 0))))
(lN s65 (o.pick (.t s53) (.t s64) (.c (.bool false)))
sEnd)))))))))))))))))
(o.cond (.t s65) dSkip (dExit 4)))
(dBlock 5 (dOps (vM s66 s12
(dV s67 (o.sub (.t s66) (.c (.int .i64 (.ofNat 1))))
(vM s12 s67
dE))))))))
(dSeq (dSeq (dOps (vM s68 s11
(vM s69 s12
(dV s70 (o.gtr (.t s68) (.t s69))
dE))))
(o.cond (.t s70) (dExit 0) dSkip))
(dSeq (dDraw (lM s71 s0
(lM s72 s11
(lM s73 s0
(lM s74 s12
(lM s75 s0
(lM s76 s12
(lN s77 (o.ia 4 (.t s75) (.t s76))
(lN s78 (o.ldN 4 (.t s77))
(lM s79 s0
(lM s80 s11
(lN s81 (o.ia 4 (.t s79) (.t s80))
(lN s82 (o.ldN 4 (.t s81))
(lN s83 (o.ia 4 (.t s71) (.t s72))
(lE [] [] none (actV (oSt 4 (.t s83) (.t s78)))
(lN s84 (o.ia 4 (.t s73) (.t s74))
(lE [] [] none (actV (oSt 4 (.t s84) (.t s82)))
sEnd)))))))))))))))))
(dSeq (dOps (vM s85 s11
(dV s86 (o.add (.t s85) (.c (.int .i64 (.ofNat 1))))
(vM s11 s86
dE))))
(dOps (vM s87 s12
(dV s88 (o.sub (.t s87) (.c (.int .i64 (.ofNat 1))))
(vM s12 s88
dE))))))))))))
(dSeq (dOps (vM s89 s11
(vM s10 s89
dE)))
dRet))))),[(.t s10)]⟩
def af389:AF:=afG389 fastO
def afG390 (o:Ops):AF:=⟨(dSeq (dOps (vC s10 (.int .i64 (.ofNat 0))
(vC s11 (.bool false)
dE)))
(dSeq (dDraw (lM s14 s0
(lM s15 s1
(lM s16 s0
(lM s17 s3
(lM s18 s0
(lM s19 s3
(lN s20 (o.ia 4 (.t s18) (.t s19))
(lN s21 (o.ldN 4 (.t s20))
(lM s22 s0
(lM s23 s1
(lN s24 (o.ia 4 (.t s22) (.t s23))
(lN s25 (o.ldN 4 (.t s24))
(lN s26 (o.ia 4 (.t s14) (.t s15))
(lE [] [] none (actV (oSt 4 (.t s26) (.t s21)))
(lN s27 (o.ia 4 (.t s16) (.t s17))
(lE [] [] none (actV (oSt 4 (.t s27) (.t s25)))
sEnd)))))))))))))))))
(dSeq (dOps (vM s28 s1
(dV s29 (o.add (.t s28) (.c (.int .i64 (.ofNat 1))))
(vM s30 s2
(dV s31 (o.sub (.t s30) (.c (.int .i64 (.ofNat 1))))
(vM s12 s29
(vM s13 s31
dE)))))))
(dSeq (dBlock 0 (dLoop (dSeq (dSeq (dDraw (lM s32 s12
(lM s33 s13
(lN s34 (o.leq (.t s32) (.t s33))
(lM s35 s34
(lG s35 true s36 (oMv (.t s4))
(lG s35 true s37 (oMv (.t s0))
(lG s35 true s38 (oMv (.t s12))
(lG s35 true s39 (o.ia 4 (.t s37) (.t s38))
(lG s35 true s40 (o.ldN 4 (.t s39))
(lG s35 true s41 (oMv (.t s0))
(lG s35 true s42 (oMv (.t s1))
(lG s35 true s43 (o.ia 4 (.t s41) (.t s42))
(lG s35 true s44 (o.ldN 4 (.t s43))
(lE [] [] (some s45) (eK ⟨(some s45),(.callv (.t s36) [(.t s40),(.t s44)]),(some (s35,true))⟩)
(lG s35 true s46 (o.lss (.t s45) (.c (.int .i64 (.ofNat 0))))
(lN s47 (o.pick (.t s35) (.t s46) (.c (.bool false)))
sEnd)))))))))))))))))
(o.cond (.t s47) dSkip (dExit 0)))
(dBlock 1 (dOps (vM s48 s12
(dV s49 (o.add (.t s48) (.c (.int .i64 (.ofNat 1))))
(vM s12 s49
dE))))))))
(dSeq (dBlock 2 (dLoop (dSeq (dSeq (dDraw (lM s50 s12
(lM s51 s13
(lN s52 (o.leq (.t s50) (.t s51))
(lM s53 s52
(lG s53 true s54 (oMv (.t s4))
(lG s53 true s55 (oMv (.t s0))
(lG s53 true s56 (oMv (.t s13))
(lG s53 true s57 (o.ia 4 (.t s55) (.t s56))
(lG s53 true s58 (o.ldN 4 (.t s57))
(lG s53 true s59 (oMv (.t s0))
(lG s53 true s60 (oMv (.t s1))
(lG s53 true s61 (o.ia 4 (.t s59) (.t s60))
(lG s53 true s62 (o.ldN 4 (.t s61))
(lE [] [] (some s63) (eK ⟨(some s63),(.callv (.t s54) [(.t s58),(.t s62)]),(some (s53,true))⟩)
(lG s53 true s64 (o.lss (.t s63) (.c (.int .i64 (.ofNat 0))))
(lG s53 true s65 (o.not (.t s64))
(lN s66 (o.pick (.t s53) (.t s65) (.c (.bool false)))
sEnd))))))))))))))))))
(o.cond (.t s66) dSkip (dExit 2)))
(dBlock 3 (dOps (vM s67 s13
(dV s68 (o.sub (.t s67) (.c (.int .i64 (.ofNat 1))))
(vM s13 s68
dE))))))))
(dSeq (dSeq (dOps (vM s69 s12
(vM s70 s13
(dV s71 (o.gtr (.t s69) (.t s70))
dE))))
(o.cond (.t s71) (dSeq (dDraw (lM s72 s0
(lM s73 s13
(lM s74 s0
(lM s75 s1
(lM s76 s0
(lM s77 s1
(lN s78 (o.ia 4 (.t s76) (.t s77))
(lN s79 (o.ldN 4 (.t s78))
(lM s80 s0
(lM s81 s13
(lN s82 (o.ia 4 (.t s80) (.t s81))
(lN s83 (o.ldN 4 (.t s82))
(lN s84 (o.ia 4 (.t s72) (.t s73))
(lE [] [] none (actV (oSt 4 (.t s84) (.t s79)))
(lN s85 (o.ia 4 (.t s74) (.t s75))
(lE [] [] none (actV (oSt 4 (.t s85) (.t s83)))
sEnd)))))))))))))))))
(dSeq (dOps (vM s86 s13
(vM s10 s86
(vC s11 (.bool true)
dE))))
dRet)) dSkip))
(dSeq (dDraw (lM s87 s0
(lM s88 s12
(lM s89 s0
(lM s90 s13
(lM s91 s0
(lM s92 s13
(lN s93 (o.ia 4 (.t s91) (.t s92))
(lN s94 (o.ldN 4 (.t s93))
(lM s95 s0
(lM s96 s12
(lN s97 (o.ia 4 (.t s95) (.t s96))
(lN s98 (o.ldN 4 (.t s97))
(lN s99 (o.ia 4 (.t s87) (.t s88))
(lE [] [] none (actV (oSt 4 (.t s99) (.t s94)))
(lN s100 (o.ia 4 (.t s89) (.t s90))
(lE [] [] none (actV (oSt 4 (.t s100) (.t s98)))
sEnd)))))))))))))))))
(dSeq (dOps (vM s101 s12
(dV s102 (o.add (.t s101) (.c (.int .i64 (.ofNat 1))))
(vM s12 s102
dE))))
(dSeq (dOps (vM s103 s13
(dV s104 (o.sub (.t s103) (.c (.int .i64 (.ofNat 1))))
(vM s13 s104
dE))))
(dSeq (dBlock 4 (dLoop (dBlock 5 (dSeq (dBlock 6 (dLoop (dSeq (dSeq (dDraw (lM s105 s12
(lM s106 s13
(lN s107 (o.leq (.t s105) (.t s106))
(lM s108 s107
(lG s108 true s109 (oMv (.t s4))
(lG s108 true s110 (oMv (.t s0))
(lG s108 true s111 (oMv (.t s12))
(lG s108 true s112 (o.ia 4 (.t s110) (.t s111))
(lG s108 true s113 (o.ldN 4 (.t s112))
(lG s108 true s114 (oMv (.t s0))
(lG s108 true s115 (oMv (.t s1))
(lG s108 true s116 (o.ia 4 (.t s114) (.t s115))
(lG s108 true s117 (o.ldN 4 (.t s116))
(lE [] [] (some s118) (eK ⟨(some s118),(.callv (.t s109) [(.t s113),(.t s117)]),(some (s108,true))⟩)
(lG s108 true s119 (o.lss (.t s118) (.c (.int .i64 (.ofNat 0))))
(lN s120 (o.pick (.t s108) (.t s119) (.c (.bool false)))
sEnd)))))))))))))))))
(o.cond (.t s120) dSkip (dExit 6)))
(dBlock 7 (dOps (vM s121 s12
(dV s122 (o.add (.t s121) (.c (.int .i64 (.ofNat 1))))
(vM s12 s122
dE))))))))
(dSeq (dBlock 8 (dLoop (dSeq (dSeq (dDraw (lM s123 s12
(lM s124 s13
(lN s125 (o.leq (.t s123) (.t s124))
(lM s126 s125
(lG s126 true s127 (oMv (.t s4))
(lG s126 true s128 (oMv (.t s0))
(lG s126 true s129 (oMv (.t s13))
(lG s126 true s130 (o.ia 4 (.t s128) (.t s129))
(lG s126 true s131 (o.ldN 4 (.t s130))
(lG s126 true s132 (oMv (.t s0))
(lG s126 true s133 (oMv (.t s1))
(lG s126 true s134 (o.ia 4 (.t s132) (.t s133))
(lG s126 true s135 (o.ldN 4 (.t s134))
(lE [] [] (some s136) (eK ⟨(some s136),(.callv (.t s127) [(.t s131),(.t s135)]),(some (s126,true))⟩)
(lG s126 true s137 (o.lss (.t s136) (.c (.int .i64 (.ofNat 0))))
(lG s126 true s138 (o.not (.t s137))
(lN s139 (o.pick (.t s126) (.t s138) (.c (.bool false)))
sEnd))))))))))))))))))
(o.cond (.t s139) dSkip (dExit 8)))
(dBlock 9 (dOps (vM s140 s13
(dV s141 (o.sub (.t s140) (.c (.int .i64 (.ofNat 1))))
(vM s13 s141
dE))))))))
(dSeq (dSeq (dOps (vM s142 s12
(vM s143 s13
(dV s144 (o.gtr (.t s142) (.t s143))
dE))))
(o.cond (.t s144) (dExit 4) dSkip))
(dSeq (dDraw (lM s145 s0
(lM s146 s12
(lM s147 s0
(lM s148 s13
(lM s149 s0
(lM s150 s13
(lN s151 (o.ia 4 (.t s149) (.t s150))
(lN s152 (o.ldN 4 (.t s151))
(lM s153 s0
(lM s154 s12
(lN s155 (o.ia 4 (.t s153) (.t s154))
(lN s156 (o.ldN 4 (.t s155))
(lN s157 (o.ia 4 (.t s145) (.t s146))
(lE [] [] none (actV (oSt 4 (.t s157) (.t s152)))
(lN s158 (o.ia 4 (.t s147) (.t s148))
(lE [] [] none (actV (oSt 4 (.t s158) (.t s156)))
sEnd)))))))))))))))))
(dSeq (dOps (vM s159 s12
(dV s160 (o.add (.t s159) (.c (.int .i64 (.ofNat 1))))
(vM s12 s160
dE))))
(dOps (vM s161 s13
(dV s162 (o.sub (.t s161) (.c (.int .i64 (.ofNat 1))))
(vM s13 s162
dE))))))))))))
(dSeq (dDraw (lM s163 s0
(lM s164 s13
(lM s165 s0
(lM s166 s1
(lM s167 s0
(lM s168 s1
(lN s169 (o.ia 4 (.t s167) (.t s168))
(lN s170 (o.ldN 4 (.t s169))
(lM s171 s0
(lM s172 s13
(lN s173 (o.ia 4 (.t s171) (.t s172))
(lN s174 (o.ldN 4 (.t s173))
(lN s175 (o.ia 4 (.t s163) (.t s164))
(lE [] [] none (actV (oSt 4 (.t s175) (.t s170)))
(lN s176 (o.ia 4 (.t s165) (.t s166))
(lE [] [] none (actV (oSt 4 (.t s176) (.t s174)))
sEnd)))))))))))))))))
(dSeq (dOps (vM s177 s13
(vM s10 s177
(vC s11 (.bool false)
dE))))
dRet)))))))))))),[(.t s10),(.t s11)]⟩
def af390:AF:=afG390 fastO
def afG391 (o:Ops):AF:=⟨(dSeq (dOps (vC s10 (.int .i64 (.ofNat 0))
(vC s11 (.int .i64 (.ofNat 0))
dE)))
(dSeq (dSeq (dDraw (lM s12 s4
(lM s13 s0
(lM s14 s2
(lN s15 (o.ia 2 (.t s13) (.t s14))
(lN s16 (o.ldN 2 (.t s15))
(lM s17 s0
(lM s18 s1
(lN s19 (o.ia 2 (.t s17) (.t s18))
(lN s20 (o.ldN 2 (.t s19))
(lE [] [] (some s21) (eK ⟨(some s21),(.callv (.t s12) [(.t s16),(.t s20)]),none⟩)
(lN s22 (o.lss (.t s21) (.c (.int .i64 (.ofNat 0))))
sEnd))))))))))))
(o.cond (.t s22) (dSeq (dOps (vM s23 s3
(dV s24 (o.nchk (.t s23))
(dV s25 (o.ld1 (.t s24))
(dV s26 (o.add (.t s25) (.c (.int .i64 (.ofNat 1))))
(dV s27 (o.nchk (.t s23))
(dU (o.st1 (.t s27) (.t s26))
dE)))))))
(dSeq (dOps (vM s28 s2
(vM s29 s1
(vM s10 s28
(vM s11 s29
dE)))))
dRet)) dSkip))
(dSeq (dOps (vM s30 s1
(vM s31 s2
(vM s10 s30
(vM s11 s31
dE)))))
dRet))),[(.t s10),(.t s11)]⟩
def af391:AF:=afG391 fastO
def afG392 (o:Ops):AF:=⟨(dSeq (dOps (dV s3 (oBox 30 (.t s1))
(vC s4 .nilp
dE)))
(dSeq (dOps (dV s6 (o.ldN 6 (.t s3))
(dV s7 (oBuild [(.int .i64 (.ofNat 0)),(.int .i64 (.ofNat 0)),(.bool false),(.str []),.nils,.nils,(.int .i64 (.ofNat 0)),(.int .i64 (.ofNat 0)),(.str []),(.int .i64 (.ofNat 0)),(.int .i64 (.ofNat 0)),(.int .i64 (.ofNat 0)),(.bool false),(.str []),.nils,.nils,(.int .i64 (.ofNat 0)),(.int .i64 (.ofNat 0)),(.bool false),(.str []),.nils,.nils,(.int .i64 (.ofNat 0)),.nils,.nilp,.nilp,.nils] [(0,6,(.t s6))])
(dV s8 (oBox 461 (.t s7))
(vM s5 s8
dE)))))
(dSeq (dDraw (lM s10 s5
(lM s11 s5
(lM s12 s0
(lN s13 (o.nchk (.t s12))
(lN s14 (o.fa 0 (.t s13))
(lN s15 (o.ld1 (.t s14))
(lN s16 (o.fa 3 (.t s3))
(lN s17 (o.ld1 (.t s16))
(lE [] [] (some s18) (actC p245 [(.t s15),(.t s17)])
(lM s9 s18
(lN s19 (o.ext (.t s9) 0)
(lN s20 (o.ext (.t s9) 1)
(lN s21 (o.nchk (.t s10))
(lN s22 (o.fa 7 (.t s21))
(lE [] [] none (actV (oSt 17 (.t s22) (.t s19)))
(lN s23 (o.nchk (.t s11))
(lN s24 (o.fa 6 (.t s23))
(lE [] [] none (actV (o.st1 (.t s24) (.t s20)))
sEnd)))))))))))))))))))
(dSeq (dSeq (dOps (vM s25 s5
(dV s26 (o.nchk (.t s25))
(dV s27 (o.fa 7 (.t s26))
(dV s28 (o.fa 0 (.t s27))
(dV s29 (o.ld1 (.t s28))
(dV s30 (o.eql (.t s29) (.c (.int .i64 (.ofNat 3))))
dE)))))))
(o.cond (.t s30) (dSeq (dOps (vM s31 s5
(vM s32 s0
(vM s33 s5
(dV s34 (o.nchk (.t s33))
(dV s35 (o.fa 7 (.t s34))
(dV s36 (o.ldN 17 (.t s35))
(dC (some s37) p408 [(.t s32),(.t s36)]
(dV s38 (o.nchk (.t s31))
(dV s39 (o.fa 24 (.t s38))
(dU (o.st1 (.t s39) (.t s37))
dE)))))))))))
(dOps (vM s40 s5
(vM s41 s5
(dV s42 (o.nchk (.t s41))
(dV s43 (o.fa 7 (.t s42))
(dV s44 (o.fa 16 (.t s43))
(dV s45 (o.ld1 (.t s44))
(dV s46 (o.len (.t s45))
(dV s47 (oMkS 166 1 [.nilp] (.t s46) (.t s46))
(dV s48 (o.nchk (.t s40))
(dV s49 (o.fa 26 (.t s48))
(dU (o.st1 (.t s49) (.t s47))
dE))))))))))))) dSkip))
(dSeq (dOps (vM s50 s5
(vM s4 s50
dE)))
dRet))))),[(.t s4)]⟩
def af392:AF:=afG392 fastO
def afG393 (o:Ops):AF:=⟨(dSeq (dOps (dV s2 (oBox 33 (.t s0))
(vC s4 .nils
(vC s5 .nils
(vC s6 .nils
(vC s7 (.int .i64 (.ofNat 0))
dE))))))
(dSeq (dOps (dV s13 (o.ldN 17 (.t s2))
(vM s14 s1
(dC (some s15) p409 [(.t s13),(.t s14)]
(vM s12 s15
(dV s16 (o.ext (.t s12) 0)
(dV s17 (o.ext (.t s12) 1)
(dV s18 (o.ext (.t s12) 2)
(dV s8 (oNew [(.int .i64 (.ofNat 0)),(.str []),(.int .i64 (.ofNat 0)),(.int .i64 (.ofNat 0)),(.int .i64 (.ofNat 0)),(.bool false),(.str []),.nils,.nils,(.int .i64 (.ofNat 0)),(.int .i64 (.ofNat 0)),(.bool false),(.str []),.nils,.nils,(.int .i64 (.ofNat 0)),.nils,.nils,.nils,(.int .i64 (.ofNat 0)),.nils] 404)
(dV s9 (oNew [(.str []),.nils,.nils,.nils] 413)
(dU (oSt 21 (.t s8) (.t s16))
(dU (oSt 4 (.t s9) (.t s17))
(vM s7 s18
dE)))))))))))))
(dSeq (dSeq (dOps (dV s19 (o.fa 2 (.t s9))
(dV s20 (o.ld1 (.t s19))
(dV s21 (o.len (.t s20))
(vC s22 (.int .i64 (.ofNat 0))
dE)))))
(dBlock 0 (dLoop (dSeq (dOps (dV s23 (o.lss (.t s22) (.t s21))
dE))
(dSeq (o.cond (.t s23) dSkip (dExit 0))
(dSeq (dBlock 1 (dSeq (dOps (dV s24 (o.ia 3 (.t s20) (.t s22))
(dV s25 (o.ldN 3 (.t s24))
(dV s11 (oNew [(.int .i64 (.ofNat 0)),.nils,.nils] 506)
(dU (oSt 3 (.t s11) (.t s25))
dE)))))
(dOps (vM s26 s5
(dV s27 (o.fa 0 (.t s11))
(dV s28 (o.ld1 (.t s27))
(dV s29 (oBuildS 3 1 [(.int .i64 (.ofNat 0))] [(0,1,(.t s28))])
(dV s30 (oApp 3 1 (.t s26) (.t s29))
(vM s5 s30
dE)))))))))
(dOps (dV s31 (o.add (.t s22) (.c (.int .i64 (.ofNat 1))))
(vM s22 s31
dE)))))))))
(dSeq (dDraw (lN s32 (o.fa 1 (.t s9))
(lN s33 (o.ld1 (.t s32))
(lM s34 s5
(lN s35 (o.fa 3 (.t s9))
(lN s36 (o.ld1 (.t s35))
(lM s37 s7
(lM s4 s33
(lE [] [(s36,(o.ld1 (.t s35)))] (some s5) (actV (oMv (.t s34)))
(lM s6 s36
(lE [] [] (some s7) (actV (oMv (.t s37)))
sEnd)))))))))))
dRet)))),[(.t s4),(.t s5),(.t s6),(.t s7)]⟩
def af393:AF:=afG393 fastO
def afG394 (o:Ops):AF:=⟨(dSeq (dOps (dV s2 (oBox 30 (.t s0))
(dV s4 (oNew [(.int .i64 (.ofNat 0)),(.int .i64 (.ofNat 0)),(.bool false),(.str []),.nils,.nils] 30)
dE)))
(dSeq (dSeq (dOps (vM s7 s1
(dV s8 (o.len (.t s7))
(vC s9 (.int .i64 (.ofNat 0))
dE))))
(dBlock 0 (dLoop (dSeq (dOps (dV s10 (o.lss (.t s9) (.t s8))
dE))
(dSeq (o.cond (.t s10) dSkip (dExit 0))
(dSeq (dBlock 1 (dSeq (dOps (dV s11 (o.ia 6 (.t s7) (.t s9))
(dV s12 (o.ldN 6 (.t s11))
(dV s6 (oNew [(.int .i64 (.ofNat 0)),(.int .i64 (.ofNat 0)),(.bool false),(.str []),.nils,.nils] 30)
(dU (oSt 6 (.t s6) (.t s12))
dE)))))
(dOps (dV s13 (o.ldN 6 (.t s2))
(dV s14 (o.ldN 6 (.t s6))
(dV s15 (oBuildS 30 2 [(.int .i64 (.ofNat 0)),(.int .i64 (.ofNat 0)),(.bool false),(.str []),.nils,.nils,(.int .i64 (.ofNat 0)),(.int .i64 (.ofNat 0)),(.bool false),(.str []),.nils,.nils] [(0,6,(.t s13)),(6,6,(.t s14))])
(dV s16 (oBuild [(.int .i64 (.ofNat 0)),(.int .i64 (.ofNat 0)),(.bool false),(.str []),.nils,.nils] [(0,1,(.c (.int .i64 (.ofNat 5)))),(5,1,(.t s15))])
(dU (oSt 6 (.t s2) (.t s16))
dE))))))))
(dOps (dV s17 (o.add (.t s9) (.c (.int .i64 (.ofNat 1))))
(vM s9 s17
dE)))))))))
(dSeq (dOps (dV s18 (o.ldN 6 (.t s2))
(dU (oSt 6 (.t s4) (.t s18))
dE)))
dRet))),[(.cN s4 6)]⟩
def af394:AF:=afG394 fastO
def afG395 (o:Ops):AF:=⟨(dSeq (dOps (vC s6 .nils
dE))
(dSeq (dOps (vC s7 .nils
dE))
(dSeq (dSeq (dOps (vM s9 s2
(vC s10 (.int .i64 (.ofNat 0))
dE)))
(dBlock 0 (dLoop (dSeq (dOps (dV s11 (o.lss (.t s10) (.t s9))
dE))
(dSeq (o.cond (.t s11) dSkip (dExit 0))
(dSeq (dBlock 1 (dSeq (dOps (vM s12 s10
(vM s8 s12
dE)))
(dOps (vM s13 s7
(vM s14 s0
(dV s15 (o.sub (.t s14) (.c (.int .i64 (.ofNat 1))))
(vM s16 s1
(dV s17 (o.sub (.t s15) (.t s16))
(vM s18 s8
(dV s19 (o.sub (.t s17) (.t s18))
(dV s20 (oBuild [(.int .i64 (.ofNat 0)),(.int .i64 (.ofNat 0)),(.bool false),(.str []),.nils,.nils] [(0,1,(.c (.int .i64 (.ofNat 1)))),(1,1,(.t s19))])
(dV s21 (oBuildS 30 1 [(.int .i64 (.ofNat 0)),(.int .i64 (.ofNat 0)),(.bool false),(.str []),.nils,.nils] [(0,6,(.t s20))])
(dV s22 (oApp 30 6 (.t s13) (.t s21))
(vM s7 s22
dE))))))))))))))
(dOps (dV s23 (o.add (.t s10) (.c (.int .i64 (.ofNat 1))))
(vM s10 s23
dE)))))))))
(dSeq (dOps (vM s24 s7
(vM s6 s24
dE)))
dRet)))),[(.t s6)]⟩
def af395:AF:=afG395 fastO
def afG396 (o:Ops):AF:=⟨(dSeq (dOps (dV s2 (oBox 497 (.t s0))
(dV s4 (oNew [(.int .i64 (.ofNat 0)),(.int .i64 (.ofNat 0)),(.bool false),(.str []),.nils,.nils] 30)
dE)))
(dSeq (dOps (dV s12 (o.ldN 8 (.t s2))
(vM s13 s1
(dC (some s14) p410 [(.t s12),(.t s13)]
(vM s11 s14
(dV s15 (o.ext (.t s11) 0)
(dV s16 (o.ext (.t s11) 1)
(vM s5 s15
(vM s6 s16
dE)))))))))
(dSeq (dDraw (lN s17 (o.fa 6 (.t s2))
(lN s18 (o.ld1 (.t s17))
(lN s20 (o.fa 7 (.t s2))
(lN s21 (o.ld1 (.t s20))
(lN s22 (o.nchk (.t s21))
(lN s23 (o.fa 2 (.t s22))
(lN s24 (o.ld1 (.t s23))
(lN s25 (o.len (.t s24))
(lM s27 s5
(lN s28 (o.len (.t s27))
(lE [] [(s21,(o.ld1 (.t s20))),(s24,(o.ld1 (.t s23)))] (some s19) (actC p366 [(.t s18)])
(lN s26 (o.add (.t s19) (.t s25))
(lN s29 (o.add (.t s26) (.t s28))
(lM s7 s29
sEnd)))))))))))))))
(dSeq (dDraw (lN s30 (o.fa 0 (.t s2))
(lN s31 (o.ldN 6 (.t s30))
(lM s32 s7
(lN s33 (o.fa 6 (.t s2))
(lN s34 (o.ld1 (.t s33))
(lA 8 s8 (aNew [(.int .i64 (.ofNat 0)),(.int .i64 (.ofNat 0)),(.bool false),(.str []),.nils,.nils] 30)
(lE [] [(s31,(o.ldN 6 (.t s30)))] (some s35) (actC p366 [(.t s34)])
(lE [] [(s31,(o.ldN 6 (.t s30)))] (some s36) (actC p395 [(.t s32),(.c (.int .i64 (.ofNat 0))),(.t s35)])
(lE [] [] (some s37) (actC p394 [(.t s31),(.t s36)])
(lE [8] [] none (actV (oSt 6 (.t s8) (.t s37)))
sEnd)))))))))))
(dSeq (dOps (dV s38 (o.ldN 6 (.t s8))
(vM s39 s6
(dC (some s40) p394 [(.t s38),(.t s39)]
(dU (oSt 6 (.t s8) (.t s40))
dE)))))
(dSeq (dDraw (lN s41 (o.ldN 6 (.t s8))
(lM s42 s7
(lN s43 (o.fa 6 (.t s2))
(lN s44 (o.ld1 (.t s43))
(lM s46 s1
(lM s51 s7
(lM s52 s7
(lM s53 s5
(lN s54 (o.len (.t s53))
(lN s55 (o.sub (.t s52) (.t s54))
(lM s56 s5
(lN s57 (o.len (.t s56))
(lE [] [(s41,(o.ldN 6 (.t s8)))] (some s45) (actC p366 [(.t s44)])
(lN s47 (o.add (.t s45) (.t s46))
(lE [] [(s41,(o.ldN 6 (.t s8)))] (some s48) (actC p395 [(.t s42),(.t s47),(.c (.int .i64 (.ofNat 1)))])
(lN s49 (o.ia 6 (.t s48) (.c (.int .i64 (.ofNat 0))))
(lN s50 (o.ldN 6 (.t s49))
(lE [] [(s41,(o.ldN 6 (.t s8))),(s50,(o.ldN 6 (.t s49)))] (some s58) (actC p395 [(.t s51),(.t s55),(.t s57)])
(lE [] [(s41,(o.ldN 6 (.t s8)))] (some s59) (actC p394 [(.t s50),(.t s58)])
(lA 19 s60 (floatK (.buildS 30 1 [(.int .i64 (.ofNat 0)),(.int .i64 (.ofNat 0)),(.bool false),(.str []),.nils,.nils] [(0,6,(.t s59))]))
(lE [19] [] (some s61) (actC p394 [(.t s41),(.t s60)])
(lE [19] [] none (actV (oSt 6 (.t s8) (.t s61)))
sEnd)))))))))))))))))))))))
(dSeq (dSeq (dOps (vM s62 s5
(dC (some s63) p411 [(.t s62)]
dE)))
(dBlock 0 (dRange (.t s63) [s64,s65] (dOps (dV s10 (oNew [(.int .i64 (.ofNat 0)),(.int .i64 (.ofNat 0)),(.bool false),(.str []),.nils,.nils] 30)
(dU (oSt 6 (.t s10) (.t s65))
dE))) (dBlock 1 (dOps (dV s66 (o.ldN 6 (.t s10))
(dV s67 (o.ldN 6 (.t s8))
(dV s68 (oBuildS 30 2 [(.int .i64 (.ofNat 0)),(.int .i64 (.ofNat 0)),(.bool false),(.str []),.nils,.nils,(.int .i64 (.ofNat 0)),(.int .i64 (.ofNat 0)),(.bool false),(.str []),.nils,.nils] [(0,6,(.t s66)),(6,6,(.t s67))])
(dV s69 (oBuild [(.int .i64 (.ofNat 0)),(.int .i64 (.ofNat 0)),(.bool false),(.str []),.nils,.nils] [(0,1,(.c (.int .i64 (.ofNat 4)))),(5,1,(.t s68))])
(dU (oSt 6 (.t s8) (.t s69))
dE))))))))))
(dSeq (dOps (dV s70 (o.ldN 6 (.t s8))
(dU (oSt 6 (.t s4) (.t s70))
dE)))
dRet)))))))),[(.cN s4 6)]⟩
def af396:AF:=afG396 fastO
def afG397 (o:Ops):AF:=⟨(dSeq (dOps (dV s2 (oBox 30 (.t s0))
dE))
(dDraw (lN s3 (o.ld1 (.t s1))
(lN s4 (o.ld1 (.t s1))
(lN s5 (o.nchk (.t s4))
(lN s6 (o.ld1 (.t s5))
(lN s7 (o.fa 2 (.t s2))
(lN s8 (o.ld1 (.t s7))
(lA 6 s9 (floatK (.buildS 4 1 [(.bool false)] [(0,1,(.t s8))]))
(lE [6] [(s3,(o.ld1 (.t s1)))] (some s10) (actV (oApp 4 1 (.t s6) (.t s9)))
(lN s11 (o.nchk (.t s3))
(lE [6] [] none (actV (o.st1 (.t s11) (.t s10)))
sEnd)))))))))))),[]⟩
def af397:AF:=afG397 fastO
def afG398 (o:Ops):AF:=⟨(dSeq (dOps (dV s5 (o.ldN 6 (.t s1))
(dV s4 (oNew [(.int .i64 (.ofNat 0)),(.int .i64 (.ofNat 0)),(.bool false),(.str []),.nils,.nils] 30)
(dU (oSt 6 (.t s4) (.t s5))
dE))))
(dSeq (dOps (dV s6 (o.ld1 (.t s2))
(vC s7 (.int .i64 (.ofNat 0))
dE)))
(dBlock 0 (dLoop (dSeq (dOps (dV s8 (o.lss (.t s7) (.t s6))
dE))
(dSeq (o.cond (.t s8) dSkip (dExit 0))
(dSeq (dBlock 1 (dSeq (dSeq (dOps (dV s9 (o.fa 0 (.t s4))
(dV s10 (o.ld1 (.t s9))
(dV s11 (o.neq (.t s10) (.c (.int .i64 (.ofNat 3))))
(vM s12 s11
(o.g s12 false (some s13) (vM s13 s0)
(o.g s12 false (some s14) (dV s14 (o.ldN 6 (.t s4)))
(o.g s12 false (some s15) (dCv (some s15) (.t s13) [(.t s14)])
(o.g s12 false (some s16) (dV s16 (o.not (.t s15)))
(dV s17 (o.pick (.t s12) (.c (.bool true)) (.t s16))
dE))))))))))
(o.cond (.t s17) dRet dSkip))
(dOps (dV s18 (o.fa 5 (.t s4))
(dV s19 (o.ld1 (.t s18))
(dV s20 (o.ia 6 (.t s19) (.c (.int .i64 (.ofNat 1))))
(dV s21 (o.ldN 6 (.t s20))
(dU (oSt 6 (.t s4) (.t s21))
dE))))))))
(dOps (dV s22 (o.add (.t s7) (.c (.int .i64 (.ofNat 1))))
(vM s7 s22
dE)))))))))),[]⟩
def af398:AF:=afG398 fastO
def afG399 (o:Ops):AF:=⟨(dSeq (dOps (dV s2 (oBox 30 (.t s0))
(dV s3 (oBox 30 (.t s1))
(vC s4 (.bool false)
dE))))
(dSeq (dOps (dV s5 (o.ldN 6 (.t s2))
(dV s6 (o.ldN 6 (.t s3))
(dC (some s7) p412 [(.t s5),(.t s6)]
(vM s8 s7
(o.g s8 true (some s9) (dV s9 (o.fa 5 (.t s2)))
(o.g s8 true (some s10) (dV s10 (o.ld1 (.t s9)))
(o.g s8 true (some s11) (dV s11 (o.fa 5 (.t s3)))
(o.g s8 true (some s12) (dV s12 (o.ld1 (.t s11)))
(o.g s8 true (some s13) (dC (some s13) p340 [(.t s10),(.t s12),(.c (.fn (.func 399) [] []))])
(dV s14 (o.pick (.t s8) (.t s13) (.c (.bool false)))
(vM s4 s14
dE))))))))))))
dRet)),[(.t s4)]⟩
def af399:AF:=afG399 fastO
def afG400 (o:Ops):AF:=⟨(dSeq (dOps (vC s4 .nils
dE))
(dSeq (dOps (vC s5 .nils
dE))
(dSeq (dSeq (dOps (vM s8 s0
(dV s9 (o.len (.t s8))
(vC s10 (.int .i64 (.ofNat 0))
dE))))
(dBlock 0 (dLoop (dSeq (dOps (dV s11 (o.lss (.t s10) (.t s9))
dE))
(dSeq (o.cond (.t s11) dSkip (dExit 0))
(dSeq (dBlock 1 (dSeq (dOps (dV s12 (o.ia 6 (.t s8) (.t s10))
(dV s13 (o.ldN 6 (.t s12))
(dV s7 (oNew [(.int .i64 (.ofNat 0)),(.int .i64 (.ofNat 0)),(.bool false),(.str []),.nils,.nils] 30)
(dU (oSt 6 (.t s7) (.t s13))
dE)))))
(dOps (vM s14 s5
(vM s15 s1
(dV s16 (o.ldN 6 (.t s7))
(dCv (some s17) (.t s15) [(.t s16)]
(dV s18 (oBuildS 30 1 [(.int .i64 (.ofNat 0)),(.int .i64 (.ofNat 0)),(.bool false),(.str []),.nils,.nils] [(0,6,(.t s17))])
(dV s19 (oApp 30 6 (.t s14) (.t s18))
(vM s5 s19
dE))))))))))
(dOps (dV s20 (o.add (.t s10) (.c (.int .i64 (.ofNat 1))))
(vM s10 s20
dE)))))))))
(dSeq (dOps (vM s21 s5
(vM s4 s21
dE)))
dRet)))),[(.t s4)]⟩
def af400:AF:=afG400 fastO
def afG401 (o:Ops):AF:=⟨(dSeq (dOps (dV s2 (oBox 30 (.t s0))
(dV s4 (oNew [(.int .i64 (.ofNat 0)),(.int .i64 (.ofNat 0)),(.bool false),(.str []),.nils,.nils] 30)
(vC s5 .nils
(vC s6 .nils
dE)))))
(dSeq (dOps (dV s7 (oNew [.nils] 28)
dE))
(dSeq (dOps (dV s8 (oNew [.nils] 81)
dE))
(dSeq (dOps (dC (some s12) p370 [(.t s8)]
(dV s9 (oNew [.nilf] 282)
(dU (o.st1 (.t s9) (.t s12))
dE))))
(dSeq (dSeq (dOps (vM s13 s1
(dC (some s14) p411 [(.t s13)]
dE)))
(dBlock 0 (dRange (.t s14) [s15,s16] (dOps (dV s11 (oNew [(.int .i64 (.ofNat 0)),(.int .i64 (.ofNat 0)),(.bool false),(.str []),.nils,.nils] 30)
(dU (oSt 6 (.t s11) (.t s16))
dE))) (dBlock 1 (dSeq (dDraw2 (lN s17 (o.ld1 (.t s7))
(lN s18 (o.fa 5 (.t s11))
(lN s19 (o.ld1 (.t s18))
(lN s20 (o.ia 6 (.t s19) (.c (.int .i64 (.ofNat 1))))
(lN s21 (o.ldN 6 (.t s20))
(lN s23 (o.len (.t s17))
(lA 7 s24 (floatK (.buildS 30 1 [(.int .i64 (.ofNat 0)),(.int .i64 (.ofNat 0)),(.bool false),(.str []),.nils,.nils] [(0,6,(.c (.agg [(.int .i64 (.ofNat 0)),(.int .i64 (.ofNat 0)),(.bool false),(.str []),.nils,.nils])))]))
(lE [] [(s17,(o.ld1 (.t s7)))] (some s22) (actC p90 [(.t s21)])
(lE [7] [] (some s25) (actV (oApp 30 6 (.t s17) (.t s24)))
sEnd))))))))) s26 6 (.t s25) (.t s23) 6 (.t s22) s7 1 (.t s25))
(dOps (dV s27 (o.ld1 (.t s9))
(dV s28 (o.ldN 6 (.t s11))
(dCv (some s29) (.t s27) [(.t s28)]
dE)))))))))
(dSeq (dDraw (lN s30 (o.ldN 6 (.t s2))
(lN s32 (o.ld1 (.t s7))
(lN s33 (o.ld1 (.t s8))
(lE [] [(s32,(o.ld1 (.t s7))),(s33,(o.ld1 (.t s8)))] (some s31) (actC p90 [(.t s30)])
(lE [] [(s32,(o.ld1 (.t s7))),(s33,(o.ld1 (.t s8)))] none (actV (oSt 6 (.t s4) (.t s31)))
(lM s5 s32
(lM s6 s33
sEnd))))))))
dRet)))))),[(.cN s4 6),(.t s5),(.t s6)]⟩
def af401:AF:=afG401 fastO
def afG402 (o:Ops):AF:=⟨(dSeq (dOps (dV s3 (oBox 30 (.t s0))
(dV s6 (oNew [(.int .i64 (.ofNat 0)),(.int .i64 (.ofNat 0)),(.bool false),(.str []),.nils,.nils] 30)
(vC s7 (.int .i64 (.ofNat 0))
dE))))
(dSeq (dSeq (dOps (dV s9 (o.ldN 6 (.t s3))
(dC (some s10) p41 [(.t s9)]
(vM s8 s10
dE))))
(dSeq (dOps (vM s11 s8
(dV s12 (o.neq (.t s11) (.c (.int .i64 (.ofNat 0))))
dE)))
(o.cond (.t s12) (dSeq (dOps (dV s13 (oBuild [(.int .i64 (.ofNat 0)),(.int .i64 (.ofNat 0)),(.bool false),(.str []),.nils,.nils] [])
(vM s14 s8
(dU (oSt 6 (.t s6) (.t s13))
(vM s7 s14
dE)))))
dRet) dSkip)))
(dSeq (dSeq (dOps (vM s15 s1
(dV s16 (o.lss (.t s15) (.c (.int .i64 (.ofNat 0))))
(vM s17 s16
(o.g s17 false (some s18) (vM s18 s1)
(o.g s17 false (some s19) (dV s19 (o.gtr (.t s18) (.c (.int .i64 (.ofNat 1048576)))))
(dV s20 (o.pick (.t s17) (.c (.bool true)) (.t s19))
(vM s21 s20
(o.g s21 false (some s22) (vM s22 s2)
(o.g s21 false (some s23) (dV s23 (o.lss (.t s22) (.c (.int .i64 (.ofNat 0)))))
(dV s24 (o.pick (.t s21) (.c (.bool true)) (.t s23))
(vM s25 s24
(o.g s25 false (some s26) (vM s26 s2)
(o.g s25 false (some s27) (dV s27 (o.gtr (.t s26) (.c (.int .i64 (.ofNat 1048576)))))
(dV s28 (o.pick (.t s25) (.c (.bool true)) (.t s27))
dE)))))))))))))))
(o.cond (.t s28) (dSeq (dOps (dV s29 (oBuild [(.int .i64 (.ofNat 0)),(.int .i64 (.ofNat 0)),(.bool false),(.str []),.nils,.nils] [])
(dU (oSt 6 (.t s6) (.t s29))
(vC s7 (.int .i64 (.ofNat 1))
dE))))
dRet) dSkip))
(dSeq (dOps (dV s30 (o.ldN 6 (.t s3))
(dV s31 (oBuild [(.int .i64 (.ofNat 0)),(.int .i64 (.ofNat 0))] [])
(vM s32 s1
(vM s33 s2
(dV s34 (oBuild [(.int .i64 (.ofNat 0)),(.int .i64 (.ofNat 0))] [(0,1,(.t s32)),(1,1,(.t s33))])
(dV s35 (oMkf 413 [(.t s34)] [])
(dC (some s36) p124 [(.t s30),(.t s31),(.t s35),(.c (.fn (.func 126) [] []))]
(dV s37 (o.ext (.t s36) 0)
(dV s38 (o.ext (.t s36) 1)
(dC (some s39) p278 [(.t s37),(.t s38)]
(dV s40 (o.ext (.t s39) 0)
(dV s41 (o.ext (.t s39) 1)
(dU (oSt 6 (.t s6) (.t s40))
(vM s7 s41
dE)))))))))))))))
dRet)))),[(.cN s6 6),(.t s7)]⟩
def af402:AF:=afG402 fastO
def afG403 (o:Ops):AF:=⟨(dSeq (dOps (dV s3 (oBox 404 (.t s0))
(dV s4 (oBox 506 (.t s1))
(dV s5 (oBox 434 (.t s2))
(dV s6 (oNew [(.int .i64 (.ofNat 0)),(.int .i64 (.ofNat 0)),(.bool false),(.str []),.nils,.nils] 30)
dE)))))
(dSeq (dOps (dV s9 (o.fa 17 (.t s3))
(dV s10 (o.ld1 (.t s9))
(dV s11 (o.len (.t s10))
(dV s12 (o.fa 0 (.t s4))
(dV s13 (o.ld1 (.t s12))
(dV s14 (o.add (.t s11) (.t s13))
(dV s7 (oNew [(.int .i64 (.ofNat 0))] 3)
(dU (o.st1 (.t s7) (.t s14))
dE)))))))))
(dSeq (dOps (dV s15 (o.fa 0 (.t s5))
(dV s16 (o.ld1 (.t s15))
(dV s17 (o.ld1 (.t s7))
(dV s18 (o.ia 1 (.t s16) (.t s17))
(dV s19 (o.ld1 (.t s18))
(dV s8 (oNew [(.int .i64 (.ofNat 0))] 3)
(dU (o.st1 (.t s8) (.t s19))
dE))))))))
(dSeq (dDraw (lN s20 (o.ldN 2 (.t s5))
(lN s21 (o.ld1 (.t s7))
(lN s23 (o.fa 1 (.t s4))
(lN s24 (o.ld1 (.t s23))
(lN s25 (oMkf 415 [] [(.t s8),(.t s7),(.t s3),(.t s4)])
(lE [] [(s24,(o.ld1 (.t s23)))] (some s22) (actC p414 [(.t s20),(.t s21)])
(lE [] [] (some s26) (actC p301 [(.t s22),(.t s24),(.t s25)])
(lE [] [] none (actV (oSt 6 (.t s6) (.t s26)))
sEnd)))))))))
dRet)))),[(.cN s6 6)]⟩
def af403:AF:=afG403 fastO
def afG404 (o:Ops):AF:=⟨(dSeq (dOps (dV s2 (oBox 434 (.t s0))
(vC s4 .nils
dE)))
(dSeq (dOps (vM s5 s1
(dV s6 (o.ldN 2 (.t s2))
(dV s7 (oMkf 344 [(.t s6)] [])
(dC (some s8) p400 [(.t s5),(.t s7)]
(vM s4 s8
dE))))))
dRet)),[(.t s4)]⟩
def af404:AF:=afG404 fastO
def afG405 (o:Ops):AF:=⟨(dSeq (dOps (vM s12 s1
(vM s10 s12
dE)))
(dBlock 0 (dLoop (dBlock 1 (dSeq (dOps (vM s13 s10
(dV s14 (oAr .mul (.c (.int .i64 (.ofNat 2))) (.t s13))
(dV s15 (o.add (.t s14) (.c (.int .i64 (.ofNat 1))))
(vM s11 s15
dE)))))
(dSeq (dSeq (dOps (vM s16 s11
(vM s17 s2
(dV s18 (o.geq (.t s16) (.t s17))
dE))))
(o.cond (.t s18) (dExit 0) dSkip))
(dSeq (dSeq (dDraw (lM s19 s11
(lN s20 (o.add (.t s19) (.c (.int .i64 (.ofNat 1))))
(lM s21 s2
(lN s22 (o.lss (.t s20) (.t s21))
(lM s23 s22
(lG s23 true s24 (oMv (.t s4))
(lG s23 true s25 (oMv (.t s0))
(lG s23 true s26 (oMv (.t s3))
(lG s23 true s27 (oMv (.t s11))
(lG s23 true s28 (o.add (.t s26) (.t s27))
(lG s23 true s29 (o.ia 4 (.t s25) (.t s28))
(lG s23 true s30 (o.ldN 4 (.t s29))
(lG s23 true s31 (oMv (.t s0))
(lG s23 true s32 (oMv (.t s3))
(lG s23 true s33 (oMv (.t s11))
(lG s23 true s34 (o.add (.t s32) (.t s33))
(lG s23 true s35 (o.add (.t s34) (.c (.int .i64 (.ofNat 1))))
(lG s23 true s36 (o.ia 4 (.t s31) (.t s35))
(lG s23 true s37 (o.ldN 4 (.t s36))
(lE [] [] (some s38) (eK ⟨(some s38),(.callv (.t s24) [(.t s30),(.t s37)]),(some (s23,true))⟩)
(lG s23 true s39 (o.lss (.t s38) (.c (.int .i64 (.ofNat 0))))
(lN s40 (o.pick (.t s23) (.t s39) (.c (.bool false)))
sEnd)))))))))))))))))))))))
(o.cond (.t s40) (dOps (vM s41 s11
(dV s42 (o.add (.t s41) (.c (.int .i64 (.ofNat 1))))
(vM s11 s42
dE)))) dSkip))
(dSeq (dSeq (dDraw (lM s43 s4
(lM s44 s0
(lM s45 s3
(lM s46 s10
(lN s47 (o.add (.t s45) (.t s46))
(lN s48 (o.ia 4 (.t s44) (.t s47))
(lN s49 (o.ldN 4 (.t s48))
(lM s50 s0
(lM s51 s3
(lM s52 s11
(lN s53 (o.add (.t s51) (.t s52))
(lN s54 (o.ia 4 (.t s50) (.t s53))
(lN s55 (o.ldN 4 (.t s54))
(lE [] [] (some s56) (eK ⟨(some s56),(.callv (.t s43) [(.t s49),(.t s55)]),none⟩)
(lN s57 (o.lss (.t s56) (.c (.int .i64 (.ofNat 0))))
(lN s58 (o.not (.t s57))
sEnd)))))))))))))))))
(o.cond (.t s58) dRet dSkip))
(dSeq (dDraw (lM s59 s0
(lM s60 s3
(lM s61 s10
(lN s62 (o.add (.t s60) (.t s61))
(lM s63 s0
(lM s64 s3
(lM s65 s11
(lN s66 (o.add (.t s64) (.t s65))
(lM s67 s0
(lM s68 s3
(lM s69 s11
(lN s70 (o.add (.t s68) (.t s69))
(lN s71 (o.ia 4 (.t s67) (.t s70))
(lN s72 (o.ldN 4 (.t s71))
(lM s73 s0
(lM s74 s3
(lM s75 s10
(lN s76 (o.add (.t s74) (.t s75))
(lN s77 (o.ia 4 (.t s73) (.t s76))
(lN s78 (o.ldN 4 (.t s77))
(lN s79 (o.ia 4 (.t s59) (.t s62))
(lE [] [] none (actV (oSt 4 (.t s79) (.t s72)))
(lN s80 (o.ia 4 (.t s63) (.t s66))
(lE [] [] none (actV (oSt 4 (.t s80) (.t s78)))
sEnd)))))))))))))))))))))))))
(dOps (vM s81 s11
(vM s10 s81
dE)))))))))))),[]⟩
def af405:AF:=afG405 fastO
def afG406 (o:Ops):AF:=⟨(dSeq (dOps (vC s8 (.int .i64 (.ofNat 0))
dE))
(dSeq (dOps (vM s9 s0
(vM s10 s1
(dV s11 (o.sub (.t s10) (.c (.int .i64 (.ofNat 1))))
(vM s12 s1
(vM s13 s1
(dV s14 (o.add (.t s13) (.c (.int .i64 (.ofNat 1))))
(vM s15 s2
(vM s16 s3
(dC (some s17) p407 [(.t s9),(.t s11),(.t s12),(.t s14),(.t s15),(.t s16)]
(vM s8 s17
dE)))))))))))
dRet)),[(.t s8)]⟩
def af406:AF:=afG406 fastO
def afG407 (o:Ops):AF:=⟨(dSeq (dOps (vC s12 (.int .i64 (.ofNat 0))
dE))
(dSeq (dOps (vM s14 s0
(vM s15 s1
(vM s16 s2
(vM s17 s4
(vM s18 s5
(dC (some s19) p416 [(.t s14),(.t s15),(.t s16),(.t s17),(.t s18)]
(vM s13 s19
(dV s20 (o.ext (.t s13) 0)
(dV s21 (o.ext (.t s13) 1)
(vM s1 s20
(vM s2 s21
dE))))))))))))
(dSeq (dOps (vM s23 s0
(vM s24 s2
(vM s25 s3
(vM s26 s4
(vM s27 s5
(dC (some s28) p416 [(.t s23),(.t s24),(.t s25),(.t s26),(.t s27)]
(vM s22 s28
(dV s29 (o.ext (.t s22) 0)
(dV s30 (o.ext (.t s22) 1)
(vM s2 s29
(vM s3 s30
dE))))))))))))
(dSeq (dOps (vM s32 s0
(vM s33 s1
(vM s34 s2
(vM s35 s4
(vM s36 s5
(dC (some s37) p416 [(.t s32),(.t s33),(.t s34),(.t s35),(.t s36)]
(vM s31 s37
(dV s38 (o.ext (.t s31) 0)
(dV s39 (o.ext (.t s31) 1)
(vM s1 s38
(vM s2 s39
dE))))))))))))
(dSeq (dOps (vM s40 s2
(vM s12 s40
dE)))
dRet))))),[(.t s12)]⟩
def af407:AF:=afG407 fastO
def afG408 (o:Ops):AF:=⟨(dSeq (dOps (dV s3 (oBox 33 (.t s1))
(vC s4 .nilp
dE)))
(dSeq (dSeq (dDraw (lM s9 s0
(lN s10 (o.nchk (.t s9))
(lN s11 (o.fa 6 (.t s10))
(lN s12 (o.ld1 (.t s11))
(lN s13 (o.fa 1 (.t s3))
(lN s14 (o.ld1 (.t s13))
(lN s15 (oLk .nilp false (.t s12) (.t s14))
(lN s16 (o.eqp false (.t s15) (.c .nilp))
sEnd)))))))))
(o.cond (.t s16) (dSeq (dOps (dV s18 (o.ldN 17 (.t s3))
(dC (some s19) p417 [(.t s18)]
(vM s17 s19
(dV s20 (o.ext (.t s17) 0)
(dV s21 (o.ext (.t s17) 1)
(dV s22 (o.ext (.t s17) 2)
(dV s23 (o.ext (.t s17) 3)
(dV s7 (oNew [(.int .i64 (.ofNat 0)),.nils] 50)
(vM s5 s20
(vM s6 s21
(dU (oSt 2 (.t s7) (.t s22))
(vM s8 s23
dE)))))))))))))
(dDraw (lM s24 s0
(lN s25 (o.nchk (.t s24))
(lN s26 (o.fa 6 (.t s25))
(lN s27 (o.ld1 (.t s26))
(lN s28 (o.fa 1 (.t s3))
(lN s29 (o.ld1 (.t s28))
(lN s30 (o.ldN 17 (.t s3))
(lM s31 s8
(lN s32 (o.eql (.t s31) (.c (.int .i64 (.ofNat 0))))
(lM s33 s5
(lN s34 (o.len (.t s33))
(lM s35 s6
(lN s36 (o.len (.t s35))
(lN s37 (o.fa 16 (.t s3))
(lN s38 (o.ld1 (.t s37))
(lN s39 (o.len (.t s38))
(lE [] [(s27,(o.ld1 (.t s26))),(s29,(o.ld1 (.t s28))),(s30,(o.ldN 17 (.t s3)))] (some s40) (actV (oMkS 492 1 [.nilp] (.t s39) (.t s39)))
(lN s41 (oBuild [(.int .i64 (.ofNat 0)),(.str []),(.int .i64 (.ofNat 0)),(.int .i64 (.ofNat 0)),(.int .i64 (.ofNat 0)),(.bool false),(.str []),.nils,.nils,(.int .i64 (.ofNat 0)),(.int .i64 (.ofNat 0)),(.bool false),(.str []),.nils,.nils,(.int .i64 (.ofNat 0)),.nils,(.bool false),(.int .i64 (.ofNat 0)),(.int .i64 (.ofNat 0)),.nils] [(0,17,(.t s30)),(17,1,(.t s32)),(18,1,(.t s34)),(19,1,(.t s36)),(20,1,(.t s40))])
(lA 18 s42 (aBox 491 (.t s41))
(lE [18] [] none (actV (oUp (.t s27) (.t s29) (.t s42)))
sEnd)))))))))))))))))))))) dSkip))
(dSeq (dDraw (lM s43 s0
(lN s44 (o.nchk (.t s43))
(lN s45 (o.fa 6 (.t s44))
(lN s46 (o.ld1 (.t s45))
(lN s47 (o.fa 1 (.t s3))
(lN s48 (o.ld1 (.t s47))
(lN s49 (oLk .nilp false (.t s46) (.t s48))
(lM s4 s49
sEnd)))))))))
dRet))),[(.t s4)]⟩
def af408:AF:=afG408 fastO
def afG409 (o:Ops):AF:=⟨(dSeq (dOps (dV s2 (oBox 33 (.t s0))
(dV s4 (oNew [(.int .i64 (.ofNat 0)),(.str []),(.int .i64 (.ofNat 0)),(.int .i64 (.ofNat 0)),(.int .i64 (.ofNat 0)),(.bool false),(.str []),.nils,.nils,(.int .i64 (.ofNat 0)),(.int .i64 (.ofNat 0)),(.bool false),(.str []),.nils,.nils,(.int .i64 (.ofNat 0)),.nils,.nils,.nils,(.int .i64 (.ofNat 0)),.nils] 404)
(dV s5 (oNew [(.str []),.nils,.nils,.nils] 413)
(vC s6 (.int .i64 (.ofNat 0))
dE)))))
(dSeq (dOps (dV s11 (o.ldN 17 (.t s2))
(dC (some s12) p274 [(.t s11)]
(vM s10 s12
(dV s13 (o.ext (.t s10) 0)
(dV s14 (o.ext (.t s10) 1)
(dV s7 (oNew [(.int .i64 (.ofNat 0)),(.str []),(.int .i64 (.ofNat 0)),(.int .i64 (.ofNat 0)),(.int .i64 (.ofNat 0)),(.bool false),(.str []),.nils,.nils,(.int .i64 (.ofNat 0)),(.int .i64 (.ofNat 0)),(.bool false),(.str []),.nils,.nils,(.int .i64 (.ofNat 0)),.nils,.nils,.nils,(.int .i64 (.ofNat 0)),.nils] 404)
(dU (oSt 21 (.t s7) (.t s13))
(vM s8 s14
dE)))))))))
(dSeq (dSeq (dOps (vM s15 s8
(dV s16 (o.neq (.t s15) (.c (.int .i64 (.ofNat 0))))
dE)))
(o.cond (.t s16) (dSeq (dOps (dV s17 (oBuild [(.int .i64 (.ofNat 0)),(.str []),(.int .i64 (.ofNat 0)),(.int .i64 (.ofNat 0)),(.int .i64 (.ofNat 0)),(.bool false),(.str []),.nils,.nils,(.int .i64 (.ofNat 0)),(.int .i64 (.ofNat 0)),(.bool false),(.str []),.nils,.nils,(.int .i64 (.ofNat 0)),.nils,.nils,.nils,(.int .i64 (.ofNat 0)),.nils] [])
(dV s18 (oBuild [(.str []),.nils,.nils,.nils] [])
(vM s19 s8
(dU (oSt 21 (.t s4) (.t s17))
(dU (oSt 4 (.t s5) (.t s18))
(vM s6 s19
dE)))))))
dRet) dSkip))
(dSeq (dSeq (dOps (vM s20 s1
(dV s21 (o.lss (.t s20) (.c (.int .i64 (.ofNat 0))))
(vM s22 s21
(o.g s22 false (some s23) (vM s23 s1)
(o.g s22 false (some s24) (dV s24 (o.fa 16 (.t s2)))
(o.g s22 false (some s25) (dV s25 (o.ld1 (.t s24)))
(o.g s22 false (some s26) (dV s26 (o.len (.t s25)))
(o.g s22 false (some s27) (dV s27 (o.geq (.t s23) (.t s26)))
(dV s28 (o.pick (.t s22) (.c (.bool true)) (.t s27))
dE))))))))))
(o.cond (.t s28) (dSeq (dOps (dV s29 (oBuild [(.int .i64 (.ofNat 0)),(.str []),(.int .i64 (.ofNat 0)),(.int .i64 (.ofNat 0)),(.int .i64 (.ofNat 0)),(.bool false),(.str []),.nils,.nils,(.int .i64 (.ofNat 0)),(.int .i64 (.ofNat 0)),(.bool false),(.str []),.nils,.nils,(.int .i64 (.ofNat 0)),.nils,.nils,.nils,(.int .i64 (.ofNat 0)),.nils] [])
(dV s30 (oBuild [(.str []),.nils,.nils,.nils] [])
(dU (oSt 21 (.t s4) (.t s29))
(dU (oSt 4 (.t s5) (.t s30))
(vC s6 (.int .i64 (.ofNat 1))
dE))))))
dRet) dSkip))
(dSeq (dDraw (lN s32 (o.ldN 21 (.t s7))
(lN s33 (o.fa 16 (.t s2))
(lN s34 (o.ld1 (.t s33))
(lM s35 s1
(lN s36 (o.ia 7 (.t s34) (.t s35))
(lN s37 (o.ldN 7 (.t s36))
(lA 10 s9 (aNew [(.str []),.nils,.nils,.nils] 413)
(lE [] [] (some s38) (actC p300 [(.t s32),(.t s37)])
(lM s31 s38
(lN s39 (o.ext (.t s31) 0)
(lN s40 (o.ext (.t s31) 1)
(lE [10] [] none (actV (oSt 4 (.t s9) (.t s39)))
(lM s8 s40
sEnd))))))))))))))
(dSeq (dDraw (lN s41 (o.ldN 21 (.t s7))
(lN s42 (o.ldN 4 (.t s9))
(lM s43 s8
(lE [] [(s42,(o.ldN 4 (.t s9)))] none (actV (oSt 21 (.t s4) (.t s41)))
(lE [] [] none (actV (oSt 4 (.t s5) (.t s42)))
(lM s6 s43
sEnd)))))))
dRet)))))),[(.cN s4 21),(.cN s5 4),(.t s6)]⟩
def af409:AF:=afG409 fastO
def afG410 (o:Ops):AF:=⟨(dSeq (dOps (dV s2 (oBox 497 (.t s0))
(vC s4 .nils
(vC s5 .nils
dE))))
(dSeq (dDraw (lN s9 (o.fa 7 (.t s2))
(lN s10 (o.ld1 (.t s9))
(lN s11 (o.nchk (.t s10))
(lN s12 (o.fa 2 (.t s11))
(lN s13 (o.ld1 (.t s12))
(lM s14 s1
(lN s15 (o.ia 6 (.t s13) (.t s14))
(lN s16 (o.ldN 6 (.t s15))
(lN s17 (o.fa 0 (.t s2))
(lN s18 (o.fa 4 (.t s17))
(lN s19 (o.ld1 (.t s18))
(lA 12 s6 (aNew [(.int .i64 (.ofNat 0)),(.int .i64 (.ofNat 0)),(.bool false),(.str []),.nils,.nils] 30)
(lE [] [] (some s20) (actC p365 [(.t s16),(.t s19)])
(lE [12] [] none (actV (oSt 6 (.t s6) (.t s20)))
sEnd)))))))))))))))
(dSeq (dDraw (lN s21 (o.ldN 6 (.t s6))
(lM s22 s1
(lN s23 (o.fa 6 (.t s2))
(lN s24 (o.ld1 (.t s23))
(lN s26 (o.fa 6 (.t s2))
(lN s27 (o.ld1 (.t s26))
(lN s28 (o.nchk (.t s27))
(lN s29 (o.fa 18 (.t s28))
(lN s30 (o.ld1 (.t s29))
(lE [] [(s21,(o.ldN 6 (.t s6))),(s27,(o.ld1 (.t s26))),(s30,(o.ld1 (.t s29)))] (some s25) (actC p366 [(.t s24)])
(lN s31 (o.sub (.t s25) (.t s30))
(lE [] [] (some s32) (actC p418 [(.t s21),(.t s22),(.t s31)])
(lE [] [] none (actV (oSt 6 (.t s6) (.t s32)))
sEnd))))))))))))))
(dSeq (dDraw (lN s33 (o.ldN 6 (.t s6))
(lN s34 (o.fa 7 (.t s2))
(lN s35 (o.ld1 (.t s34))
(lN s36 (o.nchk (.t s35))
(lN s37 (o.fa 2 (.t s36))
(lN s38 (o.ld1 (.t s37))
(lN s39 (o.len (.t s38))
(lM s40 s1
(lN s41 (o.sub (.t s39) (.t s40))
(lE [] [] (some s42) (actC p418 [(.t s33),(.c (.int .i64 (.ofNat 0))),(.t s41)])
(lE [] [] none (actV (oSt 6 (.t s6) (.t s42)))
sEnd))))))))))))
(dSeq (dOps (vC s7 (.int .i64 (.ofNat 0))
dE))
(dSeq (dSeq (dOps (dV s43 (o.ldN 6 (.t s6))
(dV s8 (oNew [(.int .i64 (.ofNat 0)),(.int .i64 (.ofNat 0)),(.bool false),(.str []),.nils,.nils] 30)
(dU (oSt 6 (.t s8) (.t s43))
dE))))
(dBlock 0 (dLoop (dSeq (dSeq (dOps (dV s44 (o.fa 0 (.t s8))
(dV s45 (o.ld1 (.t s44))
(dV s46 (o.eql (.t s45) (.c (.int .i64 (.ofNat 3))))
dE))))
(o.cond (.t s46) dSkip (dExit 0)))
(dSeq (dBlock 1 (dOps (vM s51 s7
(dV s52 (o.add (.t s51) (.c (.int .i64 (.ofNat 1))))
(vM s7 s52
dE)))))
(dSeq (dSeq (dOps (dV s53 (o.ldN 6 (.t s8))
dE))
(dOps (dV s8 (oNew [(.int .i64 (.ofNat 0)),(.int .i64 (.ofNat 0)),(.bool false),(.str []),.nils,.nils] 30)
(dU (oSt 6 (.t s8) (.t s53))
dE))))
(dOps (dV s47 (o.fa 5 (.t s8))
(dV s48 (o.ld1 (.t s47))
(dV s49 (o.ia 6 (.t s48) (.c (.int .i64 (.ofNat 1))))
(dV s50 (o.ldN 6 (.t s49))
(dU (oSt 6 (.t s8) (.t s50))
dE))))))))))))
(dSeq (dOps (dV s55 (o.ldN 6 (.t s6))
(vM s56 s7
(dC (some s57) p339 [(.t s55),(.t s56)]
(vM s54 s57
(dV s58 (o.ext (.t s54) 0)
(dV s59 (o.ext (.t s54) 1)
(dV s60 (o.ext (.t s54) 2)
(dV s61 (o.ext (.t s54) 3)
(vM s4 s58
(dU (oSt 6 (.t s6) (.t s60))
dE)))))))))))
(dSeq (dOps (dV s63 (o.ldN 6 (.t s6))
(dC (some s64) p374 [(.t s63)]
(vM s62 s64
(dV s65 (o.ext (.t s62) 0)
(dV s66 (o.ext (.t s62) 1)
(dV s67 (o.ext (.t s62) 2)
(vM s5 s66
dE))))))))
(dSeq (dDraw (lM s68 s4
(lM s69 s5
(lN s70 (o.fa 6 (.t s2))
(lN s71 (o.ld1 (.t s70))
(lN s72 (o.nchk (.t s71))
(lN s73 (o.fa 18 (.t s72))
(lN s74 (o.ld1 (.t s73))
(lN s75 (oSl 6 (.t s69) (some (.t s74)) none none)
(lE [] [(s71,(o.ld1 (.t s70))),(s74,(o.ld1 (.t s73)))] (some s4) (actV (oMv (.t s68)))
(lE [] [] (some s5) (actV (oMv (.t s75)))
sEnd)))))))))))
dRet))))))))),[(.t s4),(.t s5)]⟩
def af410:AF:=afG410 fastO
def afG411 (o:Ops):AF:=⟨(dSeq (dOps (dV s1 (oBox 28 (.t s0))
(vC s2 .nilf
dE)))
(dSeq (dOps (dV s3 (oMkf 419 [] [(.t s1)])
(vM s2 s3
dE)))
dRet)),[(.t s2)]⟩
def af411:AF:=afG411 fastO
def afG412 (o:Ops):AF:=⟨(dSeq (dOps (dV s2 (oBox 30 (.t s0))
(dV s3 (oBox 30 (.t s1))
(vC s4 (.bool false)
dE))))
(dSeq (dSeq (dOps (dV s5 (o.fa 0 (.t s2))
(dV s6 (o.ld1 (.t s5))
(dV s7 (o.fa 0 (.t s3))
(dV s8 (o.ld1 (.t s7))
(dV s9 (o.neq (.t s6) (.t s8))
dE))))))
(o.cond (.t s9) (dSeq (dOps (vC s4 (.bool false)
dE))
dRet) dSkip))
(dSeq (dSeq (dOps (dV s10 (o.fa 0 (.t s2))
(dV s11 (o.ld1 (.t s10))
dE)))
(dBlock 0 (dSeq (dBlock 4 (dSeq (dBlock 3 (dSeq (dBlock 2 (dSeq (dBlock 1 (dSeq (dSeq (dSeq (dSeq (dOps (dV s13 (o.eql (.t s11) (.c (.int .i64 (.ofNat 1))))
(vM s12 s13
dE)))
(o.cond (.t s12) dSkip (dOps (dV s14 (o.eql (.t s11) (.c (.int .i64 (.ofNat 11))))
(vM s12 s14
dE)))))
(o.cond (.t s12) (dExit 1) dSkip))
(dSeq (dSeq (dSeq (dOps (dV s16 (o.eql (.t s11) (.c (.int .i64 (.ofNat 3))))
(vM s15 s16
dE)))
(o.cond (.t s15) dSkip (dSeq (dOps (dV s17 (o.eql (.t s11) (.c (.int .i64 (.ofNat 4))))
(vM s15 s17
dE)))
(o.cond (.t s15) dSkip (dOps (dV s18 (o.eql (.t s11) (.c (.int .i64 (.ofNat 5))))
(vM s15 s18
dE)))))))
(o.cond (.t s15) (dExit 2) dSkip))
(dSeq (dSeq (dOps (dV s20 (o.eql (.t s11) (.c (.int .i64 (.ofNat 10))))
(vM s19 s20
dE)))
(o.cond (.t s19) (dExit 3) dSkip))
(dSeq (dOps (dV s22 (o.eql (.t s11) (.c (.int .i64 (.ofNat 2))))
(vM s21 s22
dE)))
(o.cond (.t s21) (dExit 4) dSkip)))))
(dExit 0)))
(dSeq (dSeq (dOps (dV s23 (o.fa 1 (.t s2))
(dV s24 (o.ld1 (.t s23))
(dV s25 (o.fa 1 (.t s3))
(dV s26 (o.ld1 (.t s25))
(dV s27 (o.eql (.t s24) (.t s26))
(vM s4 s27
dE)))))))
dRet)
(dExit 0))))
(dSeq (dSeq (dOps (dV s28 (o.fa 2 (.t s2))
(dV s29 (o.ld1 (.t s28))
(dV s30 (o.fa 2 (.t s3))
(dV s31 (o.ld1 (.t s30))
(dV s32 (oEq .b false (.t s29) (.t s31))
(vM s4 s32
dE)))))))
dRet)
(dExit 0))))
(dSeq (dOps (dV s33 (o.fa 3 (.t s2))
(dV s34 (o.ld1 (.t s33))
(dV s35 (o.fa 3 (.t s3))
(dV s36 (o.ld1 (.t s35))
(dV s37 (o.neq (.t s34) (.t s36))
dE))))))
(o.cond (.t s37) (dSeq (dOps (vC s4 (.bool false)
dE))
dRet) dSkip))))
(dSeq (dSeq (dOps (dV s38 (o.fa 4 (.t s2))
(dV s39 (o.ld1 (.t s38))
(dV s40 (o.fa 4 (.t s3))
(dV s41 (o.ld1 (.t s40))
(dC (some s42) p199 [(.t s39),(.t s41),(.c (.fn (.func 162) [] []))]
(vM s4 s42
dE)))))))
dRet)
(dExit 0)))))
(dSeq (dOps (vC s4 (.bool true)
dE))
dRet)))),[(.t s4)]⟩
def af412:AF:=afG412 fastO
def afG413 (o:Ops):AF:=⟨(dSeq (dOps (dV s3 (oBox 536 (.t s0))
(dV s4 (oBox 30 (.t s1))
(dV s5 (oBox 141 (.t s2))
(dV s6 (oNew [(.int .i64 (.ofNat 0)),(.int .i64 (.ofNat 0)),(.bool false),(.str []),.nils,.nils] 30)
(vC s7 (.int .i64 (.ofNat 0))
dE))))))
(dSeq (dOps (dV s9 (o.ldN 6 (.t s4))
(dC (some s10) p160 [(.t s9)]
(dV s8 (oNew [(.int .i64 (.ofNat 0)),(.int .i64 (.ofNat 0)),(.bool false),(.str []),.nils,.nils] 30)
(dU (oSt 6 (.t s8) (.t s10))
dE)))))
(dSeq (dSeq (dOps (dV s11 (o.fa 0 (.t s4))
(dV s12 (o.ld1 (.t s11))
(dV s13 (o.eql (.t s12) (.c (.int .i64 (.ofNat 1))))
(vM s14 s13
(o.g s14 true (some s15) (dV s15 (o.fa 1 (.t s4)))
(o.g s14 true (some s16) (dV s16 (o.ld1 (.t s15)))
(o.g s14 true (some s17) (dV s17 (o.fa 0 (.t s5)))
(o.g s14 true (some s18) (dV s18 (o.ld1 (.t s17)))
(o.g s14 true (some s19) (dV s19 (o.sub (.t s16) (.t s18)))
(o.g s14 true (some s20) (dV s20 (o.fa 0 (.t s3)))
(o.g s14 true (some s21) (dV s21 (o.ld1 (.t s20)))
(o.g s14 true (some s22) (dV s22 (o.geq (.t s19) (.t s21)))
(dV s23 (o.pick (.t s14) (.t s22) (.c (.bool false)))
dE))))))))))))))
(o.cond (.t s23) (dOps (dV s24 (o.fa 1 (.t s8))
(dV s25 (o.ld1 (.t s24))
(dV s26 (o.fa 1 (.t s3))
(dV s27 (o.ld1 (.t s26))
(dV s28 (o.add (.t s25) (.t s27))
(dV s29 (o.fa 1 (.t s8))
(dU (o.st1 (.t s29) (.t s28))
dE)))))))) dSkip))
(dSeq (dOps (dV s30 (o.ldN 6 (.t s8))
(dU (oSt 6 (.t s6) (.t s30))
(vC s7 (.int .i64 (.ofNat 0))
dE))))
dRet)))),[(.cN s6 6),(.t s7)]⟩
def af413:AF:=afG413 fastO
def afG414 (o:Ops):AF:=⟨(dSeq (dOps (dV s2 (oBox 434 (.t s0))
(dV s4 (oNew [.nils,(.int .i64 (.ofNat 0))] 434)
dE)))
(dSeq (dDraw (lN s5 (o.fa 0 (.t s2))
(lN s6 (o.ld1 (.t s5))
(lM s7 s1
(lN s8 (oSl 1 (.t s6) none (some (.t s7)) none)
(lN s9 (o.fa 1 (.t s2))
(lN s10 (o.ld1 (.t s9))
(lN s11 (oBuild [.nils,(.int .i64 (.ofNat 0))] [(0,1,(.t s8)),(1,1,(.t s10))])
(lE [] [] none (actV (oSt 2 (.t s4) (.t s11)))
sEnd)))))))))
dRet)),[(.cN s4 2)]⟩
def af414:AF:=afG414 fastO
def afG415 (o:Ops):AF:=⟨(dSeq (dOps (dV s5 (oBox 434 (.t s0))
(dV s6 (oNew [(.int .i64 (.ofNat 0)),(.int .i64 (.ofNat 0)),(.bool false),(.str []),.nils,.nils] 30)
dE)))
(dSeq (dDraw (lN s8 (o.ldN 2 (.t s5))
(lN s9 (o.ld1 (.t s1))
(lN s11 (o.ldN 2 (.t s5))
(lN s12 (o.fa 0 (.t s5))
(lN s13 (o.ld1 (.t s12))
(lN s14 (o.ld1 (.t s2))
(lN s15 (oSl 1 (.t s13) (some (.t s14)) none none)
(lA 10 s7 (aNew [(.int .i64 (.ofNat 0)),(.int .i64 (.ofNat 0)),(.bool false),(.str []),.nils,.nils] 30)
(lE [] [(s11,(o.ldN 2 (.t s5))),(s13,(o.ld1 (.t s12))),(s14,(o.ld1 (.t s2)))] (some s10) (actC p353 [(.t s8),(.t s9)])
(lE [] [] (some s16) (actC p351 [(.t s11),(.t s15)])
(lE [] [] (some s17) (actC p352 [(.t s10),(.t s16)])
(lE [10] [] none (actV (oSt 6 (.t s7) (.t s17)))
sEnd)))))))))))))
(dSeq (dDraw (lN s18 (o.ldN 2 (.t s5))
(lN s19 (o.ldN 21 (.t s3))
(lN s22 (o.ldN 2 (.t s5))
(lN s23 (o.fa 2 (.t s4))
(lN s24 (o.ld1 (.t s23))
(lN s26 (o.ldN 6 (.t s7))
(lA 9 s27 (floatK (.buildS 30 1 [(.int .i64 (.ofNat 0)),(.int .i64 (.ofNat 0)),(.bool false),(.str []),.nils,.nils] [(0,6,(.t s26))]))
(lE [] [(s18,(o.ldN 2 (.t s5))),(s22,(o.ldN 2 (.t s5))),(s24,(o.ld1 (.t s23))),(s26,(o.ldN 6 (.t s7)))] (some s20) (actC p354 [(.t s19)])
(lE [] [(s22,(o.ldN 2 (.t s5))),(s24,(o.ld1 (.t s23))),(s26,(o.ldN 6 (.t s7)))] (some s21) (actC p353 [(.t s18),(.t s20)])
(lE [] [(s26,(o.ldN 6 (.t s7)))] (some s25) (actC p404 [(.t s22),(.t s24)])
(lE [9] [] (some s28) (actV (oApp 30 6 (.t s25) (.t s27)))
(lE [9] [] (some s29) (actC p352 [(.t s21),(.t s28)])
(lE [9] [] none (actV (oSt 6 (.t s6) (.t s29)))
sEnd))))))))))))))
dRet))),[(.cN s6 6)]⟩
def af415:AF:=afG415 fastO
def afG416 (o:Ops):AF:=⟨(dSeq (dOps (vC s10 (.int .i64 (.ofNat 0))
(vC s11 (.int .i64 (.ofNat 0))
dE)))
(dSeq (dSeq (dDraw (lM s12 s4
(lM s13 s0
(lM s14 s2
(lN s15 (o.ia 4 (.t s13) (.t s14))
(lN s16 (o.ldN 4 (.t s15))
(lM s17 s0
(lM s18 s1
(lN s19 (o.ia 4 (.t s17) (.t s18))
(lN s20 (o.ldN 4 (.t s19))
(lE [] [] (some s21) (eK ⟨(some s21),(.callv (.t s12) [(.t s16),(.t s20)]),none⟩)
(lN s22 (o.lss (.t s21) (.c (.int .i64 (.ofNat 0))))
sEnd))))))))))))
(o.cond (.t s22) (dSeq (dOps (vM s23 s3
(dV s24 (o.nchk (.t s23))
(dV s25 (o.ld1 (.t s24))
(dV s26 (o.add (.t s25) (.c (.int .i64 (.ofNat 1))))
(dV s27 (o.nchk (.t s23))
(dU (o.st1 (.t s27) (.t s26))
dE)))))))
(dSeq (dOps (vM s28 s2
(vM s29 s1
(vM s10 s28
(vM s11 s29
dE)))))
dRet)) dSkip))
(dSeq (dOps (vM s30 s1
(vM s31 s2
(vM s10 s30
(vM s11 s31
dE)))))
dRet))),[(.t s10),(.t s11)]⟩
def af416:AF:=afG416 fastO
def afG417 (o:Ops):AF:=⟨(dSeq (dOps (dV s1 (oBox 33 (.t s0))
(vC s2 .nils
(vC s3 .nils
(dV s4 (oNew [(.int .i64 (.ofNat 0)),.nils] 50)
(vC s5 (.int .i64 (.ofNat 0))
dE))))))
(dSeq (dOps (dV s8 (o.ldN 17 (.t s1))
(dC (some s9) p274 [(.t s8)]
(vM s7 s9
(dV s10 (o.ext (.t s7) 0)
(dV s11 (o.ext (.t s7) 1)
(dV s6 (oNew [(.int .i64 (.ofNat 0)),(.str []),(.int .i64 (.ofNat 0)),(.int .i64 (.ofNat 0)),(.int .i64 (.ofNat 0)),(.bool false),(.str []),.nils,.nils,(.int .i64 (.ofNat 0)),(.int .i64 (.ofNat 0)),(.bool false),(.str []),.nils,.nils,(.int .i64 (.ofNat 0)),.nils,.nils,.nils,(.int .i64 (.ofNat 0)),.nils] 404)
(dU (oSt 21 (.t s6) (.t s10))
(vM s5 s11
dE)))))))))
(dSeq (dDraw (lN s12 (o.fa 17 (.t s6))
(lN s13 (o.ld1 (.t s12))
(lN s14 (o.fa 18 (.t s6))
(lN s15 (o.ld1 (.t s14))
(lN s16 (o.fa 19 (.t s6))
(lN s17 (o.ldN 2 (.t s16))
(lM s18 s5
(lM s2 s13
(lM s3 s15
(lE [] [] none (actV (oSt 2 (.t s4) (.t s17)))
(lE [] [] (some s5) (actV (oMv (.t s18)))
sEnd))))))))))))
dRet))),[(.t s2),(.t s3),(.cN s4 2),(.t s5)]⟩
def af417:AF:=afG417 fastO
def afG418 (o:Ops):AF:=⟨(dSeq (dOps (dV s3 (oBox 30 (.t s0))
(dV s6 (oNew [(.int .i64 (.ofNat 0)),(.int .i64 (.ofNat 0)),(.bool false),(.str []),.nils,.nils] 30)
dE)))
(dSeq (dOps (dV s8 (o.ldN 6 (.t s3))
(vM s9 s1
(vM s10 s2
(dC (some s11) p402 [(.t s8),(.t s9),(.t s10)]
(vM s7 s11
(dV s12 (o.ext (.t s7) 0)
(dV s13 (o.ext (.t s7) 1)
(dU (oSt 6 (.t s3) (.t s12))
dE)))))))))
(dSeq (dOps (dV s14 (o.ldN 6 (.t s3))
(dU (oSt 6 (.t s6) (.t s14))
dE)))
dRet))),[(.cN s6 6)]⟩
def af418:AF:=afG418 fastO
def afG419 (o:Ops):AF:=⟨(dSeq (dOps (dV s4 (o.ld1 (.t s1))
(dV s5 (o.len (.t s4))
(dV s6 (o.sub (.t s5) (.c (.int .i64 (.ofNat 1))))
(vM s3 s6
dE)))))
(dBlock 0 (dLoop (dSeq (dSeq (dOps (vM s7 s3
(dV s8 (o.geq (.t s7) (.c (.int .i64 (.ofNat 0))))
dE)))
(o.cond (.t s8) dSkip (dExit 0)))
(dSeq (dBlock 1 (dSeq (dOps (vM s11 s0
(vM s12 s3
(dV s13 (o.ld1 (.t s1))
(vM s14 s3
(dV s15 (o.ia 6 (.t s13) (.t s14))
(dV s16 (o.ldN 6 (.t s15))
(dCv (some s17) (.t s11) [(.t s12),(.t s16)]
(dV s18 (o.not (.t s17))
dE)))))))))
(o.cond (.t s18) dRet dSkip)))
(dOps (vM s9 s3
(dV s10 (o.sub (.t s9) (.c (.int .i64 (.ofNat 1))))
(vM s3 s10
dE))))))))),[]⟩
def af419:AF:=afG419 fastO
theorem ok385:FunSem Tryz.prog 385 af385:=okF (g:=afG385) (.of mixed (by kernel_rfl))
theorem ok386:FunSem Tryz.prog 386 af386:=okF (g:=afG386) (.of mixed (by kernel_rfl))
theorem ok387:FunSem Tryz.prog 387 af387:=okF (g:=afG387) (.of mixed (by kernel_rfl))
theorem ok388:FunSem Tryz.prog 388 af388:=okF (g:=afG388) (.of mixed (by kernel_rfl))
theorem ok389:FunSem Tryz.prog 389 af389:=okF (g:=afG389) (.of mixed (by kernel_rfl))
theorem ok390:FunSem Tryz.prog 390 af390:=okF (g:=afG390) (.of mixed (by kernel_rfl))
theorem ok391:FunSem Tryz.prog 391 af391:=okF (g:=afG391) (.of mixed (by kernel_rfl))
theorem ok392:FunSem Tryz.prog 392 af392:=okF (g:=afG392) (.of mixed (by kernel_rfl))
theorem ok393:FunSem Tryz.prog 393 af393:=okF (g:=afG393) (.of mixed (by kernel_rfl))
theorem ok394:FunSem Tryz.prog 394 af394:=okF (g:=afG394) (.of mixed (by kernel_rfl))
theorem ok395:FunSem Tryz.prog 395 af395:=okF (g:=afG395) (.of mixed (by kernel_rfl))
theorem ok396:FunSem Tryz.prog 396 af396:=okF (g:=afG396) (.of mixed (by kernel_rfl))
theorem ok397:FunSem Tryz.prog 397 af397:=okF (g:=afG397) (.of mixed (by kernel_rfl))
theorem ok398:FunSem Tryz.prog 398 af398:=okF (g:=afG398) (.of mixed (by kernel_rfl))
theorem ok399:FunSem Tryz.prog 399 af399:=okF (g:=afG399) (.of mixed (by kernel_rfl))
theorem ok400:FunSem Tryz.prog 400 af400:=okF (g:=afG400) (.of mixed (by kernel_rfl))
theorem ok401:FunSem Tryz.prog 401 af401:=okF (g:=afG401) (.of mixed (by kernel_rfl))
theorem ok402:FunSem Tryz.prog 402 af402:=okF (g:=afG402) (.of mixed (by kernel_rfl))
theorem ok403:FunSem Tryz.prog 403 af403:=okF (g:=afG403) (.of mixed (by kernel_rfl))
theorem ok404:FunSem Tryz.prog 404 af404:=okF (g:=afG404) (.of mixed (by kernel_rfl))
theorem ok405:FunSem Tryz.prog 405 af405:=okF (g:=afG405) (.of mixed (by kernel_rfl))
theorem ok406:FunSem Tryz.prog 406 af406:=okF (g:=afG406) (.of mixed (by kernel_rfl))
theorem ok407:FunSem Tryz.prog 407 af407:=okF (g:=afG407) (.of mixed (by kernel_rfl))
theorem ok408:FunSem Tryz.prog 408 af408:=okF (g:=afG408) (.of mixed (by kernel_rfl))
theorem ok409:FunSem Tryz.prog 409 af409:=okF (g:=afG409) (.of mixed (by kernel_rfl))
theorem ok410:FunSem Tryz.prog 410 af410:=okF (g:=afG410) (.of mixed (by kernel_rfl))
theorem ok411:FunSem Tryz.prog 411 af411:=okF (g:=afG411) (.of mixed (by kernel_rfl))
theorem ok412:FunSem Tryz.prog 412 af412:=okF (g:=afG412) (.of mixed (by kernel_rfl))
theorem ok413:FunSem Tryz.prog 413 af413:=okF (g:=afG413) (.of mixed (by kernel_rfl))
theorem ok414:FunSem Tryz.prog 414 af414:=okF (g:=afG414) (.of mixed (by kernel_rfl))
theorem ok415:FunSem Tryz.prog 415 af415:=okF (g:=afG415) (.of mixed (by kernel_rfl))
theorem ok416:FunSem Tryz.prog 416 af416:=okF (g:=afG416) (.of mixed (by kernel_rfl))
theorem ok417:FunSem Tryz.prog 417 af417:=okF (g:=afG417) (.of mixed (by kernel_rfl))
theorem ok418:FunSem Tryz.prog 418 af418:=okF (g:=afG418) (.of mixed (by kernel_rfl))
theorem ok419:FunSem Tryz.prog 419 af419:=okF (g:=afG419) (.of mixed (by kernel_rfl))
end Go.Proofs.YtcakhpfonailhaaGreatDoor.X
