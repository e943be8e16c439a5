/- Functions of the program, as the executor runs them, and that they are the program's. -/
import Derived.Test.YteaokkkikfjhdaaGreatTabB
set_option maxRecDepth 100000
namespace Go.Proofs.YteaokkkikfjhdaaGreat.X
open Go.RowKit
def af268 : AF := ⟨(dSeq (dOps (dV p12 (oMv (.t p1))
(dV p10 (oMv (.t p12))
dE)))
(dBlock 0 (dLoop (dBlock 1 (dSeq (dOps (dV p13 (oMv (.t p10))
(dV p14 (oAr .mul (.c (.int .i64 (.ofNat 2))) (.t p13))
(dV p15 (oAr .add (.t p14) (.c (.int .i64 (.ofNat 1))))
(dV p11 (oMv (.t p15))
dE)))))
(dSeq (dSeq (dOps (dV p16 (oMv (.t p11))
(dV p17 (oMv (.t p2))
(dV p18 (oAr .geq (.t p16) (.t p17))
dE))))
(dCond (.t p18) (dExit 0) dSkip))
(dSeq (dSeq (dDraw (sN p19 ⟨(some p19), (.v (.mv (.t p11))), none⟩
(sN p20 ⟨(some p20), (.v (.ar .add (.t p19) (.c (.int .i64 (.ofNat 1))))), none⟩
(sN p21 ⟨(some p21), (.v (.mv (.t p2))), none⟩
(sN p22 ⟨(some p22), (.v (.ar .lss (.t p20) (.t p21))), none⟩
(sN p23 ⟨(some p23), (.v (.mv (.t p22))), none⟩
(sN p24 ⟨(some p24), (.v (.mv (.t p4))), (some (p23, true))⟩
(sN p25 ⟨(some p25), (.v (.mv (.t p0))), (some (p23, true))⟩
(sN p26 ⟨(some p26), (.v (.mv (.t p3))), (some (p23, true))⟩
(sN p27 ⟨(some p27), (.v (.mv (.t p11))), (some (p23, true))⟩
(sN p28 ⟨(some p28), (.v (.ar .add (.t p26) (.t p27))), (some (p23, true))⟩
(sN p29 ⟨(some p29), (.v (.ia 2 (.t p25) (.t p28))), (some (p23, true))⟩
(sN p30 ⟨(some p30), (.v (.ldN 2 (.t p29))), (some (p23, true))⟩
(sN p31 ⟨(some p31), (.v (.mv (.t p0))), (some (p23, true))⟩
(sN p32 ⟨(some p32), (.v (.mv (.t p3))), (some (p23, true))⟩
(sN p33 ⟨(some p33), (.v (.mv (.t p11))), (some (p23, true))⟩
(sN p34 ⟨(some p34), (.v (.ar .add (.t p32) (.t p33))), (some (p23, true))⟩
(sN p35 ⟨(some p35), (.v (.ar .add (.t p34) (.c (.int .i64 (.ofNat 1))))), (some (p23, true))⟩
(sN p36 ⟨(some p36), (.v (.ia 2 (.t p31) (.t p35))), (some (p23, true))⟩
(sN p37 ⟨(some p37), (.v (.ldN 2 (.t p36))), (some (p23, true))⟩
(sE [] [] ⟨(some p38), (.callv (.t p24) [(.t p30), (.t p37)]), (some (p23, true))⟩
(sN p39 ⟨(some p39), (.v (.ar .lss (.t p38) (.c (.int .i64 (.ofNat 0))))), (some (p23, true))⟩
(sN p40 ⟨(some p40), (.v (.pick (.t p23) (.t p39) (.c (.bool false)))), none⟩
sEnd)))))))))))))))))))))))
(dCond (.t p40) (dOps (dV p41 (oMv (.t p11))
(dV p42 (oAr .add (.t p41) (.c (.int .i64 (.ofNat 1))))
(dV p11 (oMv (.t p42))
dE)))) dSkip))
(dSeq (dSeq (dDraw (sN p43 ⟨(some p43), (.v (.mv (.t p4))), none⟩
(sN p44 ⟨(some p44), (.v (.mv (.t p0))), none⟩
(sN p45 ⟨(some p45), (.v (.mv (.t p3))), none⟩
(sN p46 ⟨(some p46), (.v (.mv (.t p10))), none⟩
(sN p47 ⟨(some p47), (.v (.ar .add (.t p45) (.t p46))), none⟩
(sN p48 ⟨(some p48), (.v (.ia 2 (.t p44) (.t p47))), none⟩
(sN p49 ⟨(some p49), (.v (.ldN 2 (.t p48))), none⟩
(sN p50 ⟨(some p50), (.v (.mv (.t p0))), none⟩
(sN p51 ⟨(some p51), (.v (.mv (.t p3))), none⟩
(sN p52 ⟨(some p52), (.v (.mv (.t p11))), none⟩
(sN p53 ⟨(some p53), (.v (.ar .add (.t p51) (.t p52))), none⟩
(sN p54 ⟨(some p54), (.v (.ia 2 (.t p50) (.t p53))), none⟩
(sN p55 ⟨(some p55), (.v (.ldN 2 (.t p54))), none⟩
(sE [] [] ⟨(some p56), (.callv (.t p43) [(.t p49), (.t p55)]), none⟩
(sN p57 ⟨(some p57), (.v (.ar .lss (.t p56) (.c (.int .i64 (.ofNat 0))))), none⟩
(sN p58 ⟨(some p58), (.v (.un .not (.t p57))), none⟩
sEnd)))))))))))))))))
(dCond (.t p58) dRet dSkip))
(dSeq (dDraw (sN p59 ⟨(some p59), (.v (.mv (.t p0))), none⟩
(sN p60 ⟨(some p60), (.v (.mv (.t p3))), none⟩
(sN p61 ⟨(some p61), (.v (.mv (.t p10))), none⟩
(sN p62 ⟨(some p62), (.v (.ar .add (.t p60) (.t p61))), none⟩
(sN p63 ⟨(some p63), (.v (.mv (.t p0))), none⟩
(sN p64 ⟨(some p64), (.v (.mv (.t p3))), none⟩
(sN p65 ⟨(some p65), (.v (.mv (.t p11))), none⟩
(sN p66 ⟨(some p66), (.v (.ar .add (.t p64) (.t p65))), none⟩
(sN p67 ⟨(some p67), (.v (.mv (.t p0))), none⟩
(sN p68 ⟨(some p68), (.v (.mv (.t p3))), none⟩
(sN p69 ⟨(some p69), (.v (.mv (.t p11))), none⟩
(sN p70 ⟨(some p70), (.v (.ar .add (.t p68) (.t p69))), none⟩
(sN p71 ⟨(some p71), (.v (.ia 2 (.t p67) (.t p70))), none⟩
(sN p72 ⟨(some p72), (.v (.ldN 2 (.t p71))), none⟩
(sN p73 ⟨(some p73), (.v (.mv (.t p0))), none⟩
(sN p74 ⟨(some p74), (.v (.mv (.t p3))), none⟩
(sN p75 ⟨(some p75), (.v (.mv (.t p10))), none⟩
(sN p76 ⟨(some p76), (.v (.ar .add (.t p74) (.t p75))), none⟩
(sN p77 ⟨(some p77), (.v (.ia 2 (.t p73) (.t p76))), none⟩
(sN p78 ⟨(some p78), (.v (.ldN 2 (.t p77))), none⟩
(sN p79 ⟨(some p79), (.v (.ia 2 (.t p59) (.t p62))), none⟩
(sE [] [] ⟨none, (.v (.st 2 (.t p79) (.t p72))), none⟩
(sN p80 ⟨(some p80), (.v (.ia 2 (.t p63) (.t p66))), none⟩
(sE [] [] ⟨none, (.v (.st 2 (.t p80) (.t p78))), none⟩
sEnd)))))))))))))))))))))))))
(dOps (dV p81 (oMv (.t p11))
(dV p10 (oMv (.t p81))
dE)))))))))))), []⟩
def af269 : AF := ⟨(dSeq (dOps (dV p8 (oMv (.c (.int .i64 (.ofNat 0))))
dE))
(dSeq (dOps (dV p9 (oMv (.t p0))
(dV p10 (oMv (.t p1))
(dV p11 (oAr .sub (.t p10) (.c (.int .i64 (.ofNat 1))))
(dV p12 (oMv (.t p1))
(dV p13 (oMv (.t p1))
(dV p14 (oAr .add (.t p13) (.c (.int .i64 (.ofNat 1))))
(dV p15 (oMv (.t p2))
(dV p16 (oMv (.t p3))
(dC (some p17) p270 [(.t p9), (.t p11), (.t p12), (.t p14), (.t p15), (.t p16)]
(dV p8 (oMv (.t p17))
dE)))))))))))
dRet)), [(.t p8)]⟩
def af270 : AF := ⟨(dSeq (dOps (dV p12 (oMv (.c (.int .i64 (.ofNat 0))))
dE))
(dSeq (dOps (dV p14 (oMv (.t p0))
(dV p15 (oMv (.t p1))
(dV p16 (oMv (.t p2))
(dV p17 (oMv (.t p4))
(dV p18 (oMv (.t p5))
(dC (some p19) p275 [(.t p14), (.t p15), (.t p16), (.t p17), (.t p18)]
(dV p13 (oMv (.t p19))
(dV p20 (oExt (.t p13) 0)
(dV p21 (oExt (.t p13) 1)
(dV p1 (oMv (.t p20))
(dV p2 (oMv (.t p21))
dE))))))))))))
(dSeq (dOps (dV p23 (oMv (.t p0))
(dV p24 (oMv (.t p2))
(dV p25 (oMv (.t p3))
(dV p26 (oMv (.t p4))
(dV p27 (oMv (.t p5))
(dC (some p28) p275 [(.t p23), (.t p24), (.t p25), (.t p26), (.t p27)]
(dV p22 (oMv (.t p28))
(dV p29 (oExt (.t p22) 0)
(dV p30 (oExt (.t p22) 1)
(dV p2 (oMv (.t p29))
(dV p3 (oMv (.t p30))
dE))))))))))))
(dSeq (dOps (dV p32 (oMv (.t p0))
(dV p33 (oMv (.t p1))
(dV p34 (oMv (.t p2))
(dV p35 (oMv (.t p4))
(dV p36 (oMv (.t p5))
(dC (some p37) p275 [(.t p32), (.t p33), (.t p34), (.t p35), (.t p36)]
(dV p31 (oMv (.t p37))
(dV p38 (oExt (.t p31) 0)
(dV p39 (oExt (.t p31) 1)
(dV p1 (oMv (.t p38))
(dV p2 (oMv (.t p39))
dE))))))))))))
(dSeq (dOps (dV p40 (oMv (.t p2))
(dV p12 (oMv (.t p40))
dE)))
dRet))))), [(.t p12)]⟩
def af271 : AF := ⟨(dSeq (dOps (dV p1 (oBox 3 (.t p0))
(dV p2 (oMv (.c .nilf))
dE)))
(dSeq (dOps (dV p3 (oLd1 (.t p1))
(dV p4 (oMm false [(.t p3), (.c (.int .i64 (.ofNat 1001)))])
(dU (oSt 1 (.t p1) (.t p4))
dE))))
(dSeq (dOps (dV p5 (oMkf 276 [] [(.t p1)])
(dV p2 (oMv (.t p5))
dE)))
dRet))), [(.t p2)]⟩
def af272 : AF := ⟨(dSeq (dOps (dV p2 (oBox 26 (.t p0))
(dV p3 (oBox 26 (.t p1))
(dV p4 (oMv (.c (.bool false)))
dE))))
(dSeq (dOps (dV p5 (oLdN 6 (.t p2))
(dV p6 (oLdN 6 (.t p3))
(dC (some p7) p277 [(.t p5), (.t p6)]
(dV p8 (oMv (.t p7))
(dG p8 true (some p9) (dV p9 (oFa 5 (.t p2)))
(dG p8 true (some p10) (dV p10 (oLd1 (.t p9)))
(dG p8 true (some p11) (dV p11 (oFa 5 (.t p3)))
(dG p8 true (some p12) (dV p12 (oLd1 (.t p11)))
(dG p8 true (some p13) (dC (some p13) p242 [(.t p10), (.t p12), (.c (.fn (.func 272) [] []))])
(dV p14 (oPick (.t p8) (.t p13) (.c (.bool false)))
(dV p4 (oMv (.t p14))
dE))))))))))))
dRet)), [(.t p4)]⟩
def af273 : AF := ⟨(dSeq (dOps (dV p4 (oMv (.c .nils))
dE))
(dSeq (dOps (dV p5 (oMv (.c .nils))
dE))
(dSeq (dSeq (dOps (dV p8 (oMv (.t p0))
(dV p9 (oLen (.t p8))
(dV p10 (oMv (.c (.int .i64 (.ofNat 0))))
dE))))
(dBlock 0 (dLoop (dSeq (dOps (dV p11 (oAr .lss (.t p10) (.t p9))
dE))
(dSeq (dCond (.t p11) dSkip (dExit 0))
(dSeq (dBlock 1 (dSeq (dOps (dV p12 (oIa 6 (.t p8) (.t p10))
(dV p13 (oLdN 6 (.t p12))
(dV p7 (oNew [(.int .i64 (.ofNat 0)), (.int .i64 (.ofNat 0)), (.bool false), (.str []), .nils, .nils] 26)
(dU (oSt 6 (.t p7) (.t p13))
dE)))))
(dOps (dV p14 (oMv (.t p5))
(dV p15 (oMv (.t p1))
(dV p16 (oLdN 6 (.t p7))
(dCv (some p17) (.t p15) [(.t p16)]
(dV p18 (oBuildS 26 1 [(.int .i64 (.ofNat 0)), (.int .i64 (.ofNat 0)), (.bool false), (.str []), .nils, .nils] [(0, 6, (.t p17))])
(dV p19 (oApp 26 6 (.t p14) (.t p18))
(dV p5 (oMv (.t p19))
dE))))))))))
(dOps (dV p20 (oAr .add (.t p10) (.c (.int .i64 (.ofNat 1))))
(dV p10 (oMv (.t p20))
dE)))))))))
(dSeq (dOps (dV p21 (oMv (.t p5))
(dV p4 (oMv (.t p21))
dE)))
dRet)))), [(.t p4)]⟩
def af274 : AF := ⟨(dSeq (dOps (dV p2 (oNew [(.int .i64 (.ofNat 0)), .nils] 51)
dE))
(dSeq (dOps (dV p3 (oMv (.t p0))
(dV p4 (oBuild [(.int .i64 (.ofNat 0)), (.int .i64 (.ofNat 0))] [(0, 1, (.t p3))])
(dV p5 (oBuildS 110 1 [(.int .i64 (.ofNat 0)), (.int .i64 (.ofNat 0))] [(0, 2, (.t p4))])
(dV p6 (oBuild [(.int .i64 (.ofNat 0)), .nils] [(1, 1, (.t p5))])
(dU (oSt 2 (.t p2) (.t p6))
dE))))))
dRet)), [(.cN p2 2)]⟩
def af275 : AF := ⟨(dSeq (dOps (dV p10 (oMv (.c (.int .i64 (.ofNat 0))))
(dV p11 (oMv (.c (.int .i64 (.ofNat 0))))
dE)))
(dSeq (dSeq (dDraw (sN p12 ⟨(some p12), (.v (.mv (.t p4))), none⟩
(sN p13 ⟨(some p13), (.v (.mv (.t p0))), none⟩
(sN p14 ⟨(some p14), (.v (.mv (.t p2))), none⟩
(sN p15 ⟨(some p15), (.v (.ia 2 (.t p13) (.t p14))), none⟩
(sN p16 ⟨(some p16), (.v (.ldN 2 (.t p15))), none⟩
(sN p17 ⟨(some p17), (.v (.mv (.t p0))), none⟩
(sN p18 ⟨(some p18), (.v (.mv (.t p1))), none⟩
(sN p19 ⟨(some p19), (.v (.ia 2 (.t p17) (.t p18))), none⟩
(sN p20 ⟨(some p20), (.v (.ldN 2 (.t p19))), none⟩
(sE [] [] ⟨(some p21), (.callv (.t p12) [(.t p16), (.t p20)]), none⟩
(sN p22 ⟨(some p22), (.v (.ar .lss (.t p21) (.c (.int .i64 (.ofNat 0))))), none⟩
sEnd))))))))))))
(dCond (.t p22) (dSeq (dOps (dV p23 (oMv (.t p3))
(dV p24 (oNchk (.t p23))
(dV p25 (oLd1 (.t p24))
(dV p26 (oAr .add (.t p25) (.c (.int .i64 (.ofNat 1))))
(dV p27 (oNchk (.t p23))
(dU (oSt 1 (.t p27) (.t p26))
dE)))))))
(dSeq (dOps (dV p28 (oMv (.t p2))
(dV p29 (oMv (.t p1))
(dV p10 (oMv (.t p28))
(dV p11 (oMv (.t p29))
dE)))))
dRet)) dSkip))
(dSeq (dOps (dV p30 (oMv (.t p1))
(dV p31 (oMv (.t p2))
(dV p10 (oMv (.t p30))
(dV p11 (oMv (.t p31))
dE)))))
dRet))), [(.t p10), (.t p11)]⟩
def af276 : AF := ⟨(dSeq (dOps (dV p3 (oMv (.c (.int .i64 (.ofNat 0))))
dE))
(dSeq (dOps (dV p4 (oMv (.t p0))
(dV p5 (oLd1 (.t p1))
(dV p6 (oAr .add (.t p4) (.t p5))
(dV p3 (oMv (.t p6))
dE)))))
dRet)), [(.t p3)]⟩
def af277 : AF := ⟨(dSeq (dOps (dV p2 (oBox 26 (.t p0))
(dV p3 (oBox 26 (.t p1))
(dV p4 (oMv (.c (.bool false)))
dE))))
(dSeq (dSeq (dOps (dV p5 (oFa 0 (.t p2))
(dV p6 (oLd1 (.t p5))
(dV p7 (oFa 0 (.t p3))
(dV p8 (oLd1 (.t p7))
(dV p9 (oAr .neq (.t p6) (.t p8))
dE))))))
(dCond (.t p9) (dSeq (dOps (dV p4 (oMv (.c (.bool false)))
dE))
dRet) dSkip))
(dSeq (dSeq (dOps (dV p10 (oFa 0 (.t p2))
(dV p11 (oLd1 (.t p10))
dE)))
(dBlock 0 (dSeq (dBlock 4 (dSeq (dBlock 3 (dSeq (dBlock 2 (dSeq (dBlock 1 (dSeq (dSeq (dSeq (dSeq (dOps (dV p13 (oAr .eql (.t p11) (.c (.int .i64 (.ofNat 1))))
(dV p12 (oMv (.t p13))
dE)))
(dCond (.t p12) dSkip (dOps (dV p14 (oAr .eql (.t p11) (.c (.int .i64 (.ofNat 11))))
(dV p12 (oMv (.t p14))
dE)))))
(dCond (.t p12) (dExit 1) dSkip))
(dSeq (dSeq (dSeq (dOps (dV p16 (oAr .eql (.t p11) (.c (.int .i64 (.ofNat 3))))
(dV p15 (oMv (.t p16))
dE)))
(dCond (.t p15) dSkip (dSeq (dOps (dV p17 (oAr .eql (.t p11) (.c (.int .i64 (.ofNat 4))))
(dV p15 (oMv (.t p17))
dE)))
(dCond (.t p15) dSkip (dOps (dV p18 (oAr .eql (.t p11) (.c (.int .i64 (.ofNat 5))))
(dV p15 (oMv (.t p18))
dE)))))))
(dCond (.t p15) (dExit 2) dSkip))
(dSeq (dSeq (dOps (dV p20 (oAr .eql (.t p11) (.c (.int .i64 (.ofNat 10))))
(dV p19 (oMv (.t p20))
dE)))
(dCond (.t p19) (dExit 3) dSkip))
(dSeq (dOps (dV p22 (oAr .eql (.t p11) (.c (.int .i64 (.ofNat 2))))
(dV p21 (oMv (.t p22))
dE)))
(dCond (.t p21) (dExit 4) dSkip)))))
(dExit 0)))
(dSeq (dSeq (dOps (dV p23 (oFa 1 (.t p2))
(dV p24 (oLd1 (.t p23))
(dV p25 (oFa 1 (.t p3))
(dV p26 (oLd1 (.t p25))
(dV p27 (oAr .eql (.t p24) (.t p26))
(dV p4 (oMv (.t p27))
dE)))))))
dRet)
(dExit 0))))
(dSeq (dSeq (dOps (dV p28 (oFa 2 (.t p2))
(dV p29 (oLd1 (.t p28))
(dV p30 (oFa 2 (.t p3))
(dV p31 (oLd1 (.t p30))
(dV p32 (oEq .b false (.t p29) (.t p31))
(dV p4 (oMv (.t p32))
dE)))))))
dRet)
(dExit 0))))
(dSeq (dOps (dV p33 (oFa 3 (.t p2))
(dV p34 (oLd1 (.t p33))
(dV p35 (oFa 3 (.t p3))
(dV p36 (oLd1 (.t p35))
(dV p37 (oAr .neq (.t p34) (.t p36))
dE))))))
(dCond (.t p37) (dSeq (dOps (dV p4 (oMv (.c (.bool false)))
dE))
dRet) dSkip))))
(dSeq (dSeq (dOps (dV p38 (oFa 4 (.t p2))
(dV p39 (oLd1 (.t p38))
(dV p40 (oFa 4 (.t p3))
(dV p41 (oLd1 (.t p40))
(dC (some p42) p278 [(.t p39), (.t p41), (.c (.fn (.func 147) [] []))]
(dV p4 (oMv (.t p42))
dE)))))))
dRet)
(dExit 0)))))
(dSeq (dOps (dV p4 (oMv (.c (.bool true)))
dE))
dRet)))), [(.t p4)]⟩
def af278 : AF := ⟨(dSeq (dOps (dV p6 (oMv (.c (.bool false)))
dE))
(dSeq (dSeq (dOps (dV p10 (oMv (.t p0))
(dV p11 (oLen (.t p10))
(dV p12 (oMv (.t p1))
(dV p13 (oLen (.t p12))
(dV p14 (oAr .neq (.t p11) (.t p13))
dE))))))
(dCond (.t p14) (dSeq (dOps (dV p6 (oMv (.c (.bool false)))
dE))
dRet) dSkip))
(dSeq (dSeq (dOps (dV p15 (oMv (.t p0))
(dV p16 (oLen (.t p15))
(dV p17 (oMv (.c (.int .i64 (.ofNat 0))))
dE))))
(dBlock 0 (dLoop (dSeq (dOps (dV p18 (oAr .lss (.t p17) (.t p16))
dE))
(dSeq (dCond (.t p18) dSkip (dExit 0))
(dSeq (dBlock 1 (dSeq (dOps (dV p19 (oMv (.t p17))
(dV p20 (oIa 2 (.t p15) (.t p17))
(dV p21 (oLdN 2 (.t p20))
(dV p8 (oNew [(.int .i64 (.ofNat 0)), .nils] 51)
(dV p7 (oMv (.t p19))
(dU (oSt 2 (.t p8) (.t p21))
dE)))))))
(dSeq (dOps (dV p22 (oMv (.t p1))
(dV p23 (oMv (.t p7))
(dV p24 (oIa 2 (.t p22) (.t p23))
(dV p25 (oLdN 2 (.t p24))
(dV p9 (oNew [(.int .i64 (.ofNat 0)), .nils] 51)
(dU (oSt 2 (.t p9) (.t p25))
dE)))))))
(dSeq (dOps (dV p26 (oMv (.t p2))
(dV p27 (oLdN 2 (.t p8))
(dV p28 (oLdN 2 (.t p9))
(dCv (some p29) (.t p26) [(.t p27), (.t p28)]
(dV p30 (oUn .not (.t p29))
dE))))))
(dCond (.t p30) (dSeq (dOps (dV p6 (oMv (.c (.bool false)))
dE))
dRet) dSkip)))))
(dOps (dV p31 (oAr .add (.t p17) (.c (.int .i64 (.ofNat 1))))
(dV p17 (oMv (.t p31))
dE)))))))))
(dSeq (dOps (dV p6 (oMv (.c (.bool true)))
dE))
dRet)))), [(.t p6)]⟩
theorem ok268 : FunSem Tryz.prog 268 af268 := .of mixed (by kernel_rfl)
theorem ok269 : FunSem Tryz.prog 269 af269 := .of mixed (by kernel_rfl)
theorem ok270 : FunSem Tryz.prog 270 af270 := .of mixed (by kernel_rfl)
theorem ok271 : FunSem Tryz.prog 271 af271 := .of mixed (by kernel_rfl)
theorem ok272 : FunSem Tryz.prog 272 af272 := .of mixed (by kernel_rfl)
theorem ok273 : FunSem Tryz.prog 273 af273 := .of mixed (by kernel_rfl)
theorem ok274 : FunSem Tryz.prog 274 af274 := .of mixed (by kernel_rfl)
theorem ok275 : FunSem Tryz.prog 275 af275 := .of mixed (by kernel_rfl)
theorem ok276 : FunSem Tryz.prog 276 af276 := .of mixed (by kernel_rfl)
theorem ok277 : FunSem Tryz.prog 277 af277 := .of mixed (by kernel_rfl)
theorem ok278 : FunSem Tryz.prog 278 af278 := .of mixed (by kernel_rfl)
end Go.Proofs.YteaokkkikfjhdaaGreat.X
