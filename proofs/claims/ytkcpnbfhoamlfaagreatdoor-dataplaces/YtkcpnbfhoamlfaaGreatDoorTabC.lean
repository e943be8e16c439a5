/- Functions of the program, as the executor runs them, and that they are the program's. -/
import Derived.Test.YtkcpnbfhoamlfaaGreatDoorTabB
set_option maxRecDepth 100000
namespace Go.Proofs.YtkcpnbfhoamlfaaGreatDoor.X
open Go.RowKit
def af341 : AF := ⟨(dSeq (dOps (dV p6 (oMv (.c (.int .i64 (.ofNat 0))))
(dV p7 (oMv (.c (.bool false)))
dE)))
(dSeq (dSeq (dOps (dV p12 (oMv (.t p1))
(dV p13 (oNchk (.t p12))
(dV p14 (oFa 0 (.t p13))
(dV p15 (oFa 0 (.t p14))
(dV p16 (oFa 2 (.t p15))
(dV p17 (oLd1 (.t p16))
(dV p18 (oNchk (.t p17))
(dV p19 (oFa 0 (.t p18))
(dV p20 (oFa 0 (.t p19))
(dV p21 (oLd1 (.t p20))
(dV p22 (oAr .neq (.t p21) (.c (.int .i64 (.ofNat 10))))
dE))))))))))))
(dCond (.t p22) (dSeq (dOps (dV p6 (oMv (.c (.int .i64 (.ofNat 0))))
(dV p7 (oMv (.c (.bool false)))
dE)))
dRet) dSkip))
(dSeq (dOps (dV p23 (oMv (.t p0))
(dV p24 (oMv (.t p1))
(dV p25 (oNchk (.t p24))
(dV p26 (oFa 0 (.t p25))
(dV p27 (oFa 0 (.t p26))
(dV p28 (oFa 2 (.t p27))
(dV p29 (oLd1 (.t p28))
(dC (some p30) p334 [(.t p23), (.t p29)]
(dV p8 (oMv (.t p30))
dE))))))))))
(dSeq (dOps (dV p32 (oMv (.t p8))
(dC (some p33) p368 [(.t p32)]
(dV p31 (oMv (.t p33))
(dV p34 (oExt (.t p31) 0)
(dV p35 (oExt (.t p31) 1)
(dV p9 (oMv (.t p34))
(dV p10 (oMv (.t p35))
dE))))))))
(dSeq (dSeq (dOps (dV p36 (oMv (.t p10))
(dV p37 (oUn .not (.t p36))
(dV p38 (oMv (.t p37))
(dG p38 false (some p39) (dV p39 (oMv (.t p8)))
(dG p38 false (some p40) (dV p40 (oNchk (.t p39)))
(dG p38 false (some p41) (dV p41 (oFa 24 (.t p40)))
(dG p38 false (some p42) (dV p42 (oLd1 (.t p41)))
(dG p38 false (some p43) (dV p43 (oMv (.t p2)))
(dG p38 false (some p44) (dV p44 (oEq .p true (.t p42) (.t p43)))
(dV p45 (oPick (.t p38) (.c (.bool true)) (.t p44))
dE)))))))))))
(dCond (.t p45) (dSeq (dOps (dV p6 (oMv (.c (.int .i64 (.ofNat 0))))
(dV p7 (oMv (.c (.bool false)))
dE)))
dRet) dSkip))
(dSeq (dOps (dV p46 (oMv (.t p2))
(dV p47 (oMv (.t p9))
(dC (some p48) p369 [(.t p46), (.t p47)]
(dV p11 (oMv (.t p48))
dE)))))
(dSeq (dDraw (sN p49 ⟨(some p49), (.v (.mv (.t p9))), none⟩
(sN p50 ⟨(some p50), (.v (.mv (.t p11))), none⟩
(sN p51 ⟨(some p51), (.v (.nchk (.t p50))), none⟩
(sN p52 ⟨(some p52), (.v (.fa 0 (.t p51))), none⟩
(sN p53 ⟨(some p53), (.v (.ld1 (.t p52))), none⟩
(sN p54 ⟨(some p54), (.v (.mv (.t p53))), none⟩
(sN p55 ⟨(some p55), (.v (.mv (.t p11))), (some (p54, true))⟩
(sN p56 ⟨(some p56), (.v (.nchk (.t p55))), (some (p54, true))⟩
(sN p57 ⟨(some p57), (.v (.fa 1 (.t p56))), (some (p54, true))⟩
(sN p58 ⟨(some p58), (.v (.ld1 (.t p57))), (some (p54, true))⟩
(sN p59 ⟨(some p59), (.v (.mv (.t p1))), (some (p54, true))⟩
(sN p60 ⟨(some p60), (.v (.nchk (.t p59))), (some (p54, true))⟩
(sN p61 ⟨(some p61), (.v (.fa 4 (.t p60))), (some (p54, true))⟩
(sN p62 ⟨(some p62), (.v (.ld1 (.t p61))), (some (p54, true))⟩
(sE [] [(p58, ⟨(some p58), (.v (.ld1 (.t p57))), (some (p54, true))⟩)] ⟨(some p63), (.call p289 [(.t p62)]), (some (p54, true))⟩
(sN p64 ⟨(some p64), (.v (.fld1 0 (.t p63))), (some (p54, true))⟩
(sN p65 ⟨(some p65), (.v (.ar .eql (.t p58) (.t p64))), (some (p54, true))⟩
(sN p66 ⟨(some p66), (.v (.pick (.t p54) (.t p65) (.c (.bool false)))), none⟩
(sN p6 ⟨(some p6), (.v (.mv (.t p49))), none⟩
(sN p7 ⟨(some p7), (.v (.mv (.t p66))), none⟩
sEnd)))))))))))))))))))))
dRet))))))), [(.t p6), (.t p7)]⟩
def af342 : AF := ⟨(dSeq (dOps (dV p6 (oNew [.nilp, (.int .i64 (.ofNat 0))] 85)
dE))
(dSeq (dOps (dV p10 (oBuild [.nilp, (.int .i64 (.ofNat 0))] [])
(dV p7 (oNew [.nilp, (.int .i64 (.ofNat 0))] 85)
(dU (oSt 2 (.t p7) (.t p10))
dE))))
(dSeq (dSeq (dOps (dV p8 (oMv (.c (.int .i64 (.ofNat 0))))
dE))
(dBlock 0 (dLoop (dSeq (dSeq (dOps (dV p11 (oMv (.t p8))
(dV p12 (oMv (.t p0))
(dC (some p13) p367 [(.t p12)]
(dV p14 (oAr .lss (.t p11) (.t p13))
dE)))))
(dCond (.t p14) dSkip (dExit 0)))
(dSeq (dBlock 1 (dDraw (sN p21 ⟨(some p21), (.v (.ldN 2 (.t p7))), none⟩
(sN p22 ⟨(some p22), (.v (.mv (.t p1))), none⟩
(sN p23 ⟨(some p23), (.v (.nchk (.t p22))), none⟩
(sN p24 ⟨(some p24), (.v (.fa 0 (.t p23))), none⟩
(sN p25 ⟨(some p25), (.v (.ld1 (.t p24))), none⟩
(sE [] [] ⟨(some p26), (.call p214 [(.t p21), (.t p25)]), none⟩
(sE [] [] ⟨none, (.v (.st 2 (.t p7) (.t p26))), none⟩
sEnd)))))))))
(dDraw (sN p15 ⟨(some p15), (.v (.mv (.t p8))), none⟩
(sN p16 ⟨(some p16), (.v (.ar .add (.t p15) (.c (.int .i64 (.ofNat 1))))), none⟩
(sN p17 ⟨(some p17), (.v (.mv (.t p1))), none⟩
(sN p18 ⟨(some p18), (.v (.nchk (.t p17))), none⟩
(sN p19 ⟨(some p19), (.v (.fa 2 (.t p18))), none⟩
(sN p20 ⟨(some p20), (.v (.ld1 (.t p19))), none⟩
(sE [] [(p20, ⟨(some p20), (.v (.ld1 (.t p19))), none⟩)] ⟨(some p8), (.v (.mv (.t p16))), none⟩
(sE [] [] ⟨(some p1), (.v (.mv (.t p20))), none⟩
sEnd))))))))))))))
(dSeq (dSeq (dOps (dV p27 (oMv (.t p2))
(dV p28 (oMv (.t p0))
(dV p29 (oNchk (.t p28))
(dV p30 (oFa 18 (.t p29))
(dV p31 (oLd1 (.t p30))
(dC (some p32) p338 [(.t p27), (.t p31)]
(dC (some p33) p250 [(.t p32)]
dE))))))))
(dBlock 2 (dRange (.t p33) [p34] (dOps (dV p9 (oMv (.t p34))
dE)) (dBlock 3 (dDraw (sN p35 ⟨(some p35), (.v (.ldN 2 (.t p7))), none⟩
(sN p36 ⟨(some p36), (.v (.mv (.t p9))), none⟩
(sN p37 ⟨(some p37), (.v (.nchk (.t p36))), none⟩
(sN p38 ⟨(some p38), (.v (.fa 0 (.t p37))), none⟩
(sN p39 ⟨(some p39), (.v (.ld1 (.t p38))), none⟩
(sE [] [] ⟨(some p40), (.call p214 [(.t p35), (.t p39)]), none⟩
(sE [] [] ⟨none, (.v (.st 2 (.t p7) (.t p40))), none⟩
sEnd))))))))))))
(dSeq (dOps (dV p41 (oLdN 2 (.t p7))
(dU (oSt 2 (.t p6) (.t p41))
dE)))
dRet))))), [(.cN p6 2)]⟩
def af343 : AF := ⟨(dSeq (dOps (dV p4 (oMv (.c .nilp))
dE))
(dSeq (dSeq (dOps (dV p6 (oMv (.t p0))
(dV p7 (oNchk (.t p6))
(dV p8 (oFa 26 (.t p7))
(dV p9 (oLd1 (.t p8))
(dV p10 (oMv (.t p1))
(dV p11 (oIa 1 (.t p9) (.t p10))
(dV p12 (oLd1 (.t p11))
(dV p13 (oEq .p false (.t p12) (.c .nilp))
dE)))))))))
(dCond (.t p13) (dSeq (dDraw (sN p14 ⟨(some p14), (.v (.mv (.t p0))), none⟩
(sN p15 ⟨(some p15), (.v (.nchk (.t p14))), none⟩
(sN p16 ⟨(some p16), (.v (.fa 0 (.t p15))), none⟩
(sN p17 ⟨(some p17), (.v (.ldN 6 (.t p16))), none⟩
(sN p18 ⟨(some p18), (.v (.mv (.t p0))), none⟩
(sN p19 ⟨(some p19), (.v (.nchk (.t p18))), none⟩
(sN p20 ⟨(some p20), (.v (.fa 24 (.t p19))), none⟩
(sN p21 ⟨(some p21), (.v (.ld1 (.t p20))), none⟩
(sN p22 ⟨(some p22), (.v (.mv (.t p0))), none⟩
(sN p23 ⟨(some p23), (.v (.nchk (.t p22))), none⟩
(sN p24 ⟨(some p24), (.v (.fa 24 (.t p23))), none⟩
(sN p25 ⟨(some p25), (.v (.ld1 (.t p24))), none⟩
(sN p26 ⟨(some p26), (.v (.mv (.t p1))), none⟩
(sA 15 p5 (.new [(.int .i64 (.ofNat 0)), (.int .i64 (.ofNat 0)), (.bool false), (.str []), .nils, .nils, .nilp, .nilp] 506)
(sE [] [(p17, ⟨(some p17), (.v (.ldN 6 (.t p16))), none⟩), (p21, ⟨(some p21), (.v (.ld1 (.t p20))), none⟩)] ⟨(some p27), (.call p369 [(.t p25), (.t p26)]), none⟩
(sN p28 ⟨(some p28), (.v (.build [(.int .i64 (.ofNat 0)), (.int .i64 (.ofNat 0)), (.bool false), (.str []), .nils, .nils, .nilp, .nilp] [(0, 6, (.t p17)), (6, 1, (.t p21)), (7, 1, (.t p27))])), none⟩
(sE [15] [] ⟨none, (.v (.st 8 (.t p5) (.t p28))), none⟩
sEnd))))))))))))))))))
(dDraw (sN p29 ⟨(some p29), (.v (.mv (.t p0))), none⟩
(sN p30 ⟨(some p30), (.v (.nchk (.t p29))), none⟩
(sN p31 ⟨(some p31), (.v (.fa 26 (.t p30))), none⟩
(sN p32 ⟨(some p32), (.v (.ld1 (.t p31))), none⟩
(sN p33 ⟨(some p33), (.v (.mv (.t p1))), none⟩
(sN p34 ⟨(some p34), (.v (.ldN 8 (.t p5))), none⟩
(sN p35 ⟨(some p35), (.v (.mv (.t p1))), none⟩
(sE [] [(p32, ⟨(some p32), (.v (.ld1 (.t p31))), none⟩)] ⟨(some p36), (.call p370 [(.t p34), (.t p35)]), none⟩
(sE [] [(p32, ⟨(some p32), (.v (.ld1 (.t p31))), none⟩)] ⟨(some p37), (.call p126 [(.t p36)]), none⟩
(sN p38 ⟨(some p38), (.v (.ia 1 (.t p32) (.t p33))), none⟩
(sE [] [] ⟨none, (.v (.st 1 (.t p38) (.t p37))), none⟩
sEnd))))))))))))) dSkip))
(dSeq (dOps (dV p39 (oMv (.t p0))
(dV p40 (oNchk (.t p39))
(dV p41 (oFa 26 (.t p40))
(dV p42 (oLd1 (.t p41))
(dV p43 (oMv (.t p1))
(dV p44 (oIa 1 (.t p42) (.t p43))
(dV p45 (oLd1 (.t p44))
(dV p4 (oMv (.t p45))
dE)))))))))
dRet))), [(.t p4)]⟩
def af344 : AF := ⟨(dSeq (dOps (dV p12 (oMv (.t p1))
(dV p10 (oMv (.t p12))
dE)))
(dBlock 0 (dLoop (dBlock 1 (dSeq (dOps (dV p13 (oMv (.t p10))
(dV p14 (oAr .mul (.c (.int .i64 (.ofNat 2))) (.t p13))
(dV p15 (oAr .add (.t p14) (.c (.int .i64 (.ofNat 1))))
(dV p11 (oMv (.t p15))
dE)))))
(dSeq (dSeq (dOps (dV p16 (oMv (.t p11))
(dV p17 (oMv (.t p2))
(dV p18 (oAr .geq (.t p16) (.t p17))
dE))))
(dCond (.t p18) (dExit 0) dSkip))
(dSeq (dSeq (dDraw (sN p19 ⟨(some p19), (.v (.mv (.t p11))), none⟩
(sN p20 ⟨(some p20), (.v (.ar .add (.t p19) (.c (.int .i64 (.ofNat 1))))), none⟩
(sN p21 ⟨(some p21), (.v (.mv (.t p2))), none⟩
(sN p22 ⟨(some p22), (.v (.ar .lss (.t p20) (.t p21))), none⟩
(sN p23 ⟨(some p23), (.v (.mv (.t p22))), none⟩
(sN p24 ⟨(some p24), (.v (.mv (.t p4))), (some (p23, true))⟩
(sN p25 ⟨(some p25), (.v (.mv (.t p0))), (some (p23, true))⟩
(sN p26 ⟨(some p26), (.v (.mv (.t p3))), (some (p23, true))⟩
(sN p27 ⟨(some p27), (.v (.mv (.t p11))), (some (p23, true))⟩
(sN p28 ⟨(some p28), (.v (.ar .add (.t p26) (.t p27))), (some (p23, true))⟩
(sN p29 ⟨(some p29), (.v (.ia 2 (.t p25) (.t p28))), (some (p23, true))⟩
(sN p30 ⟨(some p30), (.v (.ldN 2 (.t p29))), (some (p23, true))⟩
(sN p31 ⟨(some p31), (.v (.mv (.t p0))), (some (p23, true))⟩
(sN p32 ⟨(some p32), (.v (.mv (.t p3))), (some (p23, true))⟩
(sN p33 ⟨(some p33), (.v (.mv (.t p11))), (some (p23, true))⟩
(sN p34 ⟨(some p34), (.v (.ar .add (.t p32) (.t p33))), (some (p23, true))⟩
(sN p35 ⟨(some p35), (.v (.ar .add (.t p34) (.c (.int .i64 (.ofNat 1))))), (some (p23, true))⟩
(sN p36 ⟨(some p36), (.v (.ia 2 (.t p31) (.t p35))), (some (p23, true))⟩
(sN p37 ⟨(some p37), (.v (.ldN 2 (.t p36))), (some (p23, true))⟩
(sE [] [] ⟨(some p38), (.callv (.t p24) [(.t p30), (.t p37)]), (some (p23, true))⟩
(sN p39 ⟨(some p39), (.v (.ar .lss (.t p38) (.c (.int .i64 (.ofNat 0))))), (some (p23, true))⟩
(sN p40 ⟨(some p40), (.v (.pick (.t p23) (.t p39) (.c (.bool false)))), none⟩
sEnd)))))))))))))))))))))))
(dCond (.t p40) (dOps (dV p41 (oMv (.t p11))
(dV p42 (oAr .add (.t p41) (.c (.int .i64 (.ofNat 1))))
(dV p11 (oMv (.t p42))
dE)))) dSkip))
(dSeq (dSeq (dDraw (sN p43 ⟨(some p43), (.v (.mv (.t p4))), none⟩
(sN p44 ⟨(some p44), (.v (.mv (.t p0))), none⟩
(sN p45 ⟨(some p45), (.v (.mv (.t p3))), none⟩
(sN p46 ⟨(some p46), (.v (.mv (.t p10))), none⟩
(sN p47 ⟨(some p47), (.v (.ar .add (.t p45) (.t p46))), none⟩
(sN p48 ⟨(some p48), (.v (.ia 2 (.t p44) (.t p47))), none⟩
(sN p49 ⟨(some p49), (.v (.ldN 2 (.t p48))), none⟩
(sN p50 ⟨(some p50), (.v (.mv (.t p0))), none⟩
(sN p51 ⟨(some p51), (.v (.mv (.t p3))), none⟩
(sN p52 ⟨(some p52), (.v (.mv (.t p11))), none⟩
(sN p53 ⟨(some p53), (.v (.ar .add (.t p51) (.t p52))), none⟩
(sN p54 ⟨(some p54), (.v (.ia 2 (.t p50) (.t p53))), none⟩
(sN p55 ⟨(some p55), (.v (.ldN 2 (.t p54))), none⟩
(sE [] [] ⟨(some p56), (.callv (.t p43) [(.t p49), (.t p55)]), none⟩
(sN p57 ⟨(some p57), (.v (.ar .lss (.t p56) (.c (.int .i64 (.ofNat 0))))), none⟩
(sN p58 ⟨(some p58), (.v (.un .not (.t p57))), none⟩
sEnd)))))))))))))))))
(dCond (.t p58) dRet dSkip))
(dSeq (dDraw (sN p59 ⟨(some p59), (.v (.mv (.t p0))), none⟩
(sN p60 ⟨(some p60), (.v (.mv (.t p3))), none⟩
(sN p61 ⟨(some p61), (.v (.mv (.t p10))), none⟩
(sN p62 ⟨(some p62), (.v (.ar .add (.t p60) (.t p61))), none⟩
(sN p63 ⟨(some p63), (.v (.mv (.t p0))), none⟩
(sN p64 ⟨(some p64), (.v (.mv (.t p3))), none⟩
(sN p65 ⟨(some p65), (.v (.mv (.t p11))), none⟩
(sN p66 ⟨(some p66), (.v (.ar .add (.t p64) (.t p65))), none⟩
(sN p67 ⟨(some p67), (.v (.mv (.t p0))), none⟩
(sN p68 ⟨(some p68), (.v (.mv (.t p3))), none⟩
(sN p69 ⟨(some p69), (.v (.mv (.t p11))), none⟩
(sN p70 ⟨(some p70), (.v (.ar .add (.t p68) (.t p69))), none⟩
(sN p71 ⟨(some p71), (.v (.ia 2 (.t p67) (.t p70))), none⟩
(sN p72 ⟨(some p72), (.v (.ldN 2 (.t p71))), none⟩
(sN p73 ⟨(some p73), (.v (.mv (.t p0))), none⟩
(sN p74 ⟨(some p74), (.v (.mv (.t p3))), none⟩
(sN p75 ⟨(some p75), (.v (.mv (.t p10))), none⟩
(sN p76 ⟨(some p76), (.v (.ar .add (.t p74) (.t p75))), none⟩
(sN p77 ⟨(some p77), (.v (.ia 2 (.t p73) (.t p76))), none⟩
(sN p78 ⟨(some p78), (.v (.ldN 2 (.t p77))), none⟩
(sN p79 ⟨(some p79), (.v (.ia 2 (.t p59) (.t p62))), none⟩
(sE [] [] ⟨none, (.v (.st 2 (.t p79) (.t p72))), none⟩
(sN p80 ⟨(some p80), (.v (.ia 2 (.t p63) (.t p66))), none⟩
(sE [] [] ⟨none, (.v (.st 2 (.t p80) (.t p78))), none⟩
sEnd)))))))))))))))))))))))))
(dOps (dV p81 (oMv (.t p11))
(dV p10 (oMv (.t p81))
dE)))))))))))), []⟩
def af345 : AF := ⟨(dSeq (dOps (dV p2 (oMv (.c (.int .u64 (.ofNat 0))))
dE))
(dSeq (dOps (dV p3 (oMv (.t p0))
(dV p4 (oCvI .u64 (.t p3))
(dC (some p5) p270 [(.t p4)]
(dV p6 (oAr .shl (.c (.int .u64 (.ofNat 1))) (.t p5))
(dV p2 (oMv (.t p6))
dE))))))
dRet)), [(.t p2)]⟩
def af346 : AF := ⟨(dSeq (dOps (dV p2 (oMv (.c (.int .u64 (.ofNat 0))))
dE))
(dSeq (dDraw (sN p3 ⟨(some p3), (.v (.mv (.t p0))), none⟩
(sN p4 ⟨(some p4), (.v (.nchk (.t p3))), none⟩
(sN p5 ⟨(some p5), (.v (.ld1 (.t p4))), none⟩
(sN p6 ⟨(some p6), (.v (.mv (.t p0))), none⟩
(sN p7 ⟨(some p7), (.v (.nchk (.t p6))), none⟩
(sN p8 ⟨(some p8), (.v (.ld1 (.t p7))), none⟩
(sN p9 ⟨(some p9), (.v (.ar .shl (.t p8) (.c (.int .u64 (.ofNat 13))))), none⟩
(sN p10 ⟨(some p10), (.v (.ar .xor (.t p5) (.t p9))), none⟩
(sN p11 ⟨(some p11), (.v (.nchk (.t p3))), none⟩
(sE [] [] ⟨none, (.v (.st 1 (.t p11) (.t p10))), none⟩
sEnd)))))))))))
(dSeq (dDraw (sN p12 ⟨(some p12), (.v (.mv (.t p0))), none⟩
(sN p13 ⟨(some p13), (.v (.nchk (.t p12))), none⟩
(sN p14 ⟨(some p14), (.v (.ld1 (.t p13))), none⟩
(sN p15 ⟨(some p15), (.v (.mv (.t p0))), none⟩
(sN p16 ⟨(some p16), (.v (.nchk (.t p15))), none⟩
(sN p17 ⟨(some p17), (.v (.ld1 (.t p16))), none⟩
(sN p18 ⟨(some p18), (.v (.ar .shr (.t p17) (.c (.int .u64 (.ofNat 7))))), none⟩
(sN p19 ⟨(some p19), (.v (.ar .xor (.t p14) (.t p18))), none⟩
(sN p20 ⟨(some p20), (.v (.nchk (.t p12))), none⟩
(sE [] [] ⟨none, (.v (.st 1 (.t p20) (.t p19))), none⟩
sEnd)))))))))))
(dSeq (dDraw (sN p21 ⟨(some p21), (.v (.mv (.t p0))), none⟩
(sN p22 ⟨(some p22), (.v (.nchk (.t p21))), none⟩
(sN p23 ⟨(some p23), (.v (.ld1 (.t p22))), none⟩
(sN p24 ⟨(some p24), (.v (.mv (.t p0))), none⟩
(sN p25 ⟨(some p25), (.v (.nchk (.t p24))), none⟩
(sN p26 ⟨(some p26), (.v (.ld1 (.t p25))), none⟩
(sN p27 ⟨(some p27), (.v (.ar .shl (.t p26) (.c (.int .u64 (.ofNat 17))))), none⟩
(sN p28 ⟨(some p28), (.v (.ar .xor (.t p23) (.t p27))), none⟩
(sN p29 ⟨(some p29), (.v (.nchk (.t p21))), none⟩
(sE [] [] ⟨none, (.v (.st 1 (.t p29) (.t p28))), none⟩
sEnd)))))))))))
(dSeq (dOps (dV p30 (oMv (.t p0))
(dV p31 (oNchk (.t p30))
(dV p32 (oLd1 (.t p31))
(dV p2 (oMv (.t p32))
dE)))))
dRet))))), [(.t p2)]⟩
def af347 : AF := ⟨(dSeq (dOps (dV p8 (oMv (.c (.int .i64 (.ofNat 0))))
dE))
(dSeq (dOps (dV p9 (oMv (.t p0))
(dV p10 (oMv (.t p1))
(dV p11 (oAr .sub (.t p10) (.c (.int .i64 (.ofNat 1))))
(dV p12 (oMv (.t p1))
(dV p13 (oMv (.t p1))
(dV p14 (oAr .add (.t p13) (.c (.int .i64 (.ofNat 1))))
(dV p15 (oMv (.t p2))
(dV p16 (oMv (.t p3))
(dC (some p17) p348 [(.t p9), (.t p11), (.t p12), (.t p14), (.t p15), (.t p16)]
(dV p8 (oMv (.t p17))
dE)))))))))))
dRet)), [(.t p8)]⟩
def af348 : AF := ⟨(dSeq (dOps (dV p12 (oMv (.c (.int .i64 (.ofNat 0))))
dE))
(dSeq (dOps (dV p14 (oMv (.t p0))
(dV p15 (oMv (.t p1))
(dV p16 (oMv (.t p2))
(dV p17 (oMv (.t p4))
(dV p18 (oMv (.t p5))
(dC (some p19) p371 [(.t p14), (.t p15), (.t p16), (.t p17), (.t p18)]
(dV p13 (oMv (.t p19))
(dV p20 (oExt (.t p13) 0)
(dV p21 (oExt (.t p13) 1)
(dV p1 (oMv (.t p20))
(dV p2 (oMv (.t p21))
dE))))))))))))
(dSeq (dOps (dV p23 (oMv (.t p0))
(dV p24 (oMv (.t p2))
(dV p25 (oMv (.t p3))
(dV p26 (oMv (.t p4))
(dV p27 (oMv (.t p5))
(dC (some p28) p371 [(.t p23), (.t p24), (.t p25), (.t p26), (.t p27)]
(dV p22 (oMv (.t p28))
(dV p29 (oExt (.t p22) 0)
(dV p30 (oExt (.t p22) 1)
(dV p2 (oMv (.t p29))
(dV p3 (oMv (.t p30))
dE))))))))))))
(dSeq (dOps (dV p32 (oMv (.t p0))
(dV p33 (oMv (.t p1))
(dV p34 (oMv (.t p2))
(dV p35 (oMv (.t p4))
(dV p36 (oMv (.t p5))
(dC (some p37) p371 [(.t p32), (.t p33), (.t p34), (.t p35), (.t p36)]
(dV p31 (oMv (.t p37))
(dV p38 (oExt (.t p31) 0)
(dV p39 (oExt (.t p31) 1)
(dV p1 (oMv (.t p38))
(dV p2 (oMv (.t p39))
dE))))))))))))
(dSeq (dOps (dV p40 (oMv (.t p2))
(dV p12 (oMv (.t p40))
dE)))
dRet))))), [(.t p12)]⟩
def af349 : AF := ⟨(dSeq (dOps (dV p4 (oLd1 (.t p1))
(dV p5 (oLen (.t p4))
(dV p6 (oAr .sub (.t p5) (.c (.int .i64 (.ofNat 1))))
(dV p3 (oMv (.t p6))
dE)))))
(dBlock 0 (dLoop (dSeq (dSeq (dOps (dV p7 (oMv (.t p3))
(dV p8 (oAr .geq (.t p7) (.c (.int .i64 (.ofNat 0))))
dE)))
(dCond (.t p8) dSkip (dExit 0)))
(dSeq (dBlock 1 (dSeq (dOps (dV p11 (oMv (.t p0))
(dV p12 (oMv (.t p3))
(dV p13 (oLd1 (.t p1))
(dV p14 (oMv (.t p3))
(dV p15 (oIa 6 (.t p13) (.t p14))
(dV p16 (oLdN 6 (.t p15))
(dCv (some p17) (.t p11) [(.t p12), (.t p16)]
(dV p18 (oUn .not (.t p17))
dE)))))))))
(dCond (.t p18) dRet dSkip)))
(dOps (dV p9 (oMv (.t p3))
(dV p10 (oAr .sub (.t p9) (.c (.int .i64 (.ofNat 1))))
(dV p3 (oMv (.t p10))
dE))))))))), []⟩
def af350 : AF := ⟨(dSeq (dOps (dV p5 (oMv (.t p0))
(dV p6 (oLen (.t p5))
(dV p4 (oMv (.t p6))
dE))))
(dOps (dV p7 (oMv (.t p0))
(dV p8 (oMv (.t p4))
(dV p9 (oMv (.t p4))
(dV p10 (oCvI .u64 (.t p9))
(dC (some p11) p270 [(.t p10)]
(dV p12 (oMv (.t p1))
(dC (some p13) p372 [(.t p7), (.c (.int .i64 (.ofNat 0))), (.t p8), (.t p11), (.t p12)]
dE))))))))), []⟩
def af351 : AF := ⟨(dSeq (dOps (dV p2 (oBox 408 (.t p0))
(dV p3 (oBox 408 (.t p1))
(dV p4 (oMv (.c (.int .i64 (.ofNat 0))))
dE))))
(dSeq (dOps (dV p5 (oFa 0 (.t p2))
(dV p6 (oLd1 (.t p5))
(dV p7 (oFa 0 (.t p3))
(dV p8 (oLd1 (.t p7))
(dC (some p9) p228 [(.t p6), (.t p8)]
(dV p4 (oMv (.t p9))
dE)))))))
dRet)), [(.t p4)]⟩
def af352 : AF := ⟨(dSeq (dOps (dV p2 (oBox 464 (.t p0))
(dV p3 (oBox 26 (.t p1))
(dV p4 (oNew [(.int .i64 (.ofNat 0)), (.int .i64 (.ofNat 0)), (.bool false), (.str []), .nils, .nils] 26)
dE))))
(dSeq (dOps (dV p5 (oMv (.c (.int .i64 (.ofNat 0))))
dE))
(dSeq (dSeq (dDraw (sN p8 ⟨(some p8), (.v (.fa 0 (.t p2))), none⟩
(sN p9 ⟨(some p9), (.v (.ld1 (.t p8))), none⟩
(sN p11 ⟨(some p11), (.v (.fa 1 (.t p2))), none⟩
(sN p12 ⟨(some p12), (.v (.ld1 (.t p11))), none⟩
(sA 5 p13 (.buildS 3 1 [(.int .i64 (.ofNat 0))] [(0, 1, (.t p12))])
(sN p16 ⟨(some p16), (.v (.mv (.c (.int .i64 (.ofNat 0))))), none⟩
(sE [] [(p12, ⟨(some p12), (.v (.ld1 (.t p11))), none⟩)] ⟨(some p10), (.call p373 [(.t p9)]), none⟩
(sE [5] [] ⟨(some p14), (.v (.app 3 1 (.t p10) (.t p13))), none⟩
(sN p15 ⟨(some p15), (.v (.len (.t p14))), none⟩
sEnd))))))))))
(dBlock 0 (dLoop (dSeq (dOps (dV p17 (oAr .lss (.t p16) (.t p15))
dE))
(dSeq (dCond (.t p17) dSkip (dExit 0))
(dSeq (dBlock 1 (dSeq (dOps (dV p18 (oMv (.t p16))
(dV p19 (oIa 1 (.t p14) (.t p16))
(dV p20 (oLd1 (.t p19))
(dV p6 (oMv (.t p18))
(dV p7 (oMv (.t p20))
dE))))))
(dSeq (dOps (dV p21 (oLdN 6 (.t p3))
(dV p22 (oFa 0 (.t p2))
(dV p23 (oLd1 (.t p22))
(dV p24 (oLen (.t p23))
(dV p25 (oMv (.t p6))
(dV p26 (oAr .sub (.t p24) (.t p25))
(dV p27 (oMv (.t p7))
(dV p28 (oMv (.t p5))
(dV p29 (oAr .sub (.t p27) (.t p28))
(dC (some p30) p374 [(.t p21), (.t p26), (.t p29)]
(dU (oSt 6 (.t p3) (.t p30))
dE))))))))))))
(dOps (dV p31 (oMv (.t p7))
(dV p32 (oAr .add (.t p31) (.c (.int .i64 (.ofNat 1))))
(dV p5 (oMv (.t p32))
dE)))))))
(dOps (dV p33 (oAr .add (.t p16) (.c (.int .i64 (.ofNat 1))))
(dV p16 (oMv (.t p33))
dE)))))))))
(dSeq (dOps (dV p34 (oLdN 6 (.t p3))
(dU (oSt 6 (.t p4) (.t p34))
dE)))
dRet)))), [(.cN p4 6)]⟩
def af353 : AF := ⟨(dSeq (dOps (dV p1 (oBox 464 (.t p0))
(dV p2 (oNew [.nils, (.int .i64 (.ofNat 0))] 464)
dE)))
(dSeq (dDraw (sN p3 ⟨(some p3), (.v (.fa 0 (.t p1))), none⟩
(sN p4 ⟨(some p4), (.v (.ld1 (.t p3))), none⟩
(sN p6 ⟨(some p6), (.v (.fa 1 (.t p1))), none⟩
(sN p7 ⟨(some p7), (.v (.ld1 (.t p6))), none⟩
(sA 5 p8 (.buildS 3 1 [(.int .i64 (.ofNat 0))] [(0, 1, (.t p7))])
(sN p10 ⟨(some p10), (.v (.fa 1 (.t p1))), none⟩
(sN p11 ⟨(some p11), (.v (.ld1 (.t p10))), none⟩
(sN p12 ⟨(some p12), (.v (.ar .add (.t p11) (.c (.int .i64 (.ofNat 1))))), none⟩
(sE [] [(p7, ⟨(some p7), (.v (.ld1 (.t p6))), none⟩), (p11, ⟨(some p11), (.v (.ld1 (.t p10))), none⟩)] ⟨(some p5), (.call p373 [(.t p4)]), none⟩
(sE [5] [(p11, ⟨(some p11), (.v (.ld1 (.t p10))), none⟩)] ⟨(some p9), (.v (.app 3 1 (.t p5) (.t p8))), none⟩
(sN p13 ⟨(some p13), (.v (.build [.nils, (.int .i64 (.ofNat 0))] [(0, 1, (.t p9)), (1, 1, (.t p12))])), none⟩
(sE [5] [] ⟨none, (.v (.st 2 (.t p2) (.t p13))), none⟩
sEnd)))))))))))))
dRet)), [(.cN p2 2)]⟩
def af354 : AF := ⟨(dSeq (dOps (dV p3 (oBox 464 (.t p0))
(dV p4 (oNew [(.int .i64 (.ofNat 0)), (.int .i64 (.ofNat 0)), (.bool false), (.str []), .nils, .nils] 26)
dE)))
(dSeq (dDraw (sN p5 ⟨(some p5), (.v (.ldN 21 (.t p1))), none⟩
(sN p6 ⟨(some p6), (.v (.ldN 2 (.t p3))), none⟩
(sN p8 ⟨(some p8), (.v (.ldN 6 (.t p2))), none⟩
(sE [] [(p8, ⟨(some p8), (.v (.ldN 6 (.t p2))), none⟩)] ⟨(some p7), (.call p355 [(.t p5), (.t p6)]), none⟩
(sE [] [] ⟨(some p9), (.call p325 [(.t p7), (.t p8)]), none⟩
(sE [] [] ⟨none, (.v (.st 6 (.t p4) (.t p9))), none⟩
sEnd)))))))
dRet)), [(.cN p4 6)]⟩
def af355 : AF := ⟨(dSeq (dOps (dV p2 (oBox 163 (.t p0))
(dV p3 (oBox 464 (.t p1))
(dV p4 (oNew [(.int .i64 (.ofNat 0)), (.int .i64 (.ofNat 0)), (.bool false), (.str []), .nils, .nils] 26)
dE))))
(dSeq (dDraw (sN p5 ⟨(some p5), (.v (.ldN 21 (.t p2))), none⟩
(sN p6 ⟨(some p6), (.v (.fa 0 (.t p2))), none⟩
(sN p7 ⟨(some p7), (.v (.fa 1 (.t p6))), none⟩
(sN p8 ⟨(some p8), (.v (.ld1 (.t p7))), none⟩
(sN p10 ⟨(some p10), (.v (.ldN 2 (.t p3))), none⟩
(sN p11 ⟨(some p11), (.v (.fa 0 (.t p3))), none⟩
(sN p12 ⟨(some p12), (.v (.ld1 (.t p11))), none⟩
(sE [] [(p10, ⟨(some p10), (.v (.ldN 2 (.t p3))), none⟩), (p12, ⟨(some p12), (.v (.ld1 (.t p11))), none⟩)] ⟨(some p9), (.call p243 [(.t p5), (.t p8)]), none⟩
(sE [] [] ⟨(some p13), (.call p358 [(.t p10), (.t p12)]), none⟩
(sE [] [] ⟨(some p14), (.call p359 [(.t p9), (.t p13)]), none⟩
(sE [] [] ⟨none, (.v (.st 6 (.t p4) (.t p14))), none⟩
sEnd))))))))))))
dRet)), [(.cN p4 6)]⟩
def af356 : AF := ⟨(dSeq (dOps (dV p3 (oBox 163 (.t p0))
(dV p4 (oBox 170 (.t p1))
(dV p5 (oBox 464 (.t p2))
(dV p6 (oNew [(.int .i64 (.ofNat 0)), (.int .i64 (.ofNat 0)), (.bool false), (.str []), .nils, .nils] 26)
dE)))))
(dSeq (dOps (dV p7 (oLdN 2 (.t p5))
(dV p8 (oFa 1 (.t p4))
(dV p9 (oLd1 (.t p8))
(dV p10 (oMkf 375 [] [(.t p3), (.t p4)])
(dC (some p11) p323 [(.t p7), (.t p9), (.t p10)]
(dU (oSt 6 (.t p6) (.t p11))
dE)))))))
dRet)), [(.cN p6 6)]⟩
def af357 : AF := ⟨(dSeq (dOps (dV p2 (oBox 464 (.t p0))
(dV p3 (oNew [(.int .i64 (.ofNat 0)), (.int .i64 (.ofNat 0)), (.bool false), (.str []), .nils, .nils] 26)
dE)))
(dSeq (dDraw (sN p7 ⟨(some p7), (.v (.fa 1 (.t p2))), none⟩
(sN p8 ⟨(some p8), (.v (.ld1 (.t p7))), none⟩
(sN p9 ⟨(some p9), (.v (.ldN 2 (.t p2))), none⟩
(sA 4 p5 (.new [.nils, (.int .i64 (.ofNat 0))] 464)
(sE [] [(p8, ⟨(some p8), (.v (.ld1 (.t p7))), none⟩)] ⟨(some p10), (.call p328 [(.t p9)]), none⟩
(sN p4 ⟨(some p4), (.v (.mv (.t p8))), none⟩
(sE [4] [] ⟨none, (.v (.st 2 (.t p5) (.t p10))), none⟩
sEnd))))))))
(dSeq (dDraw (sN p11 ⟨(some p11), (.v (.ldN 2 (.t p5))), none⟩
(sN p12 ⟨(some p12), (.v (.fa 0 (.t p2))), none⟩
(sN p13 ⟨(some p13), (.v (.ld1 (.t p12))), none⟩
(sN p14 ⟨(some p14), (.v (.fa 17 (.t p1))), none⟩
(sN p15 ⟨(some p15), (.v (.ld1 (.t p14))), none⟩
(sN p16 ⟨(some p16), (.v (.len (.t p15))), none⟩
(sN p17 ⟨(some p17), (.v (.sl 1 (.t p13) (some (.t p16)) none none)), none⟩
(sE [] [] ⟨(some p18), (.call p358 [(.t p11), (.t p17)]), none⟩
(sN p6 ⟨(some p6), (.v (.mv (.t p18))), none⟩
sEnd))))))))))
(dSeq (dDraw (sN p19 ⟨(some p19), (.v (.ldN 21 (.t p1))), none⟩
(sN p20 ⟨(some p20), (.v (.ldN 2 (.t p2))), none⟩
(sN p22 ⟨(some p22), (.v (.ldN 2 (.t p5))), none⟩
(sN p23 ⟨(some p23), (.v (.ldN 21 (.t p1))), none⟩
(sN p26 ⟨(some p26), (.v (.mv (.t p6))), none⟩
(sN p27 ⟨(some p27), (.v (.ldN 2 (.t p5))), none⟩
(sN p28 ⟨(some p28), (.v (.mv (.t p4))), none⟩
(sE [] [(p22, ⟨(some p22), (.v (.ldN 2 (.t p5))), none⟩), (p23, ⟨(some p23), (.v (.ldN 21 (.t p1))), none⟩), (p27, ⟨(some p27), (.v (.ldN 2 (.t p5))), none⟩)] ⟨(some p21), (.call p355 [(.t p19), (.t p20)]), none⟩
(sE [] [(p22, ⟨(some p22), (.v (.ldN 2 (.t p5))), none⟩), (p27, ⟨(some p27), (.v (.ldN 2 (.t p5))), none⟩)] ⟨(some p24), (.call p361 [(.t p23)]), none⟩
(sE [] [(p27, ⟨(some p27), (.v (.ldN 2 (.t p5))), none⟩)] ⟨(some p25), (.call p360 [(.t p22), (.t p24)]), none⟩
(sE [] [] ⟨(some p29), (.call p360 [(.t p27), (.t p28)]), none⟩
(sA 11 p30 (.buildS 26 1 [(.int .i64 (.ofNat 0)), (.int .i64 (.ofNat 0)), (.bool false), (.str []), .nils, .nils] [(0, 6, (.t p29))])
(sE [11] [] ⟨(some p31), (.v (.app 26 6 (.t p26) (.t p30))), none⟩
(sE [11] [] ⟨(some p32), (.call p359 [(.t p25), (.t p31)]), none⟩
(sE [11] [] ⟨(some p33), (.call p325 [(.t p21), (.t p32)]), none⟩
(sE [11] [] ⟨none, (.v (.st 6 (.t p3) (.t p33))), none⟩
sEnd)))))))))))))))))
dRet)))), [(.cN p3 6)]⟩
def af358 : AF := ⟨(dSeq (dOps (dV p2 (oBox 464 (.t p0))
(dV p4 (oMv (.c .nils))
dE)))
(dSeq (dOps (dV p5 (oMv (.t p1))
(dV p6 (oLdN 2 (.t p2))
(dV p7 (oMkf 360 [(.t p6)] [])
(dC (some p8) p377 [(.t p5), (.t p7)]
(dV p4 (oMv (.t p8))
dE))))))
dRet)), [(.t p4)]⟩
def af359 : AF := ⟨(dSeq (dOps (dV p2 (oBox 26 (.t p0))
(dV p4 (oNew [(.int .i64 (.ofNat 0)), (.int .i64 (.ofNat 0)), (.bool false), (.str []), .nils, .nils] 26)
dE)))
(dSeq (dSeq (dOps (dV p7 (oMv (.t p1))
(dV p8 (oLen (.t p7))
(dV p9 (oMv (.c (.int .i64 (.ofNat 0))))
dE))))
(dBlock 0 (dLoop (dSeq (dOps (dV p10 (oAr .lss (.t p9) (.t p8))
dE))
(dSeq (dCond (.t p10) dSkip (dExit 0))
(dSeq (dBlock 1 (dSeq (dOps (dV p11 (oIa 6 (.t p7) (.t p9))
(dV p12 (oLdN 6 (.t p11))
(dV p6 (oNew [(.int .i64 (.ofNat 0)), (.int .i64 (.ofNat 0)), (.bool false), (.str []), .nils, .nils] 26)
(dU (oSt 6 (.t p6) (.t p12))
dE)))))
(dOps (dV p13 (oLdN 6 (.t p2))
(dV p14 (oLdN 6 (.t p6))
(dV p15 (oBuildS 26 2 [(.int .i64 (.ofNat 0)), (.int .i64 (.ofNat 0)), (.bool false), (.str []), .nils, .nils, (.int .i64 (.ofNat 0)), (.int .i64 (.ofNat 0)), (.bool false), (.str []), .nils, .nils] [(0, 6, (.t p13)), (6, 6, (.t p14))])
(dV p16 (oBuild [(.int .i64 (.ofNat 0)), (.int .i64 (.ofNat 0)), (.bool false), (.str []), .nils, .nils] [(0, 1, (.c (.int .i64 (.ofNat 5)))), (5, 1, (.t p15))])
(dU (oSt 6 (.t p2) (.t p16))
dE))))))))
(dOps (dV p17 (oAr .add (.t p9) (.c (.int .i64 (.ofNat 1))))
(dV p9 (oMv (.t p17))
dE)))))))))
(dSeq (dOps (dV p18 (oLdN 6 (.t p2))
(dU (oSt 6 (.t p4) (.t p18))
dE)))
dRet))), [(.cN p4 6)]⟩
def af360 : AF := ⟨(dSeq (dOps (dV p2 (oBox 464 (.t p0))
(dV p4 (oNew [(.int .i64 (.ofNat 0)), (.int .i64 (.ofNat 0)), (.bool false), (.str []), .nils, .nils] 26)
dE)))
(dSeq (dOps (dV p5 (oFa 1 (.t p2))
(dV p6 (oLd1 (.t p5))
(dV p7 (oAr .sub (.t p6) (.c (.int .i64 (.ofNat 1))))
(dV p8 (oMv (.t p1))
(dV p9 (oAr .sub (.t p7) (.t p8))
(dC (some p10) p244 [(.t p9)]
(dU (oSt 6 (.t p4) (.t p10))
dE))))))))
dRet)), [(.cN p4 6)]⟩
def af361 : AF := ⟨(dSeq (dOps (dV p1 (oBox 163 (.t p0))
(dV p2 (oMv (.c (.int .i64 (.ofNat 0))))
dE)))
(dSeq (dOps (dV p3 (oFa 17 (.t p1))
(dV p4 (oLd1 (.t p3))
(dV p5 (oLen (.t p4))
(dV p2 (oMv (.t p5))
dE)))))
dRet)), [(.t p2)]⟩
def af362 : AF := ⟨(dSeq (dOps (dV p2 (oBox 49 (.t p0))
(dV p4 (oNew [(.int .i64 (.ofNat 0)), .nils] 49)
(dV p5 (oMv (.c (.int .i64 (.ofNat 0))))
dE))))
(dSeq (dSeq (dOps (dV p12 (oLdN 2 (.t p2))
(dC (some p13) p117 [(.t p12)]
(dV p14 (oUn .not (.t p13))
(dV p15 (oMv (.t p14))
(dG p15 false (some p16) (dV p16 (oLdN 2 (.t p2)))
(dG p15 false (some p17) (dC (some p17) p209 [(.t p16)])
(dG p15 false (some p18) (dV p18 (oMv (.t p1)))
(dG p15 false (some p19) (dV p19 (oLen (.t p18)))
(dG p15 false (some p20) (dV p20 (oAr .gtr (.t p17) (.t p19)))
(dV p21 (oPick (.t p15) (.c (.bool true)) (.t p20))
(dV p22 (oMv (.t p21))
(dG p22 false (some p23) (dV p23 (oMv (.t p1)))
(dG p22 false (some p24) (dC (some p24) p199 [(.t p23), (.c (.fn (.func 378) [] []))])
(dV p25 (oPick (.t p22) (.c (.bool true)) (.t p24))
dE)))))))))))))))
(dCond (.t p25) (dSeq (dOps (dV p26 (oBuild [(.int .i64 (.ofNat 0)), .nils] [])
(dU (oSt 2 (.t p4) (.t p26))
(dV p5 (oMv (.c (.int .i64 (.ofNat 13))))
dE))))
dRet) dSkip))
(dSeq (dOps (dV p27 (oFa 0 (.t p2))
(dV p28 (oLd1 (.t p27))
(dV p6 (oMv (.t p28))
dE))))
(dSeq (dOps (dV p7 (oMv (.c .nils))
dE))
(dSeq (dSeq (dOps (dV p29 (oFa 1 (.t p2))
(dV p30 (oLd1 (.t p29))
(dV p31 (oLen (.t p30))
(dV p32 (oMv (.c (.int .i64 (.ofNat 0))))
dE)))))
(dBlock 0 (dLoop (dSeq (dOps (dV p33 (oAr .lss (.t p32) (.t p31))
dE))
(dSeq (dCond (.t p33) dSkip (dExit 0))
(dSeq (dBlock 1 (dSeq (dOps (dV p34 (oIa 2 (.t p30) (.t p32))
(dV p35 (oLdN 2 (.t p34))
(dV p9 (oNew [(.int .i64 (.ofNat 0)), (.int .i64 (.ofNat 0))] 46)
(dU (oSt 2 (.t p9) (.t p35))
dE)))))
(dSeq (dDraw (sN p37 ⟨(some p37), (.v (.mv (.t p1))), none⟩
(sN p38 ⟨(some p38), (.v (.fa 0 (.t p9))), none⟩
(sN p39 ⟨(some p39), (.v (.ld1 (.t p38))), none⟩
(sN p40 ⟨(some p40), (.v (.ia 2 (.t p37) (.t p39))), none⟩
(sN p41 ⟨(some p41), (.v (.ldN 2 (.t p40))), none⟩
(sN p42 ⟨(some p42), (.v (.fa 1 (.t p9))), none⟩
(sN p43 ⟨(some p43), (.v (.ld1 (.t p42))), none⟩
(sE [] [] ⟨(some p44), (.call p210 [(.t p41), (.t p43)]), none⟩
(sN p36 ⟨(some p36), (.v (.mv (.t p44))), none⟩
(sN p45 ⟨(some p45), (.v (.ext (.t p36) 0)), none⟩
(sN p46 ⟨(some p46), (.v (.ext (.t p36) 1)), none⟩
(sN p10 ⟨(some p10), (.v (.mv (.t p45))), none⟩
(sN p11 ⟨(some p11), (.v (.mv (.t p46))), none⟩
sEnd))))))))))))))
(dSeq (dOps (dV p47 (oMv (.t p6))
(dV p48 (oMv (.t p10))
(dV p49 (oMm true [(.t p47), (.t p48)])
(dV p6 (oMv (.t p49))
dE)))))
(dOps (dV p50 (oMv (.t p7))
(dV p51 (oMv (.t p11))
(dV p52 (oApp 46 2 (.t p50) (.t p51))
(dV p7 (oMv (.t p52))
dE)))))))))
(dOps (dV p53 (oAr .add (.t p32) (.c (.int .i64 (.ofNat 1))))
(dV p32 (oMv (.t p53))
dE)))))))))
(dSeq (dOps (dV p54 (oMv (.t p6))
(dV p55 (oMv (.t p7))
(dC (some p56) p118 [(.t p54), (.t p55)]
(dV p57 (oExt (.t p56) 0)
(dV p58 (oExt (.t p56) 1)
(dU (oSt 2 (.t p4) (.t p57))
(dV p5 (oMv (.t p58))
dE))))))))
dRet)))))), [(.cN p4 2), (.t p5)]⟩
def af363 : AF := ⟨(dSeq (dOps (dV p2 (oBox 235 (.t p0))
(dV p3 (oBox 237 (.t p1))
(dV p4 (oNew [(.int .i64 (.ofNat 0)), (.int .i64 (.ofNat 0)), (.int .i64 (.ofNat 0)), (.int .i64 (.ofNat 0))] 237)
dE))))
(dSeq (dOps (dV p5 (oFa 0 (.t p3))
(dV p6 (oLd1 (.t p5))
(dV p7 (oFa 1 (.t p2))
(dV p8 (oLd1 (.t p7))
(dV p9 (oAr .add (.t p6) (.t p8))
(dV p10 (oFa 1 (.t p3))
(dV p11 (oLd1 (.t p10))
(dV p12 (oFa 0 (.t p2))
(dV p13 (oLd1 (.t p12))
(dV p14 (oAr .add (.t p11) (.t p13))
(dV p15 (oFa 2 (.t p3))
(dV p16 (oLd1 (.t p15))
(dV p17 (oFa 3 (.t p3))
(dV p18 (oLd1 (.t p17))
(dV p19 (oBuild [(.int .i64 (.ofNat 0)), (.int .i64 (.ofNat 0)), (.int .i64 (.ofNat 0)), (.int .i64 (.ofNat 0))] [(0, 1, (.t p9)), (1, 1, (.t p14)), (2, 1, (.t p16)), (3, 1, (.t p18))])
(dU (oSt 4 (.t p4) (.t p19))
dE)))))))))))))))))
dRet)), [(.cN p4 4)]⟩
def af364 : AF := ⟨(dSeq (dOps (dV p2 (oBox 237 (.t p0))
(dV p3 (oBox 237 (.t p1))
(dV p4 (oNew [(.int .i64 (.ofNat 0)), (.int .i64 (.ofNat 0)), (.int .i64 (.ofNat 0)), (.int .i64 (.ofNat 0))] 237)
dE))))
(dSeq (dOps (dV p5 (oFa 0 (.t p2))
(dV p6 (oLd1 (.t p5))
(dV p7 (oFa 0 (.t p3))
(dV p8 (oLd1 (.t p7))
(dV p9 (oMm true [(.t p6), (.t p8)])
(dV p10 (oFa 1 (.t p2))
(dV p11 (oLd1 (.t p10))
(dV p12 (oFa 1 (.t p3))
(dV p13 (oLd1 (.t p12))
(dV p14 (oMm true [(.t p11), (.t p13)])
(dV p15 (oFa 2 (.t p2))
(dV p16 (oLd1 (.t p15))
(dV p17 (oFa 2 (.t p3))
(dV p18 (oLd1 (.t p17))
(dV p19 (oMm true [(.t p16), (.t p18)])
(dV p20 (oFa 3 (.t p2))
(dV p21 (oLd1 (.t p20))
(dV p22 (oFa 3 (.t p3))
(dV p23 (oLd1 (.t p22))
(dV p24 (oMm true [(.t p21), (.t p23)])
(dV p25 (oBuild [(.int .i64 (.ofNat 0)), (.int .i64 (.ofNat 0)), (.int .i64 (.ofNat 0)), (.int .i64 (.ofNat 0))] [(0, 1, (.t p9)), (1, 1, (.t p14)), (2, 1, (.t p19)), (3, 1, (.t p24))])
(dU (oSt 4 (.t p4) (.t p25))
dE)))))))))))))))))))))))
dRet)), [(.cN p4 4)]⟩
def af365 : AF := ⟨(dSeq (dOps (dV p3 (oBox 26 (.t p1))
(dV p4 (oMv (.c .nilp))
dE)))
(dSeq (dOps (dV p8 (oLdN 6 (.t p3))
(dC (some p9) p219 [(.t p8)]
(dV p7 (oMv (.t p9))
(dV p10 (oExt (.t p7) 0)
(dV p11 (oExt (.t p7) 1)
(dV p5 (oMv (.t p10))
(dV p6 (oMv (.t p11))
dE))))))))
(dSeq (dSeq (dOps (dV p12 (oMv (.t p6))
(dV p13 (oAr .neq (.t p12) (.c (.int .i64 (.ofNat 0))))
dE)))
(dCond (.t p13) (dSeq (dOps (dV p14 (oMv (.t p0))
(dV p15 (oLdN 6 (.t p3))
(dC (some p16) p379 [(.t p14), (.t p15)]
(dV p4 (oMv (.t p16))
dE)))))
dRet) dSkip))
(dSeq (dSeq (dDraw (sN p17 ⟨(some p17), (.v (.mv (.t p0))), none⟩
(sN p18 ⟨(some p18), (.v (.nchk (.t p17))), none⟩
(sN p19 ⟨(some p19), (.v (.fa 5 (.t p18))), none⟩
(sN p20 ⟨(some p20), (.v (.ld1 (.t p19))), none⟩
(sN p21 ⟨(some p21), (.v (.mv (.t p5))), none⟩
(sN p22 ⟨(some p22), (.v (.cvT (.t p21))), none⟩
(sN p23 ⟨(some p23), (.v (.lk .nilp false (.t p20) (.t p22))), none⟩
(sN p24 ⟨(some p24), (.v (.eq .p false (.t p23) (.c .nilp))), none⟩
sEnd)))))))))
(dCond (.t p24) (dDraw (sN p25 ⟨(some p25), (.v (.mv (.t p0))), none⟩
(sN p26 ⟨(some p26), (.v (.nchk (.t p25))), none⟩
(sN p27 ⟨(some p27), (.v (.fa 5 (.t p26))), none⟩
(sN p28 ⟨(some p28), (.v (.ld1 (.t p27))), none⟩
(sN p29 ⟨(some p29), (.v (.mv (.t p5))), none⟩
(sN p30 ⟨(some p30), (.v (.cvT (.t p29))), none⟩
(sN p31 ⟨(some p31), (.v (.mv (.t p0))), none⟩
(sN p32 ⟨(some p32), (.v (.ldN 6 (.t p3))), none⟩
(sE [] [(p28, ⟨(some p28), (.v (.ld1 (.t p27))), none⟩), (p30, ⟨(some p30), (.v (.cvT (.t p29))), none⟩)] ⟨(some p33), (.call p379 [(.t p31), (.t p32)]), none⟩
(sE [] [] ⟨none, (.v (.up (.t p28) (.t p30) (.t p33))), none⟩
sEnd))))))))))) dSkip))
(dSeq (dDraw (sN p34 ⟨(some p34), (.v (.mv (.t p0))), none⟩
(sN p35 ⟨(some p35), (.v (.nchk (.t p34))), none⟩
(sN p36 ⟨(some p36), (.v (.fa 5 (.t p35))), none⟩
(sN p37 ⟨(some p37), (.v (.ld1 (.t p36))), none⟩
(sN p38 ⟨(some p38), (.v (.mv (.t p5))), none⟩
(sN p39 ⟨(some p39), (.v (.cvT (.t p38))), none⟩
(sN p40 ⟨(some p40), (.v (.lk .nilp false (.t p37) (.t p39))), none⟩
(sN p4 ⟨(some p4), (.v (.mv (.t p40))), none⟩
sEnd)))))))))
dRet))))), [(.t p4)]⟩
def af366 : AF := ⟨(dSeq (dOps (dV p2 (oBox 26 (.t p0))
(dV p4 (oNew [(.int .i64 (.ofNat 0)), (.int .i64 (.ofNat 0)), (.bool false), (.str []), .nils, .nils] 26)
dE)))
(dSeq (dOps (dV p8 (oLdN 6 (.t p2))
(dV p9 (oMv (.t p1))
(dC (some p10) p264 [(.t p8), (.t p9)]
(dV p7 (oMv (.t p10))
(dV p11 (oExt (.t p7) 0)
(dV p12 (oExt (.t p7) 1)
(dV p5 (oNew [(.int .i64 (.ofNat 0)), (.int .i64 (.ofNat 0)), (.bool false), (.str []), .nils, .nils] 26)
(dU (oSt 6 (.t p5) (.t p11))
(dV p6 (oMv (.t p12))
dE))))))))))
(dSeq (dSeq (dOps (dV p13 (oMv (.t p6))
(dV p14 (oAr .eql (.t p13) (.c (.int .i64 (.ofNat 0))))
dE)))
(dCond (.t p14) (dSeq (dOps (dV p15 (oLdN 6 (.t p5))
(dU (oSt 6 (.t p4) (.t p15))
dE)))
dRet) dSkip))
(dSeq (dSeq (dDraw (sN p17 ⟨(some p17), (.v (.ldN 6 (.t p2))), none⟩
(sN p18 ⟨(some p18), (.v (.mv (.t p1))), none⟩
(sN p19 ⟨(some p19), (.v (.len (.t p18))), none⟩
(sE [] [(p17, ⟨(some p17), (.v (.ldN 6 (.t p2))), none⟩)] ⟨(some p20), (.v (.mkS 49 2 [(.int .i64 (.ofNat 0)), .nils] (.t p19) (.t p19))), none⟩
(sE [] [] ⟨(some p21), (.call p264 [(.t p17), (.t p20)]), none⟩
(sN p16 ⟨(some p16), (.v (.mv (.t p21))), none⟩
(sN p22 ⟨(some p22), (.v (.ext (.t p16) 0)), none⟩
(sN p23 ⟨(some p23), (.v (.ext (.t p16) 1)), none⟩
(sN p6 ⟨(some p6), (.v (.mv (.t p23))), none⟩
sEnd))))))))))
(dSeq (dOps (dV p24 (oMv (.t p6))
(dV p25 (oAr .eql (.t p24) (.c (.int .i64 (.ofNat 0))))
dE)))
(dCond (.t p25) (dOps (dV p6 (oMv (.c (.int .i64 (.ofNat 2))))
dE)) dSkip)))
(dSeq (dOps (dV p26 (oMv (.t p6))
(dC (some p27) p272 [(.t p26)]
dE)))
(dSeq (dOps (dV p28 (oBuild [(.int .i64 (.ofNat 0)), (.int .i64 (.ofNat 0)), (.bool false), (.str []), .nils, .nils] [])
(dU (oSt 6 (.t p4) (.t p28))
dE)))
dRet)))))), [(.cN p4 6)]⟩
def af367 : AF := ⟨(dSeq (dOps (dV p2 (oMv (.c (.int .i64 (.ofNat 0))))
dE))
(dSeq (dDraw (sN p3 ⟨(some p3), (.v (.mv (.t p0))), none⟩
(sN p4 ⟨(some p4), (.v (.nchk (.t p3))), none⟩
(sN p5 ⟨(some p5), (.v (.fa 18 (.t p4))), none⟩
(sN p6 ⟨(some p6), (.v (.ld1 (.t p5))), none⟩
(sN p7 ⟨(some p7), (.v (.ar .add (.t p6) (.c (.int .i64 (.ofNat 1))))), none⟩
(sN p8 ⟨(some p8), (.v (.mv (.t p0))), none⟩
(sN p9 ⟨(some p9), (.v (.nchk (.t p8))), none⟩
(sN p10 ⟨(some p10), (.v (.fa 20 (.t p9))), none⟩
(sN p11 ⟨(some p11), (.v (.ld1 (.t p10))), none⟩
(sN p12 ⟨(some p12), (.v (.len (.t p11))), none⟩
(sN p13 ⟨(some p13), (.v (.ar .add (.t p7) (.t p12))), none⟩
(sN p2 ⟨(some p2), (.v (.mv (.t p13))), none⟩
sEnd)))))))))))))
dRet)), [(.t p2)]⟩
def af368 : AF := ⟨(dSeq (dOps (dV p2 (oMv (.c (.int .i64 (.ofNat 0))))
(dV p3 (oMv (.c (.bool false)))
dE)))
(dSeq (dOps (dC (some p11) p261 []
(dV p10 (oMv (.t p11))
(dV p12 (oExt (.t p10) 0)
(dV p13 (oExt (.t p10) 1)
(dV p14 (oExt (.t p10) 2)
(dV p15 (oExt (.t p10) 3)
(dV p16 (oExt (.t p10) 4)
(dV p17 (oExt (.t p10) 5)
(dV p4 (oMv (.t p12))
(dV p5 (oMv (.t p13))
(dV p6 (oMv (.t p14))
(dV p7 (oMv (.t p15))
(dV p8 (oMv (.t p16))
(dV p9 (oMv (.t p17))
dE)))))))))))))))
(dSeq (dDraw (sN p18 ⟨(some p18), (.v (.mv (.t p0))), none⟩
(sN p19 ⟨(some p19), (.v (.nchk (.t p18))), none⟩
(sN p20 ⟨(some p20), (.v (.fa 6 (.t p19))), none⟩
(sN p21 ⟨(some p21), (.v (.ld1 (.t p20))), none⟩
(sN p22 ⟨(some p22), (.v (.mv (.t p8))), none⟩
(sN p23 ⟨(some p23), (.v (.ar .sub (.t p21) (.t p22))), none⟩
(sN p24 ⟨(some p24), (.v (.ar .quo (.t p23) (.c (.int .i64 (.ofNat 2))))), none⟩
(sN p25 ⟨(some p25), (.v (.mv (.t p0))), none⟩
(sN p26 ⟨(some p26), (.v (.nchk (.t p25))), none⟩
(sN p27 ⟨(some p27), (.v (.fa 6 (.t p26))), none⟩
(sN p28 ⟨(some p28), (.v (.ld1 (.t p27))), none⟩
(sN p29 ⟨(some p29), (.v (.mv (.t p8))), none⟩
(sN p30 ⟨(some p30), (.v (.ar .geq (.t p28) (.t p29))), none⟩
(sN p31 ⟨(some p31), (.v (.mv (.t p30))), none⟩
(sN p32 ⟨(some p32), (.v (.mv (.t p0))), (some (p31, true))⟩
(sN p33 ⟨(some p33), (.v (.nchk (.t p32))), (some (p31, true))⟩
(sN p34 ⟨(some p34), (.v (.fa 6 (.t p33))), (some (p31, true))⟩
(sN p35 ⟨(some p35), (.v (.ld1 (.t p34))), (some (p31, true))⟩
(sN p36 ⟨(some p36), (.v (.mv (.t p9))), (some (p31, true))⟩
(sN p37 ⟨(some p37), (.v (.ar .neq (.t p35) (.t p36))), (some (p31, true))⟩
(sN p38 ⟨(some p38), (.v (.pick (.t p31) (.t p37) (.c (.bool false)))), none⟩
(sN p2 ⟨(some p2), (.v (.mv (.t p24))), none⟩
(sN p3 ⟨(some p3), (.v (.mv (.t p38))), none⟩
sEnd))))))))))))))))))))))))
dRet))), [(.t p2), (.t p3)]⟩
def af369 : AF := ⟨(dSeq (dOps (dV p4 (oMv (.c .nilp))
dE))
(dSeq (dSeq (dOps (dV p9 (oMv (.t p0))
(dV p10 (oNchk (.t p9))
(dV p11 (oFa 20 (.t p10))
(dV p12 (oLd1 (.t p11))
(dV p13 (oMv (.t p1))
(dV p14 (oIa 1 (.t p12) (.t p13))
(dV p15 (oLd1 (.t p14))
(dV p16 (oEq .p false (.t p15) (.c .nilp))
dE)))))))))
(dCond (.t p16) (dSeq (dOps (dV p18 (oMv (.t p0))
(dV p19 (oNchk (.t p18))
(dV p20 (oFa 0 (.t p19))
(dV p21 (oLdN 17 (.t p20))
(dV p22 (oMv (.t p1))
(dC (some p23) p55 [(.t p21), (.t p22)]
(dV p17 (oMv (.t p23))
(dV p24 (oExt (.t p17) 0)
(dV p25 (oExt (.t p17) 1)
(dV p26 (oExt (.t p17) 2)
(dV p27 (oExt (.t p17) 3)
(dV p5 (oMv (.t p24))
(dV p6 (oMv (.t p25))
(dV p7 (oMv (.t p26))
(dV p8 (oMv (.t p27))
dE))))))))))))))))
(dDraw (sN p28 ⟨(some p28), (.v (.mv (.t p0))), none⟩
(sN p29 ⟨(some p29), (.v (.nchk (.t p28))), none⟩
(sN p30 ⟨(some p30), (.v (.fa 20 (.t p29))), none⟩
(sN p31 ⟨(some p31), (.v (.ld1 (.t p30))), none⟩
(sN p32 ⟨(some p32), (.v (.mv (.t p1))), none⟩
(sN p33 ⟨(some p33), (.v (.mv (.t p8))), none⟩
(sN p34 ⟨(some p34), (.v (.ar .eql (.t p33) (.c (.int .i64 (.ofNat 0))))), none⟩
(sN p35 ⟨(some p35), (.v (.mv (.t p0))), none⟩
(sN p36 ⟨(some p36), (.v (.nchk (.t p35))), none⟩
(sN p37 ⟨(some p37), (.v (.fa 18 (.t p36))), none⟩
(sN p38 ⟨(some p38), (.v (.ld1 (.t p37))), none⟩
(sN p39 ⟨(some p39), (.v (.mv (.t p5))), none⟩
(sN p40 ⟨(some p40), (.v (.len (.t p39))), none⟩
(sN p41 ⟨(some p41), (.v (.ar .add (.t p38) (.t p40))), none⟩
(sN p42 ⟨(some p42), (.v (.mv (.t p5))), none⟩
(sN p43 ⟨(some p43), (.v (.mv (.t p6))), none⟩
(sN p44 ⟨(some p44), (.v (.build [(.bool false), (.int .i64 (.ofNat 0)), .nils, .nils] [(0, 1, (.t p34)), (1, 1, (.t p41)), (2, 1, (.t p42)), (3, 1, (.t p43))])), none⟩
(sA 17 p45 (.box 504 (.t p44))
(sN p46 ⟨(some p46), (.v (.ia 1 (.t p31) (.t p32))), none⟩
(sE [17] [] ⟨none, (.v (.st 1 (.t p46) (.t p45))), none⟩
sEnd)))))))))))))))))))))) dSkip))
(dSeq (dOps (dV p47 (oMv (.t p0))
(dV p48 (oNchk (.t p47))
(dV p49 (oFa 20 (.t p48))
(dV p50 (oLd1 (.t p49))
(dV p51 (oMv (.t p1))
(dV p52 (oIa 1 (.t p50) (.t p51))
(dV p53 (oLd1 (.t p52))
(dV p4 (oMv (.t p53))
dE)))))))))
dRet))), [(.t p4)]⟩
def af370 : AF := ⟨(dSeq (dOps (dV p2 (oBox 506 (.t p0))
(dV p4 (oNew [(.int .i64 (.ofNat 0)), (.int .i64 (.ofNat 0)), (.bool false), (.str []), .nils, .nils] 26)
dE)))
(dSeq (dDraw (sN p9 ⟨(some p9), (.v (.fa 6 (.t p2))), none⟩
(sN p10 ⟨(some p10), (.v (.ld1 (.t p9))), none⟩
(sN p12 ⟨(some p12), (.v (.fa 7 (.t p2))), none⟩
(sN p13 ⟨(some p13), (.v (.ld1 (.t p12))), none⟩
(sN p14 ⟨(some p14), (.v (.nchk (.t p13))), none⟩
(sN p15 ⟨(some p15), (.v (.fa 2 (.t p14))), none⟩
(sN p16 ⟨(some p16), (.v (.ld1 (.t p15))), none⟩
(sN p17 ⟨(some p17), (.v (.len (.t p16))), none⟩
(sE [] [(p13, ⟨(some p13), (.v (.ld1 (.t p12))), none⟩), (p16, ⟨(some p16), (.v (.ld1 (.t p15))), none⟩)] ⟨(some p11), (.call p367 [(.t p10)]), none⟩
(sN p18 ⟨(some p18), (.v (.ar .add (.t p11) (.t p17))), none⟩
(sN p5 ⟨(some p5), (.v (.mv (.t p18))), none⟩
sEnd))))))))))))
(dSeq (dDraw (sN p19 ⟨(some p19), (.v (.mv (.t p5))), none⟩
(sN p20 ⟨(some p20), (.v (.fa 6 (.t p2))), none⟩
(sN p21 ⟨(some p21), (.v (.ld1 (.t p20))), none⟩
(sN p22 ⟨(some p22), (.v (.nchk (.t p21))), none⟩
(sN p23 ⟨(some p23), (.v (.fa 18 (.t p22))), none⟩
(sN p24 ⟨(some p24), (.v (.ld1 (.t p23))), none⟩
(sN p25 ⟨(some p25), (.v (.ar .add (.t p24) (.c (.int .i64 (.ofNat 1))))), none⟩
(sN p26 ⟨(some p26), (.v (.mv (.t p1))), none⟩
(sN p27 ⟨(some p27), (.v (.ar .add (.t p25) (.t p26))), none⟩
(sN p31 ⟨(some p31), (.v (.mv (.t p5))), none⟩
(sN p32 ⟨(some p32), (.v (.fa 6 (.t p2))), none⟩
(sN p33 ⟨(some p33), (.v (.ld1 (.t p32))), none⟩
(sN p35 ⟨(some p35), (.v (.fa 7 (.t p2))), none⟩
(sN p36 ⟨(some p36), (.v (.ld1 (.t p35))), none⟩
(sN p37 ⟨(some p37), (.v (.nchk (.t p36))), none⟩
(sN p38 ⟨(some p38), (.v (.fa 2 (.t p37))), none⟩
(sN p39 ⟨(some p39), (.v (.ld1 (.t p38))), none⟩
(sN p40 ⟨(some p40), (.v (.len (.t p39))), none⟩
(sA 24 p6 (.new [(.int .i64 (.ofNat 0)), (.int .i64 (.ofNat 0)), (.bool false), (.str []), .nils, .nils] 26)
(sE [] [(p33, ⟨(some p33), (.v (.ld1 (.t p32))), none⟩), (p36, ⟨(some p36), (.v (.ld1 (.t p35))), none⟩), (p39, ⟨(some p39), (.v (.ld1 (.t p38))), none⟩)] ⟨(some p28), (.call p381 [(.t p19), (.t p27), (.c (.int .i64 (.ofNat 1)))]), none⟩
(sN p29 ⟨(some p29), (.v (.ia 6 (.t p28) (.c (.int .i64 (.ofNat 0))))), none⟩
(sN p30 ⟨(some p30), (.v (.ldN 6 (.t p29))), none⟩
(sE [] [(p36, ⟨(some p36), (.v (.ld1 (.t p35))), none⟩), (p39, ⟨(some p39), (.v (.ld1 (.t p38))), none⟩), (p30, ⟨(some p30), (.v (.ldN 6 (.t p29))), none⟩)] ⟨(some p34), (.call p367 [(.t p33)]), none⟩
(sE [] [(p30, ⟨(some p30), (.v (.ldN 6 (.t p29))), none⟩)] ⟨(some p41), (.call p381 [(.t p31), (.t p34), (.t p40)]), none⟩
(sE [] [] ⟨(some p42), (.call p380 [(.t p30), (.t p41)]), none⟩
(sE [24] [] ⟨none, (.v (.st 6 (.t p6) (.t p42))), none⟩
sEnd)))))))))))))))))))))))))))
(dSeq (dSeq (dOps (dV p43 (oFa 7 (.t p2))
(dV p44 (oLd1 (.t p43))
(dV p45 (oNchk (.t p44))
(dV p46 (oFa 3 (.t p45))
(dV p47 (oLd1 (.t p46))
(dV p48 (oLen (.t p47))
(dV p49 (oMv (.c (.int .i64 (.ofNat 0))))
dE))))))))
(dBlock 0 (dLoop (dSeq (dOps (dV p50 (oAr .lss (.t p49) (.t p48))
dE))
(dSeq (dCond (.t p50) dSkip (dExit 0))
(dSeq (dBlock 1 (dSeq (dOps (dV p51 (oIa 1 (.t p47) (.t p49))
(dV p52 (oLd1 (.t p51))
(dV p8 (oMv (.t p52))
dE))))
(dDraw (sN p53 ⟨(some p53), (.v (.ldN 6 (.t p6))), none⟩
(sN p54 ⟨(some p54), (.v (.ldN 8 (.t p2))), none⟩
(sN p55 ⟨(some p55), (.v (.mv (.t p8))), none⟩
(sE [] [(p53, ⟨(some p53), (.v (.ldN 6 (.t p6))), none⟩)] ⟨(some p56), (.call p382 [(.t p54), (.t p55)]), none⟩
(sA 4 p57 (.buildS 26 1 [(.int .i64 (.ofNat 0)), (.int .i64 (.ofNat 0)), (.bool false), (.str []), .nils, .nils] [(0, 6, (.t p56))])
(sE [4] [] ⟨(some p58), (.call p380 [(.t p53), (.t p57)]), none⟩
(sE [4] [] ⟨none, (.v (.st 6 (.t p6) (.t p58))), none⟩
sEnd))))))))))
(dOps (dV p59 (oAr .add (.t p49) (.c (.int .i64 (.ofNat 1))))
(dV p49 (oMv (.t p59))
dE)))))))))
(dSeq (dOps (dV p60 (oLdN 6 (.t p6))
(dU (oSt 6 (.t p4) (.t p60))
dE)))
dRet))))), [(.cN p4 6)]⟩
def af371 : AF := ⟨(dSeq (dOps (dV p10 (oMv (.c (.int .i64 (.ofNat 0))))
(dV p11 (oMv (.c (.int .i64 (.ofNat 0))))
dE)))
(dSeq (dSeq (dDraw (sN p12 ⟨(some p12), (.v (.mv (.t p4))), none⟩
(sN p13 ⟨(some p13), (.v (.mv (.t p0))), none⟩
(sN p14 ⟨(some p14), (.v (.mv (.t p2))), none⟩
(sN p15 ⟨(some p15), (.v (.ia 2 (.t p13) (.t p14))), none⟩
(sN p16 ⟨(some p16), (.v (.ldN 2 (.t p15))), none⟩
(sN p17 ⟨(some p17), (.v (.mv (.t p0))), none⟩
(sN p18 ⟨(some p18), (.v (.mv (.t p1))), none⟩
(sN p19 ⟨(some p19), (.v (.ia 2 (.t p17) (.t p18))), none⟩
(sN p20 ⟨(some p20), (.v (.ldN 2 (.t p19))), none⟩
(sE [] [] ⟨(some p21), (.callv (.t p12) [(.t p16), (.t p20)]), none⟩
(sN p22 ⟨(some p22), (.v (.ar .lss (.t p21) (.c (.int .i64 (.ofNat 0))))), none⟩
sEnd))))))))))))
(dCond (.t p22) (dSeq (dOps (dV p23 (oMv (.t p3))
(dV p24 (oNchk (.t p23))
(dV p25 (oLd1 (.t p24))
(dV p26 (oAr .add (.t p25) (.c (.int .i64 (.ofNat 1))))
(dV p27 (oNchk (.t p23))
(dU (oSt 1 (.t p27) (.t p26))
dE)))))))
(dSeq (dOps (dV p28 (oMv (.t p2))
(dV p29 (oMv (.t p1))
(dV p10 (oMv (.t p28))
(dV p11 (oMv (.t p29))
dE)))))
dRet)) dSkip))
(dSeq (dOps (dV p30 (oMv (.t p1))
(dV p31 (oMv (.t p2))
(dV p10 (oMv (.t p30))
(dV p11 (oMv (.t p31))
dE)))))
dRet))), [(.t p10), (.t p11)]⟩
def af372 : AF := ⟨(dSeq (dOps (dV p10 (oMv (.c (.bool true)))
dE))
(dSeq (dOps (dV p11 (oMv (.c (.bool true)))
dE))
(dBlock 0 (dLoop (dBlock 1 (dSeq (dOps (dV p21 (oMv (.t p2))
(dV p22 (oMv (.t p1))
(dV p23 (oAr .sub (.t p21) (.t p22))
(dV p12 (oMv (.t p23))
dE)))))
(dSeq (dSeq (dOps (dV p24 (oMv (.t p12))
(dV p25 (oAr .leq (.t p24) (.c (.int .i64 (.ofNat 12))))
dE)))
(dCond (.t p25) (dSeq (dOps (dV p26 (oMv (.t p0))
(dV p27 (oMv (.t p1))
(dV p28 (oMv (.t p2))
(dV p29 (oMv (.t p4))
(dC (some p30) p383 [(.t p26), (.t p27), (.t p28), (.t p29)]
dE))))))
dRet) dSkip))
(dSeq (dSeq (dOps (dV p31 (oMv (.t p3))
(dV p32 (oAr .eql (.t p31) (.c (.int .i64 (.ofNat 0))))
dE)))
(dCond (.t p32) (dSeq (dOps (dV p33 (oMv (.t p0))
(dV p34 (oMv (.t p1))
(dV p35 (oMv (.t p2))
(dV p36 (oMv (.t p4))
(dC (some p37) p384 [(.t p33), (.t p34), (.t p35), (.t p36)]
dE))))))
dRet) dSkip))
(dSeq (dSeq (dOps (dV p38 (oMv (.t p10))
(dV p39 (oUn .not (.t p38))
dE)))
(dCond (.t p39) (dSeq (dOps (dV p40 (oMv (.t p0))
(dV p41 (oMv (.t p1))
(dV p42 (oMv (.t p2))
(dV p43 (oMv (.t p4))
(dC (some p44) p385 [(.t p40), (.t p41), (.t p42), (.t p43)]
dE))))))
(dOps (dV p45 (oMv (.t p3))
(dV p46 (oAr .sub (.t p45) (.c (.int .i64 (.ofNat 1))))
(dV p3 (oMv (.t p46))
dE))))) dSkip))
(dSeq (dOps (dV p48 (oMv (.t p0))
(dV p49 (oMv (.t p1))
(dV p50 (oMv (.t p2))
(dV p51 (oMv (.t p4))
(dC (some p52) p386 [(.t p48), (.t p49), (.t p50), (.t p51)]
(dV p47 (oMv (.t p52))
(dV p53 (oExt (.t p47) 0)
(dV p54 (oExt (.t p47) 1)
(dV p13 (oMv (.t p53))
(dV p14 (oMv (.t p54))
dE)))))))))))
(dSeq (dSeq (dOps (dV p55 (oMv (.t p14))
(dV p56 (oAr .eql (.t p55) (.c (.int .i64 (.ofNat 2))))
dE)))
(dCond (.t p56) (dSeq (dOps (dV p57 (oMv (.t p0))
(dV p58 (oMv (.t p1))
(dV p59 (oMv (.t p2))
(dV p60 (oMv (.t p4))
(dC (some p61) p387 [(.t p57), (.t p58), (.t p59), (.t p60)]
dE))))))
(dSeq (dOps (dV p62 (oMv (.t p2))
(dV p63 (oAr .sub (.t p62) (.c (.int .i64 (.ofNat 1))))
(dV p64 (oMv (.t p13))
(dV p65 (oMv (.t p1))
(dV p66 (oAr .sub (.t p64) (.t p65))
(dV p67 (oAr .sub (.t p63) (.t p66))
(dV p13 (oMv (.t p67))
dE))))))))
(dOps (dV p14 (oMv (.c (.int .i64 (.ofNat 1))))
dE)))) dSkip))
(dSeq (dSeq (dOps (dV p68 (oMv (.t p10))
(dV p69 (oMv (.t p68))
(dG p69 true (some p70) (dV p70 (oMv (.t p11)))
(dV p71 (oPick (.t p69) (.t p70) (.c (.bool false)))
(dV p72 (oMv (.t p71))
(dG p72 true (some p73) (dV p73 (oMv (.t p14)))
(dG p72 true (some p74) (dV p74 (oAr .eql (.t p73) (.c (.int .i64 (.ofNat 1)))))
(dV p75 (oPick (.t p72) (.t p74) (.c (.bool false)))
dE)))))))))
(dCond (.t p75) (dSeq (dOps (dV p76 (oMv (.t p0))
(dV p77 (oMv (.t p1))
(dV p78 (oMv (.t p2))
(dV p79 (oMv (.t p4))
(dC (some p80) p388 [(.t p76), (.t p77), (.t p78), (.t p79)]
dE))))))
(dCond (.t p80) dRet dSkip)) dSkip))
(dSeq (dSeq (dDraw (sN p81 ⟨(some p81), (.v (.mv (.t p1))), none⟩
(sN p82 ⟨(some p82), (.v (.ar .gtr (.t p81) (.c (.int .i64 (.ofNat 0))))), none⟩
(sN p83 ⟨(some p83), (.v (.mv (.t p82))), none⟩
(sN p84 ⟨(some p84), (.v (.mv (.t p4))), (some (p83, true))⟩
(sN p85 ⟨(some p85), (.v (.mv (.t p0))), (some (p83, true))⟩
(sN p86 ⟨(some p86), (.v (.mv (.t p1))), (some (p83, true))⟩
(sN p87 ⟨(some p87), (.v (.ar .sub (.t p86) (.c (.int .i64 (.ofNat 1))))), (some (p83, true))⟩
(sN p88 ⟨(some p88), (.v (.ia 4 (.t p85) (.t p87))), (some (p83, true))⟩
(sN p89 ⟨(some p89), (.v (.ldN 4 (.t p88))), (some (p83, true))⟩
(sN p90 ⟨(some p90), (.v (.mv (.t p0))), (some (p83, true))⟩
(sN p91 ⟨(some p91), (.v (.mv (.t p13))), (some (p83, true))⟩
(sN p92 ⟨(some p92), (.v (.ia 4 (.t p90) (.t p91))), (some (p83, true))⟩
(sN p93 ⟨(some p93), (.v (.ldN 4 (.t p92))), (some (p83, true))⟩
(sE [] [] ⟨(some p94), (.callv (.t p84) [(.t p89), (.t p93)]), (some (p83, true))⟩
(sN p95 ⟨(some p95), (.v (.ar .lss (.t p94) (.c (.int .i64 (.ofNat 0))))), (some (p83, true))⟩
(sN p96 ⟨(some p96), (.v (.un .not (.t p95))), (some (p83, true))⟩
(sN p97 ⟨(some p97), (.v (.pick (.t p83) (.t p96) (.c (.bool false)))), none⟩
sEnd))))))))))))))))))
(dCond (.t p97) (dSeq (dOps (dV p98 (oMv (.t p0))
(dV p99 (oMv (.t p1))
(dV p100 (oMv (.t p2))
(dV p101 (oMv (.t p13))
(dV p102 (oMv (.t p4))
(dC (some p103) p389 [(.t p98), (.t p99), (.t p100), (.t p101), (.t p102)]
(dV p15 (oMv (.t p103))
dE))))))))
(dSeq (dOps (dV p104 (oMv (.t p15))
(dV p1 (oMv (.t p104))
dE)))
(dExit 1))) dSkip))
(dSeq (dOps (dV p106 (oMv (.t p0))
(dV p107 (oMv (.t p1))
(dV p108 (oMv (.t p2))
(dV p109 (oMv (.t p13))
(dV p110 (oMv (.t p4))
(dC (some p111) p390 [(.t p106), (.t p107), (.t p108), (.t p109), (.t p110)]
(dV p105 (oMv (.t p111))
(dV p112 (oExt (.t p105) 0)
(dV p113 (oExt (.t p105) 1)
(dV p16 (oMv (.t p112))
(dV p17 (oMv (.t p113))
dE))))))))))))
(dSeq (dOps (dV p114 (oMv (.t p17))
(dV p11 (oMv (.t p114))
dE)))
(dSeq (dOps (dV p115 (oMv (.t p16))
(dV p116 (oMv (.t p1))
(dV p117 (oAr .sub (.t p115) (.t p116))
(dV p118 (oMv (.t p2))
(dV p119 (oMv (.t p16))
(dV p120 (oAr .sub (.t p118) (.t p119))
(dV p18 (oMv (.t p117))
(dV p19 (oMv (.t p120))
dE)))))))))
(dSeq (dOps (dV p121 (oMv (.t p12))
(dV p122 (oAr .quo (.t p121) (.c (.int .i64 (.ofNat 8))))
(dV p20 (oMv (.t p122))
dE))))
(dSeq (dOps (dV p123 (oMv (.t p18))
(dV p124 (oMv (.t p19))
(dV p125 (oAr .lss (.t p123) (.t p124))
dE))))
(dCond (.t p125) (dSeq (dOps (dV p126 (oMv (.t p18))
(dV p127 (oMv (.t p20))
(dV p128 (oAr .geq (.t p126) (.t p127))
(dV p10 (oMv (.t p128))
dE)))))
(dSeq (dOps (dV p129 (oMv (.t p0))
(dV p130 (oMv (.t p1))
(dV p131 (oMv (.t p16))
(dV p132 (oMv (.t p3))
(dV p133 (oMv (.t p4))
(dC (some p134) p372 [(.t p129), (.t p130), (.t p131), (.t p132), (.t p133)]
dE)))))))
(dOps (dV p135 (oMv (.t p16))
(dV p136 (oAr .add (.t p135) (.c (.int .i64 (.ofNat 1))))
(dV p1 (oMv (.t p136))
dE)))))) (dSeq (dOps (dV p137 (oMv (.t p19))
(dV p138 (oMv (.t p20))
(dV p139 (oAr .geq (.t p137) (.t p138))
(dV p10 (oMv (.t p139))
dE)))))
(dSeq (dOps (dV p140 (oMv (.t p0))
(dV p141 (oMv (.t p16))
(dV p142 (oAr .add (.t p141) (.c (.int .i64 (.ofNat 1))))
(dV p143 (oMv (.t p2))
(dV p144 (oMv (.t p3))
(dV p145 (oMv (.t p4))
(dC (some p146) p372 [(.t p140), (.t p142), (.t p143), (.t p144), (.t p145)]
dE))))))))
(dOps (dV p147 (oMv (.t p16))
(dV p2 (oMv (.t p147))
dE)))))))))))))))))))))))), []⟩
def af373 : AF := ⟨(dSeq (dOps (dV p2 (oMv (.c .nils))
dE))
(dSeq (dOps (dV p3 (oMv (.t p0))
(dV p4 (oMv (.t p0))
(dV p5 (oLen (.t p4))
(dV p6 (oMv (.t p0))
(dV p7 (oLen (.t p6))
(dV p8 (oSl 1 (.t p3) none (some (.t p5)) (some (.t p7)))
(dV p2 (oMv (.t p8))
dE))))))))
dRet)), [(.t p2)]⟩
def af374 : AF := ⟨(dSeq (dOps (dV p3 (oBox 26 (.t p0))
(dV p6 (oNew [(.int .i64 (.ofNat 0)), (.int .i64 (.ofNat 0)), (.bool false), (.str []), .nils, .nils] 26)
dE)))
(dSeq (dSeq (dOps (dV p7 (oMv (.t p2))
(dV p8 (oAr .eql (.t p7) (.c (.int .i64 (.ofNat 0))))
dE)))
(dCond (.t p8) (dSeq (dOps (dV p9 (oLdN 6 (.t p3))
(dU (oSt 6 (.t p6) (.t p9))
dE)))
dRet) dSkip))
(dSeq (dOps (dV p11 (oLdN 6 (.t p3))
(dV p12 (oMv (.t p1))
(dV p13 (oMv (.t p2))
(dC (some p14) p391 [(.t p11), (.t p12), (.t p13)]
(dV p10 (oMv (.t p14))
(dV p15 (oExt (.t p10) 0)
(dV p16 (oExt (.t p10) 1)
(dU (oSt 6 (.t p3) (.t p15))
dE)))))))))
(dSeq (dOps (dV p17 (oLdN 6 (.t p3))
(dU (oSt 6 (.t p6) (.t p17))
dE)))
dRet)))), [(.cN p6 6)]⟩
def af375 : AF := ⟨(dSeq (dOps (dV p3 (oBox 464 (.t p0))
(dV p4 (oNew [(.int .i64 (.ofNat 0)), (.int .i64 (.ofNat 0)), (.bool false), (.str []), .nils, .nils] 26)
dE)))
(dSeq (dOps (dV p5 (oLdN 21 (.t p1))
(dV p6 (oLdN 4 (.t p2))
(dV p7 (oFa 2 (.t p2))
(dV p8 (oLd1 (.t p7))
(dV p9 (oLdN 2 (.t p3))
(dC (some p10) p376 [(.t p5), (.t p6), (.t p8), (.t p9)]
(dU (oSt 6 (.t p4) (.t p10))
dE))))))))
dRet)), [(.cN p4 6)]⟩
def af376 : AF := ⟨(dSeq (dOps (dV p4 (oBox 163 (.t p0))
(dV p5 (oBox 170 (.t p1))
(dV p7 (oBox 464 (.t p3))
(dV p8 (oNew [(.int .i64 (.ofNat 0)), (.int .i64 (.ofNat 0)), (.bool false), (.str []), .nils, .nils] 26)
dE)))))
(dSeq (dSeq (dOps (dV p10 (oMv (.t p2))
(dV p11 (oLen (.t p10))
(dV p12 (oAr .gtr (.t p11) (.c (.int .i64 (.ofNat 0))))
dE))))
(dCond (.t p12) (dSeq (dDraw (sN p13 ⟨(some p13), (.v (.ldN 21 (.t p4))), none⟩
(sN p14 ⟨(some p14), (.v (.mv (.t p2))), none⟩
(sN p15 ⟨(some p15), (.v (.ia 3 (.t p14) (.c (.int .i64 (.ofNat 0))))), none⟩
(sN p16 ⟨(some p16), (.v (.ldN 3 (.t p15))), none⟩
(sN p17 ⟨(some p17), (.v (.ldN 2 (.t p7))), none⟩
(sN p19 ⟨(some p19), (.v (.ldN 21 (.t p4))), none⟩
(sN p20 ⟨(some p20), (.v (.ldN 4 (.t p5))), none⟩
(sN p21 ⟨(some p21), (.v (.mv (.t p2))), none⟩
(sN p22 ⟨(some p22), (.v (.sl 3 (.t p21) (some (.c (.int .i64 (.ofNat 1)))) none none)), none⟩
(sN p23 ⟨(some p23), (.v (.ldN 2 (.t p7))), none⟩
(sE [] [(p19, ⟨(some p19), (.v (.ldN 21 (.t p4))), none⟩), (p20, ⟨(some p20), (.v (.ldN 4 (.t p5))), none⟩), (p23, ⟨(some p23), (.v (.ldN 2 (.t p7))), none⟩)] ⟨(some p18), (.call p392 [(.t p13), (.t p16), (.t p17)]), none⟩
(sE [] [(p19, ⟨(some p19), (.v (.ldN 21 (.t p4))), none⟩), (p20, ⟨(some p20), (.v (.ldN 4 (.t p5))), none⟩)] ⟨(some p24), (.call p328 [(.t p23)]), none⟩
(sE [] [] ⟨(some p25), (.call p376 [(.t p19), (.t p20), (.t p22), (.t p24)]), none⟩
(sE [] [] ⟨(some p26), (.call p325 [(.t p18), (.t p25)]), none⟩
(sE [] [] ⟨none, (.v (.st 6 (.t p8) (.t p26))), none⟩
sEnd))))))))))))))))
dRet) dSkip))
(dSeq (dDraw (sN p27 ⟨(some p27), (.v (.ldN 21 (.t p4))), none⟩
(sN p28 ⟨(some p28), (.v (.fa 0 (.t p5))), none⟩
(sN p29 ⟨(some p29), (.v (.ld1 (.t p28))), none⟩
(sN p31 ⟨(some p31), (.v (.ldN 2 (.t p7))), none⟩
(sN p32 ⟨(some p32), (.v (.fa 0 (.t p7))), none⟩
(sN p33 ⟨(some p33), (.v (.ld1 (.t p32))), none⟩
(sA 9 p9 (.new [(.int .i64 (.ofNat 0)), (.int .i64 (.ofNat 0)), (.bool false), (.str []), .nils, .nils] 26)
(sE [] [(p31, ⟨(some p31), (.v (.ldN 2 (.t p7))), none⟩), (p33, ⟨(some p33), (.v (.ld1 (.t p32))), none⟩)] ⟨(some p30), (.call p243 [(.t p27), (.t p29)]), none⟩
(sE [] [] ⟨(some p34), (.call p358 [(.t p31), (.t p33)]), none⟩
(sE [] [] ⟨(some p35), (.call p359 [(.t p30), (.t p34)]), none⟩
(sE [9] [] ⟨none, (.v (.st 6 (.t p9) (.t p35))), none⟩
sEnd))))))))))))
(dSeq (dDraw (sN p36 ⟨(some p36), (.v (.ldN 2 (.t p7))), none⟩
(sN p37 ⟨(some p37), (.v (.ldN 21 (.t p4))), none⟩
(sN p40 ⟨(some p40), (.v (.ldN 2 (.t p7))), none⟩
(sN p41 ⟨(some p41), (.v (.fa 3 (.t p5))), none⟩
(sN p42 ⟨(some p42), (.v (.ld1 (.t p41))), none⟩
(sN p44 ⟨(some p44), (.v (.ldN 6 (.t p9))), none⟩
(sA 9 p45 (.buildS 26 1 [(.int .i64 (.ofNat 0)), (.int .i64 (.ofNat 0)), (.bool false), (.str []), .nils, .nils] [(0, 6, (.t p44))])
(sE [] [(p36, ⟨(some p36), (.v (.ldN 2 (.t p7))), none⟩), (p40, ⟨(some p40), (.v (.ldN 2 (.t p7))), none⟩), (p42, ⟨(some p42), (.v (.ld1 (.t p41))), none⟩), (p44, ⟨(some p44), (.v (.ldN 6 (.t p9))), none⟩)] ⟨(some p38), (.call p361 [(.t p37)]), none⟩
(sE [] [(p40, ⟨(some p40), (.v (.ldN 2 (.t p7))), none⟩), (p42, ⟨(some p42), (.v (.ld1 (.t p41))), none⟩), (p44, ⟨(some p44), (.v (.ldN 6 (.t p9))), none⟩)] ⟨(some p39), (.call p360 [(.t p36), (.t p38)]), none⟩
(sE [] [(p44, ⟨(some p44), (.v (.ldN 6 (.t p9))), none⟩)] ⟨(some p43), (.call p393 [(.t p40), (.t p42)]), none⟩
(sE [9] [] ⟨(some p46), (.v (.app 26 6 (.t p43) (.t p45))), none⟩
(sE [9] [] ⟨(some p47), (.call p359 [(.t p39), (.t p46)]), none⟩
(sE [9] [] ⟨none, (.v (.st 6 (.t p8) (.t p47))), none⟩
sEnd))))))))))))))
dRet)))), [(.cN p8 6)]⟩
def af377 : AF := ⟨(dSeq (dOps (dV p4 (oMv (.c .nils))
dE))
(dSeq (dOps (dV p5 (oMv (.c .nils))
dE))
(dSeq (dSeq (dOps (dV p8 (oMv (.t p0))
(dV p9 (oLen (.t p8))
(dV p10 (oMv (.c (.int .i64 (.ofNat 0))))
dE))))
(dBlock 0 (dLoop (dSeq (dOps (dV p11 (oAr .lss (.t p10) (.t p9))
dE))
(dSeq (dCond (.t p11) dSkip (dExit 0))
(dSeq (dBlock 1 (dSeq (dOps (dV p12 (oIa 1 (.t p8) (.t p10))
(dV p13 (oLd1 (.t p12))
(dV p7 (oMv (.t p13))
dE))))
(dOps (dV p14 (oMv (.t p5))
(dV p15 (oMv (.t p1))
(dV p16 (oMv (.t p7))
(dCv (some p17) (.t p15) [(.t p16)]
(dV p18 (oBuildS 26 1 [(.int .i64 (.ofNat 0)), (.int .i64 (.ofNat 0)), (.bool false), (.str []), .nils, .nils] [(0, 6, (.t p17))])
(dV p19 (oApp 26 6 (.t p14) (.t p18))
(dV p5 (oMv (.t p19))
dE))))))))))
(dOps (dV p20 (oAr .add (.t p10) (.c (.int .i64 (.ofNat 1))))
(dV p10 (oMv (.t p20))
dE)))))))))
(dSeq (dOps (dV p21 (oMv (.t p5))
(dV p4 (oMv (.t p21))
dE)))
dRet)))), [(.t p4)]⟩
def af378 : AF := ⟨(dSeq (dOps (dV p1 (oBox 49 (.t p0))
(dV p2 (oMv (.c (.bool false)))
dE)))
(dSeq (dOps (dV p3 (oLdN 2 (.t p1))
(dC (some p4) p117 [(.t p3)]
(dV p5 (oUn .not (.t p4))
(dV p2 (oMv (.t p5))
dE)))))
dRet)), [(.t p2)]⟩
def af379 : AF := ⟨(dSeq (dOps (dV p3 (oBox 26 (.t p1))
(dV p4 (oMv (.c .nilp))
dE)))
(dSeq (dOps (dV p6 (oLdN 6 (.t p3))
(dV p7 (oBuild [(.int .i64 (.ofNat 0)), (.int .i64 (.ofNat 0)), (.bool false), (.str []), .nils, .nils, (.int .i64 (.ofNat 0)), (.int .i64 (.ofNat 0)), (.str []), (.int .i64 (.ofNat 0)), (.int .i64 (.ofNat 0)), (.int .i64 (.ofNat 0)), (.bool false), (.str []), .nils, .nils, (.int .i64 (.ofNat 0)), (.int .i64 (.ofNat 0)), (.bool false), (.str []), .nils, .nils, (.int .i64 (.ofNat 0)), .nils, .nilp, .nilp, .nils] [(0, 6, (.t p6))])
(dV p8 (oBox 477 (.t p7))
(dV p5 (oMv (.t p8))
dE)))))
(dSeq (dDraw (sN p10 ⟨(some p10), (.v (.mv (.t p5))), none⟩
(sN p11 ⟨(some p11), (.v (.mv (.t p5))), none⟩
(sN p12 ⟨(some p12), (.v (.mv (.t p0))), none⟩
(sN p13 ⟨(some p13), (.v (.nchk (.t p12))), none⟩
(sN p14 ⟨(some p14), (.v (.fa 0 (.t p13))), none⟩
(sN p15 ⟨(some p15), (.v (.ld1 (.t p14))), none⟩
(sN p16 ⟨(some p16), (.v (.fa 3 (.t p3))), none⟩
(sN p17 ⟨(some p17), (.v (.ld1 (.t p16))), none⟩
(sE [] [] ⟨(some p18), (.call p260 [(.t p15), (.t p17)]), none⟩
(sN p9 ⟨(some p9), (.v (.mv (.t p18))), none⟩
(sN p19 ⟨(some p19), (.v (.ext (.t p9) 0)), none⟩
(sN p20 ⟨(some p20), (.v (.ext (.t p9) 1)), none⟩
(sN p21 ⟨(some p21), (.v (.nchk (.t p10))), none⟩
(sN p22 ⟨(some p22), (.v (.fa 7 (.t p21))), none⟩
(sE [] [] ⟨none, (.v (.st 17 (.t p22) (.t p19))), none⟩
(sN p23 ⟨(some p23), (.v (.nchk (.t p11))), none⟩
(sN p24 ⟨(some p24), (.v (.fa 6 (.t p23))), none⟩
(sE [] [] ⟨none, (.v (.st 1 (.t p24) (.t p20))), none⟩
sEnd)))))))))))))))))))
(dSeq (dSeq (dOps (dV p25 (oMv (.t p5))
(dV p26 (oNchk (.t p25))
(dV p27 (oFa 7 (.t p26))
(dV p28 (oFa 0 (.t p27))
(dV p29 (oLd1 (.t p28))
(dV p30 (oAr .eql (.t p29) (.c (.int .i64 (.ofNat 3))))
dE)))))))
(dCond (.t p30) (dSeq (dOps (dV p31 (oMv (.t p5))
(dV p32 (oMv (.t p0))
(dV p33 (oMv (.t p5))
(dV p34 (oNchk (.t p33))
(dV p35 (oFa 7 (.t p34))
(dV p36 (oLdN 17 (.t p35))
(dC (some p37) p394 [(.t p32), (.t p36)]
(dV p38 (oNchk (.t p31))
(dV p39 (oFa 24 (.t p38))
(dU (oSt 1 (.t p39) (.t p37))
dE)))))))))))
(dOps (dV p40 (oMv (.t p5))
(dV p41 (oMv (.t p5))
(dV p42 (oNchk (.t p41))
(dV p43 (oFa 7 (.t p42))
(dV p44 (oFa 16 (.t p43))
(dV p45 (oLd1 (.t p44))
(dV p46 (oLen (.t p45))
(dV p47 (oMkS 219 1 [.nilp] (.t p46) (.t p46))
(dV p48 (oNchk (.t p40))
(dV p49 (oFa 26 (.t p48))
(dU (oSt 1 (.t p49) (.t p47))
dE))))))))))))) dSkip))
(dSeq (dOps (dV p50 (oMv (.t p5))
(dV p4 (oMv (.t p50))
dE)))
dRet))))), [(.t p4)]⟩
def af380 : AF := ⟨(dSeq (dOps (dV p2 (oBox 26 (.t p0))
(dV p4 (oNew [(.int .i64 (.ofNat 0)), (.int .i64 (.ofNat 0)), (.bool false), (.str []), .nils, .nils] 26)
dE)))
(dSeq (dSeq (dOps (dV p7 (oMv (.t p1))
(dV p8 (oLen (.t p7))
(dV p9 (oMv (.c (.int .i64 (.ofNat 0))))
dE))))
(dBlock 0 (dLoop (dSeq (dOps (dV p10 (oAr .lss (.t p9) (.t p8))
dE))
(dSeq (dCond (.t p10) dSkip (dExit 0))
(dSeq (dBlock 1 (dSeq (dOps (dV p11 (oIa 6 (.t p7) (.t p9))
(dV p12 (oLdN 6 (.t p11))
(dV p6 (oNew [(.int .i64 (.ofNat 0)), (.int .i64 (.ofNat 0)), (.bool false), (.str []), .nils, .nils] 26)
(dU (oSt 6 (.t p6) (.t p12))
dE)))))
(dOps (dV p13 (oLdN 6 (.t p2))
(dV p14 (oLdN 6 (.t p6))
(dV p15 (oBuildS 26 2 [(.int .i64 (.ofNat 0)), (.int .i64 (.ofNat 0)), (.bool false), (.str []), .nils, .nils, (.int .i64 (.ofNat 0)), (.int .i64 (.ofNat 0)), (.bool false), (.str []), .nils, .nils] [(0, 6, (.t p13)), (6, 6, (.t p14))])
(dV p16 (oBuild [(.int .i64 (.ofNat 0)), (.int .i64 (.ofNat 0)), (.bool false), (.str []), .nils, .nils] [(0, 1, (.c (.int .i64 (.ofNat 5)))), (5, 1, (.t p15))])
(dU (oSt 6 (.t p2) (.t p16))
dE))))))))
(dOps (dV p17 (oAr .add (.t p9) (.c (.int .i64 (.ofNat 1))))
(dV p9 (oMv (.t p17))
dE)))))))))
(dSeq (dOps (dV p18 (oLdN 6 (.t p2))
(dU (oSt 6 (.t p4) (.t p18))
dE)))
dRet))), [(.cN p4 6)]⟩
def af381 : AF := ⟨(dSeq (dOps (dV p6 (oMv (.c .nils))
dE))
(dSeq (dOps (dV p7 (oMv (.c .nils))
dE))
(dSeq (dSeq (dOps (dV p9 (oMv (.t p2))
(dV p10 (oMv (.c (.int .i64 (.ofNat 0))))
dE)))
(dBlock 0 (dLoop (dSeq (dOps (dV p11 (oAr .lss (.t p10) (.t p9))
dE))
(dSeq (dCond (.t p11) dSkip (dExit 0))
(dSeq (dBlock 1 (dSeq (dOps (dV p12 (oMv (.t p10))
(dV p8 (oMv (.t p12))
dE)))
(dOps (dV p13 (oMv (.t p7))
(dV p14 (oMv (.t p0))
(dV p15 (oAr .sub (.t p14) (.c (.int .i64 (.ofNat 1))))
(dV p16 (oMv (.t p1))
(dV p17 (oAr .sub (.t p15) (.t p16))
(dV p18 (oMv (.t p8))
(dV p19 (oAr .sub (.t p17) (.t p18))
(dV p20 (oBuild [(.int .i64 (.ofNat 0)), (.int .i64 (.ofNat 0)), (.bool false), (.str []), .nils, .nils] [(0, 1, (.c (.int .i64 (.ofNat 1)))), (1, 1, (.t p19))])
(dV p21 (oBuildS 26 1 [(.int .i64 (.ofNat 0)), (.int .i64 (.ofNat 0)), (.bool false), (.str []), .nils, .nils] [(0, 6, (.t p20))])
(dV p22 (oApp 26 6 (.t p13) (.t p21))
(dV p7 (oMv (.t p22))
dE))))))))))))))
(dOps (dV p23 (oAr .add (.t p10) (.c (.int .i64 (.ofNat 1))))
(dV p10 (oMv (.t p23))
dE)))))))))
(dSeq (dOps (dV p24 (oMv (.t p7))
(dV p6 (oMv (.t p24))
dE)))
dRet)))), [(.t p6)]⟩
def af382 : AF := ⟨(dSeq (dOps (dV p2 (oBox 506 (.t p0))
(dV p4 (oNew [(.int .i64 (.ofNat 0)), (.int .i64 (.ofNat 0)), (.bool false), (.str []), .nils, .nils] 26)
dE)))
(dSeq (dOps (dV p12 (oLdN 8 (.t p2))
(dV p13 (oMv (.t p1))
(dC (some p14) p395 [(.t p12), (.t p13)]
(dV p11 (oMv (.t p14))
(dV p15 (oExt (.t p11) 0)
(dV p16 (oExt (.t p11) 1)
(dV p5 (oMv (.t p15))
(dV p6 (oMv (.t p16))
dE)))))))))
(dSeq (dDraw (sN p17 ⟨(some p17), (.v (.fa 6 (.t p2))), none⟩
(sN p18 ⟨(some p18), (.v (.ld1 (.t p17))), none⟩
(sN p20 ⟨(some p20), (.v (.fa 7 (.t p2))), none⟩
(sN p21 ⟨(some p21), (.v (.ld1 (.t p20))), none⟩
(sN p22 ⟨(some p22), (.v (.nchk (.t p21))), none⟩
(sN p23 ⟨(some p23), (.v (.fa 2 (.t p22))), none⟩
(sN p24 ⟨(some p24), (.v (.ld1 (.t p23))), none⟩
(sN p25 ⟨(some p25), (.v (.len (.t p24))), none⟩
(sN p27 ⟨(some p27), (.v (.mv (.t p5))), none⟩
(sN p28 ⟨(some p28), (.v (.len (.t p27))), none⟩
(sE [] [(p21, ⟨(some p21), (.v (.ld1 (.t p20))), none⟩), (p24, ⟨(some p24), (.v (.ld1 (.t p23))), none⟩)] ⟨(some p19), (.call p367 [(.t p18)]), none⟩
(sN p26 ⟨(some p26), (.v (.ar .add (.t p19) (.t p25))), none⟩
(sN p29 ⟨(some p29), (.v (.ar .add (.t p26) (.t p28))), none⟩
(sN p7 ⟨(some p7), (.v (.mv (.t p29))), none⟩
sEnd)))))))))))))))
(dSeq (dDraw (sN p30 ⟨(some p30), (.v (.fa 0 (.t p2))), none⟩
(sN p31 ⟨(some p31), (.v (.ldN 6 (.t p30))), none⟩
(sN p32 ⟨(some p32), (.v (.mv (.t p7))), none⟩
(sN p33 ⟨(some p33), (.v (.fa 6 (.t p2))), none⟩
(sN p34 ⟨(some p34), (.v (.ld1 (.t p33))), none⟩
(sA 8 p8 (.new [(.int .i64 (.ofNat 0)), (.int .i64 (.ofNat 0)), (.bool false), (.str []), .nils, .nils] 26)
(sE [] [(p31, ⟨(some p31), (.v (.ldN 6 (.t p30))), none⟩)] ⟨(some p35), (.call p367 [(.t p34)]), none⟩
(sE [] [(p31, ⟨(some p31), (.v (.ldN 6 (.t p30))), none⟩)] ⟨(some p36), (.call p381 [(.t p32), (.c (.int .i64 (.ofNat 0))), (.t p35)]), none⟩
(sE [] [] ⟨(some p37), (.call p380 [(.t p31), (.t p36)]), none⟩
(sE [8] [] ⟨none, (.v (.st 6 (.t p8) (.t p37))), none⟩
sEnd)))))))))))
(dSeq (dOps (dV p38 (oLdN 6 (.t p8))
(dV p39 (oMv (.t p6))
(dC (some p40) p380 [(.t p38), (.t p39)]
(dU (oSt 6 (.t p8) (.t p40))
dE)))))
(dSeq (dDraw (sN p41 ⟨(some p41), (.v (.ldN 6 (.t p8))), none⟩
(sN p42 ⟨(some p42), (.v (.mv (.t p7))), none⟩
(sN p43 ⟨(some p43), (.v (.fa 6 (.t p2))), none⟩
(sN p44 ⟨(some p44), (.v (.ld1 (.t p43))), none⟩
(sN p46 ⟨(some p46), (.v (.mv (.t p1))), none⟩
(sN p51 ⟨(some p51), (.v (.mv (.t p7))), none⟩
(sN p52 ⟨(some p52), (.v (.mv (.t p7))), none⟩
(sN p53 ⟨(some p53), (.v (.mv (.t p5))), none⟩
(sN p54 ⟨(some p54), (.v (.len (.t p53))), none⟩
(sN p55 ⟨(some p55), (.v (.ar .sub (.t p52) (.t p54))), none⟩
(sN p56 ⟨(some p56), (.v (.mv (.t p5))), none⟩
(sN p57 ⟨(some p57), (.v (.len (.t p56))), none⟩
(sE [] [(p41, ⟨(some p41), (.v (.ldN 6 (.t p8))), none⟩)] ⟨(some p45), (.call p367 [(.t p44)]), none⟩
(sN p47 ⟨(some p47), (.v (.ar .add (.t p45) (.t p46))), none⟩
(sE [] [(p41, ⟨(some p41), (.v (.ldN 6 (.t p8))), none⟩)] ⟨(some p48), (.call p381 [(.t p42), (.t p47), (.c (.int .i64 (.ofNat 1)))]), none⟩
(sN p49 ⟨(some p49), (.v (.ia 6 (.t p48) (.c (.int .i64 (.ofNat 0))))), none⟩
(sN p50 ⟨(some p50), (.v (.ldN 6 (.t p49))), none⟩
(sE [] [(p41, ⟨(some p41), (.v (.ldN 6 (.t p8))), none⟩), (p50, ⟨(some p50), (.v (.ldN 6 (.t p49))), none⟩)] ⟨(some p58), (.call p381 [(.t p51), (.t p55), (.t p57)]), none⟩
(sE [] [(p41, ⟨(some p41), (.v (.ldN 6 (.t p8))), none⟩)] ⟨(some p59), (.call p380 [(.t p50), (.t p58)]), none⟩
(sA 19 p60 (.buildS 26 1 [(.int .i64 (.ofNat 0)), (.int .i64 (.ofNat 0)), (.bool false), (.str []), .nils, .nils] [(0, 6, (.t p59))])
(sE [19] [] ⟨(some p61), (.call p380 [(.t p41), (.t p60)]), none⟩
(sE [19] [] ⟨none, (.v (.st 6 (.t p8) (.t p61))), none⟩
sEnd)))))))))))))))))))))))
(dSeq (dSeq (dOps (dV p62 (oMv (.t p5))
(dC (some p63) p320 [(.t p62)]
dE)))
(dBlock 0 (dRange (.t p63) [p64, p65] (dOps (dV p10 (oNew [(.int .i64 (.ofNat 0)), (.int .i64 (.ofNat 0)), (.bool false), (.str []), .nils, .nils] 26)
(dU (oSt 6 (.t p10) (.t p65))
dE))) (dBlock 1 (dOps (dV p66 (oLdN 6 (.t p10))
(dV p67 (oLdN 6 (.t p8))
(dV p68 (oBuildS 26 2 [(.int .i64 (.ofNat 0)), (.int .i64 (.ofNat 0)), (.bool false), (.str []), .nils, .nils, (.int .i64 (.ofNat 0)), (.int .i64 (.ofNat 0)), (.bool false), (.str []), .nils, .nils] [(0, 6, (.t p66)), (6, 6, (.t p67))])
(dV p69 (oBuild [(.int .i64 (.ofNat 0)), (.int .i64 (.ofNat 0)), (.bool false), (.str []), .nils, .nils] [(0, 1, (.c (.int .i64 (.ofNat 4)))), (5, 1, (.t p68))])
(dU (oSt 6 (.t p8) (.t p69))
dE))))))))))
(dSeq (dOps (dV p70 (oLdN 6 (.t p8))
(dU (oSt 6 (.t p4) (.t p70))
dE)))
dRet)))))))), [(.cN p4 6)]⟩
def af383 : AF := ⟨(dSeq (dOps (dV p10 (oMv (.t p1))
(dV p11 (oAr .add (.t p10) (.c (.int .i64 (.ofNat 1))))
(dV p8 (oMv (.t p11))
dE))))
(dBlock 0 (dLoop (dSeq (dSeq (dOps (dV p12 (oMv (.t p8))
(dV p13 (oMv (.t p2))
(dV p14 (oAr .lss (.t p12) (.t p13))
dE))))
(dCond (.t p14) dSkip (dExit 0)))
(dSeq (dBlock 1 (dSeq (dOps (dV p17 (oMv (.t p8))
(dV p9 (oMv (.t p17))
dE)))
(dBlock 2 (dLoop (dSeq (dSeq (dDraw (sN p18 ⟨(some p18), (.v (.mv (.t p9))), none⟩
(sN p19 ⟨(some p19), (.v (.mv (.t p1))), none⟩
(sN p20 ⟨(some p20), (.v (.ar .gtr (.t p18) (.t p19))), none⟩
(sN p21 ⟨(some p21), (.v (.mv (.t p20))), none⟩
(sN p22 ⟨(some p22), (.v (.mv (.t p3))), (some (p21, true))⟩
(sN p23 ⟨(some p23), (.v (.mv (.t p0))), (some (p21, true))⟩
(sN p24 ⟨(some p24), (.v (.mv (.t p9))), (some (p21, true))⟩
(sN p25 ⟨(some p25), (.v (.ia 4 (.t p23) (.t p24))), (some (p21, true))⟩
(sN p26 ⟨(some p26), (.v (.ldN 4 (.t p25))), (some (p21, true))⟩
(sN p27 ⟨(some p27), (.v (.mv (.t p0))), (some (p21, true))⟩
(sN p28 ⟨(some p28), (.v (.mv (.t p9))), (some (p21, true))⟩
(sN p29 ⟨(some p29), (.v (.ar .sub (.t p28) (.c (.int .i64 (.ofNat 1))))), (some (p21, true))⟩
(sN p30 ⟨(some p30), (.v (.ia 4 (.t p27) (.t p29))), (some (p21, true))⟩
(sN p31 ⟨(some p31), (.v (.ldN 4 (.t p30))), (some (p21, true))⟩
(sE [] [] ⟨(some p32), (.callv (.t p22) [(.t p26), (.t p31)]), (some (p21, true))⟩
(sN p33 ⟨(some p33), (.v (.ar .lss (.t p32) (.c (.int .i64 (.ofNat 0))))), (some (p21, true))⟩
(sN p34 ⟨(some p34), (.v (.pick (.t p21) (.t p33) (.c (.bool false)))), none⟩
sEnd))))))))))))))))))
(dCond (.t p34) dSkip (dExit 2)))
(dSeq (dBlock 3 (dDraw (sN p37 ⟨(some p37), (.v (.mv (.t p0))), none⟩
(sN p38 ⟨(some p38), (.v (.mv (.t p9))), none⟩
(sN p39 ⟨(some p39), (.v (.mv (.t p0))), none⟩
(sN p40 ⟨(some p40), (.v (.mv (.t p9))), none⟩
(sN p41 ⟨(some p41), (.v (.ar .sub (.t p40) (.c (.int .i64 (.ofNat 1))))), none⟩
(sN p42 ⟨(some p42), (.v (.mv (.t p0))), none⟩
(sN p43 ⟨(some p43), (.v (.mv (.t p9))), none⟩
(sN p44 ⟨(some p44), (.v (.ar .sub (.t p43) (.c (.int .i64 (.ofNat 1))))), none⟩
(sN p45 ⟨(some p45), (.v (.ia 4 (.t p42) (.t p44))), none⟩
(sN p46 ⟨(some p46), (.v (.ldN 4 (.t p45))), none⟩
(sN p47 ⟨(some p47), (.v (.mv (.t p0))), none⟩
(sN p48 ⟨(some p48), (.v (.mv (.t p9))), none⟩
(sN p49 ⟨(some p49), (.v (.ia 4 (.t p47) (.t p48))), none⟩
(sN p50 ⟨(some p50), (.v (.ldN 4 (.t p49))), none⟩
(sN p51 ⟨(some p51), (.v (.ia 4 (.t p37) (.t p38))), none⟩
(sE [] [] ⟨none, (.v (.st 4 (.t p51) (.t p46))), none⟩
(sN p52 ⟨(some p52), (.v (.ia 4 (.t p39) (.t p41))), none⟩
(sE [] [] ⟨none, (.v (.st 4 (.t p52) (.t p50))), none⟩
sEnd))))))))))))))))))))
(dOps (dV p35 (oMv (.t p9))
(dV p36 (oAr .sub (.t p35) (.c (.int .i64 (.ofNat 1))))
(dV p9 (oMv (.t p36))
dE))))))))))
(dOps (dV p15 (oMv (.t p8))
(dV p16 (oAr .add (.t p15) (.c (.int .i64 (.ofNat 1))))
(dV p8 (oMv (.t p16))
dE))))))))), []⟩
def af384 : AF := ⟨(dSeq (dOps (dV p13 (oMv (.t p1))
(dV p8 (oMv (.t p13))
dE)))
(dSeq (dOps (dV p9 (oMv (.c (.int .i64 (.ofNat 0))))
dE))
(dSeq (dOps (dV p14 (oMv (.t p2))
(dV p15 (oMv (.t p1))
(dV p16 (oAr .sub (.t p14) (.t p15))
(dV p10 (oMv (.t p16))
dE)))))
(dSeq (dSeq (dOps (dV p17 (oMv (.t p10))
(dV p18 (oAr .sub (.t p17) (.c (.int .i64 (.ofNat 1))))
(dV p19 (oAr .quo (.t p18) (.c (.int .i64 (.ofNat 2))))
(dV p11 (oMv (.t p19))
dE)))))
(dBlock 0 (dLoop (dSeq (dSeq (dOps (dV p20 (oMv (.t p11))
(dV p21 (oAr .geq (.t p20) (.c (.int .i64 (.ofNat 0))))
dE)))
(dCond (.t p21) dSkip (dExit 0)))
(dSeq (dBlock 1 (dOps (dV p24 (oMv (.t p0))
(dV p25 (oMv (.t p11))
(dV p26 (oMv (.t p10))
(dV p27 (oMv (.t p8))
(dV p28 (oMv (.t p3))
(dC (some p29) p396 [(.t p24), (.t p25), (.t p26), (.t p27), (.t p28)]
dE))))))))
(dOps (dV p22 (oMv (.t p11))
(dV p23 (oAr .sub (.t p22) (.c (.int .i64 (.ofNat 1))))
(dV p11 (oMv (.t p23))
dE)))))))))
(dSeq (dOps (dV p30 (oMv (.t p10))
(dV p31 (oAr .sub (.t p30) (.c (.int .i64 (.ofNat 1))))
(dV p12 (oMv (.t p31))
dE))))
(dBlock 2 (dLoop (dSeq (dSeq (dOps (dV p32 (oMv (.t p12))
(dV p33 (oAr .geq (.t p32) (.c (.int .i64 (.ofNat 0))))
dE)))
(dCond (.t p33) dSkip (dExit 2)))
(dSeq (dBlock 3 (dSeq (dDraw (sN p36 ⟨(some p36), (.v (.mv (.t p0))), none⟩
(sN p37 ⟨(some p37), (.v (.mv (.t p8))), none⟩
(sN p38 ⟨(some p38), (.v (.mv (.t p0))), none⟩
(sN p39 ⟨(some p39), (.v (.mv (.t p8))), none⟩
(sN p40 ⟨(some p40), (.v (.mv (.t p12))), none⟩
(sN p41 ⟨(some p41), (.v (.ar .add (.t p39) (.t p40))), none⟩
(sN p42 ⟨(some p42), (.v (.mv (.t p0))), none⟩
(sN p43 ⟨(some p43), (.v (.mv (.t p8))), none⟩
(sN p44 ⟨(some p44), (.v (.mv (.t p12))), none⟩
(sN p45 ⟨(some p45), (.v (.ar .add (.t p43) (.t p44))), none⟩
(sN p46 ⟨(some p46), (.v (.ia 4 (.t p42) (.t p45))), none⟩
(sN p47 ⟨(some p47), (.v (.ldN 4 (.t p46))), none⟩
(sN p48 ⟨(some p48), (.v (.mv (.t p0))), none⟩
(sN p49 ⟨(some p49), (.v (.mv (.t p8))), none⟩
(sN p50 ⟨(some p50), (.v (.ia 4 (.t p48) (.t p49))), none⟩
(sN p51 ⟨(some p51), (.v (.ldN 4 (.t p50))), none⟩
(sN p52 ⟨(some p52), (.v (.ia 4 (.t p36) (.t p37))), none⟩
(sE [] [] ⟨none, (.v (.st 4 (.t p52) (.t p47))), none⟩
(sN p53 ⟨(some p53), (.v (.ia 4 (.t p38) (.t p41))), none⟩
(sE [] [] ⟨none, (.v (.st 4 (.t p53) (.t p51))), none⟩
sEnd)))))))))))))))))))))
(dOps (dV p54 (oMv (.t p0))
(dV p55 (oMv (.t p9))
(dV p56 (oMv (.t p12))
(dV p57 (oMv (.t p8))
(dV p58 (oMv (.t p3))
(dC (some p59) p396 [(.t p54), (.t p55), (.t p56), (.t p57), (.t p58)]
dE)))))))))
(dOps (dV p34 (oMv (.t p12))
(dV p35 (oAr .sub (.t p34) (.c (.int .i64 (.ofNat 1))))
(dV p12 (oMv (.t p35))
dE))))))))))))), []⟩
def af385 : AF := ⟨(dSeq (dOps (dV p13 (oMv (.t p2))
(dV p14 (oMv (.t p1))
(dV p15 (oAr .sub (.t p13) (.t p14))
(dV p8 (oMv (.t p15))
dE)))))
(dSeq (dOps (dV p16 (oMv (.t p8))
(dV p17 (oAr .geq (.t p16) (.c (.int .i64 (.ofNat 8))))
dE)))
(dCond (.t p17) (dSeq (dOps (dV p18 (oMv (.t p8))
(dV p19 (oCvI .u64 (.t p18))
(dV p9 (oNew [(.int .u64 (.ofNat 0))] 482)
(dU (oSt 1 (.t p9) (.t p19))
dE)))))
(dSeq (dOps (dV p20 (oMv (.t p8))
(dC (some p21) p345 [(.t p20)]
(dV p10 (oMv (.t p21))
dE))))
(dSeq (dOps (dV p22 (oMv (.t p1))
(dV p23 (oMv (.t p8))
(dV p24 (oAr .quo (.t p23) (.c (.int .i64 (.ofNat 4))))
(dV p25 (oAr .mul (.t p24) (.c (.int .i64 (.ofNat 2))))
(dV p26 (oAr .add (.t p22) (.t p25))
(dV p27 (oAr .sub (.t p26) (.c (.int .i64 (.ofNat 1))))
(dV p11 (oMv (.t p27))
dE))))))))
(dBlock 0 (dLoop (dSeq (dSeq (dOps (dV p28 (oMv (.t p11))
(dV p29 (oMv (.t p1))
(dV p30 (oMv (.t p8))
(dV p31 (oAr .quo (.t p30) (.c (.int .i64 (.ofNat 4))))
(dV p32 (oAr .mul (.t p31) (.c (.int .i64 (.ofNat 2))))
(dV p33 (oAr .add (.t p29) (.t p32))
(dV p34 (oAr .add (.t p33) (.c (.int .i64 (.ofNat 1))))
(dV p35 (oAr .leq (.t p28) (.t p34))
dE)))))))))
(dCond (.t p35) dSkip (dExit 0)))
(dSeq (dBlock 1 (dSeq (dOps (dC (some p38) p346 [(.t p9)]
(dV p39 (oMv (.t p10))
(dV p40 (oAr .sub (.t p39) (.c (.int .u64 (.ofNat 1))))
(dV p41 (oAr .and (.t p38) (.t p40))
(dV p42 (oCvI .i64 (.t p41))
(dV p12 (oMv (.t p42))
dE)))))))
(dSeq (dSeq (dOps (dV p43 (oMv (.t p12))
(dV p44 (oMv (.t p8))
(dV p45 (oAr .geq (.t p43) (.t p44))
dE))))
(dCond (.t p45) (dOps (dV p46 (oMv (.t p12))
(dV p47 (oMv (.t p8))
(dV p48 (oAr .sub (.t p46) (.t p47))
(dV p12 (oMv (.t p48))
dE))))) dSkip))
(dDraw (sN p49 ⟨(some p49), (.v (.mv (.t p0))), none⟩
(sN p50 ⟨(some p50), (.v (.mv (.t p11))), none⟩
(sN p51 ⟨(some p51), (.v (.mv (.t p0))), none⟩
(sN p52 ⟨(some p52), (.v (.mv (.t p1))), none⟩
(sN p53 ⟨(some p53), (.v (.mv (.t p12))), none⟩
(sN p54 ⟨(some p54), (.v (.ar .add (.t p52) (.t p53))), none⟩
(sN p55 ⟨(some p55), (.v (.mv (.t p0))), none⟩
(sN p56 ⟨(some p56), (.v (.mv (.t p1))), none⟩
(sN p57 ⟨(some p57), (.v (.mv (.t p12))), none⟩
(sN p58 ⟨(some p58), (.v (.ar .add (.t p56) (.t p57))), none⟩
(sN p59 ⟨(some p59), (.v (.ia 4 (.t p55) (.t p58))), none⟩
(sN p60 ⟨(some p60), (.v (.ldN 4 (.t p59))), none⟩
(sN p61 ⟨(some p61), (.v (.mv (.t p0))), none⟩
(sN p62 ⟨(some p62), (.v (.mv (.t p11))), none⟩
(sN p63 ⟨(some p63), (.v (.ia 4 (.t p61) (.t p62))), none⟩
(sN p64 ⟨(some p64), (.v (.ldN 4 (.t p63))), none⟩
(sN p65 ⟨(some p65), (.v (.ia 4 (.t p49) (.t p50))), none⟩
(sE [] [] ⟨none, (.v (.st 4 (.t p65) (.t p60))), none⟩
(sN p66 ⟨(some p66), (.v (.ia 4 (.t p51) (.t p54))), none⟩
(sE [] [] ⟨none, (.v (.st 4 (.t p66) (.t p64))), none⟩
sEnd))))))))))))))))))))))))
(dOps (dV p36 (oMv (.t p11))
(dV p37 (oAr .add (.t p36) (.c (.int .i64 (.ofNat 1))))
(dV p11 (oMv (.t p37))
dE))))))))))) dSkip))), []⟩
def af386 : AF := ⟨(dSeq (dOps (dV p8 (oMv (.c (.int .i64 (.ofNat 0))))
(dV p9 (oMv (.c (.int .i64 (.ofNat 0))))
dE)))
(dSeq (dOps (dV p15 (oMv (.t p2))
(dV p16 (oMv (.t p1))
(dV p17 (oAr .sub (.t p15) (.t p16))
(dV p10 (oMv (.t p17))
dE)))))
(dSeq (dOps (dV p11 (oNew [(.int .i64 (.ofNat 0))] 3)
dE))
(dSeq (dOps (dV p18 (oMv (.t p1))
(dV p19 (oMv (.t p10))
(dV p20 (oAr .quo (.t p19) (.c (.int .i64 (.ofNat 4))))
(dV p21 (oAr .mul (.t p20) (.c (.int .i64 (.ofNat 1))))
(dV p22 (oAr .add (.t p18) (.t p21))
(dV p12 (oMv (.t p22))
dE)))))))
(dSeq (dOps (dV p23 (oMv (.t p1))
(dV p24 (oMv (.t p10))
(dV p25 (oAr .quo (.t p24) (.c (.int .i64 (.ofNat 4))))
(dV p26 (oAr .mul (.t p25) (.c (.int .i64 (.ofNat 2))))
(dV p27 (oAr .add (.t p23) (.t p26))
(dV p13 (oMv (.t p27))
dE)))))))
(dSeq (dOps (dV p28 (oMv (.t p1))
(dV p29 (oMv (.t p10))
(dV p30 (oAr .quo (.t p29) (.c (.int .i64 (.ofNat 4))))
(dV p31 (oAr .mul (.t p30) (.c (.int .i64 (.ofNat 3))))
(dV p32 (oAr .add (.t p28) (.t p31))
(dV p14 (oMv (.t p32))
dE)))))))
(dSeq (dSeq (dOps (dV p33 (oMv (.t p10))
(dV p34 (oAr .geq (.t p33) (.c (.int .i64 (.ofNat 8))))
dE)))
(dCond (.t p34) (dSeq (dSeq (dOps (dV p35 (oMv (.t p10))
(dV p36 (oAr .geq (.t p35) (.c (.int .i64 (.ofNat 50))))
dE)))
(dCond (.t p36) (dSeq (dOps (dV p37 (oMv (.t p0))
(dV p38 (oMv (.t p12))
(dV p39 (oMv (.t p3))
(dC (some p40) p397 [(.t p37), (.t p38), (.t p11), (.t p39)]
(dV p12 (oMv (.t p40))
dE))))))
(dSeq (dOps (dV p41 (oMv (.t p0))
(dV p42 (oMv (.t p13))
(dV p43 (oMv (.t p3))
(dC (some p44) p397 [(.t p41), (.t p42), (.t p11), (.t p43)]
(dV p13 (oMv (.t p44))
dE))))))
(dOps (dV p45 (oMv (.t p0))
(dV p46 (oMv (.t p14))
(dV p47 (oMv (.t p3))
(dC (some p48) p397 [(.t p45), (.t p46), (.t p11), (.t p47)]
(dV p14 (oMv (.t p48))
dE)))))))) dSkip))
(dOps (dV p49 (oMv (.t p0))
(dV p50 (oMv (.t p12))
(dV p51 (oMv (.t p13))
(dV p52 (oMv (.t p14))
(dV p53 (oMv (.t p3))
(dC (some p54) p398 [(.t p49), (.t p50), (.t p51), (.t p52), (.t p11), (.t p53)]
(dV p13 (oMv (.t p54))
dE))))))))) dSkip))
(dSeq (dOps (dV p55 (oLd1 (.t p11))
dE))
(dBlock 0 (dSeq (dOps (dV p58 (oAr .eql (.t p55) (.c (.int .i64 (.ofNat 0))))
(dV p57 (oMv (.t p58))
dE)))
(dCond (.t p57) (dSeq (dOps (dV p59 (oMv (.t p13))
(dV p8 (oMv (.t p59))
(dV p9 (oMv (.c (.int .i64 (.ofNat 1))))
dE))))
dRet) (dSeq (dOps (dV p61 (oAr .eql (.t p55) (.c (.int .i64 (.ofNat 12))))
(dV p60 (oMv (.t p61))
dE)))
(dCond (.t p60) (dSeq (dOps (dV p62 (oMv (.t p13))
(dV p8 (oMv (.t p62))
(dV p9 (oMv (.c (.int .i64 (.ofNat 2))))
dE))))
dRet) (dSeq (dOps (dV p56 (oMv (.t p13))
(dV p8 (oMv (.t p56))
(dV p9 (oMv (.c (.int .i64 (.ofNat 0))))
dE))))
dRet)))))))))))))), [(.t p8), (.t p9)]⟩
def af387 : AF := ⟨(dSeq (dOps (dV p10 (oMv (.t p1))
(dV p8 (oMv (.t p10))
dE)))
(dSeq (dOps (dV p11 (oMv (.t p2))
(dV p12 (oAr .sub (.t p11) (.c (.int .i64 (.ofNat 1))))
(dV p9 (oMv (.t p12))
dE))))
(dBlock 0 (dLoop (dSeq (dSeq (dOps (dV p13 (oMv (.t p8))
(dV p14 (oMv (.t p9))
(dV p15 (oAr .lss (.t p13) (.t p14))
dE))))
(dCond (.t p15) dSkip (dExit 0)))
(dBlock 1 (dSeq (dDraw (sN p16 ⟨(some p16), (.v (.mv (.t p0))), none⟩
(sN p17 ⟨(some p17), (.v (.mv (.t p8))), none⟩
(sN p18 ⟨(some p18), (.v (.mv (.t p0))), none⟩
(sN p19 ⟨(some p19), (.v (.mv (.t p9))), none⟩
(sN p20 ⟨(some p20), (.v (.mv (.t p0))), none⟩
(sN p21 ⟨(some p21), (.v (.mv (.t p9))), none⟩
(sN p22 ⟨(some p22), (.v (.ia 4 (.t p20) (.t p21))), none⟩
(sN p23 ⟨(some p23), (.v (.ldN 4 (.t p22))), none⟩
(sN p24 ⟨(some p24), (.v (.mv (.t p0))), none⟩
(sN p25 ⟨(some p25), (.v (.mv (.t p8))), none⟩
(sN p26 ⟨(some p26), (.v (.ia 4 (.t p24) (.t p25))), none⟩
(sN p27 ⟨(some p27), (.v (.ldN 4 (.t p26))), none⟩
(sN p28 ⟨(some p28), (.v (.ia 4 (.t p16) (.t p17))), none⟩
(sE [] [] ⟨none, (.v (.st 4 (.t p28) (.t p23))), none⟩
(sN p29 ⟨(some p29), (.v (.ia 4 (.t p18) (.t p19))), none⟩
(sE [] [] ⟨none, (.v (.st 4 (.t p29) (.t p27))), none⟩
sEnd)))))))))))))))))
(dSeq (dOps (dV p30 (oMv (.t p8))
(dV p31 (oAr .add (.t p30) (.c (.int .i64 (.ofNat 1))))
(dV p8 (oMv (.t p31))
dE))))
(dOps (dV p32 (oMv (.t p9))
(dV p33 (oAr .sub (.t p32) (.c (.int .i64 (.ofNat 1))))
(dV p9 (oMv (.t p33))
dE)))))))))))), []⟩
def af388 : AF := ⟨(dSeq (dOps (dV p8 (oMv (.c (.bool false)))
dE))
(dSeq (dOps (dV p13 (oMv (.t p1))
(dV p14 (oAr .add (.t p13) (.c (.int .i64 (.ofNat 1))))
(dV p9 (oMv (.t p14))
dE))))
(dSeq (dSeq (dOps (dV p10 (oMv (.c (.int .i64 (.ofNat 0))))
dE))
(dBlock 0 (dLoop (dSeq (dSeq (dOps (dV p15 (oMv (.t p10))
(dV p16 (oAr .lss (.t p15) (.c (.int .i64 (.ofNat 5))))
dE)))
(dCond (.t p16) dSkip (dExit 0)))
(dSeq (dBlock 1 (dSeq (dBlock 2 (dLoop (dSeq (dSeq (dDraw (sN p19 ⟨(some p19), (.v (.mv (.t p9))), none⟩
(sN p20 ⟨(some p20), (.v (.mv (.t p2))), none⟩
(sN p21 ⟨(some p21), (.v (.ar .lss (.t p19) (.t p20))), none⟩
(sN p22 ⟨(some p22), (.v (.mv (.t p21))), none⟩
(sN p23 ⟨(some p23), (.v (.mv (.t p3))), (some (p22, true))⟩
(sN p24 ⟨(some p24), (.v (.mv (.t p0))), (some (p22, true))⟩
(sN p25 ⟨(some p25), (.v (.mv (.t p9))), (some (p22, true))⟩
(sN p26 ⟨(some p26), (.v (.ia 4 (.t p24) (.t p25))), (some (p22, true))⟩
(sN p27 ⟨(some p27), (.v (.ldN 4 (.t p26))), (some (p22, true))⟩
(sN p28 ⟨(some p28), (.v (.mv (.t p0))), (some (p22, true))⟩
(sN p29 ⟨(some p29), (.v (.mv (.t p9))), (some (p22, true))⟩
(sN p30 ⟨(some p30), (.v (.ar .sub (.t p29) (.c (.int .i64 (.ofNat 1))))), (some (p22, true))⟩
(sN p31 ⟨(some p31), (.v (.ia 4 (.t p28) (.t p30))), (some (p22, true))⟩
(sN p32 ⟨(some p32), (.v (.ldN 4 (.t p31))), (some (p22, true))⟩
(sE [] [] ⟨(some p33), (.callv (.t p23) [(.t p27), (.t p32)]), (some (p22, true))⟩
(sN p34 ⟨(some p34), (.v (.ar .lss (.t p33) (.c (.int .i64 (.ofNat 0))))), (some (p22, true))⟩
(sN p35 ⟨(some p35), (.v (.un .not (.t p34))), (some (p22, true))⟩
(sN p36 ⟨(some p36), (.v (.pick (.t p22) (.t p35) (.c (.bool false)))), none⟩
sEnd)))))))))))))))))))
(dCond (.t p36) dSkip (dExit 2)))
(dBlock 3 (dOps (dV p37 (oMv (.t p9))
(dV p38 (oAr .add (.t p37) (.c (.int .i64 (.ofNat 1))))
(dV p9 (oMv (.t p38))
dE))))))))
(dSeq (dSeq (dOps (dV p39 (oMv (.t p9))
(dV p40 (oMv (.t p2))
(dV p41 (oAr .eql (.t p39) (.t p40))
dE))))
(dCond (.t p41) (dSeq (dOps (dV p8 (oMv (.c (.bool true)))
dE))
dRet) dSkip))
(dSeq (dSeq (dOps (dV p42 (oMv (.t p2))
(dV p43 (oMv (.t p1))
(dV p44 (oAr .sub (.t p42) (.t p43))
(dV p45 (oAr .lss (.t p44) (.c (.int .i64 (.ofNat 50))))
dE)))))
(dCond (.t p45) (dSeq (dOps (dV p8 (oMv (.c (.bool false)))
dE))
dRet) dSkip))
(dSeq (dDraw (sN p46 ⟨(some p46), (.v (.mv (.t p0))), none⟩
(sN p47 ⟨(some p47), (.v (.mv (.t p9))), none⟩
(sN p48 ⟨(some p48), (.v (.mv (.t p0))), none⟩
(sN p49 ⟨(some p49), (.v (.mv (.t p9))), none⟩
(sN p50 ⟨(some p50), (.v (.ar .sub (.t p49) (.c (.int .i64 (.ofNat 1))))), none⟩
(sN p51 ⟨(some p51), (.v (.mv (.t p0))), none⟩
(sN p52 ⟨(some p52), (.v (.mv (.t p9))), none⟩
(sN p53 ⟨(some p53), (.v (.ar .sub (.t p52) (.c (.int .i64 (.ofNat 1))))), none⟩
(sN p54 ⟨(some p54), (.v (.ia 4 (.t p51) (.t p53))), none⟩
(sN p55 ⟨(some p55), (.v (.ldN 4 (.t p54))), none⟩
(sN p56 ⟨(some p56), (.v (.mv (.t p0))), none⟩
(sN p57 ⟨(some p57), (.v (.mv (.t p9))), none⟩
(sN p58 ⟨(some p58), (.v (.ia 4 (.t p56) (.t p57))), none⟩
(sN p59 ⟨(some p59), (.v (.ldN 4 (.t p58))), none⟩
(sN p60 ⟨(some p60), (.v (.ia 4 (.t p46) (.t p47))), none⟩
(sE [] [] ⟨none, (.v (.st 4 (.t p60) (.t p55))), none⟩
(sN p61 ⟨(some p61), (.v (.ia 4 (.t p48) (.t p50))), none⟩
(sE [] [] ⟨none, (.v (.st 4 (.t p61) (.t p59))), none⟩
sEnd)))))))))))))))))))
(dSeq (dSeq (dOps (dV p62 (oMv (.t p9))
(dV p63 (oMv (.t p1))
(dV p64 (oAr .sub (.t p62) (.t p63))
(dV p65 (oAr .geq (.t p64) (.c (.int .i64 (.ofNat 2))))
dE)))))
(dCond (.t p65) (dSeq (dOps (dV p66 (oMv (.t p9))
(dV p67 (oAr .sub (.t p66) (.c (.int .i64 (.ofNat 1))))
(dV p11 (oMv (.t p67))
dE))))
(dBlock 4 (dLoop (dSeq (dSeq (dOps (dV p68 (oMv (.t p11))
(dV p69 (oAr .geq (.t p68) (.c (.int .i64 (.ofNat 1))))
dE)))
(dCond (.t p69) dSkip (dExit 4)))
(dSeq (dBlock 5 (dSeq (dSeq (dDraw (sN p72 ⟨(some p72), (.v (.mv (.t p3))), none⟩
(sN p73 ⟨(some p73), (.v (.mv (.t p0))), none⟩
(sN p74 ⟨(some p74), (.v (.mv (.t p11))), none⟩
(sN p75 ⟨(some p75), (.v (.ia 4 (.t p73) (.t p74))), none⟩
(sN p76 ⟨(some p76), (.v (.ldN 4 (.t p75))), none⟩
(sN p77 ⟨(some p77), (.v (.mv (.t p0))), none⟩
(sN p78 ⟨(some p78), (.v (.mv (.t p11))), none⟩
(sN p79 ⟨(some p79), (.v (.ar .sub (.t p78) (.c (.int .i64 (.ofNat 1))))), none⟩
(sN p80 ⟨(some p80), (.v (.ia 4 (.t p77) (.t p79))), none⟩
(sN p81 ⟨(some p81), (.v (.ldN 4 (.t p80))), none⟩
(sE [] [] ⟨(some p82), (.callv (.t p72) [(.t p76), (.t p81)]), none⟩
(sN p83 ⟨(some p83), (.v (.ar .lss (.t p82) (.c (.int .i64 (.ofNat 0))))), none⟩
(sN p84 ⟨(some p84), (.v (.un .not (.t p83))), none⟩
sEnd))))))))))))))
(dCond (.t p84) (dExit 4) dSkip))
(dDraw (sN p85 ⟨(some p85), (.v (.mv (.t p0))), none⟩
(sN p86 ⟨(some p86), (.v (.mv (.t p11))), none⟩
(sN p87 ⟨(some p87), (.v (.mv (.t p0))), none⟩
(sN p88 ⟨(some p88), (.v (.mv (.t p11))), none⟩
(sN p89 ⟨(some p89), (.v (.ar .sub (.t p88) (.c (.int .i64 (.ofNat 1))))), none⟩
(sN p90 ⟨(some p90), (.v (.mv (.t p0))), none⟩
(sN p91 ⟨(some p91), (.v (.mv (.t p11))), none⟩
(sN p92 ⟨(some p92), (.v (.ar .sub (.t p91) (.c (.int .i64 (.ofNat 1))))), none⟩
(sN p93 ⟨(some p93), (.v (.ia 4 (.t p90) (.t p92))), none⟩
(sN p94 ⟨(some p94), (.v (.ldN 4 (.t p93))), none⟩
(sN p95 ⟨(some p95), (.v (.mv (.t p0))), none⟩
(sN p96 ⟨(some p96), (.v (.mv (.t p11))), none⟩
(sN p97 ⟨(some p97), (.v (.ia 4 (.t p95) (.t p96))), none⟩
(sN p98 ⟨(some p98), (.v (.ldN 4 (.t p97))), none⟩
(sN p99 ⟨(some p99), (.v (.ia 4 (.t p85) (.t p86))), none⟩
(sE [] [] ⟨none, (.v (.st 4 (.t p99) (.t p94))), none⟩
(sN p100 ⟨(some p100), (.v (.ia 4 (.t p87) (.t p89))), none⟩
(sE [] [] ⟨none, (.v (.st 4 (.t p100) (.t p98))), none⟩
sEnd)))))))))))))))))))))
(dOps (dV p70 (oMv (.t p11))
(dV p71 (oAr .sub (.t p70) (.c (.int .i64 (.ofNat 1))))
(dV p11 (oMv (.t p71))
dE))))))))) dSkip))
(dSeq (dOps (dV p101 (oMv (.t p2))
(dV p102 (oMv (.t p9))
(dV p103 (oAr .sub (.t p101) (.t p102))
(dV p104 (oAr .geq (.t p103) (.c (.int .i64 (.ofNat 2))))
dE)))))
(dCond (.t p104) (dSeq (dOps (dV p105 (oMv (.t p9))
(dV p106 (oAr .add (.t p105) (.c (.int .i64 (.ofNat 1))))
(dV p12 (oMv (.t p106))
dE))))
(dBlock 6 (dLoop (dSeq (dSeq (dOps (dV p107 (oMv (.t p12))
(dV p108 (oMv (.t p2))
(dV p109 (oAr .lss (.t p107) (.t p108))
dE))))
(dCond (.t p109) dSkip (dExit 6)))
(dSeq (dBlock 7 (dSeq (dSeq (dDraw (sN p112 ⟨(some p112), (.v (.mv (.t p3))), none⟩
(sN p113 ⟨(some p113), (.v (.mv (.t p0))), none⟩
(sN p114 ⟨(some p114), (.v (.mv (.t p12))), none⟩
(sN p115 ⟨(some p115), (.v (.ia 4 (.t p113) (.t p114))), none⟩
(sN p116 ⟨(some p116), (.v (.ldN 4 (.t p115))), none⟩
(sN p117 ⟨(some p117), (.v (.mv (.t p0))), none⟩
(sN p118 ⟨(some p118), (.v (.mv (.t p12))), none⟩
(sN p119 ⟨(some p119), (.v (.ar .sub (.t p118) (.c (.int .i64 (.ofNat 1))))), none⟩
(sN p120 ⟨(some p120), (.v (.ia 4 (.t p117) (.t p119))), none⟩
(sN p121 ⟨(some p121), (.v (.ldN 4 (.t p120))), none⟩
(sE [] [] ⟨(some p122), (.callv (.t p112) [(.t p116), (.t p121)]), none⟩
(sN p123 ⟨(some p123), (.v (.ar .lss (.t p122) (.c (.int .i64 (.ofNat 0))))), none⟩
(sN p124 ⟨(some p124), (.v (.un .not (.t p123))), none⟩
sEnd))))))))))))))
(dCond (.t p124) (dExit 6) dSkip))
(dDraw (sN p125 ⟨(some p125), (.v (.mv (.t p0))), none⟩
(sN p126 ⟨(some p126), (.v (.mv (.t p12))), none⟩
(sN p127 ⟨(some p127), (.v (.mv (.t p0))), none⟩
(sN p128 ⟨(some p128), (.v (.mv (.t p12))), none⟩
(sN p129 ⟨(some p129), (.v (.ar .sub (.t p128) (.c (.int .i64 (.ofNat 1))))), none⟩
(sN p130 ⟨(some p130), (.v (.mv (.t p0))), none⟩
(sN p131 ⟨(some p131), (.v (.mv (.t p12))), none⟩
(sN p132 ⟨(some p132), (.v (.ar .sub (.t p131) (.c (.int .i64 (.ofNat 1))))), none⟩
(sN p133 ⟨(some p133), (.v (.ia 4 (.t p130) (.t p132))), none⟩
(sN p134 ⟨(some p134), (.v (.ldN 4 (.t p133))), none⟩
(sN p135 ⟨(some p135), (.v (.mv (.t p0))), none⟩
(sN p136 ⟨(some p136), (.v (.mv (.t p12))), none⟩
(sN p137 ⟨(some p137), (.v (.ia 4 (.t p135) (.t p136))), none⟩
(sN p138 ⟨(some p138), (.v (.ldN 4 (.t p137))), none⟩
(sN p139 ⟨(some p139), (.v (.ia 4 (.t p125) (.t p126))), none⟩
(sE [] [] ⟨none, (.v (.st 4 (.t p139) (.t p134))), none⟩
(sN p140 ⟨(some p140), (.v (.ia 4 (.t p127) (.t p129))), none⟩
(sE [] [] ⟨none, (.v (.st 4 (.t p140) (.t p138))), none⟩
sEnd)))))))))))))))))))))
(dOps (dV p110 (oMv (.t p12))
(dV p111 (oAr .add (.t p110) (.c (.int .i64 (.ofNat 1))))
(dV p12 (oMv (.t p111))
dE))))))))) dSkip))))))))
(dOps (dV p17 (oMv (.t p10))
(dV p18 (oAr .add (.t p17) (.c (.int .i64 (.ofNat 1))))
(dV p10 (oMv (.t p18))
dE)))))))))
(dSeq (dOps (dV p8 (oMv (.c (.bool false)))
dE))
dRet)))), [(.t p8)]⟩
def af389 : AF := ⟨(dSeq (dOps (dV p10 (oMv (.c (.int .i64 (.ofNat 0))))
dE))
(dSeq (dDraw (sN p13 ⟨(some p13), (.v (.mv (.t p0))), none⟩
(sN p14 ⟨(some p14), (.v (.mv (.t p1))), none⟩
(sN p15 ⟨(some p15), (.v (.mv (.t p0))), none⟩
(sN p16 ⟨(some p16), (.v (.mv (.t p3))), none⟩
(sN p17 ⟨(some p17), (.v (.mv (.t p0))), none⟩
(sN p18 ⟨(some p18), (.v (.mv (.t p3))), none⟩
(sN p19 ⟨(some p19), (.v (.ia 4 (.t p17) (.t p18))), none⟩
(sN p20 ⟨(some p20), (.v (.ldN 4 (.t p19))), none⟩
(sN p21 ⟨(some p21), (.v (.mv (.t p0))), none⟩
(sN p22 ⟨(some p22), (.v (.mv (.t p1))), none⟩
(sN p23 ⟨(some p23), (.v (.ia 4 (.t p21) (.t p22))), none⟩
(sN p24 ⟨(some p24), (.v (.ldN 4 (.t p23))), none⟩
(sN p25 ⟨(some p25), (.v (.ia 4 (.t p13) (.t p14))), none⟩
(sE [] [] ⟨none, (.v (.st 4 (.t p25) (.t p20))), none⟩
(sN p26 ⟨(some p26), (.v (.ia 4 (.t p15) (.t p16))), none⟩
(sE [] [] ⟨none, (.v (.st 4 (.t p26) (.t p24))), none⟩
sEnd)))))))))))))))))
(dSeq (dOps (dV p27 (oMv (.t p1))
(dV p28 (oAr .add (.t p27) (.c (.int .i64 (.ofNat 1))))
(dV p29 (oMv (.t p2))
(dV p30 (oAr .sub (.t p29) (.c (.int .i64 (.ofNat 1))))
(dV p11 (oMv (.t p28))
(dV p12 (oMv (.t p30))
dE)))))))
(dSeq (dBlock 0 (dLoop (dBlock 1 (dSeq (dBlock 2 (dLoop (dSeq (dSeq (dDraw (sN p31 ⟨(some p31), (.v (.mv (.t p11))), none⟩
(sN p32 ⟨(some p32), (.v (.mv (.t p12))), none⟩
(sN p33 ⟨(some p33), (.v (.ar .leq (.t p31) (.t p32))), none⟩
(sN p34 ⟨(some p34), (.v (.mv (.t p33))), none⟩
(sN p35 ⟨(some p35), (.v (.mv (.t p4))), (some (p34, true))⟩
(sN p36 ⟨(some p36), (.v (.mv (.t p0))), (some (p34, true))⟩
(sN p37 ⟨(some p37), (.v (.mv (.t p1))), (some (p34, true))⟩
(sN p38 ⟨(some p38), (.v (.ia 4 (.t p36) (.t p37))), (some (p34, true))⟩
(sN p39 ⟨(some p39), (.v (.ldN 4 (.t p38))), (some (p34, true))⟩
(sN p40 ⟨(some p40), (.v (.mv (.t p0))), (some (p34, true))⟩
(sN p41 ⟨(some p41), (.v (.mv (.t p11))), (some (p34, true))⟩
(sN p42 ⟨(some p42), (.v (.ia 4 (.t p40) (.t p41))), (some (p34, true))⟩
(sN p43 ⟨(some p43), (.v (.ldN 4 (.t p42))), (some (p34, true))⟩
(sE [] [] ⟨(some p44), (.callv (.t p35) [(.t p39), (.t p43)]), (some (p34, true))⟩
(sN p45 ⟨(some p45), (.v (.ar .lss (.t p44) (.c (.int .i64 (.ofNat 0))))), (some (p34, true))⟩
(sN p46 ⟨(some p46), (.v (.un .not (.t p45))), (some (p34, true))⟩
(sN p47 ⟨(some p47), (.v (.pick (.t p34) (.t p46) (.c (.bool false)))), none⟩
sEnd))))))))))))))))))
(dCond (.t p47) dSkip (dExit 2)))
(dBlock 3 (dOps (dV p48 (oMv (.t p11))
(dV p49 (oAr .add (.t p48) (.c (.int .i64 (.ofNat 1))))
(dV p11 (oMv (.t p49))
dE))))))))
(dSeq (dBlock 4 (dLoop (dSeq (dSeq (dDraw (sN p50 ⟨(some p50), (.v (.mv (.t p11))), none⟩
(sN p51 ⟨(some p51), (.v (.mv (.t p12))), none⟩
(sN p52 ⟨(some p52), (.v (.ar .leq (.t p50) (.t p51))), none⟩
(sN p53 ⟨(some p53), (.v (.mv (.t p52))), none⟩
(sN p54 ⟨(some p54), (.v (.mv (.t p4))), (some (p53, true))⟩
(sN p55 ⟨(some p55), (.v (.mv (.t p0))), (some (p53, true))⟩
(sN p56 ⟨(some p56), (.v (.mv (.t p1))), (some (p53, true))⟩
(sN p57 ⟨(some p57), (.v (.ia 4 (.t p55) (.t p56))), (some (p53, true))⟩
(sN p58 ⟨(some p58), (.v (.ldN 4 (.t p57))), (some (p53, true))⟩
(sN p59 ⟨(some p59), (.v (.mv (.t p0))), (some (p53, true))⟩
(sN p60 ⟨(some p60), (.v (.mv (.t p12))), (some (p53, true))⟩
(sN p61 ⟨(some p61), (.v (.ia 4 (.t p59) (.t p60))), (some (p53, true))⟩
(sN p62 ⟨(some p62), (.v (.ldN 4 (.t p61))), (some (p53, true))⟩
(sE [] [] ⟨(some p63), (.callv (.t p54) [(.t p58), (.t p62)]), (some (p53, true))⟩
(sN p64 ⟨(some p64), (.v (.ar .lss (.t p63) (.c (.int .i64 (.ofNat 0))))), (some (p53, true))⟩
(sN p65 ⟨(some p65), (.v (.pick (.t p53) (.t p64) (.c (.bool false)))), none⟩
sEnd)))))))))))))))))
(dCond (.t p65) dSkip (dExit 4)))
(dBlock 5 (dOps (dV p66 (oMv (.t p12))
(dV p67 (oAr .sub (.t p66) (.c (.int .i64 (.ofNat 1))))
(dV p12 (oMv (.t p67))
dE))))))))
(dSeq (dSeq (dOps (dV p68 (oMv (.t p11))
(dV p69 (oMv (.t p12))
(dV p70 (oAr .gtr (.t p68) (.t p69))
dE))))
(dCond (.t p70) (dExit 0) dSkip))
(dSeq (dDraw (sN p71 ⟨(some p71), (.v (.mv (.t p0))), none⟩
(sN p72 ⟨(some p72), (.v (.mv (.t p11))), none⟩
(sN p73 ⟨(some p73), (.v (.mv (.t p0))), none⟩
(sN p74 ⟨(some p74), (.v (.mv (.t p12))), none⟩
(sN p75 ⟨(some p75), (.v (.mv (.t p0))), none⟩
(sN p76 ⟨(some p76), (.v (.mv (.t p12))), none⟩
(sN p77 ⟨(some p77), (.v (.ia 4 (.t p75) (.t p76))), none⟩
(sN p78 ⟨(some p78), (.v (.ldN 4 (.t p77))), none⟩
(sN p79 ⟨(some p79), (.v (.mv (.t p0))), none⟩
(sN p80 ⟨(some p80), (.v (.mv (.t p11))), none⟩
(sN p81 ⟨(some p81), (.v (.ia 4 (.t p79) (.t p80))), none⟩
(sN p82 ⟨(some p82), (.v (.ldN 4 (.t p81))), none⟩
(sN p83 ⟨(some p83), (.v (.ia 4 (.t p71) (.t p72))), none⟩
(sE [] [] ⟨none, (.v (.st 4 (.t p83) (.t p78))), none⟩
(sN p84 ⟨(some p84), (.v (.ia 4 (.t p73) (.t p74))), none⟩
(sE [] [] ⟨none, (.v (.st 4 (.t p84) (.t p82))), none⟩
sEnd)))))))))))))))))
(dSeq (dOps (dV p85 (oMv (.t p11))
(dV p86 (oAr .add (.t p85) (.c (.int .i64 (.ofNat 1))))
(dV p11 (oMv (.t p86))
dE))))
(dOps (dV p87 (oMv (.t p12))
(dV p88 (oAr .sub (.t p87) (.c (.int .i64 (.ofNat 1))))
(dV p12 (oMv (.t p88))
dE))))))))))))
(dSeq (dOps (dV p89 (oMv (.t p11))
(dV p10 (oMv (.t p89))
dE)))
dRet))))), [(.t p10)]⟩
def af390 : AF := ⟨(dSeq (dOps (dV p10 (oMv (.c (.int .i64 (.ofNat 0))))
(dV p11 (oMv (.c (.bool false)))
dE)))
(dSeq (dDraw (sN p14 ⟨(some p14), (.v (.mv (.t p0))), none⟩
(sN p15 ⟨(some p15), (.v (.mv (.t p1))), none⟩
(sN p16 ⟨(some p16), (.v (.mv (.t p0))), none⟩
(sN p17 ⟨(some p17), (.v (.mv (.t p3))), none⟩
(sN p18 ⟨(some p18), (.v (.mv (.t p0))), none⟩
(sN p19 ⟨(some p19), (.v (.mv (.t p3))), none⟩
(sN p20 ⟨(some p20), (.v (.ia 4 (.t p18) (.t p19))), none⟩
(sN p21 ⟨(some p21), (.v (.ldN 4 (.t p20))), none⟩
(sN p22 ⟨(some p22), (.v (.mv (.t p0))), none⟩
(sN p23 ⟨(some p23), (.v (.mv (.t p1))), none⟩
(sN p24 ⟨(some p24), (.v (.ia 4 (.t p22) (.t p23))), none⟩
(sN p25 ⟨(some p25), (.v (.ldN 4 (.t p24))), none⟩
(sN p26 ⟨(some p26), (.v (.ia 4 (.t p14) (.t p15))), none⟩
(sE [] [] ⟨none, (.v (.st 4 (.t p26) (.t p21))), none⟩
(sN p27 ⟨(some p27), (.v (.ia 4 (.t p16) (.t p17))), none⟩
(sE [] [] ⟨none, (.v (.st 4 (.t p27) (.t p25))), none⟩
sEnd)))))))))))))))))
(dSeq (dOps (dV p28 (oMv (.t p1))
(dV p29 (oAr .add (.t p28) (.c (.int .i64 (.ofNat 1))))
(dV p30 (oMv (.t p2))
(dV p31 (oAr .sub (.t p30) (.c (.int .i64 (.ofNat 1))))
(dV p12 (oMv (.t p29))
(dV p13 (oMv (.t p31))
dE)))))))
(dSeq (dBlock 0 (dLoop (dSeq (dSeq (dDraw (sN p32 ⟨(some p32), (.v (.mv (.t p12))), none⟩
(sN p33 ⟨(some p33), (.v (.mv (.t p13))), none⟩
(sN p34 ⟨(some p34), (.v (.ar .leq (.t p32) (.t p33))), none⟩
(sN p35 ⟨(some p35), (.v (.mv (.t p34))), none⟩
(sN p36 ⟨(some p36), (.v (.mv (.t p4))), (some (p35, true))⟩
(sN p37 ⟨(some p37), (.v (.mv (.t p0))), (some (p35, true))⟩
(sN p38 ⟨(some p38), (.v (.mv (.t p12))), (some (p35, true))⟩
(sN p39 ⟨(some p39), (.v (.ia 4 (.t p37) (.t p38))), (some (p35, true))⟩
(sN p40 ⟨(some p40), (.v (.ldN 4 (.t p39))), (some (p35, true))⟩
(sN p41 ⟨(some p41), (.v (.mv (.t p0))), (some (p35, true))⟩
(sN p42 ⟨(some p42), (.v (.mv (.t p1))), (some (p35, true))⟩
(sN p43 ⟨(some p43), (.v (.ia 4 (.t p41) (.t p42))), (some (p35, true))⟩
(sN p44 ⟨(some p44), (.v (.ldN 4 (.t p43))), (some (p35, true))⟩
(sE [] [] ⟨(some p45), (.callv (.t p36) [(.t p40), (.t p44)]), (some (p35, true))⟩
(sN p46 ⟨(some p46), (.v (.ar .lss (.t p45) (.c (.int .i64 (.ofNat 0))))), (some (p35, true))⟩
(sN p47 ⟨(some p47), (.v (.pick (.t p35) (.t p46) (.c (.bool false)))), none⟩
sEnd)))))))))))))))))
(dCond (.t p47) dSkip (dExit 0)))
(dBlock 1 (dOps (dV p48 (oMv (.t p12))
(dV p49 (oAr .add (.t p48) (.c (.int .i64 (.ofNat 1))))
(dV p12 (oMv (.t p49))
dE))))))))
(dSeq (dBlock 2 (dLoop (dSeq (dSeq (dDraw (sN p50 ⟨(some p50), (.v (.mv (.t p12))), none⟩
(sN p51 ⟨(some p51), (.v (.mv (.t p13))), none⟩
(sN p52 ⟨(some p52), (.v (.ar .leq (.t p50) (.t p51))), none⟩
(sN p53 ⟨(some p53), (.v (.mv (.t p52))), none⟩
(sN p54 ⟨(some p54), (.v (.mv (.t p4))), (some (p53, true))⟩
(sN p55 ⟨(some p55), (.v (.mv (.t p0))), (some (p53, true))⟩
(sN p56 ⟨(some p56), (.v (.mv (.t p13))), (some (p53, true))⟩
(sN p57 ⟨(some p57), (.v (.ia 4 (.t p55) (.t p56))), (some (p53, true))⟩
(sN p58 ⟨(some p58), (.v (.ldN 4 (.t p57))), (some (p53, true))⟩
(sN p59 ⟨(some p59), (.v (.mv (.t p0))), (some (p53, true))⟩
(sN p60 ⟨(some p60), (.v (.mv (.t p1))), (some (p53, true))⟩
(sN p61 ⟨(some p61), (.v (.ia 4 (.t p59) (.t p60))), (some (p53, true))⟩
(sN p62 ⟨(some p62), (.v (.ldN 4 (.t p61))), (some (p53, true))⟩
(sE [] [] ⟨(some p63), (.callv (.t p54) [(.t p58), (.t p62)]), (some (p53, true))⟩
(sN p64 ⟨(some p64), (.v (.ar .lss (.t p63) (.c (.int .i64 (.ofNat 0))))), (some (p53, true))⟩
(sN p65 ⟨(some p65), (.v (.un .not (.t p64))), (some (p53, true))⟩
(sN p66 ⟨(some p66), (.v (.pick (.t p53) (.t p65) (.c (.bool false)))), none⟩
sEnd))))))))))))))))))
(dCond (.t p66) dSkip (dExit 2)))
(dBlock 3 (dOps (dV p67 (oMv (.t p13))
(dV p68 (oAr .sub (.t p67) (.c (.int .i64 (.ofNat 1))))
(dV p13 (oMv (.t p68))
dE))))))))
(dSeq (dSeq (dOps (dV p69 (oMv (.t p12))
(dV p70 (oMv (.t p13))
(dV p71 (oAr .gtr (.t p69) (.t p70))
dE))))
(dCond (.t p71) (dSeq (dDraw (sN p72 ⟨(some p72), (.v (.mv (.t p0))), none⟩
(sN p73 ⟨(some p73), (.v (.mv (.t p13))), none⟩
(sN p74 ⟨(some p74), (.v (.mv (.t p0))), none⟩
(sN p75 ⟨(some p75), (.v (.mv (.t p1))), none⟩
(sN p76 ⟨(some p76), (.v (.mv (.t p0))), none⟩
(sN p77 ⟨(some p77), (.v (.mv (.t p1))), none⟩
(sN p78 ⟨(some p78), (.v (.ia 4 (.t p76) (.t p77))), none⟩
(sN p79 ⟨(some p79), (.v (.ldN 4 (.t p78))), none⟩
(sN p80 ⟨(some p80), (.v (.mv (.t p0))), none⟩
(sN p81 ⟨(some p81), (.v (.mv (.t p13))), none⟩
(sN p82 ⟨(some p82), (.v (.ia 4 (.t p80) (.t p81))), none⟩
(sN p83 ⟨(some p83), (.v (.ldN 4 (.t p82))), none⟩
(sN p84 ⟨(some p84), (.v (.ia 4 (.t p72) (.t p73))), none⟩
(sE [] [] ⟨none, (.v (.st 4 (.t p84) (.t p79))), none⟩
(sN p85 ⟨(some p85), (.v (.ia 4 (.t p74) (.t p75))), none⟩
(sE [] [] ⟨none, (.v (.st 4 (.t p85) (.t p83))), none⟩
sEnd)))))))))))))))))
(dSeq (dOps (dV p86 (oMv (.t p13))
(dV p10 (oMv (.t p86))
(dV p11 (oMv (.c (.bool true)))
dE))))
dRet)) dSkip))
(dSeq (dDraw (sN p87 ⟨(some p87), (.v (.mv (.t p0))), none⟩
(sN p88 ⟨(some p88), (.v (.mv (.t p12))), none⟩
(sN p89 ⟨(some p89), (.v (.mv (.t p0))), none⟩
(sN p90 ⟨(some p90), (.v (.mv (.t p13))), none⟩
(sN p91 ⟨(some p91), (.v (.mv (.t p0))), none⟩
(sN p92 ⟨(some p92), (.v (.mv (.t p13))), none⟩
(sN p93 ⟨(some p93), (.v (.ia 4 (.t p91) (.t p92))), none⟩
(sN p94 ⟨(some p94), (.v (.ldN 4 (.t p93))), none⟩
(sN p95 ⟨(some p95), (.v (.mv (.t p0))), none⟩
(sN p96 ⟨(some p96), (.v (.mv (.t p12))), none⟩
(sN p97 ⟨(some p97), (.v (.ia 4 (.t p95) (.t p96))), none⟩
(sN p98 ⟨(some p98), (.v (.ldN 4 (.t p97))), none⟩
(sN p99 ⟨(some p99), (.v (.ia 4 (.t p87) (.t p88))), none⟩
(sE [] [] ⟨none, (.v (.st 4 (.t p99) (.t p94))), none⟩
(sN p100 ⟨(some p100), (.v (.ia 4 (.t p89) (.t p90))), none⟩
(sE [] [] ⟨none, (.v (.st 4 (.t p100) (.t p98))), none⟩
sEnd)))))))))))))))))
(dSeq (dOps (dV p101 (oMv (.t p12))
(dV p102 (oAr .add (.t p101) (.c (.int .i64 (.ofNat 1))))
(dV p12 (oMv (.t p102))
dE))))
(dSeq (dOps (dV p103 (oMv (.t p13))
(dV p104 (oAr .sub (.t p103) (.c (.int .i64 (.ofNat 1))))
(dV p13 (oMv (.t p104))
dE))))
(dSeq (dBlock 4 (dLoop (dBlock 5 (dSeq (dBlock 6 (dLoop (dSeq (dSeq (dDraw (sN p105 ⟨(some p105), (.v (.mv (.t p12))), none⟩
(sN p106 ⟨(some p106), (.v (.mv (.t p13))), none⟩
(sN p107 ⟨(some p107), (.v (.ar .leq (.t p105) (.t p106))), none⟩
(sN p108 ⟨(some p108), (.v (.mv (.t p107))), none⟩
(sN p109 ⟨(some p109), (.v (.mv (.t p4))), (some (p108, true))⟩
(sN p110 ⟨(some p110), (.v (.mv (.t p0))), (some (p108, true))⟩
(sN p111 ⟨(some p111), (.v (.mv (.t p12))), (some (p108, true))⟩
(sN p112 ⟨(some p112), (.v (.ia 4 (.t p110) (.t p111))), (some (p108, true))⟩
(sN p113 ⟨(some p113), (.v (.ldN 4 (.t p112))), (some (p108, true))⟩
(sN p114 ⟨(some p114), (.v (.mv (.t p0))), (some (p108, true))⟩
(sN p115 ⟨(some p115), (.v (.mv (.t p1))), (some (p108, true))⟩
(sN p116 ⟨(some p116), (.v (.ia 4 (.t p114) (.t p115))), (some (p108, true))⟩
(sN p117 ⟨(some p117), (.v (.ldN 4 (.t p116))), (some (p108, true))⟩
(sE [] [] ⟨(some p118), (.callv (.t p109) [(.t p113), (.t p117)]), (some (p108, true))⟩
(sN p119 ⟨(some p119), (.v (.ar .lss (.t p118) (.c (.int .i64 (.ofNat 0))))), (some (p108, true))⟩
(sN p120 ⟨(some p120), (.v (.pick (.t p108) (.t p119) (.c (.bool false)))), none⟩
sEnd)))))))))))))))))
(dCond (.t p120) dSkip (dExit 6)))
(dBlock 7 (dOps (dV p121 (oMv (.t p12))
(dV p122 (oAr .add (.t p121) (.c (.int .i64 (.ofNat 1))))
(dV p12 (oMv (.t p122))
dE))))))))
(dSeq (dBlock 8 (dLoop (dSeq (dSeq (dDraw (sN p123 ⟨(some p123), (.v (.mv (.t p12))), none⟩
(sN p124 ⟨(some p124), (.v (.mv (.t p13))), none⟩
(sN p125 ⟨(some p125), (.v (.ar .leq (.t p123) (.t p124))), none⟩
(sN p126 ⟨(some p126), (.v (.mv (.t p125))), none⟩
(sN p127 ⟨(some p127), (.v (.mv (.t p4))), (some (p126, true))⟩
(sN p128 ⟨(some p128), (.v (.mv (.t p0))), (some (p126, true))⟩
(sN p129 ⟨(some p129), (.v (.mv (.t p13))), (some (p126, true))⟩
(sN p130 ⟨(some p130), (.v (.ia 4 (.t p128) (.t p129))), (some (p126, true))⟩
(sN p131 ⟨(some p131), (.v (.ldN 4 (.t p130))), (some (p126, true))⟩
(sN p132 ⟨(some p132), (.v (.mv (.t p0))), (some (p126, true))⟩
(sN p133 ⟨(some p133), (.v (.mv (.t p1))), (some (p126, true))⟩
(sN p134 ⟨(some p134), (.v (.ia 4 (.t p132) (.t p133))), (some (p126, true))⟩
(sN p135 ⟨(some p135), (.v (.ldN 4 (.t p134))), (some (p126, true))⟩
(sE [] [] ⟨(some p136), (.callv (.t p127) [(.t p131), (.t p135)]), (some (p126, true))⟩
(sN p137 ⟨(some p137), (.v (.ar .lss (.t p136) (.c (.int .i64 (.ofNat 0))))), (some (p126, true))⟩
(sN p138 ⟨(some p138), (.v (.un .not (.t p137))), (some (p126, true))⟩
(sN p139 ⟨(some p139), (.v (.pick (.t p126) (.t p138) (.c (.bool false)))), none⟩
sEnd))))))))))))))))))
(dCond (.t p139) dSkip (dExit 8)))
(dBlock 9 (dOps (dV p140 (oMv (.t p13))
(dV p141 (oAr .sub (.t p140) (.c (.int .i64 (.ofNat 1))))
(dV p13 (oMv (.t p141))
dE))))))))
(dSeq (dSeq (dOps (dV p142 (oMv (.t p12))
(dV p143 (oMv (.t p13))
(dV p144 (oAr .gtr (.t p142) (.t p143))
dE))))
(dCond (.t p144) (dExit 4) dSkip))
(dSeq (dDraw (sN p145 ⟨(some p145), (.v (.mv (.t p0))), none⟩
(sN p146 ⟨(some p146), (.v (.mv (.t p12))), none⟩
(sN p147 ⟨(some p147), (.v (.mv (.t p0))), none⟩
(sN p148 ⟨(some p148), (.v (.mv (.t p13))), none⟩
(sN p149 ⟨(some p149), (.v (.mv (.t p0))), none⟩
(sN p150 ⟨(some p150), (.v (.mv (.t p13))), none⟩
(sN p151 ⟨(some p151), (.v (.ia 4 (.t p149) (.t p150))), none⟩
(sN p152 ⟨(some p152), (.v (.ldN 4 (.t p151))), none⟩
(sN p153 ⟨(some p153), (.v (.mv (.t p0))), none⟩
(sN p154 ⟨(some p154), (.v (.mv (.t p12))), none⟩
(sN p155 ⟨(some p155), (.v (.ia 4 (.t p153) (.t p154))), none⟩
(sN p156 ⟨(some p156), (.v (.ldN 4 (.t p155))), none⟩
(sN p157 ⟨(some p157), (.v (.ia 4 (.t p145) (.t p146))), none⟩
(sE [] [] ⟨none, (.v (.st 4 (.t p157) (.t p152))), none⟩
(sN p158 ⟨(some p158), (.v (.ia 4 (.t p147) (.t p148))), none⟩
(sE [] [] ⟨none, (.v (.st 4 (.t p158) (.t p156))), none⟩
sEnd)))))))))))))))))
(dSeq (dOps (dV p159 (oMv (.t p12))
(dV p160 (oAr .add (.t p159) (.c (.int .i64 (.ofNat 1))))
(dV p12 (oMv (.t p160))
dE))))
(dOps (dV p161 (oMv (.t p13))
(dV p162 (oAr .sub (.t p161) (.c (.int .i64 (.ofNat 1))))
(dV p13 (oMv (.t p162))
dE))))))))))))
(dSeq (dDraw (sN p163 ⟨(some p163), (.v (.mv (.t p0))), none⟩
(sN p164 ⟨(some p164), (.v (.mv (.t p13))), none⟩
(sN p165 ⟨(some p165), (.v (.mv (.t p0))), none⟩
(sN p166 ⟨(some p166), (.v (.mv (.t p1))), none⟩
(sN p167 ⟨(some p167), (.v (.mv (.t p0))), none⟩
(sN p168 ⟨(some p168), (.v (.mv (.t p1))), none⟩
(sN p169 ⟨(some p169), (.v (.ia 4 (.t p167) (.t p168))), none⟩
(sN p170 ⟨(some p170), (.v (.ldN 4 (.t p169))), none⟩
(sN p171 ⟨(some p171), (.v (.mv (.t p0))), none⟩
(sN p172 ⟨(some p172), (.v (.mv (.t p13))), none⟩
(sN p173 ⟨(some p173), (.v (.ia 4 (.t p171) (.t p172))), none⟩
(sN p174 ⟨(some p174), (.v (.ldN 4 (.t p173))), none⟩
(sN p175 ⟨(some p175), (.v (.ia 4 (.t p163) (.t p164))), none⟩
(sE [] [] ⟨none, (.v (.st 4 (.t p175) (.t p170))), none⟩
(sN p176 ⟨(some p176), (.v (.ia 4 (.t p165) (.t p166))), none⟩
(sE [] [] ⟨none, (.v (.st 4 (.t p176) (.t p174))), none⟩
sEnd)))))))))))))))))
(dSeq (dOps (dV p177 (oMv (.t p13))
(dV p10 (oMv (.t p177))
(dV p11 (oMv (.c (.bool false)))
dE))))
dRet)))))))))))), [(.t p10), (.t p11)]⟩
def af391 : AF := ⟨(dSeq (dOps (dV p3 (oBox 26 (.t p0))
(dV p6 (oNew [(.int .i64 (.ofNat 0)), (.int .i64 (.ofNat 0)), (.bool false), (.str []), .nils, .nils] 26)
(dV p7 (oMv (.c (.int .i64 (.ofNat 0))))
dE))))
(dSeq (dSeq (dOps (dV p9 (oLdN 6 (.t p3))
(dC (some p10) p60 [(.t p9)]
(dV p8 (oMv (.t p10))
dE))))
(dSeq (dOps (dV p11 (oMv (.t p8))
(dV p12 (oAr .neq (.t p11) (.c (.int .i64 (.ofNat 0))))
dE)))
(dCond (.t p12) (dSeq (dOps (dV p13 (oBuild [(.int .i64 (.ofNat 0)), (.int .i64 (.ofNat 0)), (.bool false), (.str []), .nils, .nils] [])
(dV p14 (oMv (.t p8))
(dU (oSt 6 (.t p6) (.t p13))
(dV p7 (oMv (.t p14))
dE)))))
dRet) dSkip)))
(dSeq (dSeq (dOps (dV p15 (oMv (.t p1))
(dV p16 (oAr .lss (.t p15) (.c (.int .i64 (.ofNat 0))))
(dV p17 (oMv (.t p16))
(dG p17 false (some p18) (dV p18 (oMv (.t p1)))
(dG p17 false (some p19) (dV p19 (oAr .gtr (.t p18) (.c (.int .i64 (.ofNat 1048576)))))
(dV p20 (oPick (.t p17) (.c (.bool true)) (.t p19))
(dV p21 (oMv (.t p20))
(dG p21 false (some p22) (dV p22 (oMv (.t p2)))
(dG p21 false (some p23) (dV p23 (oAr .lss (.t p22) (.c (.int .i64 (.ofNat 0)))))
(dV p24 (oPick (.t p21) (.c (.bool true)) (.t p23))
(dV p25 (oMv (.t p24))
(dG p25 false (some p26) (dV p26 (oMv (.t p2)))
(dG p25 false (some p27) (dV p27 (oAr .gtr (.t p26) (.c (.int .i64 (.ofNat 1048576)))))
(dV p28 (oPick (.t p25) (.c (.bool true)) (.t p27))
dE)))))))))))))))
(dCond (.t p28) (dSeq (dOps (dV p29 (oBuild [(.int .i64 (.ofNat 0)), (.int .i64 (.ofNat 0)), (.bool false), (.str []), .nils, .nils] [])
(dU (oSt 6 (.t p6) (.t p29))
(dV p7 (oMv (.c (.int .i64 (.ofNat 1))))
dE))))
dRet) dSkip))
(dSeq (dOps (dV p30 (oLdN 6 (.t p3))
(dV p31 (oBuild [(.int .i64 (.ofNat 0)), (.int .i64 (.ofNat 0))] [])
(dV p32 (oMv (.t p1))
(dV p33 (oMv (.t p2))
(dV p34 (oBuild [(.int .i64 (.ofNat 0)), (.int .i64 (.ofNat 0))] [(0, 1, (.t p32)), (1, 1, (.t p33))])
(dV p35 (oMkf 399 [(.t p34)] [])
(dC (some p36) p66 [(.t p30), (.t p31), (.t p35), (.c (.fn (.func 68) [] []))]
(dV p37 (oExt (.t p36) 0)
(dV p38 (oExt (.t p36) 1)
(dC (some p39) p297 [(.t p37), (.t p38)]
(dV p40 (oExt (.t p39) 0)
(dV p41 (oExt (.t p39) 1)
(dU (oSt 6 (.t p6) (.t p40))
(dV p7 (oMv (.t p41))
dE)))))))))))))))
dRet)))), [(.cN p6 6), (.t p7)]⟩
def af392 : AF := ⟨(dSeq (dOps (dV p3 (oBox 163 (.t p0))
(dV p4 (oBox 174 (.t p1))
(dV p5 (oBox 464 (.t p2))
(dV p6 (oNew [(.int .i64 (.ofNat 0)), (.int .i64 (.ofNat 0)), (.bool false), (.str []), .nils, .nils] 26)
dE)))))
(dSeq (dOps (dV p9 (oFa 17 (.t p3))
(dV p10 (oLd1 (.t p9))
(dV p11 (oLen (.t p10))
(dV p12 (oFa 0 (.t p4))
(dV p13 (oLd1 (.t p12))
(dV p14 (oAr .add (.t p11) (.t p13))
(dV p7 (oNew [(.int .i64 (.ofNat 0))] 3)
(dU (oSt 1 (.t p7) (.t p14))
dE)))))))))
(dSeq (dOps (dV p15 (oFa 0 (.t p5))
(dV p16 (oLd1 (.t p15))
(dV p17 (oLd1 (.t p7))
(dV p18 (oIa 1 (.t p16) (.t p17))
(dV p19 (oLd1 (.t p18))
(dV p8 (oNew [(.int .i64 (.ofNat 0))] 3)
(dU (oSt 1 (.t p8) (.t p19))
dE))))))))
(dSeq (dDraw (sN p20 ⟨(some p20), (.v (.ldN 2 (.t p5))), none⟩
(sN p21 ⟨(some p21), (.v (.ld1 (.t p7))), none⟩
(sN p23 ⟨(some p23), (.v (.fa 1 (.t p4))), none⟩
(sN p24 ⟨(some p24), (.v (.ld1 (.t p23))), none⟩
(sN p25 ⟨(some p25), (.v (.mkf 401 [] [(.t p8), (.t p7), (.t p3), (.t p4)])), none⟩
(sE [] [(p24, ⟨(some p24), (.v (.ld1 (.t p23))), none⟩)] ⟨(some p22), (.call p400 [(.t p20), (.t p21)]), none⟩
(sE [] [] ⟨(some p26), (.call p323 [(.t p22), (.t p24), (.t p25)]), none⟩
(sE [] [] ⟨none, (.v (.st 6 (.t p6) (.t p26))), none⟩
sEnd)))))))))
dRet)))), [(.cN p6 6)]⟩
def af393 : AF := ⟨(dSeq (dOps (dV p2 (oBox 464 (.t p0))
(dV p4 (oMv (.c .nils))
dE)))
(dSeq (dOps (dV p5 (oMv (.t p1))
(dV p6 (oLdN 2 (.t p2))
(dV p7 (oMkf 352 [(.t p6)] [])
(dC (some p8) p280 [(.t p5), (.t p7)]
(dV p4 (oMv (.t p8))
dE))))))
dRet)), [(.t p4)]⟩
def af394 : AF := ⟨(dSeq (dOps (dV p3 (oBox 36 (.t p1))
(dV p4 (oMv (.c .nilp))
dE)))
(dSeq (dSeq (dDraw (sN p9 ⟨(some p9), (.v (.mv (.t p0))), none⟩
(sN p10 ⟨(some p10), (.v (.nchk (.t p9))), none⟩
(sN p11 ⟨(some p11), (.v (.fa 6 (.t p10))), none⟩
(sN p12 ⟨(some p12), (.v (.ld1 (.t p11))), none⟩
(sN p13 ⟨(some p13), (.v (.fa 1 (.t p3))), none⟩
(sN p14 ⟨(some p14), (.v (.ld1 (.t p13))), none⟩
(sN p15 ⟨(some p15), (.v (.lk .nilp false (.t p12) (.t p14))), none⟩
(sN p16 ⟨(some p16), (.v (.eq .p false (.t p15) (.c .nilp))), none⟩
sEnd)))))))))
(dCond (.t p16) (dSeq (dOps (dV p18 (oLdN 17 (.t p3))
(dC (some p19) p51 [(.t p18)]
(dV p17 (oMv (.t p19))
(dV p20 (oExt (.t p17) 0)
(dV p21 (oExt (.t p17) 1)
(dV p22 (oExt (.t p17) 2)
(dV p23 (oExt (.t p17) 3)
(dV p7 (oNew [(.int .i64 (.ofNat 0)), .nils] 49)
(dV p5 (oMv (.t p20))
(dV p6 (oMv (.t p21))
(dU (oSt 2 (.t p7) (.t p22))
(dV p8 (oMv (.t p23))
dE)))))))))))))
(dDraw (sN p24 ⟨(some p24), (.v (.mv (.t p0))), none⟩
(sN p25 ⟨(some p25), (.v (.nchk (.t p24))), none⟩
(sN p26 ⟨(some p26), (.v (.fa 6 (.t p25))), none⟩
(sN p27 ⟨(some p27), (.v (.ld1 (.t p26))), none⟩
(sN p28 ⟨(some p28), (.v (.fa 1 (.t p3))), none⟩
(sN p29 ⟨(some p29), (.v (.ld1 (.t p28))), none⟩
(sN p30 ⟨(some p30), (.v (.ldN 17 (.t p3))), none⟩
(sN p31 ⟨(some p31), (.v (.mv (.t p8))), none⟩
(sN p32 ⟨(some p32), (.v (.ar .eql (.t p31) (.c (.int .i64 (.ofNat 0))))), none⟩
(sN p33 ⟨(some p33), (.v (.mv (.t p5))), none⟩
(sN p34 ⟨(some p34), (.v (.len (.t p33))), none⟩
(sN p35 ⟨(some p35), (.v (.mv (.t p6))), none⟩
(sN p36 ⟨(some p36), (.v (.len (.t p35))), none⟩
(sN p37 ⟨(some p37), (.v (.fa 16 (.t p3))), none⟩
(sN p38 ⟨(some p38), (.v (.ld1 (.t p37))), none⟩
(sN p39 ⟨(some p39), (.v (.len (.t p38))), none⟩
(sE [] [(p27, ⟨(some p27), (.v (.ld1 (.t p26))), none⟩), (p29, ⟨(some p29), (.v (.ld1 (.t p28))), none⟩), (p30, ⟨(some p30), (.v (.ldN 17 (.t p3))), none⟩)] ⟨(some p40), (.v (.mkS 501 1 [.nilp] (.t p39) (.t p39))), none⟩
(sN p41 ⟨(some p41), (.v (.build [(.int .i64 (.ofNat 0)), (.str []), (.int .i64 (.ofNat 0)), (.int .i64 (.ofNat 0)), (.int .i64 (.ofNat 0)), (.bool false), (.str []), .nils, .nils, (.int .i64 (.ofNat 0)), (.int .i64 (.ofNat 0)), (.bool false), (.str []), .nils, .nils, (.int .i64 (.ofNat 0)), .nils, (.bool false), (.int .i64 (.ofNat 0)), (.int .i64 (.ofNat 0)), .nils] [(0, 17, (.t p30)), (17, 1, (.t p32)), (18, 1, (.t p34)), (19, 1, (.t p36)), (20, 1, (.t p40))])), none⟩
(sA 18 p42 (.box 500 (.t p41))
(sE [18] [] ⟨none, (.v (.up (.t p27) (.t p29) (.t p42))), none⟩
sEnd)))))))))))))))))))))) dSkip))
(dSeq (dDraw (sN p43 ⟨(some p43), (.v (.mv (.t p0))), none⟩
(sN p44 ⟨(some p44), (.v (.nchk (.t p43))), none⟩
(sN p45 ⟨(some p45), (.v (.fa 6 (.t p44))), none⟩
(sN p46 ⟨(some p46), (.v (.ld1 (.t p45))), none⟩
(sN p47 ⟨(some p47), (.v (.fa 1 (.t p3))), none⟩
(sN p48 ⟨(some p48), (.v (.ld1 (.t p47))), none⟩
(sN p49 ⟨(some p49), (.v (.lk .nilp false (.t p46) (.t p48))), none⟩
(sN p4 ⟨(some p4), (.v (.mv (.t p49))), none⟩
sEnd)))))))))
dRet))), [(.t p4)]⟩
def af395 : AF := ⟨(dSeq (dOps (dV p2 (oBox 506 (.t p0))
(dV p4 (oMv (.c .nils))
(dV p5 (oMv (.c .nils))
dE))))
(dSeq (dDraw (sN p9 ⟨(some p9), (.v (.fa 7 (.t p2))), none⟩
(sN p10 ⟨(some p10), (.v (.ld1 (.t p9))), none⟩
(sN p11 ⟨(some p11), (.v (.nchk (.t p10))), none⟩
(sN p12 ⟨(some p12), (.v (.fa 2 (.t p11))), none⟩
(sN p13 ⟨(some p13), (.v (.ld1 (.t p12))), none⟩
(sN p14 ⟨(some p14), (.v (.mv (.t p1))), none⟩
(sN p15 ⟨(some p15), (.v (.ia 6 (.t p13) (.t p14))), none⟩
(sN p16 ⟨(some p16), (.v (.ldN 6 (.t p15))), none⟩
(sN p17 ⟨(some p17), (.v (.fa 0 (.t p2))), none⟩
(sN p18 ⟨(some p18), (.v (.fa 4 (.t p17))), none⟩
(sN p19 ⟨(some p19), (.v (.ld1 (.t p18))), none⟩
(sA 12 p6 (.new [(.int .i64 (.ofNat 0)), (.int .i64 (.ofNat 0)), (.bool false), (.str []), .nils, .nils] 26)
(sE [] [] ⟨(some p20), (.call p366 [(.t p16), (.t p19)]), none⟩
(sE [12] [] ⟨none, (.v (.st 6 (.t p6) (.t p20))), none⟩
sEnd)))))))))))))))
(dSeq (dDraw (sN p21 ⟨(some p21), (.v (.ldN 6 (.t p6))), none⟩
(sN p22 ⟨(some p22), (.v (.mv (.t p1))), none⟩
(sN p23 ⟨(some p23), (.v (.fa 6 (.t p2))), none⟩
(sN p24 ⟨(some p24), (.v (.ld1 (.t p23))), none⟩
(sN p26 ⟨(some p26), (.v (.fa 6 (.t p2))), none⟩
(sN p27 ⟨(some p27), (.v (.ld1 (.t p26))), none⟩
(sN p28 ⟨(some p28), (.v (.nchk (.t p27))), none⟩
(sN p29 ⟨(some p29), (.v (.fa 18 (.t p28))), none⟩
(sN p30 ⟨(some p30), (.v (.ld1 (.t p29))), none⟩
(sE [] [(p21, ⟨(some p21), (.v (.ldN 6 (.t p6))), none⟩), (p27, ⟨(some p27), (.v (.ld1 (.t p26))), none⟩), (p30, ⟨(some p30), (.v (.ld1 (.t p29))), none⟩)] ⟨(some p25), (.call p367 [(.t p24)]), none⟩
(sN p31 ⟨(some p31), (.v (.ar .sub (.t p25) (.t p30))), none⟩
(sE [] [] ⟨(some p32), (.call p402 [(.t p21), (.t p22), (.t p31)]), none⟩
(sE [] [] ⟨none, (.v (.st 6 (.t p6) (.t p32))), none⟩
sEnd))))))))))))))
(dSeq (dDraw (sN p33 ⟨(some p33), (.v (.ldN 6 (.t p6))), none⟩
(sN p34 ⟨(some p34), (.v (.fa 7 (.t p2))), none⟩
(sN p35 ⟨(some p35), (.v (.ld1 (.t p34))), none⟩
(sN p36 ⟨(some p36), (.v (.nchk (.t p35))), none⟩
(sN p37 ⟨(some p37), (.v (.fa 2 (.t p36))), none⟩
(sN p38 ⟨(some p38), (.v (.ld1 (.t p37))), none⟩
(sN p39 ⟨(some p39), (.v (.len (.t p38))), none⟩
(sN p40 ⟨(some p40), (.v (.mv (.t p1))), none⟩
(sN p41 ⟨(some p41), (.v (.ar .sub (.t p39) (.t p40))), none⟩
(sE [] [] ⟨(some p42), (.call p402 [(.t p33), (.c (.int .i64 (.ofNat 0))), (.t p41)]), none⟩
(sE [] [] ⟨none, (.v (.st 6 (.t p6) (.t p42))), none⟩
sEnd))))))))))))
(dSeq (dOps (dV p7 (oMv (.c (.int .i64 (.ofNat 0))))
dE))
(dSeq (dSeq (dOps (dV p43 (oLdN 6 (.t p6))
(dV p8 (oNew [(.int .i64 (.ofNat 0)), (.int .i64 (.ofNat 0)), (.bool false), (.str []), .nils, .nils] 26)
(dU (oSt 6 (.t p8) (.t p43))
dE))))
(dBlock 0 (dLoop (dSeq (dSeq (dOps (dV p44 (oFa 0 (.t p8))
(dV p45 (oLd1 (.t p44))
(dV p46 (oAr .eql (.t p45) (.c (.int .i64 (.ofNat 3))))
dE))))
(dCond (.t p46) dSkip (dExit 0)))
(dSeq (dBlock 1 (dOps (dV p51 (oMv (.t p7))
(dV p52 (oAr .add (.t p51) (.c (.int .i64 (.ofNat 1))))
(dV p7 (oMv (.t p52))
dE)))))
(dSeq (dSeq (dOps (dV p53 (oLdN 6 (.t p8))
dE))
(dOps (dV p8 (oNew [(.int .i64 (.ofNat 0)), (.int .i64 (.ofNat 0)), (.bool false), (.str []), .nils, .nils] 26)
(dU (oSt 6 (.t p8) (.t p53))
dE))))
(dOps (dV p47 (oFa 5 (.t p8))
(dV p48 (oLd1 (.t p47))
(dV p49 (oIa 6 (.t p48) (.c (.int .i64 (.ofNat 1))))
(dV p50 (oLdN 6 (.t p49))
(dU (oSt 6 (.t p8) (.t p50))
dE))))))))))))
(dSeq (dOps (dV p55 (oLdN 6 (.t p6))
(dV p56 (oMv (.t p7))
(dC (some p57) p186 [(.t p55), (.t p56)]
(dV p54 (oMv (.t p57))
(dV p58 (oExt (.t p54) 0)
(dV p59 (oExt (.t p54) 1)
(dV p60 (oExt (.t p54) 2)
(dV p61 (oExt (.t p54) 3)
(dV p4 (oMv (.t p58))
(dU (oSt 6 (.t p6) (.t p60))
dE)))))))))))
(dSeq (dOps (dV p63 (oLdN 6 (.t p6))
(dC (some p64) p242 [(.t p63)]
(dV p62 (oMv (.t p64))
(dV p65 (oExt (.t p62) 0)
(dV p66 (oExt (.t p62) 1)
(dV p67 (oExt (.t p62) 2)
(dV p5 (oMv (.t p66))
dE))))))))
(dSeq (dDraw (sN p68 ⟨(some p68), (.v (.mv (.t p4))), none⟩
(sN p69 ⟨(some p69), (.v (.mv (.t p5))), none⟩
(sN p70 ⟨(some p70), (.v (.fa 6 (.t p2))), none⟩
(sN p71 ⟨(some p71), (.v (.ld1 (.t p70))), none⟩
(sN p72 ⟨(some p72), (.v (.nchk (.t p71))), none⟩
(sN p73 ⟨(some p73), (.v (.fa 18 (.t p72))), none⟩
(sN p74 ⟨(some p74), (.v (.ld1 (.t p73))), none⟩
(sN p75 ⟨(some p75), (.v (.sl 6 (.t p69) (some (.t p74)) none none)), none⟩
(sE [] [(p71, ⟨(some p71), (.v (.ld1 (.t p70))), none⟩), (p74, ⟨(some p74), (.v (.ld1 (.t p73))), none⟩)] ⟨(some p4), (.v (.mv (.t p68))), none⟩
(sE [] [] ⟨(some p5), (.v (.mv (.t p75))), none⟩
sEnd)))))))))))
dRet))))))))), [(.t p4), (.t p5)]⟩
def af396 : AF := ⟨(dSeq (dOps (dV p12 (oMv (.t p1))
(dV p10 (oMv (.t p12))
dE)))
(dBlock 0 (dLoop (dBlock 1 (dSeq (dOps (dV p13 (oMv (.t p10))
(dV p14 (oAr .mul (.c (.int .i64 (.ofNat 2))) (.t p13))
(dV p15 (oAr .add (.t p14) (.c (.int .i64 (.ofNat 1))))
(dV p11 (oMv (.t p15))
dE)))))
(dSeq (dSeq (dOps (dV p16 (oMv (.t p11))
(dV p17 (oMv (.t p2))
(dV p18 (oAr .geq (.t p16) (.t p17))
dE))))
(dCond (.t p18) (dExit 0) dSkip))
(dSeq (dSeq (dDraw (sN p19 ⟨(some p19), (.v (.mv (.t p11))), none⟩
(sN p20 ⟨(some p20), (.v (.ar .add (.t p19) (.c (.int .i64 (.ofNat 1))))), none⟩
(sN p21 ⟨(some p21), (.v (.mv (.t p2))), none⟩
(sN p22 ⟨(some p22), (.v (.ar .lss (.t p20) (.t p21))), none⟩
(sN p23 ⟨(some p23), (.v (.mv (.t p22))), none⟩
(sN p24 ⟨(some p24), (.v (.mv (.t p4))), (some (p23, true))⟩
(sN p25 ⟨(some p25), (.v (.mv (.t p0))), (some (p23, true))⟩
(sN p26 ⟨(some p26), (.v (.mv (.t p3))), (some (p23, true))⟩
(sN p27 ⟨(some p27), (.v (.mv (.t p11))), (some (p23, true))⟩
(sN p28 ⟨(some p28), (.v (.ar .add (.t p26) (.t p27))), (some (p23, true))⟩
(sN p29 ⟨(some p29), (.v (.ia 4 (.t p25) (.t p28))), (some (p23, true))⟩
(sN p30 ⟨(some p30), (.v (.ldN 4 (.t p29))), (some (p23, true))⟩
(sN p31 ⟨(some p31), (.v (.mv (.t p0))), (some (p23, true))⟩
(sN p32 ⟨(some p32), (.v (.mv (.t p3))), (some (p23, true))⟩
(sN p33 ⟨(some p33), (.v (.mv (.t p11))), (some (p23, true))⟩
(sN p34 ⟨(some p34), (.v (.ar .add (.t p32) (.t p33))), (some (p23, true))⟩
(sN p35 ⟨(some p35), (.v (.ar .add (.t p34) (.c (.int .i64 (.ofNat 1))))), (some (p23, true))⟩
(sN p36 ⟨(some p36), (.v (.ia 4 (.t p31) (.t p35))), (some (p23, true))⟩
(sN p37 ⟨(some p37), (.v (.ldN 4 (.t p36))), (some (p23, true))⟩
(sE [] [] ⟨(some p38), (.callv (.t p24) [(.t p30), (.t p37)]), (some (p23, true))⟩
(sN p39 ⟨(some p39), (.v (.ar .lss (.t p38) (.c (.int .i64 (.ofNat 0))))), (some (p23, true))⟩
(sN p40 ⟨(some p40), (.v (.pick (.t p23) (.t p39) (.c (.bool false)))), none⟩
sEnd)))))))))))))))))))))))
(dCond (.t p40) (dOps (dV p41 (oMv (.t p11))
(dV p42 (oAr .add (.t p41) (.c (.int .i64 (.ofNat 1))))
(dV p11 (oMv (.t p42))
dE)))) dSkip))
(dSeq (dSeq (dDraw (sN p43 ⟨(some p43), (.v (.mv (.t p4))), none⟩
(sN p44 ⟨(some p44), (.v (.mv (.t p0))), none⟩
(sN p45 ⟨(some p45), (.v (.mv (.t p3))), none⟩
(sN p46 ⟨(some p46), (.v (.mv (.t p10))), none⟩
(sN p47 ⟨(some p47), (.v (.ar .add (.t p45) (.t p46))), none⟩
(sN p48 ⟨(some p48), (.v (.ia 4 (.t p44) (.t p47))), none⟩
(sN p49 ⟨(some p49), (.v (.ldN 4 (.t p48))), none⟩
(sN p50 ⟨(some p50), (.v (.mv (.t p0))), none⟩
(sN p51 ⟨(some p51), (.v (.mv (.t p3))), none⟩
(sN p52 ⟨(some p52), (.v (.mv (.t p11))), none⟩
(sN p53 ⟨(some p53), (.v (.ar .add (.t p51) (.t p52))), none⟩
(sN p54 ⟨(some p54), (.v (.ia 4 (.t p50) (.t p53))), none⟩
(sN p55 ⟨(some p55), (.v (.ldN 4 (.t p54))), none⟩
(sE [] [] ⟨(some p56), (.callv (.t p43) [(.t p49), (.t p55)]), none⟩
(sN p57 ⟨(some p57), (.v (.ar .lss (.t p56) (.c (.int .i64 (.ofNat 0))))), none⟩
(sN p58 ⟨(some p58), (.v (.un .not (.t p57))), none⟩
sEnd)))))))))))))))))
(dCond (.t p58) dRet dSkip))
(dSeq (dDraw (sN p59 ⟨(some p59), (.v (.mv (.t p0))), none⟩
(sN p60 ⟨(some p60), (.v (.mv (.t p3))), none⟩
(sN p61 ⟨(some p61), (.v (.mv (.t p10))), none⟩
(sN p62 ⟨(some p62), (.v (.ar .add (.t p60) (.t p61))), none⟩
(sN p63 ⟨(some p63), (.v (.mv (.t p0))), none⟩
(sN p64 ⟨(some p64), (.v (.mv (.t p3))), none⟩
(sN p65 ⟨(some p65), (.v (.mv (.t p11))), none⟩
(sN p66 ⟨(some p66), (.v (.ar .add (.t p64) (.t p65))), none⟩
(sN p67 ⟨(some p67), (.v (.mv (.t p0))), none⟩
(sN p68 ⟨(some p68), (.v (.mv (.t p3))), none⟩
(sN p69 ⟨(some p69), (.v (.mv (.t p11))), none⟩
(sN p70 ⟨(some p70), (.v (.ar .add (.t p68) (.t p69))), none⟩
(sN p71 ⟨(some p71), (.v (.ia 4 (.t p67) (.t p70))), none⟩
(sN p72 ⟨(some p72), (.v (.ldN 4 (.t p71))), none⟩
(sN p73 ⟨(some p73), (.v (.mv (.t p0))), none⟩
(sN p74 ⟨(some p74), (.v (.mv (.t p3))), none⟩
(sN p75 ⟨(some p75), (.v (.mv (.t p10))), none⟩
(sN p76 ⟨(some p76), (.v (.ar .add (.t p74) (.t p75))), none⟩
(sN p77 ⟨(some p77), (.v (.ia 4 (.t p73) (.t p76))), none⟩
(sN p78 ⟨(some p78), (.v (.ldN 4 (.t p77))), none⟩
(sN p79 ⟨(some p79), (.v (.ia 4 (.t p59) (.t p62))), none⟩
(sE [] [] ⟨none, (.v (.st 4 (.t p79) (.t p72))), none⟩
(sN p80 ⟨(some p80), (.v (.ia 4 (.t p63) (.t p66))), none⟩
(sE [] [] ⟨none, (.v (.st 4 (.t p80) (.t p78))), none⟩
sEnd)))))))))))))))))))))))))
(dOps (dV p81 (oMv (.t p11))
(dV p10 (oMv (.t p81))
dE)))))))))))), []⟩
def af397 : AF := ⟨(dSeq (dOps (dV p8 (oMv (.c (.int .i64 (.ofNat 0))))
dE))
(dSeq (dOps (dV p9 (oMv (.t p0))
(dV p10 (oMv (.t p1))
(dV p11 (oAr .sub (.t p10) (.c (.int .i64 (.ofNat 1))))
(dV p12 (oMv (.t p1))
(dV p13 (oMv (.t p1))
(dV p14 (oAr .add (.t p13) (.c (.int .i64 (.ofNat 1))))
(dV p15 (oMv (.t p2))
(dV p16 (oMv (.t p3))
(dC (some p17) p398 [(.t p9), (.t p11), (.t p12), (.t p14), (.t p15), (.t p16)]
(dV p8 (oMv (.t p17))
dE)))))))))))
dRet)), [(.t p8)]⟩
def af398 : AF := ⟨(dSeq (dOps (dV p12 (oMv (.c (.int .i64 (.ofNat 0))))
dE))
(dSeq (dOps (dV p14 (oMv (.t p0))
(dV p15 (oMv (.t p1))
(dV p16 (oMv (.t p2))
(dV p17 (oMv (.t p4))
(dV p18 (oMv (.t p5))
(dC (some p19) p403 [(.t p14), (.t p15), (.t p16), (.t p17), (.t p18)]
(dV p13 (oMv (.t p19))
(dV p20 (oExt (.t p13) 0)
(dV p21 (oExt (.t p13) 1)
(dV p1 (oMv (.t p20))
(dV p2 (oMv (.t p21))
dE))))))))))))
(dSeq (dOps (dV p23 (oMv (.t p0))
(dV p24 (oMv (.t p2))
(dV p25 (oMv (.t p3))
(dV p26 (oMv (.t p4))
(dV p27 (oMv (.t p5))
(dC (some p28) p403 [(.t p23), (.t p24), (.t p25), (.t p26), (.t p27)]
(dV p22 (oMv (.t p28))
(dV p29 (oExt (.t p22) 0)
(dV p30 (oExt (.t p22) 1)
(dV p2 (oMv (.t p29))
(dV p3 (oMv (.t p30))
dE))))))))))))
(dSeq (dOps (dV p32 (oMv (.t p0))
(dV p33 (oMv (.t p1))
(dV p34 (oMv (.t p2))
(dV p35 (oMv (.t p4))
(dV p36 (oMv (.t p5))
(dC (some p37) p403 [(.t p32), (.t p33), (.t p34), (.t p35), (.t p36)]
(dV p31 (oMv (.t p37))
(dV p38 (oExt (.t p31) 0)
(dV p39 (oExt (.t p31) 1)
(dV p1 (oMv (.t p38))
(dV p2 (oMv (.t p39))
dE))))))))))))
(dSeq (dOps (dV p40 (oMv (.t p2))
(dV p12 (oMv (.t p40))
dE)))
dRet))))), [(.t p12)]⟩
def af399 : AF := ⟨(dSeq (dOps (dV p3 (oBox 528 (.t p0))
(dV p4 (oBox 26 (.t p1))
(dV p5 (oBox 130 (.t p2))
(dV p6 (oNew [(.int .i64 (.ofNat 0)), (.int .i64 (.ofNat 0)), (.bool false), (.str []), .nils, .nils] 26)
(dV p7 (oMv (.c (.int .i64 (.ofNat 0))))
dE))))))
(dSeq (dOps (dV p9 (oLdN 6 (.t p4))
(dC (some p10) p101 [(.t p9)]
(dV p8 (oNew [(.int .i64 (.ofNat 0)), (.int .i64 (.ofNat 0)), (.bool false), (.str []), .nils, .nils] 26)
(dU (oSt 6 (.t p8) (.t p10))
dE)))))
(dSeq (dSeq (dOps (dV p11 (oFa 0 (.t p4))
(dV p12 (oLd1 (.t p11))
(dV p13 (oAr .eql (.t p12) (.c (.int .i64 (.ofNat 1))))
(dV p14 (oMv (.t p13))
(dG p14 true (some p15) (dV p15 (oFa 1 (.t p4)))
(dG p14 true (some p16) (dV p16 (oLd1 (.t p15)))
(dG p14 true (some p17) (dV p17 (oFa 0 (.t p5)))
(dG p14 true (some p18) (dV p18 (oLd1 (.t p17)))
(dG p14 true (some p19) (dV p19 (oAr .sub (.t p16) (.t p18)))
(dG p14 true (some p20) (dV p20 (oFa 0 (.t p3)))
(dG p14 true (some p21) (dV p21 (oLd1 (.t p20)))
(dG p14 true (some p22) (dV p22 (oAr .geq (.t p19) (.t p21)))
(dV p23 (oPick (.t p14) (.t p22) (.c (.bool false)))
dE))))))))))))))
(dCond (.t p23) (dOps (dV p24 (oFa 1 (.t p8))
(dV p25 (oLd1 (.t p24))
(dV p26 (oFa 1 (.t p3))
(dV p27 (oLd1 (.t p26))
(dV p28 (oAr .add (.t p25) (.t p27))
(dV p29 (oFa 1 (.t p8))
(dU (oSt 1 (.t p29) (.t p28))
dE)))))))) dSkip))
(dSeq (dOps (dV p30 (oLdN 6 (.t p8))
(dU (oSt 6 (.t p6) (.t p30))
(dV p7 (oMv (.c (.int .i64 (.ofNat 0))))
dE))))
dRet)))), [(.cN p6 6), (.t p7)]⟩
def af400 : AF := ⟨(dSeq (dOps (dV p2 (oBox 464 (.t p0))
(dV p4 (oNew [.nils, (.int .i64 (.ofNat 0))] 464)
dE)))
(dSeq (dDraw (sN p5 ⟨(some p5), (.v (.fa 0 (.t p2))), none⟩
(sN p6 ⟨(some p6), (.v (.ld1 (.t p5))), none⟩
(sN p7 ⟨(some p7), (.v (.mv (.t p1))), none⟩
(sN p8 ⟨(some p8), (.v (.sl 1 (.t p6) none (some (.t p7)) none)), none⟩
(sN p9 ⟨(some p9), (.v (.fa 1 (.t p2))), none⟩
(sN p10 ⟨(some p10), (.v (.ld1 (.t p9))), none⟩
(sN p11 ⟨(some p11), (.v (.build [.nils, (.int .i64 (.ofNat 0))] [(0, 1, (.t p8)), (1, 1, (.t p10))])), none⟩
(sE [] [] ⟨none, (.v (.st 2 (.t p4) (.t p11))), none⟩
sEnd)))))))))
dRet)), [(.cN p4 2)]⟩
def af401 : AF := ⟨(dSeq (dOps (dV p5 (oBox 464 (.t p0))
(dV p6 (oNew [(.int .i64 (.ofNat 0)), (.int .i64 (.ofNat 0)), (.bool false), (.str []), .nils, .nils] 26)
dE)))
(dSeq (dDraw (sN p8 ⟨(some p8), (.v (.ldN 2 (.t p5))), none⟩
(sN p9 ⟨(some p9), (.v (.ld1 (.t p1))), none⟩
(sN p11 ⟨(some p11), (.v (.ldN 2 (.t p5))), none⟩
(sN p12 ⟨(some p12), (.v (.fa 0 (.t p5))), none⟩
(sN p13 ⟨(some p13), (.v (.ld1 (.t p12))), none⟩
(sN p14 ⟨(some p14), (.v (.ld1 (.t p2))), none⟩
(sN p15 ⟨(some p15), (.v (.sl 1 (.t p13) (some (.t p14)) none none)), none⟩
(sA 10 p7 (.new [(.int .i64 (.ofNat 0)), (.int .i64 (.ofNat 0)), (.bool false), (.str []), .nils, .nils] 26)
(sE [] [(p11, ⟨(some p11), (.v (.ldN 2 (.t p5))), none⟩), (p13, ⟨(some p13), (.v (.ld1 (.t p12))), none⟩), (p14, ⟨(some p14), (.v (.ld1 (.t p2))), none⟩)] ⟨(some p10), (.call p360 [(.t p8), (.t p9)]), none⟩
(sE [] [] ⟨(some p16), (.call p358 [(.t p11), (.t p15)]), none⟩
(sE [] [] ⟨(some p17), (.call p359 [(.t p10), (.t p16)]), none⟩
(sE [10] [] ⟨none, (.v (.st 6 (.t p7) (.t p17))), none⟩
sEnd)))))))))))))
(dSeq (dDraw (sN p18 ⟨(some p18), (.v (.ldN 2 (.t p5))), none⟩
(sN p19 ⟨(some p19), (.v (.ldN 21 (.t p3))), none⟩
(sN p22 ⟨(some p22), (.v (.ldN 2 (.t p5))), none⟩
(sN p23 ⟨(some p23), (.v (.fa 2 (.t p4))), none⟩
(sN p24 ⟨(some p24), (.v (.ld1 (.t p23))), none⟩
(sN p26 ⟨(some p26), (.v (.ldN 6 (.t p7))), none⟩
(sA 9 p27 (.buildS 26 1 [(.int .i64 (.ofNat 0)), (.int .i64 (.ofNat 0)), (.bool false), (.str []), .nils, .nils] [(0, 6, (.t p26))])
(sE [] [(p18, ⟨(some p18), (.v (.ldN 2 (.t p5))), none⟩), (p22, ⟨(some p22), (.v (.ldN 2 (.t p5))), none⟩), (p24, ⟨(some p24), (.v (.ld1 (.t p23))), none⟩), (p26, ⟨(some p26), (.v (.ldN 6 (.t p7))), none⟩)] ⟨(some p20), (.call p361 [(.t p19)]), none⟩
(sE [] [(p22, ⟨(some p22), (.v (.ldN 2 (.t p5))), none⟩), (p24, ⟨(some p24), (.v (.ld1 (.t p23))), none⟩), (p26, ⟨(some p26), (.v (.ldN 6 (.t p7))), none⟩)] ⟨(some p21), (.call p360 [(.t p18), (.t p20)]), none⟩
(sE [] [(p26, ⟨(some p26), (.v (.ldN 6 (.t p7))), none⟩)] ⟨(some p25), (.call p393 [(.t p22), (.t p24)]), none⟩
(sE [9] [] ⟨(some p28), (.v (.app 26 6 (.t p25) (.t p27))), none⟩
(sE [9] [] ⟨(some p29), (.call p359 [(.t p21), (.t p28)]), none⟩
(sE [9] [] ⟨none, (.v (.st 6 (.t p6) (.t p29))), none⟩
sEnd))))))))))))))
dRet))), [(.cN p6 6)]⟩
def af402 : AF := ⟨(dSeq (dOps (dV p3 (oBox 26 (.t p0))
(dV p6 (oNew [(.int .i64 (.ofNat 0)), (.int .i64 (.ofNat 0)), (.bool false), (.str []), .nils, .nils] 26)
dE)))
(dSeq (dOps (dV p8 (oLdN 6 (.t p3))
(dV p9 (oMv (.t p1))
(dV p10 (oMv (.t p2))
(dC (some p11) p391 [(.t p8), (.t p9), (.t p10)]
(dV p7 (oMv (.t p11))
(dV p12 (oExt (.t p7) 0)
(dV p13 (oExt (.t p7) 1)
(dU (oSt 6 (.t p3) (.t p12))
dE)))))))))
(dSeq (dOps (dV p14 (oLdN 6 (.t p3))
(dU (oSt 6 (.t p6) (.t p14))
dE)))
dRet))), [(.cN p6 6)]⟩
def af403 : AF := ⟨(dSeq (dOps (dV p10 (oMv (.c (.int .i64 (.ofNat 0))))
(dV p11 (oMv (.c (.int .i64 (.ofNat 0))))
dE)))
(dSeq (dSeq (dDraw (sN p12 ⟨(some p12), (.v (.mv (.t p4))), none⟩
(sN p13 ⟨(some p13), (.v (.mv (.t p0))), none⟩
(sN p14 ⟨(some p14), (.v (.mv (.t p2))), none⟩
(sN p15 ⟨(some p15), (.v (.ia 4 (.t p13) (.t p14))), none⟩
(sN p16 ⟨(some p16), (.v (.ldN 4 (.t p15))), none⟩
(sN p17 ⟨(some p17), (.v (.mv (.t p0))), none⟩
(sN p18 ⟨(some p18), (.v (.mv (.t p1))), none⟩
(sN p19 ⟨(some p19), (.v (.ia 4 (.t p17) (.t p18))), none⟩
(sN p20 ⟨(some p20), (.v (.ldN 4 (.t p19))), none⟩
(sE [] [] ⟨(some p21), (.callv (.t p12) [(.t p16), (.t p20)]), none⟩
(sN p22 ⟨(some p22), (.v (.ar .lss (.t p21) (.c (.int .i64 (.ofNat 0))))), none⟩
sEnd))))))))))))
(dCond (.t p22) (dSeq (dOps (dV p23 (oMv (.t p3))
(dV p24 (oNchk (.t p23))
(dV p25 (oLd1 (.t p24))
(dV p26 (oAr .add (.t p25) (.c (.int .i64 (.ofNat 1))))
(dV p27 (oNchk (.t p23))
(dU (oSt 1 (.t p27) (.t p26))
dE)))))))
(dSeq (dOps (dV p28 (oMv (.t p2))
(dV p29 (oMv (.t p1))
(dV p10 (oMv (.t p28))
(dV p11 (oMv (.t p29))
dE)))))
dRet)) dSkip))
(dSeq (dOps (dV p30 (oMv (.t p1))
(dV p31 (oMv (.t p2))
(dV p10 (oMv (.t p30))
(dV p11 (oMv (.t p31))
dE)))))
dRet))), [(.t p10), (.t p11)]⟩
theorem ok341 : FunSem Tryz.prog 341 af341 := .of mixed (by kernel_rfl)
theorem ok342 : FunSem Tryz.prog 342 af342 := .of mixed (by kernel_rfl)
theorem ok343 : FunSem Tryz.prog 343 af343 := .of mixed (by kernel_rfl)
theorem ok344 : FunSem Tryz.prog 344 af344 := .of mixed (by kernel_rfl)
theorem ok345 : FunSem Tryz.prog 345 af345 := .of mixed (by kernel_rfl)
theorem ok346 : FunSem Tryz.prog 346 af346 := .of mixed (by kernel_rfl)
theorem ok347 : FunSem Tryz.prog 347 af347 := .of mixed (by kernel_rfl)
theorem ok348 : FunSem Tryz.prog 348 af348 := .of mixed (by kernel_rfl)
theorem ok349 : FunSem Tryz.prog 349 af349 := .of mixed (by kernel_rfl)
theorem ok350 : FunSem Tryz.prog 350 af350 := .of mixed (by kernel_rfl)
theorem ok351 : FunSem Tryz.prog 351 af351 := .of mixed (by kernel_rfl)
theorem ok352 : FunSem Tryz.prog 352 af352 := .of mixed (by kernel_rfl)
theorem ok353 : FunSem Tryz.prog 353 af353 := .of mixed (by kernel_rfl)
theorem ok354 : FunSem Tryz.prog 354 af354 := .of mixed (by kernel_rfl)
theorem ok355 : FunSem Tryz.prog 355 af355 := .of mixed (by kernel_rfl)
theorem ok356 : FunSem Tryz.prog 356 af356 := .of mixed (by kernel_rfl)
theorem ok357 : FunSem Tryz.prog 357 af357 := .of mixed (by kernel_rfl)
theorem ok358 : FunSem Tryz.prog 358 af358 := .of mixed (by kernel_rfl)
theorem ok359 : FunSem Tryz.prog 359 af359 := .of mixed (by kernel_rfl)
theorem ok360 : FunSem Tryz.prog 360 af360 := .of mixed (by kernel_rfl)
theorem ok361 : FunSem Tryz.prog 361 af361 := .of mixed (by kernel_rfl)
theorem ok362 : FunSem Tryz.prog 362 af362 := .of mixed (by kernel_rfl)
theorem ok363 : FunSem Tryz.prog 363 af363 := .of mixed (by kernel_rfl)
theorem ok364 : FunSem Tryz.prog 364 af364 := .of mixed (by kernel_rfl)
theorem ok365 : FunSem Tryz.prog 365 af365 := .of mixed (by kernel_rfl)
theorem ok366 : FunSem Tryz.prog 366 af366 := .of mixed (by kernel_rfl)
theorem ok367 : FunSem Tryz.prog 367 af367 := .of mixed (by kernel_rfl)
theorem ok368 : FunSem Tryz.prog 368 af368 := .of mixed (by kernel_rfl)
theorem ok369 : FunSem Tryz.prog 369 af369 := .of mixed (by kernel_rfl)
theorem ok370 : FunSem Tryz.prog 370 af370 := .of mixed (by kernel_rfl)
theorem ok371 : FunSem Tryz.prog 371 af371 := .of mixed (by kernel_rfl)
theorem ok372 : FunSem Tryz.prog 372 af372 := .of mixed (by kernel_rfl)
theorem ok373 : FunSem Tryz.prog 373 af373 := .of mixed (by kernel_rfl)
theorem ok374 : FunSem Tryz.prog 374 af374 := .of mixed (by kernel_rfl)
theorem ok375 : FunSem Tryz.prog 375 af375 := .of mixed (by kernel_rfl)
theorem ok376 : FunSem Tryz.prog 376 af376 := .of mixed (by kernel_rfl)
theorem ok377 : FunSem Tryz.prog 377 af377 := .of mixed (by kernel_rfl)
theorem ok378 : FunSem Tryz.prog 378 af378 := .of mixed (by kernel_rfl)
theorem ok379 : FunSem Tryz.prog 379 af379 := .of mixed (by kernel_rfl)
theorem ok380 : FunSem Tryz.prog 380 af380 := .of mixed (by kernel_rfl)
theorem ok381 : FunSem Tryz.prog 381 af381 := .of mixed (by kernel_rfl)
theorem ok382 : FunSem Tryz.prog 382 af382 := .of mixed (by kernel_rfl)
theorem ok383 : FunSem Tryz.prog 383 af383 := .of mixed (by kernel_rfl)
theorem ok384 : FunSem Tryz.prog 384 af384 := .of mixed (by kernel_rfl)
theorem ok385 : FunSem Tryz.prog 385 af385 := .of mixed (by kernel_rfl)
theorem ok386 : FunSem Tryz.prog 386 af386 := .of mixed (by kernel_rfl)
theorem ok387 : FunSem Tryz.prog 387 af387 := .of mixed (by kernel_rfl)
theorem ok388 : FunSem Tryz.prog 388 af388 := .of mixed (by kernel_rfl)
theorem ok389 : FunSem Tryz.prog 389 af389 := .of mixed (by kernel_rfl)
theorem ok390 : FunSem Tryz.prog 390 af390 := .of mixed (by kernel_rfl)
theorem ok391 : FunSem Tryz.prog 391 af391 := .of mixed (by kernel_rfl)
theorem ok392 : FunSem Tryz.prog 392 af392 := .of mixed (by kernel_rfl)
theorem ok393 : FunSem Tryz.prog 393 af393 := .of mixed (by kernel_rfl)
theorem ok394 : FunSem Tryz.prog 394 af394 := .of mixed (by kernel_rfl)
theorem ok395 : FunSem Tryz.prog 395 af395 := .of mixed (by kernel_rfl)
theorem ok396 : FunSem Tryz.prog 396 af396 := .of mixed (by kernel_rfl)
theorem ok397 : FunSem Tryz.prog 397 af397 := .of mixed (by kernel_rfl)
theorem ok398 : FunSem Tryz.prog 398 af398 := .of mixed (by kernel_rfl)
theorem ok399 : FunSem Tryz.prog 399 af399 := .of mixed (by kernel_rfl)
theorem ok400 : FunSem Tryz.prog 400 af400 := .of mixed (by kernel_rfl)
theorem ok401 : FunSem Tryz.prog 401 af401 := .of mixed (by kernel_rfl)
theorem ok402 : FunSem Tryz.prog 402 af402 := .of mixed (by kernel_rfl)
theorem ok403 : FunSem Tryz.prog 403 af403 := .of mixed (by kernel_rfl)
end Go.Proofs.YtkcpnbfhoamlfaaGreatDoor.X
