/- Functions of the program, as the executor runs them, and that they are the program's. -/
import Derived.Test.YtkcpnbfhoamlfaaGreatDoorTabA
set_option maxRecDepth 100000
namespace Go.Proofs.YtkcpnbfhoamlfaaGreatDoor.X
open Go.RowKit
def af158 : AF := ⟨(dSeq (dOps (dV p3 (oBox 204 (.t p0))
(dV p6 (oNew [.nilp] 153)
dE)))
(dSeq (dSeq (dOps (dV p7 (oFa 0 (.t p3))
(dV p8 (oLd1 (.t p7))
(dV p9 (oNchk (.t p8))
(dV p10 (oFa 0 (.t p9))
(dV p11 (oFa 0 (.t p10))
(dV p12 (oFa 2 (.t p11))
(dV p13 (oLd1 (.t p12))
(dV p14 (oMv (.t p1))
(dC (some p15) p216 [(.t p13), (.t p14)]
(dV p16 (oMv (.t p15))
(dG p16 true (some p17) (dV p17 (oFa 0 (.t p3)))
(dG p16 true (some p18) (dV p18 (oLd1 (.t p17)))
(dG p16 true (some p19) (dV p19 (oNchk (.t p18)))
(dG p16 true (some p20) (dV p20 (oFa 5 (.t p19)))
(dG p16 true (some p21) (dV p21 (oFa 3 (.t p20)))
(dG p16 true (some p22) (dV p22 (oLd1 (.t p21)))
(dG p16 true (some p23) (dV p23 (oMv (.t p2)))
(dG p16 true (some p24) (dV p24 (oAr .neq (.t p22) (.t p23)))
(dV p25 (oPick (.t p16) (.t p24) (.c (.bool false)))
dE))))))))))))))))))))
(dCond (.t p25) (dDraw (sN p26 ⟨(some p26), (.v (.fa 0 (.t p3))), none⟩
(sN p27 ⟨(some p27), (.v (.ld1 (.t p26))), none⟩
(sN p28 ⟨(some p28), (.v (.mv (.t p1))), none⟩
(sN p29 ⟨(some p29), (.v (.fa 0 (.t p3))), none⟩
(sN p30 ⟨(some p30), (.v (.ld1 (.t p29))), none⟩
(sN p31 ⟨(some p31), (.v (.mv (.t p2))), none⟩
(sN p32 ⟨(some p32), (.v (.nchk (.t p27))), none⟩
(sN p33 ⟨(some p33), (.v (.fa 5 (.t p32))), none⟩
(sN p34 ⟨(some p34), (.v (.fa 0 (.t p33))), none⟩
(sN p35 ⟨(some p35), (.v (.iaA 3 1 (.t p34) (.t p28))), none⟩
(sE [] [(p30, ⟨(some p30), (.v (.ld1 (.t p29))), none⟩)] ⟨none, (.v (.st 1 (.t p35) (.c .nilp))), none⟩
(sN p36 ⟨(some p36), (.v (.nchk (.t p30))), none⟩
(sN p37 ⟨(some p37), (.v (.fa 5 (.t p36))), none⟩
(sN p38 ⟨(some p38), (.v (.fa 3 (.t p37))), none⟩
(sE [] [] ⟨none, (.v (.st 1 (.t p38) (.t p31))), none⟩
sEnd)))))))))))))))) dSkip))
(dSeq (dSeq (dOps (dV p39 (oFa 0 (.t p3))
(dV p40 (oLd1 (.t p39))
(dV p41 (oMv (.t p1))
(dV p42 (oNchk (.t p40))
(dV p43 (oFa 5 (.t p42))
(dV p44 (oFa 0 (.t p43))
(dV p45 (oIaA 3 1 (.t p44) (.t p41))
(dV p46 (oLd1 (.t p45))
(dV p47 (oEq .p false (.t p46) (.c .nilp))
dE))))))))))
(dCond (.t p47) (dDraw (sN p48 ⟨(some p48), (.v (.fa 0 (.t p3))), none⟩
(sN p49 ⟨(some p49), (.v (.ld1 (.t p48))), none⟩
(sN p50 ⟨(some p50), (.v (.mv (.t p1))), none⟩
(sN p51 ⟨(some p51), (.v (.fa 0 (.t p3))), none⟩
(sN p52 ⟨(some p52), (.v (.ld1 (.t p51))), none⟩
(sN p53 ⟨(some p53), (.v (.nchk (.t p52))), none⟩
(sN p54 ⟨(some p54), (.v (.fa 0 (.t p53))), none⟩
(sN p55 ⟨(some p55), (.v (.ldN 4 (.t p54))), none⟩
(sN p56 ⟨(some p56), (.v (.mv (.t p1))), none⟩
(sN p57 ⟨(some p57), (.v (.mv (.t p2))), none⟩
(sN p59 ⟨(some p59), (.v (.nchk (.t p49))), none⟩
(sN p60 ⟨(some p60), (.v (.fa 5 (.t p59))), none⟩
(sN p61 ⟨(some p61), (.v (.fa 0 (.t p60))), none⟩
(sE [] [(p49, ⟨(some p49), (.v (.ld1 (.t p48))), none⟩)] ⟨(some p58), (.call p217 [(.t p55), (.t p56), (.t p57)]), none⟩
(sN p62 ⟨(some p62), (.v (.iaA 3 1 (.t p61) (.t p50))), none⟩
(sE [] [] ⟨none, (.v (.st 1 (.t p62) (.t p58))), none⟩
sEnd))))))))))))))))) dSkip))
(dSeq (dOps (dV p63 (oFa 0 (.t p3))
(dV p64 (oLd1 (.t p63))
(dV p65 (oMv (.t p1))
(dV p66 (oNchk (.t p64))
(dV p67 (oFa 5 (.t p66))
(dV p68 (oFa 0 (.t p67))
(dV p69 (oIaA 3 1 (.t p68) (.t p65))
(dV p70 (oLd1 (.t p69))
(dV p71 (oBuild [.nilp] [(0, 1, (.t p70))])
(dU (oSt 1 (.t p6) (.t p71))
dE)))))))))))
dRet)))), [(.cN p6 1)]⟩
def af159 : AF := ⟨(dSeq (dOps (dV p2 (oBox 204 (.t p0))
(dV p3 (oBox 153 (.t p1))
(dV p4 (oNew [.nilp] 153)
dE))))
(dSeq (dSeq (dOps (dV p5 (oFa 0 (.t p2))
(dV p6 (oLd1 (.t p5))
(dV p7 (oNchk (.t p6))
(dV p8 (oFa 0 (.t p7))
(dV p9 (oFa 0 (.t p8))
(dV p10 (oFa 2 (.t p9))
(dV p11 (oLd1 (.t p10))
(dC (some p12) p216 [(.t p11), (.c (.int .i64 (.ofNat 1)))]
(dV p13 (oUn .not (.t p12))
dE))))))))))
(dCond (.t p13) (dSeq (dOps (dV p14 (oLdN 1 (.t p2))
(dC (some p15) p158 [(.t p14), (.c (.int .i64 (.ofNat 1))), (.c (.int .i64 (.ofNat 0)))]
(dU (oSt 1 (.t p4) (.t p15))
dE))))
dRet) dSkip))
(dSeq (dDraw (sN p16 ⟨(some p16), (.v (.fa 0 (.t p2))), none⟩
(sN p17 ⟨(some p17), (.v (.ld1 (.t p16))), none⟩
(sN p18 ⟨(some p18), (.v (.nchk (.t p17))), none⟩
(sN p19 ⟨(some p19), (.v (.fa 0 (.t p18))), none⟩
(sN p20 ⟨(some p20), (.v (.fa 0 (.t p19))), none⟩
(sN p21 ⟨(some p21), (.v (.fa 0 (.t p20))), none⟩
(sN p22 ⟨(some p22), (.v (.ldN 2 (.t p21))), none⟩
(sN p23 ⟨(some p23), (.v (.fa 0 (.t p3))), none⟩
(sN p24 ⟨(some p24), (.v (.ld1 (.t p23))), none⟩
(sN p26 ⟨(some p26), (.v (.fa 0 (.t p2))), none⟩
(sN p27 ⟨(some p27), (.v (.ld1 (.t p26))), none⟩
(sN p28 ⟨(some p28), (.v (.nchk (.t p27))), none⟩
(sN p29 ⟨(some p29), (.v (.fa 0 (.t p28))), none⟩
(sN p30 ⟨(some p30), (.v (.fa 0 (.t p29))), none⟩
(sN p31 ⟨(some p31), (.v (.fa 2 (.t p30))), none⟩
(sN p32 ⟨(some p32), (.v (.ld1 (.t p31))), none⟩
(sE [] [(p27, ⟨(some p27), (.v (.ld1 (.t p26))), none⟩), (p32, ⟨(some p32), (.v (.ld1 (.t p31))), none⟩)] ⟨(some p25), (.call p214 [(.t p22), (.t p24)]), none⟩
(sN p33 ⟨(some p33), (.v (.build [.nilp, (.int .i64 (.ofNat 0)), .nilp] [(0, 2, (.t p25)), (2, 1, (.t p32))])), none⟩
(sE [] [] ⟨(some p34), (.call p218 [(.t p33), (.c (.int .i64 (.ofNat 1)))]), none⟩
(sN p35 ⟨(some p35), (.v (.build [.nilp] [(0, 1, (.t p34))])), none⟩
(sE [] [] ⟨none, (.v (.st 1 (.t p4) (.t p35))), none⟩
sEnd))))))))))))))))))))))
dRet))), [(.cN p4 1)]⟩
def af160 : AF := ⟨(dSeq (dOps (dV p2 (oBox 153 (.t p0))
(dV p3 (oBox 153 (.t p1))
(dV p4 (oNew [.nilp] 153)
dE))))
(dSeq (dDraw (sN p5 ⟨(some p5), (.v (.fa 0 (.t p2))), none⟩
(sN p6 ⟨(some p6), (.v (.ld1 (.t p5))), none⟩
(sN p7 ⟨(some p7), (.v (.nchk (.t p6))), none⟩
(sN p8 ⟨(some p8), (.v (.fa 0 (.t p7))), none⟩
(sN p9 ⟨(some p9), (.v (.fa 0 (.t p8))), none⟩
(sN p10 ⟨(some p10), (.v (.ldN 2 (.t p9))), none⟩
(sN p11 ⟨(some p11), (.v (.fa 0 (.t p3))), none⟩
(sN p12 ⟨(some p12), (.v (.ld1 (.t p11))), none⟩
(sN p14 ⟨(some p14), (.v (.fa 0 (.t p2))), none⟩
(sN p15 ⟨(some p15), (.v (.ld1 (.t p14))), none⟩
(sN p16 ⟨(some p16), (.v (.nchk (.t p15))), none⟩
(sN p17 ⟨(some p17), (.v (.fa 0 (.t p16))), none⟩
(sN p18 ⟨(some p18), (.v (.fa 2 (.t p17))), none⟩
(sN p19 ⟨(some p19), (.v (.ld1 (.t p18))), none⟩
(sE [] [(p15, ⟨(some p15), (.v (.ld1 (.t p14))), none⟩), (p19, ⟨(some p19), (.v (.ld1 (.t p18))), none⟩)] ⟨(some p13), (.call p214 [(.t p10), (.t p12)]), none⟩
(sN p20 ⟨(some p20), (.v (.build [.nilp, (.int .i64 (.ofNat 0)), .nilp] [(0, 2, (.t p13)), (2, 1, (.t p19))])), none⟩
(sE [] [] ⟨(some p21), (.call p218 [(.t p20), (.c (.int .i64 (.ofNat 1)))]), none⟩
(sN p22 ⟨(some p22), (.v (.build [.nilp] [(0, 1, (.t p21))])), none⟩
(sE [] [] ⟨none, (.v (.st 1 (.t p4) (.t p22))), none⟩
sEnd))))))))))))))))))))
dRet)), [(.cN p4 1)]⟩
def af161 : AF := ⟨(dSeq (dOps (dV p2 (oBox 153 (.t p0))
(dV p4 (oNew [.nilp] 153)
dE)))
(dSeq (dOps (dV p6 (oMv (.t p1))
(dV p7 (oBuild [(.int .i64 (.ofNat 0)), (.int .i64 (.ofNat 0)), (.bool false), (.str []), .nils, .nils] [(0, 1, (.c (.int .i64 (.ofNat 1)))), (1, 1, (.c (.int .i64 (.ofNat 0))))])
(dV p8 (oBuildS 26 1 [(.int .i64 (.ofNat 0)), (.int .i64 (.ofNat 0)), (.bool false), (.str []), .nils, .nils] [(0, 6, (.t p7))])
(dV p9 (oBuild [(.int .i64 (.ofNat 0)), (.int .i64 (.ofNat 0)), (.bool false), (.str []), .nils, .nils] [(0, 1, (.t p6)), (5, 1, (.t p8))])
(dV p5 (oNew [(.int .i64 (.ofNat 0)), (.int .i64 (.ofNat 0)), (.bool false), (.str []), .nils, .nils] 26)
(dU (oSt 6 (.t p5) (.t p9))
dE)))))))
(dSeq (dDraw (sN p10 ⟨(some p10), (.v (.build [.nilp, (.int .i64 (.ofNat 0))] [])), none⟩
(sN p11 ⟨(some p11), (.v (.fa 0 (.t p2))), none⟩
(sN p12 ⟨(some p12), (.v (.ld1 (.t p11))), none⟩
(sN p14 ⟨(some p14), (.v (.ldN 6 (.t p5))), none⟩
(sE [] [(p14, ⟨(some p14), (.v (.ldN 6 (.t p5))), none⟩)] ⟨(some p13), (.call p214 [(.t p10), (.t p12)]), none⟩
(sE [] [] ⟨(some p15), (.call p126 [(.t p14)]), none⟩
(sN p16 ⟨(some p16), (.v (.build [.nilp, (.int .i64 (.ofNat 0)), .nilp] [(0, 2, (.t p13)), (2, 1, (.t p15))])), none⟩
(sE [] [] ⟨(some p17), (.call p185 [(.t p16)]), none⟩
(sN p18 ⟨(some p18), (.v (.build [.nilp] [(0, 1, (.t p17))])), none⟩
(sE [] [] ⟨none, (.v (.st 1 (.t p4) (.t p18))), none⟩
sEnd)))))))))))
dRet))), [(.cN p4 1)]⟩
def af162 : AF := ⟨(dSeq (dOps (dV p3 (oBox 26 (.t p1))
(dV p4 (oNew [.nilp] 153)
(dV p5 (oMv (.c .nili))
dE))))
(dSeq (dOps (dV p14 (oLdN 6 (.t p3))
(dC (some p15) p219 [(.t p14)]
(dV p13 (oMv (.t p15))
(dV p16 (oExt (.t p13) 0)
(dV p17 (oExt (.t p13) 1)
(dV p6 (oMv (.t p16))
(dV p7 (oMv (.t p17))
dE))))))))
(dSeq (dSeq (dDraw (sN p19 ⟨(some p19), (.v (.mv (.t p0))), none⟩
(sN p20 ⟨(some p20), (.v (.nchk (.t p19))), none⟩
(sN p21 ⟨(some p21), (.v (.fa 4 (.t p20))), none⟩
(sN p22 ⟨(some p22), (.v (.ld1 (.t p21))), none⟩
(sN p23 ⟨(some p23), (.v (.mv (.t p6))), none⟩
(sN p24 ⟨(some p24), (.v (.cvT (.t p23))), none⟩
(sN p25 ⟨(some p25), (.v (.lk (.agg [.nilp]) true (.t p22) (.t p24))), none⟩
(sN p18 ⟨(some p18), (.v (.mv (.t p25))), none⟩
(sN p26 ⟨(some p26), (.v (.ext (.t p18) 0)), none⟩
(sN p27 ⟨(some p27), (.v (.ext (.t p18) 1)), none⟩
(sA 10 p8 (.new [.nilp] 153)
(sE [10] [] ⟨none, (.v (.st 1 (.t p8) (.t p26))), none⟩
(sN p9 ⟨(some p9), (.v (.mv (.t p27))), none⟩
sEnd))))))))))))))
(dSeq (dOps (dV p28 (oMv (.t p9))
dE))
(dCond (.t p28) (dSeq (dOps (dV p29 (oLdN 1 (.t p8))
(dU (oSt 1 (.t p4) (.t p29))
(dV p5 (oMv (.c .nili))
dE))))
dRet) dSkip)))
(dSeq (dDraw (sN p31 ⟨(some p31), (.v (.mv (.t p0))), none⟩
(sN p32 ⟨(some p32), (.v (.nchk (.t p31))), none⟩
(sN p33 ⟨(some p33), (.v (.fa 0 (.t p32))), none⟩
(sN p34 ⟨(some p34), (.v (.ld1 (.t p33))), none⟩
(sN p35 ⟨(some p35), (.v (.fa 3 (.t p3))), none⟩
(sN p36 ⟨(some p36), (.v (.ld1 (.t p35))), none⟩
(sN p37 ⟨(some p37), (.v (.fa 4 (.t p3))), none⟩
(sN p38 ⟨(some p38), (.v (.ld1 (.t p37))), none⟩
(sA 12 p10 (.new [(.int .i64 (.ofNat 0)), (.int .i64 (.ofNat 0)), (.bool false), (.str []), .nils, .nils] 26)
(sE [] [] ⟨(some p39), (.call p220 [(.t p34), (.t p36), (.t p38)]), none⟩
(sN p30 ⟨(some p30), (.v (.mv (.t p39))), none⟩
(sN p40 ⟨(some p40), (.v (.ext (.t p30) 0)), none⟩
(sN p41 ⟨(some p41), (.v (.ext (.t p30) 1)), none⟩
(sE [12] [] ⟨none, (.v (.st 6 (.t p10) (.t p40))), none⟩
(sN p11 ⟨(some p11), (.v (.mv (.t p41))), none⟩
sEnd))))))))))))))))
(dSeq (dSeq (dOps (dV p42 (oMv (.t p11))
(dV p43 (oAr .neq (.t p42) (.c (.int .i64 (.ofNat 0))))
dE)))
(dCond (.t p43) (dSeq (dOps (dV p44 (oBuild [.nilp] [])
(dV p45 (oMv (.t p11))
(dC (some p46) p125 [(.t p45)]
(dU (oSt 1 (.t p4) (.t p44))
(dV p5 (oMv (.t p46))
dE))))))
dRet) dSkip))
(dSeq (dOps (dV p47 (oBuild [.nilp, (.int .i64 (.ofNat 0))] [])
(dV p48 (oLdN 6 (.t p10))
(dC (some p49) p80 [(.t p47), (.t p48)]
(dV p12 (oNew [.nilp] 153)
(dU (oSt 1 (.t p12) (.t p49))
dE))))))
(dSeq (dDraw (sN p50 ⟨(some p50), (.v (.mv (.t p0))), none⟩
(sN p51 ⟨(some p51), (.v (.nchk (.t p50))), none⟩
(sN p52 ⟨(some p52), (.v (.fa 4 (.t p51))), none⟩
(sN p53 ⟨(some p53), (.v (.ld1 (.t p52))), none⟩
(sN p54 ⟨(some p54), (.v (.mv (.t p6))), none⟩
(sN p55 ⟨(some p55), (.v (.cvT (.t p54))), none⟩
(sN p56 ⟨(some p56), (.v (.ldN 1 (.t p12))), none⟩
(sE [] [] ⟨none, (.v (.up (.t p53) (.t p55) (.t p56))), none⟩
sEnd)))))))))
(dSeq (dOps (dV p57 (oLdN 1 (.t p12))
(dU (oSt 1 (.t p4) (.t p57))
(dV p5 (oMv (.c .nili))
dE))))
dRet)))))))), [(.cN p4 1), (.t p5)]⟩
def af164 : AF := ⟨(dSeq (dOps (dV p2 (oNew [.nilp] 204)
dE))
(dSeq (dDraw (sN p3 ⟨(some p3), (.v (.fa 0 (.t p0))), none⟩
(sN p4 ⟨(some p4), (.v (.ld1 (.t p3))), none⟩
(sN p5 ⟨(some p5), (.v (.nchk (.t p4))), none⟩
(sN p6 ⟨(some p6), (.v (.fa 2 (.t p5))), none⟩
(sN p7 ⟨(some p7), (.v (.ldN 1 (.t p6))), none⟩
(sN p8 ⟨(some p8), (.v (.ldN 1 (.t p1))), none⟩
(sN p9 ⟨(some p9), (.v (.fa 1 (.t p0))), none⟩
(sN p10 ⟨(some p10), (.v (.fa 0 (.t p9))), none⟩
(sN p11 ⟨(some p11), (.v (.ldN 2 (.t p10))), none⟩
(sE [] [(p4, ⟨(some p4), (.v (.ld1 (.t p3))), none⟩), (p7, ⟨(some p7), (.v (.ldN 1 (.t p6))), none⟩), (p8, ⟨(some p8), (.v (.ldN 1 (.t p1))), none⟩)] ⟨(some p12), (.call p124 [(.t p11)]), none⟩
(sE [] [] ⟨(some p13), (.call p165 [(.t p7), (.t p8), (.t p12)]), none⟩
(sE [] [] ⟨none, (.v (.st 1 (.t p2) (.t p13))), none⟩
sEnd)))))))))))))
dRet)), [(.cN p2 1)]⟩
def af165 : AF := ⟨(dSeq (dOps (dV p3 (oBox 137 (.t p0))
(dV p4 (oBox 153 (.t p1))
(dV p6 (oNew [.nilp] 204)
dE))))
(dSeq (dOps (dV p7 (oFa 0 (.t p3))
(dV p8 (oLd1 (.t p7))
(dV p9 (oMv (.t p2))
(dV p10 (oNchk (.t p8))
(dV p11 (oFa 3 (.t p10))
(dU (oSt 1 (.t p11) (.t p9))
dE)))))))
(dSeq (dOps (dV p12 (oFa 0 (.t p3))
(dV p13 (oLd1 (.t p12))
(dV p14 (oFa 0 (.t p4))
(dV p15 (oLd1 (.t p14))
(dC (some p16) p222 [(.t p13), (.t p15)]
(dV p17 (oBuild [.nilp] [(0, 1, (.t p16))])
(dU (oSt 1 (.t p6) (.t p17))
dE))))))))
dRet))), [(.cN p6 1)]⟩
def af166 : AF := ⟨(dSeq (dOps (dV p1 (oBox 204 (.t p0))
(dV p2 (oMv (.c (.int .i64 (.ofNat 0))))
dE)))
(dSeq (dSeq (dOps (dV p3 (oFa 0 (.t p1))
(dV p4 (oLd1 (.t p3))
(dV p5 (oNchk (.t p4))
(dV p6 (oFa 4 (.t p5))
(dV p7 (oLd1 (.t p6))
(dV p8 (oEq .p true (.t p7) (.c .nilp))
dE)))))))
(dCond (.t p8) (dSeq (dOps (dV p2 (oMv (.c (.int .i64 (.ofNat 5))))
dE))
dRet) dSkip))
(dSeq (dOps (dV p9 (oFa 0 (.t p1))
(dV p10 (oLd1 (.t p9))
(dV p11 (oNchk (.t p10))
(dV p12 (oFa 0 (.t p11))
(dV p13 (oFa 0 (.t p12))
(dV p14 (oFa 2 (.t p13))
(dV p15 (oLd1 (.t p14))
(dV p16 (oNchk (.t p15))
(dV p17 (oFa 0 (.t p16))
(dV p18 (oFa 0 (.t p17))
(dV p19 (oLd1 (.t p18))
(dV p2 (oMv (.t p19))
dE)))))))))))))
dRet))), [(.t p2)]⟩
def af171 : AF := ⟨(dSeq (dOps (dV p2 (oMv (.c (.bool false)))
dE))
(dSeq (dOps (dV p3 (oMv (.t p0))
(dV p4 (oAr .leq (.c (.int .i64 (.ofNat 0))) (.t p3))
(dV p5 (oMv (.t p4))
(dG p5 true (some p6) (dV p6 (oMv (.t p0)))
(dG p5 true (some p7) (dV p7 (oAr .leq (.t p6) (.c (.int .i64 (.ofNat 1000)))))
(dV p8 (oPick (.t p5) (.t p7) (.c (.bool false)))
(dV p2 (oMv (.t p8))
dE))))))))
dRet)), [(.t p2)]⟩
def af172 : AF := ⟨(dSeq (dOps (dV p3 (oBox 300 (.t p1))
(dV p4 (oMv (.c .nils))
dE)))
(dSeq (dOps (dV p6 (oMv (.t p0))
(dV p7 (oApp 46 2 (.c .nils) (.t p6))
(dV p5 (oMv (.t p7))
dE))))
(dSeq (dOps (dV p8 (oMv (.t p5))
(dV p9 (oMkf 227 [] [(.t p3)])
(dC (some p10) p226 [(.t p8), (.t p9)]
dE))))
(dSeq (dOps (dV p11 (oMv (.t p5))
(dV p12 (oMkf 230 [] [(.t p3)])
(dC (some p13) p229 [(.t p11), (.t p12)]
(dV p4 (oMv (.t p13))
dE)))))
dRet)))), [(.t p4)]⟩
def af173 : AF := ⟨(dSeq (dOps (dV p1 (oBox 46 (.t p0))
(dV p2 (oMv (.c (.int .i64 (.ofNat 0))))
(dV p3 (oMv (.c (.int .i64 (.ofNat 0))))
dE))))
(dSeq (dDraw (sN p4 ⟨(some p4), (.v (.fa 0 (.t p1))), none⟩
(sN p5 ⟨(some p5), (.v (.ld1 (.t p4))), none⟩
(sN p6 ⟨(some p6), (.v (.fa 1 (.t p1))), none⟩
(sN p7 ⟨(some p7), (.v (.ld1 (.t p6))), none⟩
(sN p2 ⟨(some p2), (.v (.mv (.t p5))), none⟩
(sN p3 ⟨(some p3), (.v (.mv (.t p7))), none⟩
sEnd)))))))
dRet)), [(.t p2), (.t p3)]⟩
def af175 : AF := ⟨(dSeq (dOps (dV p2 (oMv (.c (.int .i64 (.ofNat 0))))
dE))
(dSeq (dDraw (sN p3 ⟨(some p3), (.v (.fa 0 (.t p0))), none⟩
(sN p4 ⟨(some p4), (.v (.ld1 (.t p3))), none⟩
(sN p5 ⟨(some p5), (.v (.nchk (.t p4))), none⟩
(sN p6 ⟨(some p6), (.v (.fa 2 (.t p5))), none⟩
(sN p7 ⟨(some p7), (.v (.ldN 1 (.t p6))), none⟩
(sN p8 ⟨(some p8), (.v (.ldN 1 (.t p1))), none⟩
(sN p9 ⟨(some p9), (.v (.fa 1 (.t p0))), none⟩
(sN p10 ⟨(some p10), (.v (.fa 0 (.t p9))), none⟩
(sN p11 ⟨(some p11), (.v (.ldN 2 (.t p10))), none⟩
(sE [] [(p4, ⟨(some p4), (.v (.ld1 (.t p3))), none⟩), (p7, ⟨(some p7), (.v (.ldN 1 (.t p6))), none⟩), (p8, ⟨(some p8), (.v (.ldN 1 (.t p1))), none⟩)] ⟨(some p12), (.call p124 [(.t p11)]), none⟩
(sE [] [] ⟨(some p13), (.call p176 [(.t p7), (.t p8), (.t p12)]), none⟩
sEnd))))))))))))
(dSeq (dOps (dV p2 (oMv (.c (.int .i64 (.ofNat 0))))
dE))
dRet))), [(.t p2)]⟩
def af176 : AF := ⟨(dSeq (dOps (dV p3 (oBox 137 (.t p0))
(dV p4 (oBox 153 (.t p1))
dE)))
(dSeq (dOps (dV p6 (oFa 0 (.t p3))
(dV p7 (oLd1 (.t p6))
(dV p8 (oMv (.t p2))
(dV p9 (oNchk (.t p7))
(dV p10 (oFa 3 (.t p9))
(dU (oSt 1 (.t p10) (.t p8))
dE)))))))
(dDraw (sN p11 ⟨(some p11), (.v (.fa 0 (.t p3))), none⟩
(sN p12 ⟨(some p12), (.v (.ld1 (.t p11))), none⟩
(sN p13 ⟨(some p13), (.v (.fa 0 (.t p4))), none⟩
(sN p14 ⟨(some p14), (.v (.ld1 (.t p13))), none⟩
(sN p15 ⟨(some p15), (.v (.nchk (.t p14))), none⟩
(sN p16 ⟨(some p16), (.v (.fa 3 (.t p15))), none⟩
(sN p17 ⟨(some p17), (.v (.ldN 4 (.t p16))), none⟩
(sE [] [] ⟨(some p18), (.call p232 [(.t p12), (.t p17)]), none⟩
sEnd))))))))))), []⟩
def af179 : AF := ⟨(dSeq (dOps (dV p7 (oMv (.t p0))
(dC (some p8) p233 [(.t p7)]
dE)))
(dSeq (dOps (dV p9 (oMv (.t p1))
(dV p10 (oLen (.t p9))
(dV p11 (oMkC (.t p10))
(dV p4 (oMv (.t p11))
dE)))))
(dSeq (dSeq (dOps (dV p12 (oMv (.t p1))
(dV p13 (oLen (.t p12))
(dV p14 (oMv (.c (.int .i64 (.ofNat 0))))
dE))))
(dBlock 0 (dLoop (dSeq (dOps (dV p15 (oAr .lss (.t p14) (.t p13))
dE))
(dSeq (dCond (.t p15) dSkip (dExit 0))
(dSeq (dBlock 1 (dSeq (dOps (dV p16 (oIa 3 (.t p12) (.t p14))
(dV p17 (oLdN 3 (.t p16))
(dV p6 (oNew [.nilp, .nilp, (.int .i64 (.ofNat 0))] 308)
(dU (oSt 3 (.t p6) (.t p17))
dE)))))
(dOps (dV p18 (oMv (.t p4))
(dV p19 (oLdN 3 (.t p6))
(dSnd none (.t p18) (.t p19)
dE))))))
(dOps (dV p20 (oAr .add (.t p14) (.c (.int .i64 (.ofNat 1))))
(dV p14 (oMv (.t p20))
dE)))))))))
(dOps (dV p21 (oMv (.t p0))
(dV p22 (oMv (.t p0))
(dV p23 (oNchk (.t p22))
(dV p24 (oFa 0 (.t p23))
(dV p25 (oLd1 (.t p24))
(dV p26 (oMv (.t p4))
(dV p27 (oBuildS 372 1 [.nilc] [(0, 1, (.t p26))])
(dV p28 (oApp 372 1 (.t p25) (.t p27))
(dV p29 (oNchk (.t p21))
(dV p30 (oFa 0 (.t p29))
(dU (oSt 1 (.t p30) (.t p28))
dE))))))))))))))), []⟩
def af180 : AF := ⟨(dSeq (dOps (dV p2 (oNew [.nilp, .nilp, (.int .i64 (.ofNat 0))] 308)
(dV p3 (oMv (.c (.bool false)))
dE)))
(dSeq (dSeq (dOps (dV p7 (oMv (.t p0))
(dV p8 (oNchk (.t p7))
(dV p9 (oFa 0 (.t p8))
(dV p10 (oLd1 (.t p9))
(dV p11 (oLen (.t p10))
(dV p12 (oAr .sub (.t p11) (.c (.int .i64 (.ofNat 1))))
(dV p4 (oMv (.t p12))
dE))))))))
(dBlock 0 (dLoop (dSeq (dSeq (dOps (dV p13 (oMv (.t p4))
(dV p14 (oAr .geq (.t p13) (.c (.int .i64 (.ofNat 0))))
dE)))
(dCond (.t p14) dSkip (dExit 0)))
(dSeq (dBlock 1 (dSeq (dOps (dV p17 (oMv (.t p0))
(dV p18 (oNchk (.t p17))
(dV p19 (oFa 0 (.t p18))
(dV p20 (oLd1 (.t p19))
(dV p21 (oMv (.t p4))
(dV p22 (oIa 1 (.t p20) (.t p21))
(dV p23 (oLd1 (.t p22))
dE))))))))
(dSeq (dOps (dSel (some p24) (.t p23) (.agg [.nilp, .nilp, (.int .i64 (.ofNat 0))])
(dV p25 (oExt (.t p24) 0)
(dV p26 (oAr .eql (.t p25) (.c (.int .i64 (.ofNat 0))))
dE))))
(dBlock 2 (dCond (.t p26) (dSeq (dOps (dV p36 (oExt (.t p24) 2)
(dV p5 (oNew [.nilp, .nilp, (.int .i64 (.ofNat 0))] 308)
(dU (oSt 3 (.t p5) (.t p36))
dE))))
(dSeq (dOps (dV p37 (oLdN 3 (.t p5))
(dU (oSt 3 (.t p2) (.t p37))
(dV p3 (oMv (.c (.bool true)))
dE))))
dRet)) (dOps (dV p27 (oMv (.t p0))
(dV p28 (oMv (.t p0))
(dV p29 (oNchk (.t p28))
(dV p30 (oFa 0 (.t p29))
(dV p31 (oLd1 (.t p30))
(dV p32 (oMv (.t p4))
(dV p33 (oSl 1 (.t p31) none (some (.t p32)) none)
(dV p34 (oNchk (.t p27))
(dV p35 (oFa 0 (.t p34))
(dU (oSt 1 (.t p35) (.t p33))
dE))))))))))))))))
(dOps (dV p15 (oMv (.t p4))
(dV p16 (oAr .sub (.t p15) (.c (.int .i64 (.ofNat 1))))
(dV p4 (oMv (.t p16))
dE)))))))))
(dSeq (dOps (dV p6 (oNew [.nilp, .nilp, (.int .i64 (.ofNat 0))] 308)
dE))
(dSeq (dOps (dV p38 (oLdN 3 (.t p6))
(dU (oSt 3 (.t p2) (.t p38))
(dV p3 (oMv (.c (.bool false)))
dE))))
dRet)))), [(.cN p2 3), (.t p3)]⟩
def af181 : AF := ⟨(dSeq (dOps (dV p3 (oBox 308 (.t p1))
(dV p4 (oMv (.c (.bool false)))
dE)))
(dSeq (dSeq (dOps (dV p5 (oFa 0 (.t p3))
(dV p6 (oLdN 1 (.t p5))
(dC (some p7) p234 [(.t p6)]
(dV p8 (oUn .not (.t p7))
(dV p9 (oMv (.t p8))
(dG p9 false (some p10) (dV p10 (oFa 1 (.t p3)))
(dG p9 false (some p11) (dV p11 (oLdN 1 (.t p10)))
(dG p9 false (some p12) (dC (some p12) p234 [(.t p11)])
(dG p9 false (some p13) (dV p13 (oUn .not (.t p12)))
(dV p14 (oPick (.t p9) (.c (.bool true)) (.t p13))
dE)))))))))))
(dCond (.t p14) (dSeq (dOps (dV p4 (oMv (.c (.bool false)))
dE))
dRet) dSkip))
(dSeq (dDraw (sN p15 ⟨(some p15), (.v (.mv (.t p0))), none⟩
(sN p16 ⟨(some p16), (.v (.nchk (.t p15))), none⟩
(sN p17 ⟨(some p17), (.v (.fa 2 (.t p16))), none⟩
(sN p18 ⟨(some p18), (.v (.ld1 (.t p17))), none⟩
(sN p19 ⟨(some p19), (.v (.mv (.t p0))), none⟩
(sN p20 ⟨(some p20), (.v (.ldN 3 (.t p3))), none⟩
(sE [] [(p18, ⟨(some p18), (.v (.ld1 (.t p17))), none⟩)] ⟨(some p21), (.call p235 [(.t p19), (.t p20)]), none⟩
(sN p22 ⟨(some p22), (.v (.lkA 3 (.int .i64 (.ofNat 0)) false (.t p18) (.t p21))), none⟩
(sN p23 ⟨(some p23), (.v (.ar .gtr (.t p22) (.c (.int .i64 (.ofNat 0))))), none⟩
(sN p4 ⟨(some p4), (.v (.mv (.t p23))), none⟩
sEnd)))))))))))
dRet))), [(.t p4)]⟩
def af182 : AF := ⟨(dSeq (dOps (dV p3 (oBox 308 (.t p1))
(dV p4 (oMv (.c (.bool false)))
dE)))
(dSeq (dDraw (sN p8 ⟨(some p8), (.v (.mv (.t p0))), none⟩
(sN p9 ⟨(some p9), (.v (.nchk (.t p8))), none⟩
(sN p10 ⟨(some p10), (.v (.fa 0 (.t p9))), none⟩
(sN p11 ⟨(some p11), (.v (.ldN 1 (.t p10))), none⟩
(sN p12 ⟨(some p12), (.v (.fa 0 (.t p3))), none⟩
(sN p13 ⟨(some p13), (.v (.ldN 1 (.t p12))), none⟩
(sN p14 ⟨(some p14), (.v (.fa 2 (.t p3))), none⟩
(sN p15 ⟨(some p15), (.v (.ld1 (.t p14))), none⟩
(sN p17 ⟨(some p17), (.v (.mv (.t p0))), none⟩
(sN p18 ⟨(some p18), (.v (.nchk (.t p17))), none⟩
(sN p19 ⟨(some p19), (.v (.fa 0 (.t p18))), none⟩
(sN p20 ⟨(some p20), (.v (.ldN 1 (.t p19))), none⟩
(sN p21 ⟨(some p21), (.v (.fa 1 (.t p3))), none⟩
(sN p22 ⟨(some p22), (.v (.ldN 1 (.t p21))), none⟩
(sN p23 ⟨(some p23), (.v (.fa 2 (.t p3))), none⟩
(sN p24 ⟨(some p24), (.v (.ld1 (.t p23))), none⟩
(sN p26 ⟨(some p26), (.v (.fa 2 (.t p3))), none⟩
(sN p27 ⟨(some p27), (.v (.ld1 (.t p26))), none⟩
(sA 21 p5 (.new [.nilp, .nilp, (.int .i64 (.ofNat 0))] 260)
(sE [] [(p20, ⟨(some p20), (.v (.ldN 1 (.t p19))), none⟩), (p22, ⟨(some p22), (.v (.ldN 1 (.t p21))), none⟩), (p24, ⟨(some p24), (.v (.ld1 (.t p23))), none⟩), (p27, ⟨(some p27), (.v (.ld1 (.t p26))), none⟩)] ⟨(some p16), (.call p165 [(.t p11), (.t p13), (.t p15)]), none⟩
(sE [] [(p27, ⟨(some p27), (.v (.ld1 (.t p26))), none⟩)] ⟨(some p25), (.call p165 [(.t p20), (.t p22), (.t p24)]), none⟩
(sN p28 ⟨(some p28), (.v (.build [.nilp, .nilp, (.int .i64 (.ofNat 0))] [(0, 1, (.t p16)), (1, 1, (.t p25)), (2, 1, (.t p27))])), none⟩
(sE [21] [] ⟨none, (.v (.st 3 (.t p5) (.t p28))), none⟩
sEnd))))))))))))))))))))))))
(dSeq (dDraw (sN p30 ⟨(some p30), (.v (.mv (.t p0))), none⟩
(sN p31 ⟨(some p31), (.v (.fa 0 (.t p5))), none⟩
(sN p32 ⟨(some p32), (.v (.ldN 1 (.t p31))), none⟩
(sN p34 ⟨(some p34), (.v (.fa 1 (.t p5))), none⟩
(sN p35 ⟨(some p35), (.v (.ldN 1 (.t p34))), none⟩
(sN p38 ⟨(some p38), (.v (.ldN 3 (.t p5))), none⟩
(sE [] [(p35, ⟨(some p35), (.v (.ldN 1 (.t p34))), none⟩), (p38, ⟨(some p38), (.v (.ldN 3 (.t p5))), none⟩)] ⟨(some p33), (.call p166 [(.t p32)]), none⟩
(sE [] [(p38, ⟨(some p38), (.v (.ldN 3 (.t p5))), none⟩)] ⟨(some p36), (.call p166 [(.t p35)]), none⟩
(sE [] [(p38, ⟨(some p38), (.v (.ldN 3 (.t p5))), none⟩)] ⟨(some p37), (.call p236 [(.t p30), (.t p33), (.t p36)]), none⟩
(sE [] [] ⟨(some p39), (.callv (.t p37) [(.t p38)]), none⟩
(sN p29 ⟨(some p29), (.v (.mv (.t p39))), none⟩
(sN p40 ⟨(some p40), (.v (.ext (.t p29) 0)), none⟩
(sN p41 ⟨(some p41), (.v (.ext (.t p29) 1)), none⟩
(sN p6 ⟨(some p6), (.v (.mv (.t p40))), none⟩
(sN p7 ⟨(some p7), (.v (.mv (.t p41))), none⟩
sEnd))))))))))))))))
(dSeq (dSeq (dOps (dV p42 (oMv (.t p6))
(dV p43 (oLen (.t p42))
(dV p44 (oAr .gtr (.t p43) (.c (.int .i64 (.ofNat 0))))
dE))))
(dCond (.t p44) (dSeq (dDraw (sN p45 ⟨(some p45), (.v (.mv (.t p0))), none⟩
(sN p46 ⟨(some p46), (.v (.nchk (.t p45))), none⟩
(sN p47 ⟨(some p47), (.v (.fa 2 (.t p46))), none⟩
(sN p48 ⟨(some p48), (.v (.ld1 (.t p47))), none⟩
(sN p49 ⟨(some p49), (.v (.mv (.t p0))), none⟩
(sN p50 ⟨(some p50), (.v (.ldN 3 (.t p3))), none⟩
(sN p52 ⟨(some p52), (.v (.mv (.t p6))), none⟩
(sN p53 ⟨(some p53), (.v (.len (.t p52))), none⟩
(sE [] [(p48, ⟨(some p48), (.v (.ld1 (.t p47))), none⟩)] ⟨(some p51), (.call p235 [(.t p49), (.t p50)]), none⟩
(sE [] [] ⟨none, (.v (.upA 3 (.t p48) (.t p51) (.t p53))), none⟩
sEnd)))))))))))
(dOps (dV p54 (oMv (.t p0))
(dV p55 (oNchk (.t p54))
(dV p56 (oFa 1 (.t p55))
(dV p57 (oMv (.t p6))
(dC (some p58) p179 [(.t p56), (.t p57)]
dE))))))) dSkip))
(dSeq (dOps (dV p59 (oMv (.t p7))
(dV p4 (oMv (.t p59))
dE)))
dRet))))), [(.t p4)]⟩
def af183 : AF := ⟨(dSeq (dOps (dV p4 (oMv (.c (.int .i64 (.ofNat 0))))
dE))
(dSeq (dSeq (dOps (dV p5 (oMv (.t p1))
(dV p6 (oAr .eql (.t p5) (.c (.int .i64 (.ofNat 1))))
(dV p7 (oMv (.t p6))
(dG p7 true (some p8) (dV p8 (oMv (.t p0)))
(dG p7 true (some p9) (dV p9 (oAr .eql (.t p8) (.c (.int .i64 (.ofNat 3)))))
(dG p7 true (some p10) (dV p10 (oMv (.t p9)))
(dG p10 false (some p11) (dV p11 (oMv (.t p0)))
(dG p10 false (some p12) (dV p12 (oAr .eql (.t p11) (.c (.int .i64 (.ofNat 4)))))
(dG p7 true (some p13) (dV p13 (oPick (.t p10) (.c (.bool true)) (.t p12)))
(dG p7 true (some p14) (dV p14 (oMv (.t p13)))
(dG p14 false (some p15) (dV p15 (oMv (.t p0)))
(dG p14 false (some p16) (dV p16 (oAr .eql (.t p15) (.c (.int .i64 (.ofNat 6)))))
(dG p7 true (some p17) (dV p17 (oPick (.t p14) (.c (.bool true)) (.t p16)))
(dV p18 (oPick (.t p7) (.t p17) (.c (.bool false)))
dE)))))))))))))))
(dCond (.t p18) (dSeq (dOps (dV p4 (oMv (.c (.int .i64 (.ofNat 1))))
dE))
dRet) dSkip))
(dSeq (dOps (dV p4 (oMv (.c (.int .i64 (.ofNat 0))))
dE))
dRet))), [(.t p4)]⟩
def af184 : AF := ⟨(dSeq (dOps (dV p2 (oBox 85 (.t p0))
(dV p4 (oMv (.c .nilp))
dE)))
(dSeq (dSeq (dOps (dV p6 (oMv (.t p1))
(dV p7 (oAr .lss (.t p6) (.c (.int .i64 (.ofNat 0))))
(dV p8 (oMv (.t p7))
(dG p8 false (some p9) (dV p9 (oMv (.t p1)))
(dG p8 false (some p10) (dV p10 (oFa 1 (.t p2)))
(dG p8 false (some p11) (dV p11 (oLd1 (.t p10)))
(dG p8 false (some p12) (dV p12 (oAr .geq (.t p9) (.t p11)))
(dV p13 (oPick (.t p8) (.c (.bool true)) (.t p12))
dE)))))))))
(dCond (.t p13) (dSeq (dOps (dV p4 (oMv (.c .nilp))
dE))
dRet) dSkip))
(dSeq (dOps (dV p14 (oFa 0 (.t p2))
(dV p15 (oLd1 (.t p14))
(dV p5 (oMv (.t p15))
dE))))
(dSeq (dSeq (dOps (dV p16 (oMv (.t p1))
(dV p17 (oMv (.c (.int .i64 (.ofNat 0))))
dE)))
(dBlock 0 (dLoop (dSeq (dOps (dV p18 (oAr .lss (.t p17) (.t p16))
dE))
(dSeq (dCond (.t p18) dSkip (dExit 0))
(dSeq (dBlock 1 (dOps (dV p19 (oMv (.t p5))
(dV p20 (oNchk (.t p19))
(dV p21 (oFa 1 (.t p20))
(dV p22 (oLd1 (.t p21))
(dV p5 (oMv (.t p22))
dE)))))))
(dOps (dV p23 (oAr .add (.t p17) (.c (.int .i64 (.ofNat 1))))
(dV p17 (oMv (.t p23))
dE)))))))))
(dSeq (dOps (dV p24 (oMv (.t p5))
(dV p25 (oNchk (.t p24))
(dV p26 (oFa 0 (.t p25))
(dV p27 (oLd1 (.t p26))
(dV p4 (oMv (.t p27))
dE))))))
dRet))))), [(.t p4)]⟩
def af185 : AF := ⟨(dSeq (dOps (dV p1 (oBox 222 (.t p0))
(dV p2 (oMv (.c .nilp))
dE)))
(dSeq (dDraw (sN p3 ⟨(some p3), (.v (.ldN 3 (.t p1))), none⟩
(sN p4 ⟨(some p4), (.v (.ldN 3 (.t p1))), none⟩
(sE [] [(p3, ⟨(some p3), (.v (.ldN 3 (.t p1))), none⟩)] ⟨(some p5), (.call p237 [(.t p4)]), none⟩
(sN p6 ⟨(some p6), (.v (.build [.nilp, (.int .i64 (.ofNat 0)), .nilp, (.int .i64 (.ofNat 0)), (.int .i64 (.ofNat 0)), (.int .i64 (.ofNat 0)), (.int .i64 (.ofNat 0)), .nilp, (.int .i64 (.ofNat 0)), (.int .i64 (.ofNat 0)), (.int .i64 (.ofNat 0)), (.int .i64 (.ofNat 0)), .nilp, (.int .i64 (.ofNat 0))] [(0, 3, (.t p3)), (3, 4, (.t p5))])), none⟩
(sA 4 p7 (.box 338 (.t p6))
(sN p2 ⟨(some p2), (.v (.mv (.t p7))), none⟩
sEnd)))))))
dRet)), [(.t p2)]⟩
def af186 : AF := ⟨(dSeq (dOps (dV p2 (oBox 26 (.t p0))
(dV p4 (oMv (.c .nils))
(dV p5 (oMv (.c .nils))
(dV p6 (oNew [(.int .i64 (.ofNat 0)), (.int .i64 (.ofNat 0)), (.bool false), (.str []), .nils, .nils] 26)
(dV p7 (oMv (.c (.bool false)))
dE))))))
(dSeq (dSeq (dOps (dV p13 (oMv (.t p1))
(dV p14 (oAr .lss (.t p13) (.c (.int .i64 (.ofNat 0))))
(dV p15 (oMv (.t p14))
(dG p15 false (some p16) (dV p16 (oLdN 6 (.t p2)))
(dG p15 false (some p17) (dC (some p17) p60 [(.t p16)])
(dG p15 false (some p18) (dV p18 (oAr .neq (.t p17) (.c (.int .i64 (.ofNat 0)))))
(dV p19 (oPick (.t p15) (.c (.bool true)) (.t p18))
dE))))))))
(dCond (.t p19) (dSeq (dOps (dV p20 (oBuild [(.int .i64 (.ofNat 0)), (.int .i64 (.ofNat 0)), (.bool false), (.str []), .nils, .nils] [])
(dV p4 (oMv (.c .nils))
(dV p5 (oMv (.c .nils))
(dU (oSt 6 (.t p6) (.t p20))
(dV p7 (oMv (.c (.bool false)))
dE))))))
dRet) dSkip))
(dSeq (dOps (dV p21 (oLdN 6 (.t p2))
(dV p8 (oNew [(.int .i64 (.ofNat 0)), (.int .i64 (.ofNat 0)), (.bool false), (.str []), .nils, .nils] 26)
(dU (oSt 6 (.t p8) (.t p21))
dE))))
(dSeq (dOps (dV p9 (oNew [.nils] 24)
dE))
(dSeq (dOps (dV p10 (oNew [.nils] 80)
dE))
(dSeq (dOps (dC (some p22) p238 [(.t p10)]
(dV p11 (oNew [.nilf] 183)
(dU (oSt 1 (.t p11) (.t p22))
dE))))
(dSeq (dSeq (dOps (dV p23 (oLdN 6 (.t p2))
(dV p24 (oMv (.t p1))
(dC (some p25) p239 [(.t p23), (.t p24)]
dE))))
(dBlock 0 (dRange (.t p25) [p26] (dOps (dV p12 (oNew [(.int .i64 (.ofNat 0)), (.int .i64 (.ofNat 0)), (.bool false), (.str []), .nils, .nils] 26)
(dU (oSt 6 (.t p12) (.t p26))
dE))) (dBlock 1 (dSeq (dDraw2 (sN p27 ⟨(some p27), (.v (.ld1 (.t p9))), none⟩
(sN p28 ⟨(some p28), (.v (.fa 5 (.t p12))), none⟩
(sN p29 ⟨(some p29), (.v (.ld1 (.t p28))), none⟩
(sN p30 ⟨(some p30), (.v (.ia 6 (.t p29) (.c (.int .i64 (.ofNat 0))))), none⟩
(sN p31 ⟨(some p31), (.v (.ldN 6 (.t p30))), none⟩
(sN p33 ⟨(some p33), (.v (.len (.t p27))), none⟩
(sA 7 p34 (.buildS 26 1 [(.int .i64 (.ofNat 0)), (.int .i64 (.ofNat 0)), (.bool false), (.str []), .nils, .nils] [(0, 6, (.c (.agg [(.int .i64 (.ofNat 0)), (.int .i64 (.ofNat 0)), (.bool false), (.str []), .nils, .nils])))])
(sE [] [(p27, ⟨(some p27), (.v (.ld1 (.t p9))), none⟩)] ⟨(some p32), (.call p44 [(.t p31)]), none⟩
(sE [7] [] ⟨(some p35), (.v (.app 26 6 (.t p27) (.t p34))), none⟩
sEnd))))))))) p36 6 (.t p35) (.t p33) 6 (.t p32) p9 1 (.t p35))
(dSeq (dOps (dV p37 (oLd1 (.t p11))
(dV p38 (oLdN 6 (.t p12))
(dCv (some p39) (.t p37) [(.t p38)]
dE))))
(dOps (dV p40 (oFa 5 (.t p12))
(dV p41 (oLd1 (.t p40))
(dV p42 (oIa 6 (.t p41) (.c (.int .i64 (.ofNat 1))))
(dV p43 (oLdN 6 (.t p42))
(dU (oSt 6 (.t p8) (.t p43))
dE))))))))))))
(dSeq (dSeq (dOps (dV p44 (oLd1 (.t p9))
(dV p45 (oLen (.t p44))
(dV p46 (oMv (.t p1))
(dV p47 (oAr .lss (.t p45) (.t p46))
dE)))))
(dCond (.t p47) (dSeq (dOps (dV p48 (oBuild [(.int .i64 (.ofNat 0)), (.int .i64 (.ofNat 0)), (.bool false), (.str []), .nils, .nils] [])
(dV p4 (oMv (.c .nils))
(dV p5 (oMv (.c .nils))
(dU (oSt 6 (.t p6) (.t p48))
(dV p7 (oMv (.c (.bool false)))
dE))))))
dRet) dSkip))
(dSeq (dDraw (sN p49 ⟨(some p49), (.v (.ld1 (.t p9))), none⟩
(sN p50 ⟨(some p50), (.v (.ld1 (.t p10))), none⟩
(sN p51 ⟨(some p51), (.v (.ldN 6 (.t p8))), none⟩
(sE [] [(p49, ⟨(some p49), (.v (.ld1 (.t p9))), none⟩), (p50, ⟨(some p50), (.v (.ld1 (.t p10))), none⟩)] ⟨(some p52), (.call p44 [(.t p51)]), none⟩
(sN p4 ⟨(some p4), (.v (.mv (.t p49))), none⟩
(sN p5 ⟨(some p5), (.v (.mv (.t p50))), none⟩
(sE [] [] ⟨none, (.v (.st 6 (.t p6) (.t p52))), none⟩
(sN p7 ⟨(some p7), (.v (.mv (.c (.bool true)))), none⟩
sEnd)))))))))
dRet))))))))), [(.t p4), (.t p5), (.cN p6 6), (.t p7)]⟩
def af188 : AF := ⟨(dSeq (dOps (dV p6 (oMv (.c (.bool false)))
dE))
(dSeq (dSeq (dOps (dV p10 (oMv (.t p0))
(dV p11 (oLen (.t p10))
(dV p12 (oMv (.t p1))
(dV p13 (oLen (.t p12))
(dV p14 (oAr .neq (.t p11) (.t p13))
dE))))))
(dCond (.t p14) (dSeq (dOps (dV p6 (oMv (.c (.bool false)))
dE))
dRet) dSkip))
(dSeq (dSeq (dOps (dV p15 (oMv (.t p0))
(dV p16 (oLen (.t p15))
(dV p17 (oMv (.c (.int .i64 (.ofNat 0))))
dE))))
(dBlock 0 (dLoop (dSeq (dOps (dV p18 (oAr .lss (.t p17) (.t p16))
dE))
(dSeq (dCond (.t p18) dSkip (dExit 0))
(dSeq (dBlock 1 (dSeq (dOps (dV p19 (oMv (.t p17))
(dV p20 (oIa 6 (.t p15) (.t p17))
(dV p21 (oLdN 6 (.t p20))
(dV p8 (oNew [(.int .i64 (.ofNat 0)), (.int .i64 (.ofNat 0)), (.bool false), (.str []), .nils, .nils] 26)
(dV p7 (oMv (.t p19))
(dU (oSt 6 (.t p8) (.t p21))
dE)))))))
(dSeq (dOps (dV p22 (oMv (.t p1))
(dV p23 (oMv (.t p7))
(dV p24 (oIa 6 (.t p22) (.t p23))
(dV p25 (oLdN 6 (.t p24))
(dV p9 (oNew [(.int .i64 (.ofNat 0)), (.int .i64 (.ofNat 0)), (.bool false), (.str []), .nils, .nils] 26)
(dU (oSt 6 (.t p9) (.t p25))
dE)))))))
(dSeq (dOps (dV p26 (oMv (.t p2))
(dV p27 (oLdN 6 (.t p8))
(dV p28 (oLdN 6 (.t p9))
(dCv (some p29) (.t p26) [(.t p27), (.t p28)]
(dV p30 (oUn .not (.t p29))
dE))))))
(dCond (.t p30) (dSeq (dOps (dV p6 (oMv (.c (.bool false)))
dE))
dRet) dSkip)))))
(dOps (dV p31 (oAr .add (.t p17) (.c (.int .i64 (.ofNat 1))))
(dV p17 (oMv (.t p31))
dE)))))))))
(dSeq (dOps (dV p6 (oMv (.c (.bool true)))
dE))
dRet)))), [(.t p6)]⟩
def af189 : AF := ⟨(dSeq (dOps (dV p2 (oBox 26 (.t p0))
(dV p3 (oBox 26 (.t p1))
(dV p4 (oMv (.c (.bool false)))
dE))))
(dSeq (dDraw (sN p5 ⟨(some p5), (.v (.ldN 6 (.t p2))), none⟩
(sN p7 ⟨(some p7), (.v (.ldN 6 (.t p3))), none⟩
(sE [] [(p7, ⟨(some p7), (.v (.ldN 6 (.t p3))), none⟩)] ⟨(some p6), (.call p241 [(.t p5)]), none⟩
(sE [] [] ⟨(some p8), (.call p241 [(.t p7)]), none⟩
(sE [] [] ⟨(some p9), (.call p240 [(.t p6), (.t p8)]), none⟩
(sN p4 ⟨(some p4), (.v (.mv (.t p9))), none⟩
sEnd)))))))
dRet)), [(.t p4)]⟩
def af190 : AF := ⟨(dSeq (dOps (dV p3 (oBox 163 (.t p0))
(dV p4 (oBox 26 (.t p1))
(dV p6 (oMv (.c .nils))
(dV p7 (oMv (.c (.bool false)))
dE)))))
(dSeq (dOps (dV p14 (oLdN 6 (.t p4))
(dC (some p15) p242 [(.t p14)]
(dV p13 (oMv (.t p15))
(dV p16 (oExt (.t p13) 0)
(dV p17 (oExt (.t p13) 1)
(dV p18 (oExt (.t p13) 2)
(dV p8 (oNew [(.int .i64 (.ofNat 0)), (.int .i64 (.ofNat 0)), (.bool false), (.str []), .nils, .nils] 26)
(dU (oSt 6 (.t p8) (.t p16))
(dV p9 (oMv (.t p17))
(dV p10 (oMv (.t p18))
dE)))))))))))
(dSeq (dSeq (dDraw (sN p19 ⟨(some p19), (.v (.ldN 6 (.t p8))), none⟩
(sN p20 ⟨(some p20), (.v (.ldN 21 (.t p3))), none⟩
(sN p21 ⟨(some p21), (.v (.fa 0 (.t p3))), none⟩
(sN p22 ⟨(some p22), (.v (.fa 1 (.t p21))), none⟩
(sN p23 ⟨(some p23), (.v (.ld1 (.t p22))), none⟩
(sE [] [(p19, ⟨(some p19), (.v (.ldN 6 (.t p8))), none⟩)] ⟨(some p24), (.call p243 [(.t p20), (.t p23)]), none⟩
(sE [] [] ⟨(some p25), (.call p240 [(.t p19), (.t p24)]), none⟩
(sN p26 ⟨(some p26), (.v (.un .not (.t p25))), none⟩
(sN p27 ⟨(some p27), (.v (.mv (.t p26))), none⟩
(sN p28 ⟨(some p28), (.v (.mv (.t p9))), (some (p27, false))⟩
(sN p29 ⟨(some p29), (.v (.len (.t p28))), (some (p27, false))⟩
(sN p30 ⟨(some p30), (.v (.fa 17 (.t p3))), (some (p27, false))⟩
(sN p31 ⟨(some p31), (.v (.ld1 (.t p30))), (some (p27, false))⟩
(sN p32 ⟨(some p32), (.v (.len (.t p31))), (some (p27, false))⟩
(sN p33 ⟨(some p33), (.v (.fa 18 (.t p3))), (some (p27, false))⟩
(sN p34 ⟨(some p34), (.v (.ld1 (.t p33))), (some (p27, false))⟩
(sN p35 ⟨(some p35), (.v (.len (.t p34))), (some (p27, false))⟩
(sN p36 ⟨(some p36), (.v (.ar .add (.t p32) (.t p35))), (some (p27, false))⟩
(sN p37 ⟨(some p37), (.v (.ar .neq (.t p29) (.t p36))), (some (p27, false))⟩
(sN p38 ⟨(some p38), (.v (.pick (.t p27) (.c (.bool true)) (.t p37))), none⟩
sEnd)))))))))))))))))))))
(dCond (.t p38) (dSeq (dOps (dV p6 (oMv (.c .nils))
(dV p7 (oMv (.c (.bool false)))
dE)))
dRet) dSkip))
(dSeq (dSeq (dOps (dV p39 (oMv (.t p9))
(dV p40 (oFa 17 (.t p3))
(dV p41 (oLd1 (.t p40))
(dV p42 (oLen (.t p41))
(dV p43 (oSl 6 (.t p39) none (some (.t p42)) none)
(dV p44 (oLen (.t p43))
(dV p45 (oMv (.c (.int .i64 (.ofNat 0))))
dE))))))))
(dBlock 0 (dLoop (dSeq (dOps (dV p46 (oAr .lss (.t p45) (.t p44))
dE))
(dSeq (dCond (.t p46) dSkip (dExit 0))
(dSeq (dBlock 1 (dSeq (dOps (dV p47 (oMv (.t p45))
(dV p48 (oIa 6 (.t p43) (.t p45))
(dV p49 (oLdN 6 (.t p48))
(dV p12 (oNew [(.int .i64 (.ofNat 0)), (.int .i64 (.ofNat 0)), (.bool false), (.str []), .nils, .nils] 26)
(dV p11 (oMv (.t p47))
(dU (oSt 6 (.t p12) (.t p49))
dE)))))))
(dSeq (dDraw (sN p50 ⟨(some p50), (.v (.ldN 6 (.t p12))), none⟩
(sN p51 ⟨(some p51), (.v (.mv (.t p2))), none⟩
(sN p52 ⟨(some p52), (.v (.fa 17 (.t p3))), none⟩
(sN p53 ⟨(some p53), (.v (.ld1 (.t p52))), none⟩
(sN p54 ⟨(some p54), (.v (.len (.t p53))), none⟩
(sN p55 ⟨(some p55), (.v (.ar .add (.t p51) (.t p54))), none⟩
(sN p56 ⟨(some p56), (.v (.ar .sub (.t p55) (.c (.int .i64 (.ofNat 1))))), none⟩
(sN p57 ⟨(some p57), (.v (.mv (.t p11))), none⟩
(sN p58 ⟨(some p58), (.v (.ar .sub (.t p56) (.t p57))), none⟩
(sE [] [(p50, ⟨(some p50), (.v (.ldN 6 (.t p12))), none⟩)] ⟨(some p59), (.call p244 [(.t p58)]), none⟩
(sE [] [] ⟨(some p60), (.call p240 [(.t p50), (.t p59)]), none⟩
(sN p61 ⟨(some p61), (.v (.un .not (.t p60))), none⟩
sEnd)))))))))))))
(dCond (.t p61) (dSeq (dOps (dV p6 (oMv (.c .nils))
(dV p7 (oMv (.c (.bool false)))
dE)))
dRet) dSkip))))
(dOps (dV p62 (oAr .add (.t p45) (.c (.int .i64 (.ofNat 1))))
(dV p45 (oMv (.t p62))
dE)))))))))
(dSeq (dOps (dV p63 (oMv (.t p9))
(dV p64 (oFa 17 (.t p3))
(dV p65 (oLd1 (.t p64))
(dV p66 (oLen (.t p65))
(dV p67 (oSl 6 (.t p63) (some (.t p66)) none none)
(dC (some p68) p129 [(.t p67)]
(dV p6 (oMv (.t p68))
(dV p7 (oMv (.c (.bool true)))
dE)))))))))
dRet))))), [(.t p6), (.t p7)]⟩
def af191 : AF := ⟨(dSeq (dOps (dV p2 (oBox 163 (.t p0))
(dV p4 (oMv (.c .nils))
dE)))
(dSeq (dOps (dV p5 (oMv (.c .nils))
dE))
(dSeq (dSeq (dOps (dV p12 (oMv (.t p1))
(dV p13 (oLen (.t p12))
(dV p14 (oMv (.c (.int .i64 (.ofNat 0))))
dE))))
(dBlock 0 (dLoop (dSeq (dOps (dV p15 (oAr .lss (.t p14) (.t p13))
dE))
(dSeq (dCond (.t p15) dSkip (dExit 0))
(dSeq (dBlock 1 (dSeq (dOps (dV p16 (oMv (.t p14))
(dV p17 (oIa 6 (.t p12) (.t p14))
(dV p18 (oLdN 6 (.t p17))
(dV p7 (oNew [(.int .i64 (.ofNat 0)), (.int .i64 (.ofNat 0)), (.bool false), (.str []), .nils, .nils] 26)
(dV p6 (oMv (.t p16))
(dU (oSt 6 (.t p7) (.t p18))
dE)))))))
(dSeq (dOps (dV p20 (oLdN 6 (.t p7))
(dC (some p21) p128 [(.t p20)]
(dV p19 (oMv (.t p21))
(dV p22 (oExt (.t p19) 0)
(dV p23 (oExt (.t p19) 1)
(dV p9 (oNew [(.int .i64 (.ofNat 0)), (.int .i64 (.ofNat 0)), (.bool false), (.str []), .nils, .nils] 26)
(dV p8 (oMv (.t p22))
(dU (oSt 6 (.t p9) (.t p23))
dE)))))))))
(dSeq (dOps (dV p25 (oLdN 21 (.t p2))
(dV p26 (oLdN 6 (.t p9))
(dV p27 (oMv (.t p6))
(dV p28 (oMv (.t p8))
(dV p29 (oLen (.t p28))
(dV p30 (oAr .add (.t p27) (.t p29))
(dC (some p31) p190 [(.t p25), (.t p26), (.t p30)]
(dV p24 (oMv (.t p31))
(dV p32 (oExt (.t p24) 0)
(dV p33 (oExt (.t p24) 1)
(dV p10 (oMv (.t p32))
(dV p11 (oMv (.t p33))
dE)))))))))))))
(dSeq (dOps (dV p34 (oMv (.t p11))
dE))
(dCond (.t p34) (dOps (dV p35 (oMv (.t p5))
(dV p36 (oMv (.t p6))
(dV p37 (oMv (.t p8))
(dV p38 (oMv (.t p10))
(dV p39 (oBuild [(.int .i64 (.ofNat 0)), .nils, .nils] [(0, 1, (.t p36)), (1, 1, (.t p37)), (2, 1, (.t p38))])
(dV p40 (oBuildS 174 1 [(.int .i64 (.ofNat 0)), .nils, .nils] [(0, 3, (.t p39))])
(dV p41 (oApp 174 3 (.t p35) (.t p40))
(dV p5 (oMv (.t p41))
dE))))))))) dSkip))))))
(dOps (dV p42 (oAr .add (.t p14) (.c (.int .i64 (.ofNat 1))))
(dV p14 (oMv (.t p42))
dE)))))))))
(dSeq (dOps (dV p43 (oMv (.t p5))
(dV p4 (oMv (.t p43))
dE)))
dRet)))), [(.t p4)]⟩
def af192 : AF := ⟨(dSeq (dOps (dV p1 (oBox 87 (.t p0))
(dV p2 (oNew [.nilp, (.int .i64 (.ofNat 0))] 87)
dE)))
(dSeq (dDraw (sN p3 ⟨(some p3), (.v (.fa 0 (.t p1))), none⟩
(sN p4 ⟨(some p4), (.v (.ldN 2 (.t p3))), none⟩
(sN p5 ⟨(some p5), (.v (.fa 0 (.t p1))), none⟩
(sN p6 ⟨(some p6), (.v (.fa 1 (.t p5))), none⟩
(sN p7 ⟨(some p7), (.v (.ld1 (.t p6))), none⟩
(sE [] [(p4, ⟨(some p4), (.v (.ldN 2 (.t p3))), none⟩)] ⟨(some p8), (.call p245 [(.t p7)]), none⟩
(sE [] [] ⟨(some p9), (.call p214 [(.t p4), (.t p8)]), none⟩
(sN p10 ⟨(some p10), (.v (.build [.nilp, (.int .i64 (.ofNat 0))] [(0, 2, (.t p9))])), none⟩
(sE [] [] ⟨none, (.v (.st 2 (.t p2) (.t p10))), none⟩
sEnd))))))))))
dRet)), [(.cN p2 2)]⟩
def af193 : AF := ⟨(dSeq (dOps (dV p2 (oBox 90 (.t p0))
(dV p4 (oNew [.nilp] 90)
dE)))
(dSeq (dOps (dV p5 (oMv (.t p1))
(dV p6 (oLdN 1 (.t p2))
(dV p7 (oBuild [.nilf, (.bool false), .nilp, .nilp] [(0, 1, (.t p5)), (3, 1, (.t p6))])
(dV p8 (oBox 389 (.t p7))
(dV p9 (oBuild [.nilp] [(0, 1, (.t p8))])
(dU (oSt 1 (.t p4) (.t p9))
dE)))))))
dRet)), [(.cN p4 1)]⟩
def af194 : AF := ⟨(dSeq (dOps (dV p2 (oNew [.nilp] 153)
dE))
(dSeq (dOps (dV p3 (oFa 0 (.t p0))
(dV p4 (oLdN 2 (.t p3))
(dV p5 (oLdN 6 (.t p1))
(dC (some p6) p80 [(.t p4), (.t p5)]
(dU (oSt 1 (.t p2) (.t p6))
dE))))))
dRet)), [(.cN p2 1)]⟩
def af195 : AF := ⟨(dSeq (dSeq (dDraw (sN p6 ⟨(some p6), (.v (.mv (.t p0))), none⟩
(sN p7 ⟨(some p7), (.v (.fa 0 (.t p1))), none⟩
(sN p8 ⟨(some p8), (.v (.ld1 (.t p7))), none⟩
(sN p9 ⟨(some p9), (.v (.ldN 2 (.t p2))), none⟩
(sE [] [(p8, ⟨(some p8), (.v (.ld1 (.t p7))), none⟩)] ⟨(some p10), (.call p196 [(.t p9), (.c .nils)]), none⟩
(sE [] [] ⟨(some p11), (.callv (.t p6) [(.t p8), (.t p10)]), none⟩
(sN p12 ⟨(some p12), (.v (.un .not (.t p11))), none⟩
sEnd))))))))
(dCond (.t p12) dRet dSkip))
(dSeq (dOps (dV p13 (oFa 1 (.t p1))
(dV p14 (oLd1 (.t p13))
(dV p15 (oLen (.t p14))
(dV p16 (oMv (.c (.int .i64 (.ofNat 0))))
dE)))))
(dBlock 0 (dLoop (dSeq (dOps (dV p17 (oAr .lss (.t p16) (.t p15))
dE))
(dSeq (dCond (.t p17) dSkip (dExit 0))
(dSeq (dBlock 1 (dSeq (dOps (dV p18 (oIa 2 (.t p14) (.t p16))
(dV p19 (oLdN 2 (.t p18))
(dV p5 (oNew [(.int .i64 (.ofNat 0)), (.int .i64 (.ofNat 0))] 46)
(dU (oSt 2 (.t p5) (.t p19))
dE)))))
(dSeq (dDraw (sN p20 ⟨(some p20), (.v (.mv (.t p0))), none⟩
(sN p21 ⟨(some p21), (.v (.fa 1 (.t p5))), none⟩
(sN p22 ⟨(some p22), (.v (.ld1 (.t p21))), none⟩
(sN p23 ⟨(some p23), (.v (.ldN 2 (.t p2))), none⟩
(sN p24 ⟨(some p24), (.v (.fa 0 (.t p5))), none⟩
(sN p25 ⟨(some p25), (.v (.ld1 (.t p24))), none⟩
(sE [] [(p22, ⟨(some p22), (.v (.ld1 (.t p21))), none⟩)] ⟨(some p26), (.call p197 [(.t p23), (.t p25)]), none⟩
(sE [] [] ⟨(some p27), (.callv (.t p20) [(.t p22), (.t p26)]), none⟩
(sN p28 ⟨(some p28), (.v (.un .not (.t p27))), none⟩
sEnd))))))))))
(dCond (.t p28) dRet dSkip))))
(dOps (dV p29 (oAr .add (.t p16) (.c (.int .i64 (.ofNat 1))))
(dV p16 (oMv (.t p29))
dE)))))))))), []⟩
def af196 : AF := ⟨(dSeq (dOps (dV p2 (oBox 49 (.t p0))
(dV p4 (oMv (.c (.int .i64 (.ofNat 0))))
dE)))
(dSeq (dSeq (dOps (dV p9 (oLdN 2 (.t p2))
(dC (some p10) p117 [(.t p9)]
(dV p11 (oUn .not (.t p10))
dE))))
(dCond (.t p11) (dSeq (dOps (dV p4 (oMv (.c (.int .i64 (.ofNat 0))))
dE))
dRet) dSkip))
(dSeq (dOps (dV p12 (oFa 0 (.t p2))
(dV p13 (oLd1 (.t p12))
(dV p5 (oMv (.t p13))
dE))))
(dSeq (dSeq (dOps (dV p14 (oFa 1 (.t p2))
(dV p15 (oLd1 (.t p14))
(dV p16 (oLen (.t p15))
(dV p17 (oMv (.c (.int .i64 (.ofNat 0))))
dE)))))
(dBlock 0 (dLoop (dSeq (dOps (dV p18 (oAr .lss (.t p17) (.t p16))
dE))
(dSeq (dCond (.t p18) dSkip (dExit 0))
(dSeq (dBlock 1 (dSeq (dOps (dV p19 (oIa 2 (.t p15) (.t p17))
(dV p20 (oLdN 2 (.t p19))
(dV p7 (oNew [(.int .i64 (.ofNat 0)), (.int .i64 (.ofNat 0))] 46)
(dU (oSt 2 (.t p7) (.t p20))
dE)))))
(dSeq (dOps (dV p21 (oFa 1 (.t p7))
(dV p22 (oLd1 (.t p21))
(dC (some p23) p246 [(.t p22)]
(dV p8 (oMv (.t p23))
dE)))))
(dOps (dV p24 (oMv (.t p5))
(dV p25 (oMv (.t p8))
(dV p26 (oMv (.t p1))
(dV p27 (oFa 0 (.t p7))
(dV p28 (oLd1 (.t p27))
(dC (some p29) p247 [(.t p26), (.t p28)]
(dCv (some p30) (.t p25) [(.t p29)]
(dV p31 (oMm true [(.t p24), (.t p30)])
(dV p5 (oMv (.t p31))
dE)))))))))))))
(dOps (dV p32 (oAr .add (.t p17) (.c (.int .i64 (.ofNat 1))))
(dV p17 (oMv (.t p32))
dE)))))))))
(dSeq (dOps (dV p33 (oMv (.t p5))
(dV p4 (oMv (.t p33))
dE)))
dRet))))), [(.t p4)]⟩
def af197 : AF := ⟨(dSeq (dOps (dV p2 (oBox 49 (.t p0))
(dV p4 (oMv (.c (.int .i64 (.ofNat 0))))
dE)))
(dSeq (dOps (dV p5 (oMv (.c (.int .i64 (.negSucc 0))))
dE))
(dSeq (dSeq (dOps (dV p8 (oFa 1 (.t p2))
(dV p9 (oLd1 (.t p8))
(dV p10 (oLen (.t p9))
(dV p11 (oMv (.c (.int .i64 (.ofNat 0))))
dE)))))
(dBlock 0 (dLoop (dSeq (dOps (dV p12 (oAr .lss (.t p11) (.t p10))
dE))
(dSeq (dCond (.t p12) dSkip (dExit 0))
(dSeq (dBlock 1 (dSeq (dOps (dV p13 (oIa 2 (.t p9) (.t p11))
(dV p14 (oLdN 2 (.t p13))
(dV p7 (oNew [(.int .i64 (.ofNat 0)), (.int .i64 (.ofNat 0))] 46)
(dU (oSt 2 (.t p7) (.t p14))
dE)))))
(dSeq (dOps (dV p15 (oFa 0 (.t p7))
(dV p16 (oLd1 (.t p15))
(dV p17 (oMv (.t p1))
(dV p18 (oAr .eql (.t p16) (.t p17))
dE)))))
(dCond (.t p18) (dOps (dV p19 (oMv (.t p5))
(dV p20 (oFa 1 (.t p7))
(dV p21 (oLd1 (.t p20))
(dV p22 (oMm true [(.t p19), (.t p21)])
(dV p5 (oMv (.t p22))
dE)))))) dSkip))))
(dOps (dV p23 (oAr .add (.t p11) (.c (.int .i64 (.ofNat 1))))
(dV p11 (oMv (.t p23))
dE)))))))))
(dSeq (dOps (dV p24 (oMv (.t p5))
(dV p4 (oMv (.t p24))
dE)))
dRet)))), [(.t p4)]⟩
def af198 : AF := ⟨(dSeq (dOps (dV p1 (oBox 49 (.t p0))
(dV p2 (oMv (.c (.bool false)))
dE)))
(dSeq (dOps (dV p6 (oLdN 2 (.t p1))
(dC (some p7) p78 [(.t p6)]
(dV p5 (oMv (.t p7))
(dV p8 (oExt (.t p5) 0)
(dV p9 (oExt (.t p5) 1)
(dV p3 (oNew [(.int .i64 (.ofNat 0)), .nils] 49)
(dU (oSt 2 (.t p3) (.t p8))
(dV p4 (oMv (.t p9))
dE)))))))))
(dSeq (dOps (dV p10 (oMv (.t p4))
(dV p11 (oAr .eql (.t p10) (.c (.int .i64 (.ofNat 0))))
(dV p12 (oMv (.t p11))
(dG p12 true (some p13) (dV p13 (oLdN 2 (.t p3)))
(dG p12 true (some p14) (dV p14 (oLdN 2 (.t p1)))
(dG p12 true (some p15) (dC (some p15) p248 [(.t p13), (.t p14)])
(dV p16 (oPick (.t p12) (.t p15) (.c (.bool false)))
(dV p2 (oMv (.t p16))
dE)))))))))
dRet))), [(.t p2)]⟩
def af199 : AF := ⟨(dSeq (dOps (dV p4 (oMv (.c (.bool false)))
dE))
(dSeq (dOps (dV p5 (oMv (.t p0))
(dV p6 (oMv (.t p1))
(dC (some p7) p249 [(.t p5), (.t p6)]
(dV p8 (oAr .geq (.t p7) (.c (.int .i64 (.ofNat 0))))
(dV p4 (oMv (.t p8))
dE))))))
dRet)), [(.t p4)]⟩
def af200 : AF := ⟨(dSeq (dOps (dV p1 (oBox 49 (.t p0))
(dV p2 (oMv (.c (.bool false)))
dE)))
(dSeq (dOps (dV p3 (oLdN 2 (.t p1))
(dC (some p4) p198 [(.t p3)]
(dV p5 (oUn .not (.t p4))
(dV p2 (oMv (.t p5))
dE)))))
dRet)), [(.t p2)]⟩
def af201 : AF := ⟨(dSeq (dOps (dV p6 (oMv (.t p0))
(dV p7 (oLen (.t p6))
(dV p8 (oMv (.c (.int .i64 (.ofNat 0))))
dE))))
(dBlock 0 (dLoop (dSeq (dOps (dV p9 (oAr .lss (.t p8) (.t p7))
dE))
(dSeq (dCond (.t p9) dSkip (dExit 0))
(dSeq (dBlock 1 (dSeq (dOps (dV p10 (oIa 2 (.t p6) (.t p8))
(dV p11 (oLdN 2 (.t p10))
(dV p5 (oNew [(.int .i64 (.ofNat 0)), (.int .i64 (.ofNat 0))] 46)
(dU (oSt 2 (.t p5) (.t p11))
dE)))))
(dOps (dV p12 (oMv (.t p1))
(dV p13 (oLdN 2 (.t p5))
(dCv (some p14) (.t p12) [(.t p13)]
dE))))))
(dOps (dV p15 (oAr .add (.t p8) (.c (.int .i64 (.ofNat 1))))
(dV p8 (oMv (.t p15))
dE))))))))), []⟩
def af202 : AF := ⟨(dSeq (dOps (dV p3 (oBox 46 (.t p1))
dE))
(dSeq (dOps (dV p4 (oMv (.t p0))
(dV p5 (oFa 0 (.t p3))
(dV p6 (oLd1 (.t p5))
(dC (some p7) p62 [(.t p4), (.t p6)]
dE)))))
(dOps (dV p8 (oMv (.t p0))
(dV p9 (oFa 1 (.t p3))
(dV p10 (oLd1 (.t p9))
(dC (some p11) p62 [(.t p8), (.t p10)]
dE))))))), []⟩
def af203 : AF := ⟨(dSeq (dOps (dV p6 (oMv (.c (.bool false)))
dE))
(dSeq (dSeq (dOps (dV p10 (oMv (.t p0))
(dV p11 (oLen (.t p10))
(dV p12 (oMv (.t p1))
(dV p13 (oLen (.t p12))
(dV p14 (oAr .neq (.t p11) (.t p13))
dE))))))
(dCond (.t p14) (dSeq (dOps (dV p6 (oMv (.c (.bool false)))
dE))
dRet) dSkip))
(dSeq (dSeq (dOps (dV p15 (oMv (.t p0))
(dV p16 (oLen (.t p15))
(dV p17 (oMv (.c (.int .i64 (.ofNat 0))))
dE))))
(dBlock 0 (dLoop (dSeq (dOps (dV p18 (oAr .lss (.t p17) (.t p16))
dE))
(dSeq (dCond (.t p18) dSkip (dExit 0))
(dSeq (dBlock 1 (dSeq (dOps (dV p19 (oMv (.t p17))
(dV p20 (oIa 2 (.t p15) (.t p17))
(dV p21 (oLdN 2 (.t p20))
(dV p8 (oNew [(.int .i64 (.ofNat 0)), .nils] 49)
(dV p7 (oMv (.t p19))
(dU (oSt 2 (.t p8) (.t p21))
dE)))))))
(dSeq (dOps (dV p22 (oMv (.t p1))
(dV p23 (oMv (.t p7))
(dV p24 (oIa 2 (.t p22) (.t p23))
(dV p25 (oLdN 2 (.t p24))
(dV p9 (oNew [(.int .i64 (.ofNat 0)), .nils] 49)
(dU (oSt 2 (.t p9) (.t p25))
dE)))))))
(dSeq (dOps (dV p26 (oMv (.t p2))
(dV p27 (oLdN 2 (.t p8))
(dV p28 (oLdN 2 (.t p9))
(dCv (some p29) (.t p26) [(.t p27), (.t p28)]
(dV p30 (oUn .not (.t p29))
dE))))))
(dCond (.t p30) (dSeq (dOps (dV p6 (oMv (.c (.bool false)))
dE))
dRet) dSkip)))))
(dOps (dV p31 (oAr .add (.t p17) (.c (.int .i64 (.ofNat 1))))
(dV p17 (oMv (.t p31))
dE)))))))))
(dSeq (dOps (dV p6 (oMv (.c (.bool true)))
dE))
dRet)))), [(.t p6)]⟩
def af204 : AF := ⟨(dSeq (dOps (dV p2 (oBox 49 (.t p0))
(dV p3 (oBox 49 (.t p1))
(dV p4 (oMv (.c (.bool false)))
dE))))
(dSeq (dOps (dV p5 (oLdN 2 (.t p2))
(dV p6 (oLdN 2 (.t p3))
(dC (some p7) p90 [(.t p5), (.t p6)]
(dV p8 (oMv (.t p7))
(dG p8 true (some p9) (dV p9 (oLdN 2 (.t p3)))
(dG p8 true (some p10) (dV p10 (oLdN 2 (.t p2)))
(dG p8 true (some p11) (dC (some p11) p90 [(.t p9), (.t p10)])
(dV p12 (oPick (.t p8) (.t p11) (.c (.bool false)))
(dV p4 (oMv (.t p12))
dE))))))))))
dRet)), [(.t p4)]⟩
def af205 : AF := ⟨(dSeq (dOps (dV p3 (oBox 260 (.t p0))
(dV p6 (oNew [.nilp, .nilp, (.int .i64 (.ofNat 0))] 308)
dE)))
(dSeq (dDraw (sN p7 ⟨(some p7), (.v (.fa 0 (.t p3))), none⟩
(sN p8 ⟨(some p8), (.v (.ldN 1 (.t p7))), none⟩
(sN p9 ⟨(some p9), (.v (.mv (.t p1))), none⟩
(sN p10 ⟨(some p10), (.v (.fa 2 (.t p3))), none⟩
(sN p11 ⟨(some p11), (.v (.ld1 (.t p10))), none⟩
(sN p13 ⟨(some p13), (.v (.fa 1 (.t p3))), none⟩
(sN p14 ⟨(some p14), (.v (.ldN 1 (.t p13))), none⟩
(sN p15 ⟨(some p15), (.v (.mv (.t p1))), none⟩
(sN p16 ⟨(some p16), (.v (.fa 2 (.t p3))), none⟩
(sN p17 ⟨(some p17), (.v (.ld1 (.t p16))), none⟩
(sN p19 ⟨(some p19), (.v (.mv (.t p2))), none⟩
(sE [] [(p14, ⟨(some p14), (.v (.ldN 1 (.t p13))), none⟩), (p17, ⟨(some p17), (.v (.ld1 (.t p16))), none⟩)] ⟨(some p12), (.call p158 [(.t p8), (.t p9), (.t p11)]), none⟩
(sE [] [] ⟨(some p18), (.call p158 [(.t p14), (.t p15), (.t p17)]), none⟩
(sN p20 ⟨(some p20), (.v (.build [.nilp, .nilp, (.int .i64 (.ofNat 0))] [(0, 1, (.t p12)), (1, 1, (.t p18)), (2, 1, (.t p19))])), none⟩
(sE [] [] ⟨none, (.v (.st 3 (.t p6) (.t p20))), none⟩
sEnd))))))))))))))))
dRet)), [(.cN p6 3)]⟩
def af206 : AF := ⟨(dSeq (dOps (dV p1 (oBox 204 (.t p0))
(dV p2 (oMv (.c .nils))
dE)))
(dSeq (dOps (dV p3 (oNew [.nils] 334)
dE))
(dSeq (dSeq (dOps (dV p5 (oFa 0 (.t p1))
(dV p6 (oLd1 (.t p5))
(dV p7 (oNchk (.t p6))
(dV p8 (oFa 4 (.t p7))
(dV p9 (oLd1 (.t p8))
(dC (some p10) p250 [(.t p9)]
dE)))))))
(dBlock 0 (dRange (.t p10) [p11] (dOps (dV p4 (oMv (.t p11))
dE)) (dBlock 1 (dDraw (sN p12 ⟨(some p12), (.v (.ld1 (.t p3))), none⟩
(sN p13 ⟨(some p13), (.v (.mv (.t p4))), none⟩
(sN p14 ⟨(some p14), (.v (.nchk (.t p13))), none⟩
(sN p15 ⟨(some p15), (.v (.fa 0 (.t p14))), none⟩
(sN p16 ⟨(some p16), (.v (.ld1 (.t p15))), none⟩
(sN p17 ⟨(some p17), (.v (.build [.nilp] [(0, 1, (.t p16))])), none⟩
(sA 6 p18 (.buildS 153 1 [.nilp] [(0, 1, (.t p17))])
(sE [6] [] ⟨(some p19), (.v (.app 153 1 (.t p12) (.t p18))), none⟩
(sE [6] [] ⟨none, (.v (.st 1 (.t p3) (.t p19))), none⟩
sEnd))))))))))))))
(dSeq (dOps (dV p20 (oLd1 (.t p3))
(dV p2 (oMv (.t p20))
dE)))
dRet)))), [(.t p2)]⟩
def af207 : AF := ⟨(dSeq (dOps (dV p2 (oBox 204 (.t p0))
(dV p4 (oNew [.nilp] 153)
dE)))
(dSeq (dOps (dV p5 (oNew [.nilp] 233)
dE))
(dSeq (dSeq (dOps (dV p8 (oFa 0 (.t p2))
(dV p9 (oLd1 (.t p8))
(dV p10 (oNchk (.t p9))
(dV p11 (oFa 4 (.t p10))
(dV p12 (oLd1 (.t p11))
(dC (some p13) p250 [(.t p12)]
(dC (some p14) p252 [(.t p13)]
(dV p15 (oMv (.t p1))
(dV p16 (oSl 1 (.t p14) none (some (.t p15)) none)
(dC (some p17) p251 [(.t p16)]
dE)))))))))))
(dBlock 0 (dRange (.t p17) [p18, p19] (dOps (dV p7 (oMv (.t p19))
dE)) (dBlock 1 (dDraw (sN p20 ⟨(some p20), (.v (.ld1 (.t p5))), none⟩
(sN p21 ⟨(some p21), (.v (.mv (.t p7))), none⟩
(sN p22 ⟨(some p22), (.v (.nchk (.t p21))), none⟩
(sN p23 ⟨(some p23), (.v (.fa 0 (.t p22))), none⟩
(sN p24 ⟨(some p24), (.v (.ld1 (.t p23))), none⟩
(sN p25 ⟨(some p25), (.v (.mv (.t p7))), none⟩
(sN p26 ⟨(some p26), (.v (.nchk (.t p25))), none⟩
(sN p27 ⟨(some p27), (.v (.fa 1 (.t p26))), none⟩
(sN p28 ⟨(some p28), (.v (.ld1 (.t p27))), none⟩
(sE [] [] ⟨(some p29), (.call p253 [(.t p20), (.t p24), (.t p28)]), none⟩
(sE [] [] ⟨none, (.v (.st 1 (.t p5) (.t p29))), none⟩
sEnd))))))))))))))))
(dSeq (dDraw (sN p30 ⟨(some p30), (.v (.fa 0 (.t p2))), none⟩
(sN p31 ⟨(some p31), (.v (.ld1 (.t p30))), none⟩
(sN p32 ⟨(some p32), (.v (.nchk (.t p31))), none⟩
(sN p33 ⟨(some p33), (.v (.fa 0 (.t p32))), none⟩
(sN p34 ⟨(some p34), (.v (.ldN 4 (.t p33))), none⟩
(sN p35 ⟨(some p35), (.v (.ld1 (.t p5))), none⟩
(sN p36 ⟨(some p36), (.v (.build [.nilp, (.int .i64 (.ofNat 0)), .nilp, .nilp, .nilp, .nilp, .nilp, .nilp, (.int .i64 (.ofNat 0))] [(0, 4, (.t p34)), (4, 1, (.t p35))])), none⟩
(sA 7 p37 (.box 286 (.t p36))
(sN p38 ⟨(some p38), (.v (.build [.nilp] [(0, 1, (.t p37))])), none⟩
(sE [7] [] ⟨(some p39), (.call p254 [(.t p38)]), none⟩
(sE [7] [] ⟨none, (.v (.st 1 (.t p4) (.t p39))), none⟩
sEnd))))))))))))
dRet)))), [(.cN p4 1)]⟩
def af208 : AF := ⟨(dSeq (dOps (dV p2 (oBox 90 (.t p0))
(dV p4 (oNew [.nilp] 153)
dE)))
(dSeq (dSeq (dOps (dV p5 (oMv (.t p1))
(dV p6 (oMv (.c (.int .i64 (.ofNat 0))))
dE)))
(dBlock 0 (dLoop (dSeq (dOps (dV p7 (oAr .lss (.t p6) (.t p5))
dE))
(dSeq (dCond (.t p7) dSkip (dExit 0))
(dSeq (dBlock 1 (dOps (dV p8 (oFa 0 (.t p2))
(dV p9 (oLd1 (.t p8))
(dV p10 (oNchk (.t p9))
(dV p11 (oFa 3 (.t p10))
(dV p12 (oLdN 1 (.t p11))
(dU (oSt 1 (.t p2) (.t p12))
dE))))))))
(dOps (dV p13 (oAr .add (.t p6) (.c (.int .i64 (.ofNat 1))))
(dV p6 (oMv (.t p13))
dE)))))))))
(dSeq (dOps (dV p14 (oFa 0 (.t p2))
(dV p15 (oLd1 (.t p14))
(dC (some p16) p255 [(.t p15)]
(dU (oSt 1 (.t p4) (.t p16))
dE)))))
dRet))), [(.cN p4 1)]⟩
def af209 : AF := ⟨(dSeq (dOps (dV p1 (oBox 49 (.t p0))
(dV p2 (oMv (.c (.int .i64 (.ofNat 0))))
dE)))
(dSeq (dSeq (dOps (dV p6 (oLdN 2 (.t p1))
(dC (some p7) p117 [(.t p6)]
(dV p8 (oUn .not (.t p7))
dE))))
(dCond (.t p8) (dSeq (dOps (dV p2 (oMv (.c (.int .i64 (.ofNat 0))))
dE))
dRet) dSkip))
(dSeq (dOps (dV p3 (oMv (.c (.int .i64 (.ofNat 0))))
dE))
(dSeq (dSeq (dOps (dV p9 (oFa 1 (.t p1))
(dV p10 (oLd1 (.t p9))
(dV p11 (oLen (.t p10))
(dV p12 (oMv (.c (.int .i64 (.ofNat 0))))
dE)))))
(dBlock 0 (dLoop (dSeq (dOps (dV p13 (oAr .lss (.t p12) (.t p11))
dE))
(dSeq (dCond (.t p13) dSkip (dExit 0))
(dSeq (dBlock 1 (dSeq (dOps (dV p14 (oIa 2 (.t p10) (.t p12))
(dV p15 (oLdN 2 (.t p14))
(dV p5 (oNew [(.int .i64 (.ofNat 0)), (.int .i64 (.ofNat 0))] 46)
(dU (oSt 2 (.t p5) (.t p15))
dE)))))
(dOps (dV p16 (oMv (.t p3))
(dV p17 (oFa 0 (.t p5))
(dV p18 (oLd1 (.t p17))
(dV p19 (oAr .add (.t p18) (.c (.int .i64 (.ofNat 1))))
(dV p20 (oMm true [(.t p16), (.t p19)])
(dV p3 (oMv (.t p20))
dE)))))))))
(dOps (dV p21 (oAr .add (.t p12) (.c (.int .i64 (.ofNat 1))))
(dV p12 (oMv (.t p21))
dE)))))))))
(dSeq (dOps (dV p22 (oMv (.t p3))
(dV p2 (oMv (.t p22))
dE)))
dRet))))), [(.t p2)]⟩
def af210 : AF := ⟨(dSeq (dOps (dV p2 (oBox 49 (.t p0))
(dV p4 (oMv (.c (.int .i64 (.ofNat 0))))
(dV p5 (oMv (.c .nils))
dE))))
(dSeq (dOps (dV p10 (oMv (.t p1))
(dC (some p11) p246 [(.t p10)]
(dV p6 (oMv (.t p11))
dE))))
(dSeq (dOps (dV p12 (oFa 1 (.t p2))
(dV p13 (oLd1 (.t p12))
(dV p14 (oLen (.t p13))
(dV p15 (oMkS 46 2 [(.int .i64 (.ofNat 0)), (.int .i64 (.ofNat 0))] (.c (.int .i64 (.ofNat 0))) (.t p14))
(dV p7 (oMv (.t p15))
dE))))))
(dSeq (dSeq (dOps (dV p16 (oFa 1 (.t p2))
(dV p17 (oLd1 (.t p16))
(dV p18 (oLen (.t p17))
(dV p19 (oMv (.c (.int .i64 (.ofNat 0))))
dE)))))
(dBlock 0 (dLoop (dSeq (dOps (dV p20 (oAr .lss (.t p19) (.t p18))
dE))
(dSeq (dCond (.t p20) dSkip (dExit 0))
(dSeq (dBlock 1 (dSeq (dOps (dV p21 (oIa 2 (.t p17) (.t p19))
(dV p22 (oLdN 2 (.t p21))
(dV p9 (oNew [(.int .i64 (.ofNat 0)), (.int .i64 (.ofNat 0))] 46)
(dU (oSt 2 (.t p9) (.t p22))
dE)))))
(dDraw (sN p23 ⟨(some p23), (.v (.mv (.t p7))), none⟩
(sN p24 ⟨(some p24), (.v (.fa 0 (.t p9))), none⟩
(sN p25 ⟨(some p25), (.v (.ld1 (.t p24))), none⟩
(sN p26 ⟨(some p26), (.v (.mv (.t p6))), none⟩
(sN p27 ⟨(some p27), (.v (.fa 1 (.t p9))), none⟩
(sN p28 ⟨(some p28), (.v (.ld1 (.t p27))), none⟩
(sE [] [(p25, ⟨(some p25), (.v (.ld1 (.t p24))), none⟩)] ⟨(some p29), (.callv (.t p26) [(.t p28)]), none⟩
(sN p30 ⟨(some p30), (.v (.build [(.int .i64 (.ofNat 0)), (.int .i64 (.ofNat 0))] [(0, 1, (.t p25)), (1, 1, (.t p29))])), none⟩
(sA 8 p31 (.buildS 46 1 [(.int .i64 (.ofNat 0)), (.int .i64 (.ofNat 0))] [(0, 2, (.t p30))])
(sE [8] [] ⟨(some p32), (.v (.app 46 2 (.t p23) (.t p31))), none⟩
(sE [8] [] ⟨(some p7), (.v (.mv (.t p32))), none⟩
sEnd))))))))))))))
(dOps (dV p33 (oAr .add (.t p19) (.c (.int .i64 (.ofNat 1))))
(dV p19 (oMv (.t p33))
dE)))))))))
(dSeq (dOps (dV p34 (oMv (.t p6))
(dV p35 (oFa 0 (.t p2))
(dV p36 (oLd1 (.t p35))
(dCv (some p37) (.t p34) [(.t p36)]
(dV p38 (oMv (.t p7))
(dV p4 (oMv (.t p37))
(dV p5 (oMv (.t p38))
dE))))))))
dRet))))), [(.t p4), (.t p5)]⟩
def af211 : AF := ⟨(dSeq (dOps (dV p3 (oBox 153 (.t p0))
(dV p6 (oNew [.nilp] 153)
dE)))
(dSeq (dOps (dV p7 (oFa 0 (.t p3))
(dV p8 (oLd1 (.t p7))
(dV p9 (oNchk (.t p8))
(dV p10 (oFa 0 (.t p9))
(dV p11 (oLdN 3 (.t p10))
(dV p12 (oBuild [.nilp, (.int .i64 (.ofNat 0)), .nilp, .nilp] [(0, 3, (.t p11))])
(dV p13 (oMv (.t p1))
(dV p14 (oMv (.t p2))
(dC (some p15) p217 [(.t p12), (.t p13), (.t p14)]
(dV p16 (oBuild [.nilp] [(0, 1, (.t p15))])
(dU (oSt 1 (.t p6) (.t p16))
dE))))))))))))
dRet)), [(.cN p6 1)]⟩
def af212 : AF := ⟨(dSeq (dOps (dV p2 (oBox 92 (.t p0))
(dV p3 (oBox 153 (.t p1))
(dV p4 (oNew [.nilp, (.int .i64 (.ofNat 0)), .nilp] 92)
dE))))
(dSeq (dDraw (sN p5 ⟨(some p5), (.v (.fa 0 (.t p2))), none⟩
(sN p6 ⟨(some p6), (.v (.ldN 2 (.t p5))), none⟩
(sN p8 ⟨(some p8), (.v (.fa 2 (.t p2))), none⟩
(sN p9 ⟨(some p9), (.v (.ldN 1 (.t p8))), none⟩
(sN p10 ⟨(some p10), (.v (.mkf 256 [] [(.t p3)])), none⟩
(sE [] [(p9, ⟨(some p9), (.v (.ldN 1 (.t p8))), none⟩)] ⟨(some p7), (.call p192 [(.t p6)]), none⟩
(sE [] [] ⟨(some p11), (.call p193 [(.t p9), (.t p10)]), none⟩
(sN p12 ⟨(some p12), (.v (.build [.nilp, (.int .i64 (.ofNat 0)), .nilp] [(0, 2, (.t p7)), (2, 1, (.t p11))])), none⟩
(sE [] [] ⟨none, (.v (.st 3 (.t p4) (.t p12))), none⟩
sEnd))))))))))
dRet)), [(.cN p4 3)]⟩
def af213 : AF := ⟨(dSeq (dOps (dV p2 (oMv (.c .nils))
dE))
(dSeq (dOps (dV p3 (oMv (.c (.int .i64 (.ofNat 0))))
dE))
(dSeq (dSeq (dOps (dV p9 (oMv (.t p0))
(dV p10 (oLen (.t p9))
(dV p11 (oMv (.c (.int .i64 (.ofNat 0))))
dE))))
(dBlock 0 (dLoop (dSeq (dOps (dV p12 (oAr .lss (.t p11) (.t p10))
dE))
(dSeq (dCond (.t p12) dSkip (dExit 0))
(dSeq (dBlock 1 (dSeq (dOps (dV p13 (oIa 1 (.t p9) (.t p11))
(dV p14 (oLd1 (.t p13))
(dV p5 (oMv (.t p14))
dE))))
(dSeq (dOps (dV p15 (oMv (.t p3))
(dV p16 (oMv (.t p5))
(dV p17 (oLen (.t p16))
(dV p18 (oAr .add (.t p15) (.t p17))
(dV p3 (oMv (.t p18))
dE))))))
(dSeq (dOps (dV p19 (oMv (.t p3))
(dV p20 (oAr .lss (.t p19) (.c (.int .i64 (.ofNat 0))))
dE)))
(dCond (.t p20) (dOps (dV p21 (oMki 9 (.c (.str [108, 101, 110, 32, 111, 117, 116, 32, 111, 102, 32, 114, 97, 110, 103, 101])))
(dPan (.t p21)
dE))) dSkip)))))
(dOps (dV p22 (oAr .add (.t p11) (.c (.int .i64 (.ofNat 1))))
(dV p11 (oMv (.t p22))
dE)))))))))
(dSeq (dOps (dV p23 (oMv (.t p3))
(dC (some p24) p257 [(.c .nils), (.t p23)]
(dV p6 (oMv (.t p24))
dE))))
(dSeq (dSeq (dOps (dV p25 (oMv (.t p0))
(dV p26 (oLen (.t p25))
(dV p27 (oMv (.c (.int .i64 (.ofNat 0))))
dE))))
(dBlock 2 (dLoop (dSeq (dOps (dV p28 (oAr .lss (.t p27) (.t p26))
dE))
(dSeq (dCond (.t p28) dSkip (dExit 2))
(dSeq (dBlock 3 (dSeq (dOps (dV p29 (oIa 1 (.t p25) (.t p27))
(dV p30 (oLd1 (.t p29))
(dV p8 (oMv (.t p30))
dE))))
(dOps (dV p31 (oMv (.t p6))
(dV p32 (oMv (.t p8))
(dV p33 (oApp 46 2 (.t p31) (.t p32))
(dV p6 (oMv (.t p33))
dE)))))))
(dOps (dV p34 (oAr .add (.t p27) (.c (.int .i64 (.ofNat 1))))
(dV p27 (oMv (.t p34))
dE)))))))))
(dSeq (dOps (dV p35 (oMv (.t p6))
(dV p2 (oMv (.t p35))
dE)))
dRet)))))), [(.t p2)]⟩
def af214 : AF := ⟨(dSeq (dOps (dV p2 (oBox 85 (.t p0))
(dV p4 (oNew [.nilp, (.int .i64 (.ofNat 0))] 85)
dE)))
(dSeq (dOps (dV p5 (oMv (.t p1))
(dV p6 (oFa 0 (.t p2))
(dV p7 (oLd1 (.t p6))
(dV p8 (oBuild [.nilp, .nilp] [(0, 1, (.t p5)), (1, 1, (.t p7))])
(dV p9 (oBox 379 (.t p8))
(dV p10 (oFa 1 (.t p2))
(dV p11 (oLd1 (.t p10))
(dV p12 (oAr .add (.t p11) (.c (.int .i64 (.ofNat 1))))
(dV p13 (oBuild [.nilp, (.int .i64 (.ofNat 0))] [(0, 1, (.t p9)), (1, 1, (.t p12))])
(dU (oSt 2 (.t p4) (.t p13))
dE)))))))))))
dRet)), [(.cN p4 2)]⟩
def af215 : AF := ⟨(dSeq (dOps (dV p2 (oBox 153 (.t p0))
(dV p4 (oNew [(.int .i64 (.ofNat 0)), (.int .i64 (.ofNat 0)), (.bool false), (.str []), .nils, .nils] 26)
dE)))
(dSeq (dDraw (sN p5 ⟨(some p5), (.v (.fa 0 (.t p2))), none⟩
(sN p6 ⟨(some p6), (.v (.ld1 (.t p5))), none⟩
(sN p7 ⟨(some p7), (.v (.nchk (.t p6))), none⟩
(sN p8 ⟨(some p8), (.v (.fa 0 (.t p7))), none⟩
(sN p9 ⟨(some p9), (.v (.ldN 3 (.t p8))), none⟩
(sN p10 ⟨(some p10), (.v (.fa 0 (.t p2))), none⟩
(sN p11 ⟨(some p11), (.v (.ld1 (.t p10))), none⟩
(sN p12 ⟨(some p12), (.v (.nchk (.t p11))), none⟩
(sN p13 ⟨(some p13), (.v (.fa 0 (.t p12))), none⟩
(sN p14 ⟨(some p14), (.v (.fa 2 (.t p13))), none⟩
(sN p15 ⟨(some p15), (.v (.ld1 (.t p14))), none⟩
(sN p16 ⟨(some p16), (.v (.mv (.t p1))), none⟩
(sE [] [] ⟨(some p17), (.call p258 [(.t p9), (.t p15), (.c (.int .i64 (.ofNat 0))), (.t p16)]), none⟩
(sE [] [] ⟨none, (.v (.st 6 (.t p4) (.t p17))), none⟩
sEnd)))))))))))))))
dRet)), [(.cN p4 6)]⟩
def af216 : AF := ⟨(dSeq (dOps (dV p4 (oMv (.c (.bool false)))
dE))
(dSeq (dSeq (dOps (dV p6 (oMv (.t p0))
(dV p7 (oNchk (.t p6))
(dV p8 (oFa 0 (.t p7))
(dV p9 (oFa 0 (.t p8))
(dV p10 (oLd1 (.t p9))
(dV p11 (oMv (.t p1))
(dC (some p12) p183 [(.t p10), (.t p11)]
(dV p13 (oAr .eql (.t p12) (.c (.int .i64 (.ofNat 0))))
dE)))))))))
(dCond (.t p13) (dSeq (dOps (dV p4 (oMv (.c (.bool false)))
dE))
dRet) dSkip))
(dSeq (dOps (dV p14 (oMv (.t p0))
(dV p15 (oNchk (.t p14))
(dV p16 (oFa 6 (.t p15))
(dV p17 (oLd1 (.t p16))
(dV p18 (oMv (.t p1))
(dV p19 (oIa 1 (.t p17) (.t p18))
(dV p20 (oLd1 (.t p19))
(dC (some p21) p259 [(.t p20)]
(dV p5 (oMv (.t p21))
dE))))))))))
(dSeq (dOps (dV p22 (oMv (.t p5))
(dV p23 (oLen (.t p22))
(dV p24 (oAr .gtr (.t p23) (.c (.int .i64 (.ofNat 0))))
(dV p25 (oMv (.t p24))
(dG p25 true (some p26) (dV p26 (oMv (.t p5)))
(dG p25 true (some p27) (dV p27 (oIa 4 (.t p26) (.c (.int .i64 (.ofNat 0)))))
(dG p25 true (some p28) (dV p28 (oFa 0 (.t p27)))
(dG p25 true (some p29) (dV p29 (oLd1 (.t p28)))
(dG p25 true (some p30) (dV p30 (oAr .eql (.t p29) (.c (.int .i64 (.ofNat 0)))))
(dV p31 (oPick (.t p25) (.t p30) (.c (.bool false)))
(dV p4 (oMv (.t p31))
dE))))))))))))
dRet)))), [(.t p4)]⟩
def af217 : AF := ⟨(dSeq (dOps (dV p3 (oBox 232 (.t p0))
(dV p6 (oMv (.c .nilp))
dE)))
(dSeq (dSeq (dOps (dV p7 (oFa 3 (.t p3))
(dV p8 (oLd1 (.t p7))
(dV p9 (oEq .p true (.t p8) (.c .nilp))
dE))))
(dCond (.t p9) (dSeq (dOps (dV p10 (oFa 3 (.t p3))
(dV p11 (oLd1 (.t p10))
(dV p6 (oMv (.t p11))
dE))))
dRet) dSkip))
(dSeq (dSeq (dOps (dV p12 (oFa 0 (.t p3))
(dV p13 (oFa 2 (.t p12))
(dV p14 (oLd1 (.t p13))
(dV p15 (oNchk (.t p14))
(dV p16 (oFa 0 (.t p15))
(dV p17 (oFa 0 (.t p16))
(dV p18 (oLd1 (.t p17))
(dV p19 (oMv (.t p1))
(dC (some p20) p183 [(.t p18), (.t p19)]
(dV p21 (oAr .eql (.t p20) (.c (.int .i64 (.ofNat 0))))
dE)))))))))))
(dCond (.t p21) (dSeq (dOps (dV p22 (oFa 0 (.t p3))
(dV p23 (oLdN 3 (.t p22))
(dV p24 (oMv (.t p1))
(dC (some p25) p218 [(.t p23), (.t p24)]
(dV p6 (oMv (.t p25))
dE))))))
dRet) dSkip))
(dSeq (dDraw (sN p26 ⟨(some p26), (.v (.fa 0 (.t p3))), none⟩
(sN p27 ⟨(some p27), (.v (.fa 0 (.t p26))), none⟩
(sN p28 ⟨(some p28), (.v (.ldN 2 (.t p27))), none⟩
(sN p29 ⟨(some p29), (.v (.mv (.t p2))), none⟩
(sN p32 ⟨(some p32), (.v (.fa 0 (.t p3))), none⟩
(sN p33 ⟨(some p33), (.v (.fa 2 (.t p32))), none⟩
(sN p34 ⟨(some p34), (.v (.ld1 (.t p33))), none⟩
(sN p36 ⟨(some p36), (.v (.mv (.t p1))), none⟩
(sE [] [(p28, ⟨(some p28), (.v (.ldN 2 (.t p27))), none⟩), (p34, ⟨(some p34), (.v (.ld1 (.t p33))), none⟩)] ⟨(some p30), (.call p245 [(.t p29)]), none⟩
(sE [] [(p34, ⟨(some p34), (.v (.ld1 (.t p33))), none⟩)] ⟨(some p31), (.call p214 [(.t p28), (.t p30)]), none⟩
(sN p35 ⟨(some p35), (.v (.build [.nilp, (.int .i64 (.ofNat 0)), .nilp] [(0, 2, (.t p31)), (2, 1, (.t p34))])), none⟩
(sE [] [] ⟨(some p37), (.call p218 [(.t p35), (.t p36)]), none⟩
(sN p6 ⟨(some p6), (.v (.mv (.t p37))), none⟩
sEnd))))))))))))))
dRet)))), [(.t p6)]⟩
def af218 : AF := ⟨(dSeq (dOps (dV p2 (oBox 222 (.t p0))
(dV p4 (oMv (.c .nilp))
dE)))
(dSeq (dDraw (sN p5 ⟨(some p5), (.v (.fa 0 (.t p2))), none⟩
(sN p6 ⟨(some p6), (.v (.ldN 2 (.t p5))), none⟩
(sN p7 ⟨(some p7), (.v (.fa 2 (.t p2))), none⟩
(sN p8 ⟨(some p8), (.v (.ld1 (.t p7))), none⟩
(sN p9 ⟨(some p9), (.v (.nchk (.t p8))), none⟩
(sN p10 ⟨(some p10), (.v (.fa 6 (.t p9))), none⟩
(sN p11 ⟨(some p11), (.v (.ld1 (.t p10))), none⟩
(sN p12 ⟨(some p12), (.v (.mv (.t p1))), none⟩
(sN p13 ⟨(some p13), (.v (.ia 1 (.t p11) (.t p12))), none⟩
(sN p14 ⟨(some p14), (.v (.ld1 (.t p13))), none⟩
(sN p15 ⟨(some p15), (.v (.build [.nilp, (.int .i64 (.ofNat 0)), .nilp] [(0, 2, (.t p6)), (2, 1, (.t p14))])), none⟩
(sE [] [] ⟨(some p16), (.call p127 [(.t p15)]), none⟩
(sN p4 ⟨(some p4), (.v (.mv (.t p16))), none⟩
sEnd))))))))))))))
dRet)), [(.t p4)]⟩
def af219 : AF := ⟨(dSeq (dOps (dV p1 (oBox 26 (.t p0))
(dV p2 (oMv (.c .nils))
(dV p3 (oMv (.c (.int .i64 (.ofNat 0))))
dE))))
(dSeq (dSeq (dOps (dV p6 (oLdN 6 (.t p1))
(dC (some p7) p60 [(.t p6)]
(dV p4 (oMv (.t p7))
dE))))
(dSeq (dOps (dV p8 (oMv (.t p4))
(dV p9 (oAr .neq (.t p8) (.c (.int .i64 (.ofNat 0))))
dE)))
(dCond (.t p9) (dSeq (dOps (dV p10 (oMv (.t p4))
(dV p2 (oMv (.c .nils))
(dV p3 (oMv (.t p10))
dE))))
dRet) dSkip)))
(dSeq (dOps (dV p11 (oBuild [.nils, (.bool false)] [])
(dV p5 (oNew [.nils, (.bool false)] 99)
(dU (oSt 2 (.t p5) (.t p11))
dE))))
(dSeq (dOps (dV p12 (oLdN 6 (.t p1))
(dC (some p13) p96 [(.t p5), (.t p12)]
dE)))
(dSeq (dOps (dC (some p14) p43 [(.t p5)]
(dV p15 (oExt (.t p14) 0)
(dV p16 (oExt (.t p14) 1)
(dV p2 (oMv (.t p15))
(dV p3 (oMv (.t p16))
dE))))))
dRet))))), [(.t p2), (.t p3)]⟩
def af220 : AF := ⟨(dSeq (dOps (dV p6 (oNew [(.int .i64 (.ofNat 0)), (.int .i64 (.ofNat 0)), (.bool false), (.str []), .nils, .nils] 26)
(dV p7 (oMv (.c (.int .i64 (.ofNat 0))))
dE)))
(dSeq (dOps (dV p19 (oMv (.t p0))
(dV p20 (oMv (.t p1))
(dC (some p21) p260 [(.t p19), (.t p20)]
(dV p18 (oMv (.t p21))
(dV p22 (oExt (.t p18) 0)
(dV p23 (oExt (.t p18) 1)
(dV p8 (oNew [(.int .i64 (.ofNat 0)), (.str []), (.int .i64 (.ofNat 0)), (.int .i64 (.ofNat 0)), (.int .i64 (.ofNat 0)), (.bool false), (.str []), .nils, .nils, (.int .i64 (.ofNat 0)), (.int .i64 (.ofNat 0)), (.bool false), (.str []), .nils, .nils, (.int .i64 (.ofNat 0)), .nils] 36)
(dU (oSt 17 (.t p8) (.t p22))
(dV p9 (oMv (.t p23))
dE))))))))))
(dSeq (dOps (dC (some p25) p261 []
(dV p24 (oMv (.t p25))
(dV p26 (oExt (.t p24) 0)
(dV p27 (oExt (.t p24) 1)
(dV p28 (oExt (.t p24) 2)
(dV p29 (oExt (.t p24) 3)
(dV p30 (oExt (.t p24) 4)
(dV p31 (oExt (.t p24) 5)
(dV p10 (oMv (.t p26))
(dV p11 (oMv (.t p27))
(dV p12 (oMv (.t p28))
(dV p13 (oMv (.t p29))
(dV p14 (oMv (.t p30))
(dV p15 (oMv (.t p31))
dE)))))))))))))))
(dSeq (dSeq (dOps (dV p32 (oMv (.t p9))
dE))
(dBlock 0 (dSeq (dOps (dV p34 (oMv (.t p10))
(dV p35 (oAr .eql (.t p32) (.t p34))
(dV p33 (oMv (.t p35))
dE))))
(dCond (.t p33) (dSeq (dOps (dV p36 (oBuild [(.int .i64 (.ofNat 0)), (.int .i64 (.ofNat 0)), (.bool false), (.str []), .nils, .nils] [])
(dU (oSt 6 (.t p6) (.t p36))
(dV p7 (oMv (.c (.int .i64 (.ofNat 12))))
dE))))
dRet) (dSeq (dOps (dV p38 (oMv (.t p15))
(dV p39 (oAr .eql (.t p32) (.t p38))
(dV p37 (oMv (.t p39))
dE))))
(dCond (.t p37) (dSeq (dSeq (dOps (dV p40 (oMv (.t p2))
(dV p41 (oFa 2 (.t p8))
(dV p42 (oLd1 (.t p41))
(dV p43 (oAr .add (.t p42) (.c (.int .i64 (.ofNat 1))))
(dC (some p44) p262 [(.t p40), (.t p43)]
(dV p45 (oUn .not (.t p44))
dE)))))))
(dCond (.t p45) (dSeq (dOps (dV p46 (oBuild [(.int .i64 (.ofNat 0)), (.int .i64 (.ofNat 0)), (.bool false), (.str []), .nils, .nils] [])
(dU (oSt 6 (.t p6) (.t p46))
(dV p7 (oMv (.c (.int .i64 (.ofNat 13))))
dE))))
dRet) dSkip))
(dSeq (dOps (dV p48 (oLdN 17 (.t p8))
(dC (some p49) p263 [(.t p48)]
(dV p47 (oMv (.t p49))
(dV p50 (oExt (.t p47) 0)
(dV p51 (oExt (.t p47) 1)
(dV p16 (oNew [(.int .i64 (.ofNat 0)), (.int .i64 (.ofNat 0)), (.bool false), (.str []), .nils, .nils] 26)
(dU (oSt 6 (.t p16) (.t p50))
(dV p17 (oMv (.t p51))
dE)))))))))
(dSeq (dSeq (dOps (dV p52 (oMv (.t p17))
(dV p53 (oAr .neq (.t p52) (.c (.int .i64 (.ofNat 0))))
dE)))
(dCond (.t p53) (dSeq (dOps (dV p54 (oBuild [(.int .i64 (.ofNat 0)), (.int .i64 (.ofNat 0)), (.bool false), (.str []), .nils, .nils] [])
(dV p55 (oMv (.t p17))
(dU (oSt 6 (.t p6) (.t p54))
(dV p7 (oMv (.t p55))
dE)))))
dRet) dSkip))
(dSeq (dOps (dV p56 (oLdN 6 (.t p16))
(dV p57 (oMv (.t p2))
(dC (some p58) p264 [(.t p56), (.t p57)]
(dV p59 (oExt (.t p58) 0)
(dV p60 (oExt (.t p58) 1)
(dU (oSt 6 (.t p6) (.t p59))
(dV p7 (oMv (.t p60))
dE))))))))
dRet)))) dSkip))))))
(dSeq (dSeq (dOps (dV p61 (oMv (.t p2))
(dV p62 (oFa 2 (.t p8))
(dV p63 (oLd1 (.t p62))
(dC (some p64) p262 [(.t p61), (.t p63)]
(dV p65 (oUn .not (.t p64))
dE))))))
(dCond (.t p65) (dSeq (dOps (dV p66 (oBuild [(.int .i64 (.ofNat 0)), (.int .i64 (.ofNat 0)), (.bool false), (.str []), .nils, .nils] [])
(dU (oSt 6 (.t p6) (.t p66))
(dV p7 (oMv (.c (.int .i64 (.ofNat 13))))
dE))))
dRet) dSkip))
(dSeq (dOps (dV p67 (oLdN 17 (.t p8))
(dV p68 (oMv (.t p9))
(dC (some p69) p265 [(.t p67), (.t p68)]
(dV p70 (oMv (.t p2))
(dC (some p71) p264 [(.t p69), (.t p70)]
(dV p72 (oExt (.t p71) 0)
(dV p73 (oExt (.t p71) 1)
(dU (oSt 6 (.t p6) (.t p72))
(dV p7 (oMv (.t p73))
dE))))))))))
dRet)))))), [(.cN p6 6), (.t p7)]⟩
def af222 : AF := ⟨(dSeq (dOps (dV p4 (oMv (.c .nilp))
dE))
(dSeq (dSeq (dOps (dV p5 (oMv (.t p1))
(dV p6 (oNchk (.t p5))
(dV p7 (oFa 7 (.t p6))
(dV p8 (oLd1 (.t p7))
(dV p9 (oEq .p false (.t p8) (.c .nilp))
dE))))))
(dCond (.t p9) (dOps (dV p10 (oMv (.t p0))
(dV p11 (oMv (.t p1))
(dV p12 (oBuild [(.int .i64 (.ofNat 0)), (.int .i64 (.ofNat 0))] [])
(dC (some p13) p266 [(.t p10), (.t p11), (.t p12)]
dE))))) dSkip))
(dSeq (dBlock 0 (dLoop (dSeq (dSeq (dOps (dV p14 (oMv (.t p0))
(dV p15 (oNchk (.t p14))
(dV p16 (oFa 7 (.t p15))
(dV p17 (oLd1 (.t p16))
(dV p18 (oLen (.t p17))
(dV p19 (oAr .gtr (.t p18) (.c (.int .i64 (.ofNat 0))))
dE)))))))
(dCond (.t p19) dSkip (dExit 0)))
(dBlock 1 (dSeq (dBlock 2 (dLoop (dSeq (dSeq (dOps (dV p20 (oMv (.t p0))
(dC (some p21) p267 [(.t p20)]
dE)))
(dCond (.t p21) dSkip (dExit 2)))
(dBlock 3 dSkip))))
(dDraw (sN p22 ⟨(some p22), (.v (.mv (.t p0))), none⟩
(sN p23 ⟨(some p23), (.v (.mv (.t p0))), none⟩
(sN p24 ⟨(some p24), (.v (.nchk (.t p23))), none⟩
(sN p25 ⟨(some p25), (.v (.fa 8 (.t p24))), none⟩
(sN p26 ⟨(some p26), (.v (.fa 0 (.t p25))), none⟩
(sN p27 ⟨(some p27), (.v (.ldN 4 (.t p26))), none⟩
(sN p28 ⟨(some p28), (.v (.mv (.t p0))), none⟩
(sN p29 ⟨(some p29), (.v (.nchk (.t p28))), none⟩
(sN p30 ⟨(some p30), (.v (.fa 8 (.t p29))), none⟩
(sN p31 ⟨(some p31), (.v (.fa 4 (.t p30))), none⟩
(sN p32 ⟨(some p32), (.v (.ld1 (.t p31))), none⟩
(sN p33 ⟨(some p33), (.v (.build [.nilp, (.int .i64 (.ofNat 0)), .nilp, .nilp, .nilp, .nilp, .nilp, .nilp, (.int .i64 (.ofNat 0))] [(0, 4, (.t p27)), (4, 1, (.t p32))])), none⟩
(sE [] [] ⟨(some p34), (.call p268 [(.t p22), (.t p33)]), none⟩
sEnd)))))))))))))))))))
(dSeq (dOps (dV p35 (oMv (.t p0))
(dV p36 (oMv (.t p1))
(dV p37 (oNchk (.t p36))
(dV p38 (oFa 8 (.t p37))
(dV p39 (oLdN 4 (.t p38))
(dC (some p40) p232 [(.t p35), (.t p39)]
dE)))))))
(dSeq (dOps (dV p41 (oMv (.t p1))
(dV p42 (oNchk (.t p41))
(dV p43 (oFa 7 (.t p42))
(dV p44 (oLd1 (.t p43))
(dV p4 (oMv (.t p44))
dE))))))
dRet))))), [(.t p4)]⟩
def af226 : AF := ⟨(dSeq (dOps (dV p5 (oMv (.t p0))
(dV p6 (oLen (.t p5))
(dV p4 (oMv (.t p6))
dE))))
(dOps (dV p7 (oMv (.t p0))
(dV p8 (oMv (.t p4))
(dV p9 (oMv (.t p4))
(dV p10 (oCvI .u64 (.t p9))
(dC (some p11) p270 [(.t p10)]
(dV p12 (oMv (.t p1))
(dC (some p13) p269 [(.t p7), (.c (.int .i64 (.ofNat 0))), (.t p8), (.t p11), (.t p12)]
dE))))))))), []⟩
def af227 : AF := ⟨(dSeq (dOps (dV p3 (oBox 46 (.t p0))
(dV p4 (oBox 46 (.t p1))
(dV p5 (oMv (.c (.int .i64 (.ofNat 0))))
dE))))
(dSeq (dOps (dV p11 (oLd1 (.t p2))
(dV p12 (oLdN 2 (.t p3))
(dCv (some p13) (.t p11) [(.t p12)]
(dV p10 (oMv (.t p13))
(dV p14 (oExt (.t p10) 0)
(dV p15 (oExt (.t p10) 1)
(dV p6 (oMv (.t p14))
(dV p7 (oMv (.t p15))
dE)))))))))
(dSeq (dOps (dV p17 (oLd1 (.t p2))
(dV p18 (oLdN 2 (.t p4))
(dCv (some p19) (.t p17) [(.t p18)]
(dV p16 (oMv (.t p19))
(dV p20 (oExt (.t p16) 0)
(dV p21 (oExt (.t p16) 1)
(dV p8 (oMv (.t p20))
(dV p9 (oMv (.t p21))
dE)))))))))
(dSeq (dSeq (dOps (dV p22 (oMv (.t p6))
(dV p23 (oMv (.t p8))
(dV p24 (oAr .neq (.t p22) (.t p23))
dE))))
(dCond (.t p24) (dSeq (dOps (dV p25 (oMv (.t p6))
(dV p26 (oMv (.t p8))
(dC (some p27) p228 [(.t p25), (.t p26)]
(dV p5 (oMv (.t p27))
dE)))))
dRet) dSkip))
(dSeq (dOps (dV p28 (oMv (.t p9))
(dV p29 (oMv (.t p7))
(dC (some p30) p228 [(.t p28), (.t p29)]
(dV p5 (oMv (.t p30))
dE)))))
dRet))))), [(.t p5)]⟩
def af228 : AF := ⟨(dSeq (dOps (dV p4 (oMv (.c (.int .i64 (.ofNat 0))))
dE))
(dSeq (dOps (dV p7 (oMv (.t p0))
(dC (some p8) p271 [(.t p7)]
(dV p5 (oMv (.t p8))
dE))))
(dSeq (dOps (dV p9 (oMv (.t p1))
(dC (some p10) p271 [(.t p9)]
(dV p6 (oMv (.t p10))
dE))))
(dSeq (dSeq (dOps (dV p11 (oMv (.t p5))
dE))
(dCond (.t p11) (dSeq (dSeq (dOps (dV p12 (oMv (.t p6))
dE))
(dCond (.t p12) (dSeq (dOps (dV p4 (oMv (.c (.int .i64 (.ofNat 0))))
dE))
dRet) dSkip))
(dSeq (dOps (dV p4 (oMv (.c (.int .i64 (.negSucc 0))))
dE))
dRet)) dSkip))
(dSeq (dSeq (dOps (dV p13 (oMv (.t p6))
dE))
(dCond (.t p13) (dSeq (dOps (dV p4 (oMv (.c (.int .i64 (.ofNat 1))))
dE))
dRet) dSkip))
(dSeq (dSeq (dOps (dV p14 (oMv (.t p0))
(dV p15 (oMv (.t p1))
(dV p16 (oAr .lss (.t p14) (.t p15))
dE))))
(dCond (.t p16) (dSeq (dOps (dV p4 (oMv (.c (.int .i64 (.negSucc 0))))
dE))
dRet) dSkip))
(dSeq (dSeq (dOps (dV p17 (oMv (.t p0))
(dV p18 (oMv (.t p1))
(dV p19 (oAr .gtr (.t p17) (.t p18))
dE))))
(dCond (.t p19) (dSeq (dOps (dV p4 (oMv (.c (.int .i64 (.ofNat 1))))
dE))
dRet) dSkip))
(dSeq (dOps (dV p4 (oMv (.c (.int .i64 (.ofNat 0))))
dE))
dRet)))))))), [(.t p4)]⟩
def af229 : AF := ⟨(dSeq (dOps (dV p4 (oMv (.c .nils))
dE))
(dSeq (dSeq (dOps (dV p8 (oMv (.t p0))
(dV p9 (oLen (.t p8))
(dV p10 (oAr .lss (.t p9) (.c (.int .i64 (.ofNat 2))))
dE))))
(dCond (.t p10) (dSeq (dOps (dV p11 (oMv (.t p0))
(dV p4 (oMv (.t p11))
dE)))
dRet) dSkip))
(dSeq (dSeq (dOps (dV p5 (oMv (.c (.int .i64 (.ofNat 1))))
dE))
(dBlock 0 (dLoop (dSeq (dSeq (dOps (dV p12 (oMv (.t p5))
(dV p13 (oMv (.t p0))
(dV p14 (oLen (.t p13))
(dV p15 (oAr .lss (.t p12) (.t p14))
dE)))))
(dCond (.t p15) dSkip (dExit 0)))
(dSeq (dBlock 1 (dSeq (dDraw (sN p18 ⟨(some p18), (.v (.mv (.t p1))), none⟩
(sN p19 ⟨(some p19), (.v (.mv (.t p0))), none⟩
(sN p20 ⟨(some p20), (.v (.mv (.t p5))), none⟩
(sN p21 ⟨(some p21), (.v (.ia 2 (.t p19) (.t p20))), none⟩
(sN p22 ⟨(some p22), (.v (.ldN 2 (.t p21))), none⟩
(sN p23 ⟨(some p23), (.v (.mv (.t p0))), none⟩
(sN p24 ⟨(some p24), (.v (.mv (.t p5))), none⟩
(sN p25 ⟨(some p25), (.v (.ar .sub (.t p24) (.c (.int .i64 (.ofNat 1))))), none⟩
(sN p26 ⟨(some p26), (.v (.ia 2 (.t p23) (.t p25))), none⟩
(sN p27 ⟨(some p27), (.v (.ldN 2 (.t p26))), none⟩
(sE [] [] ⟨(some p28), (.callv (.t p18) [(.t p22), (.t p27)]), none⟩
sEnd))))))))))))
(dCond (.t p28) (dSeq (dOps (dV p29 (oMv (.t p0))
(dV p30 (oMv (.t p5))
(dV p31 (oSl 2 (.t p29) (some (.t p30)) none none)
(dV p6 (oMv (.t p31))
dE)))))
(dSeq (dSeq (dOps (dV p7 (oMv (.c (.int .i64 (.ofNat 1))))
dE))
(dBlock 2 (dLoop (dSeq (dSeq (dOps (dV p32 (oMv (.t p7))
(dV p33 (oMv (.t p6))
(dV p34 (oLen (.t p33))
(dV p35 (oAr .lss (.t p32) (.t p34))
dE)))))
(dCond (.t p35) dSkip (dExit 2)))
(dSeq (dBlock 3 (dSeq (dDraw (sN p38 ⟨(some p38), (.v (.mv (.t p1))), none⟩
(sN p39 ⟨(some p39), (.v (.mv (.t p6))), none⟩
(sN p40 ⟨(some p40), (.v (.mv (.t p7))), none⟩
(sN p41 ⟨(some p41), (.v (.ia 2 (.t p39) (.t p40))), none⟩
(sN p42 ⟨(some p42), (.v (.ldN 2 (.t p41))), none⟩
(sN p43 ⟨(some p43), (.v (.mv (.t p6))), none⟩
(sN p44 ⟨(some p44), (.v (.mv (.t p7))), none⟩
(sN p45 ⟨(some p45), (.v (.ar .sub (.t p44) (.c (.int .i64 (.ofNat 1))))), none⟩
(sN p46 ⟨(some p46), (.v (.ia 2 (.t p43) (.t p45))), none⟩
(sN p47 ⟨(some p47), (.v (.ldN 2 (.t p46))), none⟩
(sE [] [] ⟨(some p48), (.callv (.t p38) [(.t p42), (.t p47)]), none⟩
(sN p49 ⟨(some p49), (.v (.un .not (.t p48))), none⟩
sEnd)))))))))))))
(dCond (.t p49) (dSeq (dOps (dV p50 (oMv (.t p0))
(dV p51 (oMv (.t p5))
(dV p52 (oMv (.t p6))
(dV p53 (oMv (.t p7))
(dV p54 (oIa 2 (.t p52) (.t p53))
(dV p55 (oLdN 2 (.t p54))
(dV p56 (oIa 2 (.t p50) (.t p51))
(dU (oSt 2 (.t p56) (.t p55))
dE)))))))))
(dOps (dV p57 (oMv (.t p5))
(dV p58 (oAr .add (.t p57) (.c (.int .i64 (.ofNat 1))))
(dV p5 (oMv (.t p58))
dE))))) dSkip)))
(dOps (dV p36 (oMv (.t p7))
(dV p37 (oAr .add (.t p36) (.c (.int .i64 (.ofNat 1))))
(dV p7 (oMv (.t p37))
dE)))))))))
(dSeq (dOps (dV p59 (oMv (.t p0))
(dV p60 (oMv (.t p5))
(dV p61 (oSl 2 (.t p59) (some (.t p60)) none none)
(dU (oClr [(.int .i64 (.ofNat 0)), (.int .i64 (.ofNat 0))] (.t p61))
dE)))))
(dSeq (dOps (dV p62 (oMv (.t p0))
(dV p63 (oMv (.t p5))
(dV p64 (oSl 2 (.t p62) none (some (.t p63)) none)
(dV p4 (oMv (.t p64))
dE)))))
dRet)))) dSkip)))
(dOps (dV p16 (oMv (.t p5))
(dV p17 (oAr .add (.t p16) (.c (.int .i64 (.ofNat 1))))
(dV p5 (oMv (.t p17))
dE)))))))))
(dSeq (dOps (dV p65 (oMv (.t p0))
(dV p4 (oMv (.t p65))
dE)))
dRet)))), [(.t p4)]⟩
def af230 : AF := ⟨(dSeq (dOps (dV p3 (oBox 46 (.t p0))
(dV p4 (oBox 46 (.t p1))
(dV p5 (oMv (.c (.bool false)))
dE))))
(dSeq (dOps (dV p11 (oLd1 (.t p2))
(dV p12 (oLdN 2 (.t p3))
(dCv (some p13) (.t p11) [(.t p12)]
(dV p10 (oMv (.t p13))
(dV p14 (oExt (.t p10) 0)
(dV p15 (oExt (.t p10) 1)
(dV p6 (oMv (.t p14))
(dV p7 (oMv (.t p15))
dE)))))))))
(dSeq (dOps (dV p17 (oLd1 (.t p2))
(dV p18 (oLdN 2 (.t p4))
(dCv (some p19) (.t p17) [(.t p18)]
(dV p16 (oMv (.t p19))
(dV p20 (oExt (.t p16) 0)
(dV p21 (oExt (.t p16) 1)
(dV p8 (oMv (.t p20))
(dV p9 (oMv (.t p21))
dE)))))))))
(dSeq (dOps (dV p22 (oMv (.t p6))
(dV p23 (oMv (.t p8))
(dV p24 (oAr .eql (.t p22) (.t p23))
(dV p5 (oMv (.t p24))
dE)))))
dRet)))), [(.t p5)]⟩
def af232 : AF := ⟨(dSeq (dOps (dV p3 (oBox 237 (.t p1))
dE))
(dSeq (dDraw (sN p4 ⟨(some p4), (.v (.fa 0 (.t p3))), none⟩
(sN p5 ⟨(some p5), (.v (.ld1 (.t p4))), none⟩
(sN p6 ⟨(some p6), (.v (.ar .gtr (.t p5) (.c (.int .i64 (.ofNat 20000))))), none⟩
(sN p7 ⟨(some p7), (.v (.mv (.t p6))), none⟩
(sN p8 ⟨(some p8), (.v (.fa 1 (.t p3))), (some (p7, false))⟩
(sN p9 ⟨(some p9), (.v (.ld1 (.t p8))), (some (p7, false))⟩
(sN p10 ⟨(some p10), (.v (.ar .gtr (.t p9) (.c (.int .i64 (.ofNat 500))))), (some (p7, false))⟩
(sN p11 ⟨(some p11), (.v (.pick (.t p7) (.c (.bool true)) (.t p10))), none⟩
(sN p12 ⟨(some p12), (.v (.mv (.t p11))), none⟩
(sN p13 ⟨(some p13), (.v (.fa 2 (.t p3))), (some (p12, false))⟩
(sN p14 ⟨(some p14), (.v (.ld1 (.t p13))), (some (p12, false))⟩
(sN p15 ⟨(some p15), (.v (.mv (.t p0))), (some (p12, false))⟩
(sN p16 ⟨(some p16), (.v (.nchk (.t p15))), (some (p12, false))⟩
(sN p17 ⟨(some p17), (.v (.fa 3 (.t p16))), (some (p12, false))⟩
(sN p18 ⟨(some p18), (.v (.ld1 (.t p17))), (some (p12, false))⟩
(sN p19 ⟨(some p19), (.v (.ar .add (.t p14) (.t p18))), (some (p12, false))⟩
(sN p20 ⟨(some p20), (.v (.ar .gtr (.t p19) (.c (.int .i64 (.ofNat 1073741824))))), (some (p12, false))⟩
(sN p21 ⟨(some p21), (.v (.pick (.t p12) (.c (.bool true)) (.t p20))), none⟩
sEnd)))))))))))))))))))
(dCond (.t p21) (dOps (dC (some p22) p272 [(.c (.int .i64 (.ofNat 2)))]
dE)) dSkip))), []⟩
def af233 : AF := ⟨(dSeq (dOps (dV p3 (oMv (.t p0))
(dV p4 (oNchk (.t p3))
(dV p5 (oFa 0 (.t p4))
(dV p6 (oLd1 (.t p5))
(dV p7 (oLen (.t p6))
(dV p8 (oAr .sub (.t p7) (.c (.int .i64 (.ofNat 1))))
(dV p2 (oMv (.t p8))
dE))))))))
(dSeq (dOps (dV p9 (oMv (.t p2))
(dV p10 (oAr .geq (.t p9) (.c (.int .i64 (.ofNat 0))))
(dV p11 (oMv (.t p10))
(dG p11 true (some p12) (dV p12 (oMv (.t p0)))
(dG p11 true (some p13) (dV p13 (oNchk (.t p12)))
(dG p11 true (some p14) (dV p14 (oFa 0 (.t p13)))
(dG p11 true (some p15) (dV p15 (oLd1 (.t p14)))
(dG p11 true (some p16) (dV p16 (oMv (.t p2)))
(dG p11 true (some p17) (dV p17 (oIa 1 (.t p15) (.t p16)))
(dG p11 true (some p18) (dV p18 (oLd1 (.t p17)))
(dG p11 true (some p19) (dV p19 (oLenC (.t p18)))
(dG p11 true (some p20) (dV p20 (oAr .eql (.t p19) (.c (.int .i64 (.ofNat 0)))))
(dV p21 (oPick (.t p11) (.t p20) (.c (.bool false)))
dE))))))))))))))
(dCond (.t p21) (dOps (dV p22 (oMv (.t p0))
(dV p23 (oMv (.t p0))
(dV p24 (oNchk (.t p23))
(dV p25 (oFa 0 (.t p24))
(dV p26 (oLd1 (.t p25))
(dV p27 (oMv (.t p2))
(dV p28 (oSl 1 (.t p26) none (some (.t p27)) none)
(dV p29 (oNchk (.t p22))
(dV p30 (oFa 0 (.t p29))
(dU (oSt 1 (.t p30) (.t p28))
dE))))))))))) dSkip))), []⟩
def af234 : AF := ⟨(dSeq (dOps (dV p1 (oBox 153 (.t p0))
(dV p2 (oMv (.c (.bool false)))
dE)))
(dSeq (dOps (dV p3 (oFa 0 (.t p1))
(dV p4 (oLd1 (.t p3))
(dV p5 (oNchk (.t p4))
(dV p6 (oFa 13 (.t p5))
(dV p7 (oLd1 (.t p6))
(dV p8 (oAr .gtr (.t p7) (.c (.int .i64 (.ofNat 0))))
(dV p2 (oMv (.t p8))
dE))))))))
dRet)), [(.t p2)]⟩
def af235 : AF := ⟨(dSeq (dOps (dV p3 (oBox 308 (.t p1))
(dV p4 (oNew [(.int .i64 (.ofNat 0)), (.int .i64 (.ofNat 0)), (.int .i64 (.ofNat 0))] 374)
dE)))
(dSeq (dDraw (sN p5 ⟨(some p5), (.v (.mv (.t p0))), none⟩
(sN p6 ⟨(some p6), (.v (.nchk (.t p5))), none⟩
(sN p7 ⟨(some p7), (.v (.fa 0 (.t p6))), none⟩
(sN p8 ⟨(some p8), (.v (.ldN 1 (.t p7))), none⟩
(sN p9 ⟨(some p9), (.v (.fa 0 (.t p3))), none⟩
(sN p10 ⟨(some p10), (.v (.ldN 1 (.t p9))), none⟩
(sN p12 ⟨(some p12), (.v (.mv (.t p0))), none⟩
(sN p13 ⟨(some p13), (.v (.nchk (.t p12))), none⟩
(sN p14 ⟨(some p14), (.v (.fa 0 (.t p13))), none⟩
(sN p15 ⟨(some p15), (.v (.ldN 1 (.t p14))), none⟩
(sN p16 ⟨(some p16), (.v (.fa 1 (.t p3))), none⟩
(sN p17 ⟨(some p17), (.v (.ldN 1 (.t p16))), none⟩
(sN p19 ⟨(some p19), (.v (.fa 2 (.t p3))), none⟩
(sN p20 ⟨(some p20), (.v (.ld1 (.t p19))), none⟩
(sE [] [(p15, ⟨(some p15), (.v (.ldN 1 (.t p14))), none⟩), (p17, ⟨(some p17), (.v (.ldN 1 (.t p16))), none⟩), (p20, ⟨(some p20), (.v (.ld1 (.t p19))), none⟩)] ⟨(some p11), (.call p273 [(.t p8), (.t p10)]), none⟩
(sE [] [(p20, ⟨(some p20), (.v (.ld1 (.t p19))), none⟩)] ⟨(some p18), (.call p273 [(.t p15), (.t p17)]), none⟩
(sN p21 ⟨(some p21), (.v (.build [(.int .i64 (.ofNat 0)), (.int .i64 (.ofNat 0)), (.int .i64 (.ofNat 0))] [(0, 1, (.t p11)), (1, 1, (.t p18)), (2, 1, (.t p20))])), none⟩
(sE [] [] ⟨none, (.v (.st 3 (.t p4) (.t p21))), none⟩
sEnd)))))))))))))))))))
dRet)), [(.cN p4 3)]⟩
def af236 : AF := ⟨(dSeq (dOps (dV p6 (oMv (.c .nilf))
dE))
(dSeq (dBlock 0 (dSeq (dOps (dV p8 (oMv (.t p1))
(dV p9 (oAr .eql (.t p8) (.c (.int .i64 (.ofNat 4))))
(dV p10 (oMv (.t p9))
(dG p10 false (some p11) (dV p11 (oMv (.t p2)))
(dG p10 false (some p12) (dV p12 (oAr .eql (.t p11) (.c (.int .i64 (.ofNat 4)))))
(dV p13 (oPick (.t p10) (.c (.bool true)) (.t p12))
(dV p7 (oMv (.t p13))
dE))))))))
(dCond (.t p7) (dSeq (dOps (dV p6 (oMv (.c (.fn (.func 274) [] [])))
dE))
dRet) (dSeq (dOps (dV p15 (oMv (.t p1))
(dV p16 (oAr .eql (.t p15) (.c (.int .i64 (.ofNat 7))))
(dV p17 (oMv (.t p16))
(dG p17 false (some p18) (dV p18 (oMv (.t p2)))
(dG p17 false (some p19) (dV p19 (oAr .eql (.t p18) (.c (.int .i64 (.ofNat 7)))))
(dV p20 (oPick (.t p17) (.c (.bool true)) (.t p19))
(dV p14 (oMv (.t p20))
dE))))))))
(dCond (.t p14) (dSeq (dOps (dV p6 (oMv (.c (.fn (.func 275) [] [])))
dE))
dRet) (dSeq (dOps (dV p22 (oMv (.t p1))
(dV p23 (oMv (.t p2))
(dV p24 (oAr .neq (.t p22) (.t p23))
(dV p21 (oMv (.t p24))
dE)))))
(dCond (.t p21) (dSeq (dOps (dV p6 (oMv (.c (.fn (.func 276) [] [])))
dE))
dRet) dSkip)))))))
(dSeq (dOps (dV p25 (oMv (.t p0))
(dV p26 (oMv (.t p1))
(dV p27 (oNchk (.t p25))
(dV p28 (oFa 3 (.t p27))
(dV p29 (oIaA 12 1 (.t p28) (.t p26))
(dV p30 (oLd1 (.t p29))
(dV p6 (oMv (.t p30))
dE))))))))
dRet))), [(.t p6)]⟩
def af237 : AF := ⟨(dSeq (dOps (dV p1 (oBox 222 (.t p0))
(dV p2 (oNew [(.int .i64 (.ofNat 0)), (.int .i64 (.ofNat 0)), (.int .i64 (.ofNat 0)), (.int .i64 (.ofNat 0))] 237)
dE)))
(dSeq (dDraw (sN p9 ⟨(some p9), (.v (.fa 2 (.t p1))), none⟩
(sN p10 ⟨(some p10), (.v (.ld1 (.t p9))), none⟩
(sN p11 ⟨(some p11), (.v (.nchk (.t p10))), none⟩
(sN p12 ⟨(some p12), (.v (.fa 7 (.t p11))), none⟩
(sN p13 ⟨(some p13), (.v (.ld1 (.t p12))), none⟩
(sN p14 ⟨(some p14), (.v (.fa 2 (.t p1))), none⟩
(sN p15 ⟨(some p15), (.v (.ld1 (.t p14))), none⟩
(sN p16 ⟨(some p16), (.v (.nchk (.t p15))), none⟩
(sN p17 ⟨(some p17), (.v (.fa 8 (.t p16))), none⟩
(sN p18 ⟨(some p18), (.v (.ld1 (.t p17))), none⟩
(sN p19 ⟨(some p19), (.v (.build [(.int .i64 (.ofNat 0)), (.int .i64 (.ofNat 0)), (.int .i64 (.ofNat 0)), (.int .i64 (.ofNat 0))] [(0, 1, (.t p13)), (1, 1, (.t p18))])), none⟩
(sA 11 p3 (.new [(.int .i64 (.ofNat 0)), (.int .i64 (.ofNat 0)), (.int .i64 (.ofNat 0)), (.int .i64 (.ofNat 0))] 237)
(sE [11] [] ⟨none, (.v (.st 4 (.t p3) (.t p19))), none⟩
sEnd))))))))))))))
(dSeq (dOps (dV p20 (oFa 0 (.t p1))
(dV p21 (oFa 0 (.t p20))
(dV p22 (oLd1 (.t p21))
(dV p4 (oMv (.t p22))
(dV p5 (oMv (.c (.int .i64 (.ofNat 0))))
dE))))))
(dSeq (dSeq (dOps (dV p23 (oFa 2 (.t p1))
(dV p24 (oLd1 (.t p23))
(dC (some p25) p259 [(.t p24)]
(dV p26 (oLen (.t p25))
(dV p27 (oMv (.c (.int .i64 (.ofNat 0))))
dE))))))
(dBlock 0 (dLoop (dSeq (dOps (dV p28 (oAr .lss (.t p27) (.t p26))
dE))
(dSeq (dCond (.t p28) dSkip (dExit 0))
(dSeq (dBlock 1 (dSeq (dOps (dV p29 (oIa 4 (.t p25) (.t p27))
(dV p30 (oLdN 4 (.t p29))
(dV p7 (oNew [(.int .i64 (.ofNat 0)), (.int .i64 (.ofNat 0)), (.int .i64 (.ofNat 0)), (.int .i64 (.ofNat 0))] 408)
(dU (oSt 4 (.t p7) (.t p30))
dE)))))
(dSeq (dBlock 2 (dLoop (dSeq (dSeq (dOps (dV p31 (oMv (.t p4))
(dV p32 (oEq .p true (.t p31) (.c .nilp))
(dV p33 (oMv (.t p32))
(dG p33 true (some p34) (dV p34 (oMv (.t p5)))
(dG p33 true (some p35) (dV p35 (oFa 0 (.t p7)))
(dG p33 true (some p36) (dV p36 (oLd1 (.t p35)))
(dG p33 true (some p37) (dV p37 (oAr .lss (.t p34) (.t p36)))
(dV p38 (oPick (.t p33) (.t p37) (.c (.bool false)))
dE)))))))))
(dCond (.t p38) dSkip (dExit 2)))
(dSeq (dBlock 3 (dOps (dV p41 (oMv (.t p4))
(dV p42 (oNchk (.t p41))
(dV p43 (oFa 1 (.t p42))
(dV p44 (oLd1 (.t p43))
(dV p4 (oMv (.t p44))
dE)))))))
(dOps (dV p39 (oMv (.t p5))
(dV p40 (oAr .add (.t p39) (.c (.int .i64 (.ofNat 1))))
(dV p5 (oMv (.t p40))
dE))))))))
(dSeq (dOps (dV p45 (oFa 0 (.t p7))
(dV p46 (oLd1 (.t p45))
(dV p47 (oFa 0 (.t p1))
(dV p48 (oFa 1 (.t p47))
(dV p49 (oLd1 (.t p48))
(dV p50 (oAr .sub (.t p46) (.t p49))
(dV p51 (oBuild [(.int .i64 (.ofNat 0)), (.int .i64 (.ofNat 0)), (.int .i64 (.ofNat 0)), (.int .i64 (.ofNat 0))] [(0, 1, (.c (.int .i64 (.ofNat 1)))), (1, 1, (.c (.int .i64 (.ofNat 1)))), (2, 1, (.t p50)), (3, 1, (.c (.int .i64 (.ofNat 0))))])
(dV p8 (oNew [(.int .i64 (.ofNat 0)), (.int .i64 (.ofNat 0)), (.int .i64 (.ofNat 0)), (.int .i64 (.ofNat 0))] 237)
(dU (oSt 4 (.t p8) (.t p51))
dE))))))))))
(dSeq (dSeq (dOps (dV p52 (oMv (.t p4))
(dV p53 (oEq .p true (.t p52) (.c .nilp))
dE)))
(dCond (.t p53) (dOps (dV p54 (oMv (.t p4))
(dV p55 (oNchk (.t p54))
(dV p56 (oFa 0 (.t p55))
(dV p57 (oLd1 (.t p56))
(dV p58 (oNchk (.t p57))
(dV p59 (oFa 3 (.t p58))
(dV p60 (oLdN 4 (.t p59))
(dU (oSt 4 (.t p8) (.t p60))
dE))))))))) dSkip))
(dSeq (dOps (dV p61 (oFa 0 (.t p3))
(dV p62 (oLd1 (.t p61))
(dV p63 (oFa 1 (.t p7))
(dV p64 (oLd1 (.t p63))
(dV p65 (oFa 0 (.t p8))
(dV p66 (oLd1 (.t p65))
(dV p67 (oAr .sub (.t p66) (.c (.int .i64 (.ofNat 1))))
(dV p68 (oAr .mul (.t p64) (.t p67))
(dV p69 (oAr .add (.t p62) (.t p68))
(dV p70 (oFa 0 (.t p3))
(dU (oSt 1 (.t p70) (.t p69))
dE))))))))))))
(dSeq (dOps (dV p71 (oFa 1 (.t p3))
(dV p72 (oLd1 (.t p71))
(dV p73 (oFa 2 (.t p7))
(dV p74 (oLd1 (.t p73))
(dV p75 (oFa 1 (.t p8))
(dV p76 (oLd1 (.t p75))
(dV p77 (oAr .add (.t p74) (.t p76))
(dV p78 (oMm true [(.t p72), (.t p77)])
(dV p79 (oFa 1 (.t p3))
(dU (oSt 1 (.t p79) (.t p78))
dE)))))))))))
(dSeq (dOps (dV p80 (oFa 2 (.t p3))
(dV p81 (oLd1 (.t p80))
(dV p82 (oFa 3 (.t p7))
(dV p83 (oLd1 (.t p82))
(dV p84 (oFa 2 (.t p8))
(dV p85 (oLd1 (.t p84))
(dV p86 (oAr .add (.t p83) (.t p85))
(dV p87 (oMm true [(.t p81), (.t p86)])
(dV p88 (oFa 2 (.t p3))
(dU (oSt 1 (.t p88) (.t p87))
dE)))))))))))
(dOps (dV p89 (oFa 3 (.t p3))
(dV p90 (oLd1 (.t p89))
(dV p91 (oFa 3 (.t p8))
(dV p92 (oLd1 (.t p91))
(dV p93 (oMm true [(.t p90), (.t p92)])
(dV p94 (oFa 3 (.t p3))
(dU (oSt 1 (.t p94) (.t p93))
dE))))))))))))))))
(dOps (dV p95 (oAr .add (.t p27) (.c (.int .i64 (.ofNat 1))))
(dV p27 (oMv (.t p95))
dE)))))))))
(dSeq (dOps (dV p96 (oLdN 4 (.t p3))
(dU (oSt 4 (.t p2) (.t p96))
dE)))
dRet))))), [(.cN p2 4)]⟩
def af238 : AF := ⟨(dSeq (dOps (dV p1 (oBox 382 (.t p0))
(dV p2 (oMv (.c .nilf))
dE)))
(dSeq (dOps (dV p3 (oMkf 277 [] [(.t p1)])
(dV p2 (oMv (.t p3))
dE)))
dRet)), [(.t p2)]⟩
def af239 : AF := ⟨(dSeq (dOps (dV p2 (oBox 26 (.t p0))
(dV p3 (oBox 3 (.t p1))
(dV p4 (oMv (.c .nilf))
dE))))
(dSeq (dOps (dV p5 (oMkf 278 [] [(.t p2), (.t p3)])
(dV p4 (oMv (.t p5))
dE)))
dRet)), [(.t p4)]⟩
def af240 : AF := ⟨(dSeq (dOps (dV p2 (oBox 26 (.t p0))
(dV p3 (oBox 26 (.t p1))
(dV p4 (oMv (.c (.bool false)))
dE))))
(dSeq (dOps (dV p5 (oLdN 6 (.t p2))
(dC (some p6) p60 [(.t p5)]
(dV p7 (oAr .eql (.t p6) (.c (.int .i64 (.ofNat 0))))
(dV p8 (oMv (.t p7))
(dG p8 true (some p9) (dV p9 (oLdN 6 (.t p3)))
(dG p8 true (some p10) (dC (some p10) p60 [(.t p9)])
(dG p8 true (some p11) (dV p11 (oAr .eql (.t p10) (.c (.int .i64 (.ofNat 0)))))
(dV p12 (oPick (.t p8) (.t p11) (.c (.bool false)))
(dV p13 (oMv (.t p12))
(dG p13 true (some p14) (dV p14 (oLdN 6 (.t p2)))
(dG p13 true (some p15) (dV p15 (oLdN 6 (.t p3)))
(dG p13 true (some p16) (dC (some p16) p279 [(.t p14), (.t p15)])
(dV p17 (oPick (.t p13) (.t p16) (.c (.bool false)))
(dV p4 (oMv (.t p17))
dE)))))))))))))))
dRet)), [(.t p4)]⟩
def af241 : AF := ⟨(dSeq (dOps (dV p1 (oBox 26 (.t p0))
(dV p2 (oNew [(.int .i64 (.ofNat 0)), (.int .i64 (.ofNat 0)), (.bool false), (.str []), .nils, .nils] 26)
dE)))
(dSeq (dOps (dV p3 (oFa 2 (.t p1))
(dU (oSt 1 (.t p3) (.c (.bool false)))
dE)))
(dSeq (dOps (dV p4 (oFa 5 (.t p1))
(dV p5 (oLd1 (.t p4))
(dC (some p6) p280 [(.t p5), (.c (.fn (.func 241) [] []))]
(dV p7 (oFa 5 (.t p1))
(dU (oSt 1 (.t p7) (.t p6))
dE))))))
(dSeq (dOps (dV p8 (oLdN 6 (.t p1))
(dU (oSt 6 (.t p2) (.t p8))
dE)))
dRet)))), [(.cN p2 6)]⟩
def af242 : AF := ⟨(dSeq (dOps (dV p1 (oBox 26 (.t p0))
(dV p2 (oNew [(.int .i64 (.ofNat 0)), (.int .i64 (.ofNat 0)), (.bool false), (.str []), .nils, .nils] 26)
(dV p3 (oMv (.c .nils))
(dV p4 (oMv (.c .nils))
dE)))))
(dSeq (dSeq (dOps (dV p6 (oLdN 6 (.t p1))
(dC (some p7) p60 [(.t p6)]
(dV p8 (oAr .neq (.t p7) (.c (.int .i64 (.ofNat 0))))
dE))))
(dCond (.t p8) (dSeq (dOps (dV p9 (oLdN 6 (.t p1))
(dC (some p10) p44 [(.t p9)]
(dU (oSt 6 (.t p2) (.t p10))
(dV p3 (oMv (.c .nils))
(dV p4 (oMv (.c .nils))
dE))))))
dRet) dSkip))
(dSeq (dOps (dV p5 (oMv (.c .nils))
dE))
(dSeq (dBlock 0 (dLoop (dSeq (dSeq (dOps (dV p11 (oFa 0 (.t p1))
(dV p12 (oLd1 (.t p11))
(dV p13 (oAr .eql (.t p12) (.c (.int .i64 (.ofNat 5))))
dE))))
(dCond (.t p13) dSkip (dExit 0)))
(dBlock 1 (dSeq (dOps (dV p14 (oMv (.t p5))
(dV p15 (oLdN 6 (.t p1))
(dV p16 (oBuildS 26 1 [(.int .i64 (.ofNat 0)), (.int .i64 (.ofNat 0)), (.bool false), (.str []), .nils, .nils] [(0, 6, (.t p15))])
(dV p17 (oApp 26 6 (.t p14) (.t p16))
(dV p5 (oMv (.t p17))
dE))))))
(dOps (dV p18 (oFa 5 (.t p1))
(dV p19 (oLd1 (.t p18))
(dV p20 (oIa 6 (.t p19) (.c (.int .i64 (.ofNat 0))))
(dV p21 (oLdN 6 (.t p20))
(dU (oSt 6 (.t p1) (.t p21))
dE)))))))))))
(dSeq (dOps (dV p22 (oLdN 6 (.t p1))
(dV p23 (oMv (.t p5))
(dC (some p24) p281 [(.t p22), (.t p23)]
(dV p25 (oExt (.t p24) 0)
(dV p26 (oExt (.t p24) 1)
(dV p27 (oExt (.t p24) 2)
(dU (oSt 6 (.t p2) (.t p25))
(dV p3 (oMv (.t p26))
(dV p4 (oMv (.t p27))
dE))))))))))
dRet))))), [(.cN p2 6), (.t p3), (.t p4)]⟩
def af243 : AF := ⟨(dSeq (dOps (dV p2 (oBox 163 (.t p0))
(dV p4 (oNew [(.int .i64 (.ofNat 0)), (.int .i64 (.ofNat 0)), (.bool false), (.str []), .nils, .nils] 26)
dE)))
(dSeq (dOps (dV p7 (oMv (.t p1))
(dV p8 (oBuild [(.int .i64 (.ofNat 0)), (.int .i64 (.ofNat 0)), (.bool false), (.str []), .nils, .nils] [(0, 1, (.c (.int .i64 (.ofNat 10)))), (3, 1, (.t p7))])
(dV p5 (oNew [(.int .i64 (.ofNat 0)), (.int .i64 (.ofNat 0)), (.bool false), (.str []), .nils, .nils] 26)
(dU (oSt 6 (.t p5) (.t p8))
dE)))))
(dSeq (dSeq (dOps (dV p9 (oFa 0 (.t p2))
(dV p10 (oFa 2 (.t p9))
(dV p11 (oLd1 (.t p10))
(dV p12 (oMv (.c (.int .i64 (.ofNat 0))))
dE)))))
(dBlock 0 (dLoop (dSeq (dOps (dV p13 (oAr .lss (.t p12) (.t p11))
dE))
(dSeq (dCond (.t p13) dSkip (dExit 0))
(dSeq (dBlock 1 (dSeq (dOps (dV p14 (oMv (.t p12))
(dV p6 (oMv (.t p14))
dE)))
(dDraw (sN p15 ⟨(some p15), (.v (.fa 4 (.t p5))), none⟩
(sN p16 ⟨(some p16), (.v (.ld1 (.t p15))), none⟩
(sN p17 ⟨(some p17), (.v (.mv (.t p6))), none⟩
(sE [] [(p16, ⟨(some p16), (.v (.ld1 (.t p15))), none⟩)] ⟨(some p18), (.call p282 [(.t p17)]), none⟩
(sA 4 p19 (.buildS 49 1 [(.int .i64 (.ofNat 0)), .nils] [(0, 2, (.t p18))])
(sE [4] [] ⟨(some p20), (.v (.app 49 2 (.t p16) (.t p19))), none⟩
(sN p21 ⟨(some p21), (.v (.fa 4 (.t p5))), none⟩
(sE [4] [] ⟨none, (.v (.st 1 (.t p21) (.t p20))), none⟩
sEnd)))))))))))
(dOps (dV p22 (oAr .add (.t p12) (.c (.int .i64 (.ofNat 1))))
(dV p12 (oMv (.t p22))
dE)))))))))
(dSeq (dOps (dV p23 (oLdN 6 (.t p5))
(dU (oSt 6 (.t p4) (.t p23))
dE)))
dRet)))), [(.cN p4 6)]⟩
def af244 : AF := ⟨(dSeq (dOps (dV p2 (oNew [(.int .i64 (.ofNat 0)), (.int .i64 (.ofNat 0)), (.bool false), (.str []), .nils, .nils] 26)
dE))
(dSeq (dOps (dV p3 (oMv (.t p0))
(dV p4 (oBuild [(.int .i64 (.ofNat 0)), (.int .i64 (.ofNat 0)), (.bool false), (.str []), .nils, .nils] [(0, 1, (.c (.int .i64 (.ofNat 1)))), (1, 1, (.t p3))])
(dU (oSt 6 (.t p2) (.t p4))
dE))))
dRet)), [(.cN p2 6)]⟩
def af245 : AF := ⟨(dSeq (dOps (dV p2 (oMv (.c .nilp))
dE))
(dSeq (dOps (dV p5 (oMv (.t p0))
(dV p6 (oAr .sub (.c (.int .i64 (.negSucc 0))) (.t p5))
(dV p7 (oBuild [(.int .i64 (.ofNat 0)), (.int .i64 (.ofNat 0)), (.bool false), (.str []), .nils, .nils] [(0, 1, (.c (.int .i64 (.ofNat 1)))), (1, 1, (.t p6))])
(dC (some p8) p126 [(.t p7)]
(dV p3 (oMv (.t p8))
dE))))))
(dSeq (dOps (dV p9 (oMv (.t p3))
(dV p10 (oBuild [.nilp, (.int .i64 (.ofNat 0)), .nilp] [(2, 1, (.t p9))])
(dC (some p11) p185 [(.t p10)]
(dV p4 (oMv (.t p11))
dE)))))
(dSeq (dOps (dV p12 (oMv (.t p4))
(dV p13 (oMv (.t p0))
(dV p14 (oAr .add (.t p13) (.c (.int .i64 (.ofNat 1))))
(dV p15 (oNchk (.t p12))
(dV p16 (oFa 3 (.t p15))
(dV p17 (oFa 3 (.t p16))
(dU (oSt 1 (.t p17) (.t p14))
dE))))))))
(dSeq (dOps (dV p18 (oMv (.t p4))
(dV p2 (oMv (.t p18))
dE)))
dRet))))), [(.t p2)]⟩
def af246 : AF := ⟨(dSeq (dOps (dV p1 (oBox 3 (.t p0))
(dV p2 (oMv (.c .nilf))
dE)))
(dSeq (dOps (dV p3 (oLd1 (.t p1))
(dV p4 (oMm false [(.t p3), (.c (.int .i64 (.ofNat 1001)))])
(dU (oSt 1 (.t p1) (.t p4))
dE))))
(dSeq (dOps (dV p5 (oMkf 283 [] [(.t p1)])
(dV p2 (oMv (.t p5))
dE)))
dRet))), [(.t p2)]⟩
def af247 : AF := ⟨(dSeq (dOps (dV p4 (oMv (.c (.int .i64 (.ofNat 0))))
dE))
(dSeq (dSeq (dOps (dV p5 (oMv (.t p1))
(dV p6 (oMv (.t p0))
(dV p7 (oLen (.t p6))
(dV p8 (oAr .geq (.t p5) (.t p7))
dE)))))
(dCond (.t p8) (dSeq (dOps (dV p4 (oMv (.c (.int .i64 (.ofNat 0))))
dE))
dRet) dSkip))
(dSeq (dOps (dV p9 (oMv (.t p0))
(dV p10 (oMv (.t p1))
(dV p11 (oIa 1 (.t p9) (.t p10))
(dV p12 (oLd1 (.t p11))
(dV p13 (oMm true [(.t p12), (.c (.int .i64 (.ofNat 0)))])
(dV p14 (oMm false [(.t p13), (.c (.int .i64 (.ofNat 4611686018427387904)))])
(dV p4 (oMv (.t p14))
dE))))))))
dRet))), [(.t p4)]⟩
def af248 : AF := ⟨(dSeq (dOps (dV p2 (oBox 49 (.t p0))
(dV p3 (oBox 49 (.t p1))
(dV p4 (oMv (.c (.bool false)))
dE))))
(dSeq (dOps (dV p5 (oFa 0 (.t p2))
(dV p6 (oLd1 (.t p5))
(dV p7 (oFa 0 (.t p3))
(dV p8 (oLd1 (.t p7))
(dV p9 (oAr .eql (.t p6) (.t p8))
(dV p10 (oMv (.t p9))
(dG p10 true (some p11) (dV p11 (oFa 1 (.t p2)))
(dG p10 true (some p12) (dV p12 (oLd1 (.t p11)))
(dG p10 true (some p13) (dV p13 (oFa 1 (.t p3)))
(dG p10 true (some p14) (dV p14 (oLd1 (.t p13)))
(dG p10 true (some p15) (dC (some p15) p284 [(.t p12), (.t p14)])
(dV p16 (oPick (.t p10) (.t p15) (.c (.bool false)))
(dV p4 (oMv (.t p16))
dE))))))))))))))
dRet)), [(.t p4)]⟩
def af249 : AF := ⟨(dSeq (dOps (dV p4 (oMv (.c (.int .i64 (.ofNat 0))))
dE))
(dSeq (dSeq (dOps (dV p6 (oMv (.t p0))
(dV p7 (oLen (.t p6))
(dV p8 (oMv (.c (.int .i64 (.ofNat 0))))
dE))))
(dBlock 0 (dLoop (dSeq (dOps (dV p9 (oAr .lss (.t p8) (.t p7))
dE))
(dSeq (dCond (.t p9) dSkip (dExit 0))
(dSeq (dBlock 1 (dSeq (dOps (dV p10 (oMv (.t p8))
(dV p5 (oMv (.t p10))
dE)))
(dSeq (dOps (dV p11 (oMv (.t p1))
(dV p12 (oMv (.t p0))
(dV p13 (oMv (.t p5))
(dV p14 (oIa 2 (.t p12) (.t p13))
(dV p15 (oLdN 2 (.t p14))
(dCv (some p16) (.t p11) [(.t p15)]
dE)))))))
(dCond (.t p16) (dSeq (dOps (dV p17 (oMv (.t p5))
(dV p4 (oMv (.t p17))
dE)))
dRet) dSkip))))
(dOps (dV p18 (oAr .add (.t p8) (.c (.int .i64 (.ofNat 1))))
(dV p8 (oMv (.t p18))
dE)))))))))
(dSeq (dOps (dV p4 (oMv (.c (.int .i64 (.negSucc 0))))
dE))
dRet))), [(.t p4)]⟩
def af250 : AF := ⟨(dSeq (dOps (dV p1 (oBox 233 (.t p0))
(dV p2 (oMv (.c .nilf))
dE)))
(dSeq (dOps (dV p3 (oMkf 285 [] [(.t p1)])
(dV p2 (oMv (.t p3))
dE)))
dRet)), [(.t p2)]⟩
def af251 : AF := ⟨(dSeq (dOps (dV p1 (oBox 400 (.t p0))
(dV p2 (oMv (.c .nilf))
dE)))
(dSeq (dOps (dV p3 (oMkf 286 [] [(.t p1)])
(dV p2 (oMv (.t p3))
dE)))
dRet)), [(.t p2)]⟩
def af252 : AF := ⟨(dSeq (dOps (dV p2 (oMv (.c .nils))
dE))
(dSeq (dOps (dV p3 (oMv (.t p0))
(dC (some p4) p287 [(.c .nils), (.t p3)]
(dV p2 (oMv (.t p4))
dE))))
dRet)), [(.t p2)]⟩
def af253 : AF := ⟨(dSeq (dOps (dV p6 (oMv (.c .nilp))
dE))
(dSeq (dDraw (sN p7 ⟨(some p7), (.v (.mv (.t p1))), none⟩
(sN p8 ⟨(some p8), (.v (.mv (.t p2))), none⟩
(sN p9 ⟨(some p9), (.v (.mv (.t p0))), none⟩
(sN p10 ⟨(some p10), (.v (.mv (.t p1))), none⟩
(sN p11 ⟨(some p11), (.v (.nchk (.t p10))), none⟩
(sN p12 ⟨(some p12), (.v (.fa 3 (.t p11))), none⟩
(sN p13 ⟨(some p13), (.v (.fa 0 (.t p12))), none⟩
(sN p14 ⟨(some p14), (.v (.ld1 (.t p13))), none⟩
(sN p15 ⟨(some p15), (.v (.ar .add (.t p14) (.c (.int .i64 (.ofNat 1))))), none⟩
(sN p16 ⟨(some p16), (.v (.build [(.int .i64 (.ofNat 0)), (.int .i64 (.ofNat 0))] [(0, 1, (.c (.int .i64 (.ofNat 1)))), (1, 1, (.t p15))])), none⟩
(sN p17 ⟨(some p17), (.v (.mv (.t p0))), none⟩
(sE [] [(p14, ⟨(some p14), (.v (.ld1 (.t p13))), none⟩)] ⟨(some p18), (.call p289 [(.t p17)]), none⟩
(sE [] [] ⟨(some p19), (.call p288 [(.t p16), (.t p18)]), none⟩
(sN p20 ⟨(some p20), (.v (.build [.nilp, (.bool false), .nilp, (.int .i64 (.ofNat 0)), (.int .i64 (.ofNat 0))] [(0, 1, (.t p7)), (1, 1, (.t p8)), (2, 1, (.t p9)), (3, 2, (.t p19))])), none⟩
(sA 14 p21 (.box 396 (.t p20))
(sN p6 ⟨(some p6), (.v (.mv (.t p21))), none⟩
sEnd)))))))))))))))))
dRet)), [(.t p6)]⟩
def af254 : AF := ⟨(dSeq (dOps (dV p1 (oBox 204 (.t p0))
(dV p2 (oNew [.nilp] 153)
dE)))
(dSeq (dOps (dV p4 (oLdN 1 (.t p1))
(dC (some p5) p290 [(.t p4)]
(dV p3 (oNew [(.int .i64 (.ofNat 0)), (.int .i64 (.ofNat 0)), (.int .i64 (.ofNat 0)), (.int .i64 (.ofNat 0))] 237)
(dU (oSt 4 (.t p3) (.t p5))
dE)))))
(dSeq (dDraw (sN p6 ⟨(some p6), (.v (.fa 0 (.t p1))), none⟩
(sN p7 ⟨(some p7), (.v (.ld1 (.t p6))), none⟩
(sN p8 ⟨(some p8), (.v (.nchk (.t p7))), none⟩
(sN p9 ⟨(some p9), (.v (.fa 0 (.t p8))), none⟩
(sN p10 ⟨(some p10), (.v (.fa 0 (.t p9))), none⟩
(sN p11 ⟨(some p11), (.v (.ldN 3 (.t p10))), none⟩
(sN p12 ⟨(some p12), (.v (.ldN 4 (.t p3))), none⟩
(sN p13 ⟨(some p13), (.v (.fa 0 (.t p1))), none⟩
(sN p14 ⟨(some p14), (.v (.ld1 (.t p13))), none⟩
(sN p15 ⟨(some p15), (.v (.ldN 4 (.t p3))), none⟩
(sN p16 ⟨(some p16), (.v (.build [.nilp, (.int .i64 (.ofNat 0)), .nilp, (.int .i64 (.ofNat 0)), (.int .i64 (.ofNat 0)), (.int .i64 (.ofNat 0)), (.int .i64 (.ofNat 0)), .nilp, (.int .i64 (.ofNat 0)), (.int .i64 (.ofNat 0)), (.int .i64 (.ofNat 0)), (.int .i64 (.ofNat 0)), .nilp, (.int .i64 (.ofNat 0))] [(0, 3, (.t p11)), (3, 4, (.t p12)), (7, 1, (.t p14)), (8, 4, (.t p15))])), none⟩
(sA 11 p17 (.box 338 (.t p16))
(sN p18 ⟨(some p18), (.v (.build [.nilp] [(0, 1, (.t p17))])), none⟩
(sE [11] [] ⟨none, (.v (.st 1 (.t p2) (.t p18))), none⟩
sEnd)))))))))))))))
dRet))), [(.cN p2 1)]⟩
def af255 : AF := ⟨(dSeq (dOps (dV p2 (oNew [.nilp] 153)
dE))
(dSeq (dSeq (dOps (dV p3 (oMv (.t p0))
(dV p4 (oNchk (.t p3))
(dV p5 (oFa 1 (.t p4))
(dV p6 (oLd1 (.t p5))
(dV p7 (oUn .not (.t p6))
dE))))))
(dCond (.t p7) (dOps (dV p8 (oMv (.t p0))
(dV p9 (oMv (.t p0))
(dV p10 (oMv (.t p0))
(dV p11 (oNchk (.t p10))
(dV p12 (oFa 0 (.t p11))
(dV p13 (oLd1 (.t p12))
(dCv (some p14) (.t p13) []
(dV p15 (oNchk (.t p8))
(dV p16 (oFa 2 (.t p15))
(dU (oSt 1 (.t p16) (.t p14))
(dV p17 (oNchk (.t p9))
(dV p18 (oFa 1 (.t p17))
(dU (oSt 1 (.t p18) (.c (.bool true)))
dE)))))))))))))) dSkip))
(dSeq (dOps (dV p19 (oMv (.t p0))
(dV p20 (oNchk (.t p19))
(dV p21 (oFa 2 (.t p20))
(dV p22 (oLdN 1 (.t p21))
(dU (oSt 1 (.t p2) (.t p22))
dE))))))
dRet))), [(.cN p2 1)]⟩
def af256 : AF := ⟨(dSeq (dOps (dV p1 (oNew [.nilp] 153)
dE))
(dSeq (dOps (dV p2 (oLdN 1 (.t p0))
(dU (oSt 1 (.t p1) (.t p2))
dE)))
dRet)), [(.cN p1 1)]⟩
def af258 : AF := ⟨(dSeq (dOps (dV p4 (oBox 222 (.t p0))
(dV p8 (oNew [(.int .i64 (.ofNat 0)), (.int .i64 (.ofNat 0)), (.bool false), (.str []), .nils, .nils] 26)
dE)))
(dSeq (dSeq (dOps (dV p14 (oMv (.t p1))
(dV p15 (oNchk (.t p14))
(dV p16 (oFa 0 (.t p15))
(dV p17 (oFa 0 (.t p16))
(dV p18 (oLd1 (.t p17))
(dV p19 (oAr .eql (.t p18) (.c (.int .i64 (.ofNat 1))))
(dV p20 (oMv (.t p19))
(dG p20 true (some p21) (dV p21 (oMv (.t p1)))
(dG p20 true (some p22) (dV p22 (oNchk (.t p21)))
(dG p20 true (some p23) (dV p23 (oFa 0 (.t p22)))
(dG p20 true (some p24) (dV p24 (oFa 1 (.t p23)))
(dG p20 true (some p25) (dV p25 (oLd1 (.t p24)))
(dG p20 true (some p26) (dV p26 (oMv (.t p2)))
(dG p20 true (some p27) (dV p27 (oAr .geq (.t p25) (.t p26)))
(dG p20 true (some p28) (dV p28 (oMv (.t p27)))
(dG p28 false (some p29) (dV p29 (oMv (.t p1)))
(dG p28 false (some p30) (dV p30 (oNchk (.t p29)))
(dG p28 false (some p31) (dV p31 (oFa 0 (.t p30)))
(dG p28 false (some p32) (dV p32 (oFa 1 (.t p31)))
(dG p28 false (some p33) (dV p33 (oLd1 (.t p32)))
(dG p28 false (some p34) (dV p34 (oAr .lss (.t p33) (.c (.int .i64 (.ofNat 0)))))
(dG p20 true (some p35) (dV p35 (oPick (.t p28) (.c (.bool true)) (.t p34)))
(dV p36 (oPick (.t p20) (.t p35) (.c (.bool false)))
dE))))))))))))))))))))))))
(dCond (.t p36) (dSeq (dSeq (dDraw (sN p37 ⟨(some p37), (.v (.fa 0 (.t p4))), none⟩
(sN p38 ⟨(some p38), (.v (.ldN 2 (.t p37))), none⟩
(sN p39 ⟨(some p39), (.v (.mv (.t p1))), none⟩
(sN p40 ⟨(some p40), (.v (.nchk (.t p39))), none⟩
(sN p41 ⟨(some p41), (.v (.fa 0 (.t p40))), none⟩
(sN p42 ⟨(some p42), (.v (.fa 1 (.t p41))), none⟩
(sN p43 ⟨(some p43), (.v (.ld1 (.t p42))), none⟩
(sN p44 ⟨(some p44), (.v (.mv (.t p2))), none⟩
(sN p45 ⟨(some p45), (.v (.ar .sub (.t p43) (.t p44))), none⟩
(sE [] [] ⟨(some p46), (.call p184 [(.t p38), (.t p45)]), none⟩
(sN p9 ⟨(some p9), (.v (.mv (.t p46))), none⟩
sEnd))))))))))))
(dSeq (dOps (dV p47 (oMv (.t p9))
(dV p48 (oEq .p true (.t p47) (.c .nilp))
dE)))
(dCond (.t p48) (dSeq (dDraw (sN p49 ⟨(some p49), (.v (.mv (.t p9))), none⟩
(sN p50 ⟨(some p50), (.v (.nchk (.t p49))), none⟩
(sN p51 ⟨(some p51), (.v (.fa 0 (.t p50))), none⟩
(sN p52 ⟨(some p52), (.v (.ldN 3 (.t p51))), none⟩
(sN p53 ⟨(some p53), (.v (.mv (.t p9))), none⟩
(sN p54 ⟨(some p54), (.v (.nchk (.t p53))), none⟩
(sN p55 ⟨(some p55), (.v (.fa 0 (.t p54))), none⟩
(sN p56 ⟨(some p56), (.v (.fa 2 (.t p55))), none⟩
(sN p57 ⟨(some p57), (.v (.ld1 (.t p56))), none⟩
(sN p58 ⟨(some p58), (.v (.mv (.t p3))), none⟩
(sE [] [] ⟨(some p59), (.call p258 [(.t p52), (.t p57), (.c (.int .i64 (.ofNat 0))), (.t p58)]), none⟩
(sE [] [] ⟨none, (.v (.st 6 (.t p8) (.t p59))), none⟩
sEnd)))))))))))))
dRet) dSkip)))
(dSeq (dDraw (sN p60 ⟨(some p60), (.v (.mv (.t p1))), none⟩
(sN p61 ⟨(some p61), (.v (.nchk (.t p60))), none⟩
(sN p62 ⟨(some p62), (.v (.fa 0 (.t p61))), none⟩
(sN p63 ⟨(some p63), (.v (.fa 1 (.t p62))), none⟩
(sN p64 ⟨(some p64), (.v (.ld1 (.t p63))), none⟩
(sN p65 ⟨(some p65), (.v (.mv (.t p2))), none⟩
(sN p66 ⟨(some p66), (.v (.ar .sub (.t p64) (.t p65))), none⟩
(sN p67 ⟨(some p67), (.v (.fa 0 (.t p4))), none⟩
(sN p68 ⟨(some p68), (.v (.fa 1 (.t p67))), none⟩
(sN p69 ⟨(some p69), (.v (.ld1 (.t p68))), none⟩
(sN p70 ⟨(some p70), (.v (.ar .sub (.t p66) (.t p69))), none⟩
(sN p71 ⟨(some p71), (.v (.mv (.t p3))), none⟩
(sN p72 ⟨(some p72), (.v (.ar .add (.t p70) (.t p71))), none⟩
(sN p73 ⟨(some p73), (.v (.build [(.int .i64 (.ofNat 0)), (.int .i64 (.ofNat 0)), (.bool false), (.str []), .nils, .nils] [(0, 1, (.c (.int .i64 (.ofNat 1)))), (1, 1, (.t p72))])), none⟩
(sE [] [] ⟨none, (.v (.st 6 (.t p8) (.t p73))), none⟩
sEnd))))))))))))))))
dRet)) dSkip))
(dSeq (dOps (dV p74 (oMv (.t p1))
(dV p75 (oNchk (.t p74))
(dV p76 (oFa 0 (.t p75))
(dV p77 (oLdN 6 (.t p76))
(dC (some p78) p44 [(.t p77)]
(dV p10 (oNew [(.int .i64 (.ofNat 0)), (.int .i64 (.ofNat 0)), (.bool false), (.str []), .nils, .nils] 26)
(dU (oSt 6 (.t p10) (.t p78))
dE))))))))
(dSeq (dSeq (dOps (dV p79 (oMv (.t p1))
(dV p80 (oNchk (.t p79))
(dV p81 (oFa 6 (.t p80))
(dV p82 (oLd1 (.t p81))
(dV p83 (oLen (.t p82))
(dV p84 (oMv (.c (.int .i64 (.ofNat 0))))
dE)))))))
(dBlock 0 (dLoop (dSeq (dOps (dV p85 (oAr .lss (.t p84) (.t p83))
dE))
(dSeq (dCond (.t p85) dSkip (dExit 0))
(dSeq (dBlock 1 (dSeq (dOps (dV p86 (oMv (.t p84))
(dV p87 (oIa 1 (.t p82) (.t p84))
(dV p88 (oLd1 (.t p87))
(dV p11 (oMv (.t p86))
(dV p12 (oMv (.t p88))
dE))))))
(dSeq (dOps (dV p89 (oMv (.t p1))
(dV p90 (oNchk (.t p89))
(dV p91 (oFa 0 (.t p90))
(dV p92 (oFa 0 (.t p91))
(dV p93 (oLd1 (.t p92))
(dV p94 (oMv (.t p11))
(dC (some p95) p183 [(.t p93), (.t p94)]
(dV p13 (oMv (.t p95))
dE)))))))))
(dDraw (sN p96 ⟨(some p96), (.v (.fa 5 (.t p10))), none⟩
(sN p97 ⟨(some p97), (.v (.ld1 (.t p96))), none⟩
(sN p98 ⟨(some p98), (.v (.ldN 3 (.t p4))), none⟩
(sN p99 ⟨(some p99), (.v (.mv (.t p12))), none⟩
(sN p100 ⟨(some p100), (.v (.mv (.t p2))), none⟩
(sN p101 ⟨(some p101), (.v (.mv (.t p13))), none⟩
(sN p102 ⟨(some p102), (.v (.ar .add (.t p100) (.t p101))), none⟩
(sN p103 ⟨(some p103), (.v (.mv (.t p3))), none⟩
(sN p104 ⟨(some p104), (.v (.mv (.t p13))), none⟩
(sN p105 ⟨(some p105), (.v (.ar .add (.t p103) (.t p104))), none⟩
(sE [] [(p97, ⟨(some p97), (.v (.ld1 (.t p96))), none⟩)] ⟨(some p106), (.call p258 [(.t p98), (.t p99), (.t p102), (.t p105)]), none⟩
(sA 11 p107 (.buildS 26 1 [(.int .i64 (.ofNat 0)), (.int .i64 (.ofNat 0)), (.bool false), (.str []), .nils, .nils] [(0, 6, (.t p106))])
(sE [11] [] ⟨(some p108), (.v (.app 26 6 (.t p97) (.t p107))), none⟩
(sN p109 ⟨(some p109), (.v (.fa 5 (.t p10))), none⟩
(sE [11] [] ⟨none, (.v (.st 1 (.t p109) (.t p108))), none⟩
sEnd)))))))))))))))))))
(dOps (dV p110 (oAr .add (.t p84) (.c (.int .i64 (.ofNat 1))))
(dV p84 (oMv (.t p110))
dE)))))))))
(dSeq (dOps (dV p111 (oLdN 6 (.t p10))
(dU (oSt 6 (.t p8) (.t p111))
dE)))
dRet))))), [(.cN p8 6)]⟩
def af259 : AF := ⟨(dSeq (dOps (dV p2 (oMv (.c .nils))
dE))
(dSeq (dSeq (dOps (dV p3 (oMv (.t p0))
(dV p4 (oNchk (.t p3))
(dV p5 (oFa 10 (.t p4))
(dV p6 (oLd1 (.t p5))
(dV p7 (oEq .s false (.t p6) (.c .nils))
(dV p8 (oMv (.t p7))
(dG p8 true (some p9) (dV p9 (oMv (.t p0)))
(dG p8 true (some p10) (dV p10 (oNchk (.t p9)))
(dG p8 true (some p11) (dV p11 (oFa 9 (.t p10)))
(dG p8 true (some p12) (dV p12 (oLd1 (.t p11)))
(dG p8 true (some p13) (dV p13 (oAr .gtr (.t p12) (.c (.int .i64 (.ofNat 0)))))
(dV p14 (oPick (.t p8) (.t p13) (.c (.bool false)))
dE)))))))))))))
(dCond (.t p14) (dOps (dV p15 (oMv (.t p0))
(dV p16 (oMv (.t p0))
(dC (some p17) p291 [(.t p16)]
(dV p18 (oNchk (.t p15))
(dV p19 (oFa 10 (.t p18))
(dU (oSt 1 (.t p19) (.t p17))
dE))))))) dSkip))
(dSeq (dOps (dV p20 (oMv (.t p0))
(dV p21 (oNchk (.t p20))
(dV p22 (oFa 10 (.t p21))
(dV p23 (oLd1 (.t p22))
(dV p2 (oMv (.t p23))
dE))))))
dRet))), [(.t p2)]⟩
def af260 : AF := ⟨(dSeq (dOps (dV p4 (oNew [(.int .i64 (.ofNat 0)), (.str []), (.int .i64 (.ofNat 0)), (.int .i64 (.ofNat 0)), (.int .i64 (.ofNat 0)), (.bool false), (.str []), .nils, .nils, (.int .i64 (.ofNat 0)), (.int .i64 (.ofNat 0)), (.bool false), (.str []), .nils, .nils, (.int .i64 (.ofNat 0)), .nils] 36)
(dV p5 (oMv (.c (.int .i64 (.ofNat 0))))
dE)))
(dSeq (dOps (dV p8 (oMv (.t p0))
(dC (some p9) p17 [(.t p8)]
(dV p0 (oMv (.t p9))
dE))))
(dSeq (dOps (dV p11 (oMv (.t p0))
(dV p12 (oNchk (.t p11))
(dV p13 (oFa 1 (.t p12))
(dV p14 (oMv (.t p1))
(dC (some p15) p292 [(.t p13), (.t p14)]
(dV p10 (oMv (.t p15))
(dV p16 (oExt (.t p10) 0)
(dV p17 (oExt (.t p10) 1)
(dV p6 (oNew [(.int .i64 (.ofNat 0)), (.int .i64 (.ofNat 0))] 60)
(dU (oSt 2 (.t p6) (.t p16))
(dV p7 (oMv (.t p17))
dE))))))))))))
(dSeq (dSeq (dOps (dV p18 (oMv (.t p7))
(dV p19 (oUn .not (.t p18))
dE)))
(dCond (.t p19) (dSeq (dOps (dV p20 (oBuild [(.int .i64 (.ofNat 0)), (.str []), (.int .i64 (.ofNat 0)), (.int .i64 (.ofNat 0)), (.int .i64 (.ofNat 0)), (.bool false), (.str []), .nils, .nils, (.int .i64 (.ofNat 0)), (.int .i64 (.ofNat 0)), (.bool false), (.str []), .nils, .nils, (.int .i64 (.ofNat 0)), .nils] [])
(dU (oSt 17 (.t p4) (.t p20))
(dV p5 (oMv (.c (.int .i64 (.ofNat 0))))
dE))))
dRet) dSkip))
(dSeq (dDraw (sN p21 ⟨(some p21), (.v (.mv (.t p0))), none⟩
(sN p22 ⟨(some p22), (.v (.fa 0 (.t p6))), none⟩
(sN p23 ⟨(some p23), (.v (.ld1 (.t p22))), none⟩
(sN p25 ⟨(some p25), (.v (.fa 1 (.t p6))), none⟩
(sN p26 ⟨(some p26), (.v (.ld1 (.t p25))), none⟩
(sE [] [(p26, ⟨(some p26), (.v (.ld1 (.t p25))), none⟩)] ⟨(some p24), (.call p293 [(.t p21), (.t p23)]), none⟩
(sE [] [(p26, ⟨(some p26), (.v (.ld1 (.t p25))), none⟩)] ⟨none, (.v (.st 17 (.t p4) (.t p24))), none⟩
(sN p5 ⟨(some p5), (.v (.mv (.t p26))), none⟩
sEnd)))))))))
dRet))))), [(.cN p4 17), (.t p5)]⟩
def af261 : AF := ⟨(dSeq (dOps (dV p0 (oMv (.c (.int .i64 (.ofNat 0))))
(dV p1 (oMv (.c (.int .i64 (.ofNat 0))))
(dV p2 (oMv (.c (.int .i64 (.ofNat 0))))
(dV p3 (oMv (.c (.int .i64 (.ofNat 0))))
(dV p4 (oMv (.c (.int .i64 (.ofNat 0))))
(dV p5 (oMv (.c (.int .i64 (.ofNat 0))))
dE)))))))
(dSeq (dOps (dV p0 (oMv (.c (.int .i64 (.ofNat 0))))
(dV p1 (oMv (.c (.int .i64 (.ofNat 1))))
(dV p2 (oMv (.c (.int .i64 (.ofNat 2))))
(dV p3 (oMv (.c (.int .i64 (.ofNat 3))))
(dV p4 (oMv (.c (.int .i64 (.ofNat 4))))
(dV p5 (oMv (.c (.int .i64 (.ofNat 5))))
dE)))))))
dRet)), [(.t p0), (.t p1), (.t p2), (.t p3), (.t p4), (.t p5)]⟩
def af262 : AF := ⟨(dSeq (dOps (dV p4 (oMv (.c (.bool false)))
dE))
(dSeq (dSeq (dOps (dV p9 (oMv (.t p0))
(dV p10 (oLen (.t p9))
(dV p11 (oMv (.c (.int .i64 (.ofNat 0))))
dE))))
(dBlock 0 (dLoop (dSeq (dOps (dV p12 (oAr .lss (.t p11) (.t p10))
dE))
(dSeq (dCond (.t p12) dSkip (dExit 0))
(dSeq (dBlock 1 (dSeq (dOps (dV p13 (oIa 2 (.t p9) (.t p11))
(dV p14 (oLdN 2 (.t p13))
(dV p6 (oNew [(.int .i64 (.ofNat 0)), .nils] 49)
(dU (oSt 2 (.t p6) (.t p14))
dE)))))
(dSeq (dOps (dV p16 (oLdN 2 (.t p6))
(dC (some p17) p78 [(.t p16)]
(dV p15 (oMv (.t p17))
(dV p18 (oExt (.t p15) 0)
(dV p19 (oExt (.t p15) 1)
(dV p7 (oNew [(.int .i64 (.ofNat 0)), .nils] 49)
(dU (oSt 2 (.t p7) (.t p18))
(dV p8 (oMv (.t p19))
dE)))))))))
(dSeq (dOps (dV p20 (oMv (.t p8))
(dV p21 (oAr .neq (.t p20) (.c (.int .i64 (.ofNat 0))))
dE)))
(dCond (.t p21) (dSeq (dOps (dV p4 (oMv (.c (.bool false)))
dE))
dRet) dSkip)))))
(dOps (dV p22 (oAr .add (.t p11) (.c (.int .i64 (.ofNat 1))))
(dV p11 (oMv (.t p22))
dE)))))))))
(dSeq (dOps (dV p23 (oMv (.t p0))
(dV p24 (oLen (.t p23))
(dV p25 (oMv (.t p1))
(dV p26 (oAr .eql (.t p24) (.t p25))
(dV p4 (oMv (.t p26))
dE))))))
dRet))), [(.t p4)]⟩
def af263 : AF := ⟨(dSeq (dOps (dV p1 (oBox 36 (.t p0))
(dV p2 (oNew [(.int .i64 (.ofNat 0)), (.int .i64 (.ofNat 0)), (.bool false), (.str []), .nils, .nils] 26)
(dV p3 (oNew [(.int .i64 (.ofNat 0))] 32)
dE))))
(dSeq (dOps (dV p10 (oLdN 17 (.t p1))
(dC (some p11) p81 [(.t p10)]
(dV p9 (oMv (.t p11))
(dV p12 (oExt (.t p9) 0)
(dV p13 (oExt (.t p9) 1)
(dV p4 (oNew [(.int .i64 (.ofNat 0)), (.str []), (.int .i64 (.ofNat 0)), (.int .i64 (.ofNat 0)), (.int .i64 (.ofNat 0)), (.bool false), (.str []), .nils, .nils, (.int .i64 (.ofNat 0)), (.int .i64 (.ofNat 0)), (.bool false), (.str []), .nils, .nils, (.int .i64 (.ofNat 0)), .nils, .nils, .nils, (.int .i64 (.ofNat 0)), .nils] 163)
(dU (oSt 21 (.t p4) (.t p12))
(dV p5 (oMv (.t p13))
dE)))))))))
(dSeq (dSeq (dOps (dV p14 (oMv (.t p5))
(dV p15 (oAr .neq (.t p14) (.c (.int .i64 (.ofNat 0))))
dE)))
(dCond (.t p15) (dSeq (dOps (dV p16 (oBuild [(.int .i64 (.ofNat 0)), (.int .i64 (.ofNat 0)), (.bool false), (.str []), .nils, .nils] [])
(dV p17 (oMv (.t p5))
(dU (oSt 6 (.t p2) (.t p16))
(dU (oSt 1 (.t p3) (.t p17))
dE)))))
dRet) dSkip))
(dSeq (dOps (dV p6 (oNew [.nils] 434)
dE))
(dSeq (dSeq (dOps (dV p18 (oLdN 21 (.t p4))
(dC (some p19) p294 [(.t p18)]
dE)))
(dBlock 0 (dRange (.t p19) [p20, p21] (dSeq (dOps (dV p7 (oNew [(.str []), .nils, .nils, .nils] 170)
(dU (oSt 4 (.t p7) (.t p20))
dE)))
(dOps (dV p8 (oMv (.t p21))
dE))) (dBlock 1 (dSeq (dSeq (dOps (dV p22 (oMv (.t p8))
(dV p23 (oAr .neq (.t p22) (.c (.int .i64 (.ofNat 0))))
dE)))
(dCond (.t p23) (dSeq (dOps (dV p24 (oBuild [(.int .i64 (.ofNat 0)), (.int .i64 (.ofNat 0)), (.bool false), (.str []), .nils, .nils] [])
(dV p25 (oMv (.t p8))
(dU (oSt 6 (.t p2) (.t p24))
(dU (oSt 1 (.t p3) (.t p25))
dE)))))
dRet) dSkip))
(dOps (dV p26 (oLd1 (.t p6))
(dV p27 (oLdN 4 (.t p7))
(dV p28 (oBuildS 170 1 [(.str []), .nils, .nils, .nils] [(0, 4, (.t p27))])
(dV p29 (oApp 170 4 (.t p26) (.t p28))
(dU (oSt 1 (.t p6) (.t p29))
dE)))))))))))
(dSeq (dOps (dV p30 (oLdN 21 (.t p4))
(dV p31 (oLd1 (.t p6))
(dC (some p32) p296 [(.t p30), (.t p31)]
(dC (some p33) p295 [(.t p32)]
(dV p34 (oExt (.t p33) 0)
(dV p35 (oExt (.t p33) 1)
(dU (oSt 6 (.t p2) (.t p34))
(dU (oSt 1 (.t p3) (.t p35))
dE)))))))))
dRet)))))), [(.cN p2 6), (.c1 p3)]⟩
def af264 : AF := ⟨(dSeq (dOps (dV p2 (oBox 26 (.t p0))
(dV p4 (oNew [(.int .i64 (.ofNat 0)), (.int .i64 (.ofNat 0)), (.bool false), (.str []), .nils, .nils] 26)
(dV p5 (oMv (.c (.int .i64 (.ofNat 0))))
dE))))
(dSeq (dSeq (dOps (dV p8 (oLdN 6 (.t p2))
(dC (some p9) p60 [(.t p8)]
(dV p6 (oMv (.t p9))
dE))))
(dSeq (dOps (dV p10 (oMv (.t p6))
(dV p11 (oAr .neq (.t p10) (.c (.int .i64 (.ofNat 0))))
dE)))
(dCond (.t p11) (dSeq (dOps (dV p12 (oBuild [(.int .i64 (.ofNat 0)), (.int .i64 (.ofNat 0)), (.bool false), (.str []), .nils, .nils] [])
(dV p13 (oMv (.t p6))
(dU (oSt 6 (.t p4) (.t p12))
(dV p5 (oMv (.t p13))
dE)))))
dRet) dSkip)))
(dSeq (dOps (dV p14 (oMv (.t p1))
(dV p15 (oBuild [.nils, (.bool false)] [(0, 1, (.t p14))])
(dV p7 (oNew [.nils, (.bool false)] 441)
(dU (oSt 2 (.t p7) (.t p15))
dE)))))
(dSeq (dOps (dV p16 (oLdN 6 (.t p2))
(dV p17 (oBuild [(.int .i64 (.ofNat 0)), (.int .i64 (.ofNat 0))] [])
(dV p18 (oMkf 298 [(.t p7)] [])
(dC (some p19) p66 [(.t p16), (.t p17), (.t p18), (.c (.fn (.func 68) [] []))]
(dV p20 (oExt (.t p19) 0)
(dV p21 (oExt (.t p19) 1)
(dC (some p22) p297 [(.t p20), (.t p21)]
(dV p23 (oExt (.t p22) 0)
(dV p24 (oExt (.t p22) 1)
(dU (oSt 6 (.t p4) (.t p23))
(dV p5 (oMv (.t p24))
dE))))))))))))
dRet)))), [(.cN p4 6), (.t p5)]⟩
def af265 : AF := ⟨(dSeq (dOps (dV p2 (oBox 36 (.t p0))
(dV p4 (oNew [(.int .i64 (.ofNat 0)), (.int .i64 (.ofNat 0)), (.bool false), (.str []), .nils, .nils] 26)
dE)))
(dSeq (dOps (dC (some p12) p261 []
(dV p11 (oMv (.t p12))
(dV p13 (oExt (.t p11) 0)
(dV p14 (oExt (.t p11) 1)
(dV p15 (oExt (.t p11) 2)
(dV p16 (oExt (.t p11) 3)
(dV p17 (oExt (.t p11) 4)
(dV p18 (oExt (.t p11) 5)
(dV p5 (oMv (.t p13))
(dV p6 (oMv (.t p14))
(dV p7 (oMv (.t p15))
(dV p8 (oMv (.t p16))
(dV p9 (oMv (.t p17))
(dV p10 (oMv (.t p18))
dE)))))))))))))))
(dSeq (dSeq (dOps (dV p19 (oMv (.t p1))
(dV p20 (oMv (.t p9))
(dV p21 (oAr .lss (.t p19) (.t p20))
dE))))
(dCond (.t p21) (dSeq (dOps (dV p22 (oFa 3 (.t p2))
(dV p23 (oLdN 6 (.t p22))
(dU (oSt 6 (.t p4) (.t p23))
dE))))
dRet) dSkip))
(dSeq (dOps (dV p24 (oFa 16 (.t p2))
(dV p25 (oLd1 (.t p24))
(dV p26 (oMv (.t p1))
(dV p27 (oMv (.t p9))
(dV p28 (oAr .sub (.t p26) (.t p27))
(dV p29 (oAr .quo (.t p28) (.c (.int .i64 (.ofNat 2))))
(dV p30 (oIa 7 (.t p25) (.t p29))
(dV p31 (oFa 1 (.t p30))
(dV p32 (oLdN 6 (.t p31))
(dU (oSt 6 (.t p4) (.t p32))
dE)))))))))))
dRet)))), [(.cN p4 6)]⟩
def af266 : AF := ⟨(dSeq (dOps (dV p5 (oBox 235 (.t p2))
dE))
(dSeq (dOps (dV p7 (oMv (.t p0))
(dV p8 (oMv (.t p1))
(dV p9 (oMv (.t p0))
(dV p10 (oNchk (.t p9))
(dV p11 (oFa 8 (.t p10))
(dV p12 (oLdN 11 (.t p11))
(dV p13 (oBuild [.nilp, .nilp, .nilp, (.int .i64 (.ofNat 0)), .nilp, .nilp, .nilp, (.int .i64 (.ofNat 0)), (.int .i64 (.ofNat 0)), (.int .i64 (.ofNat 0)), (.int .i64 (.ofNat 0)), (.int .i64 (.ofNat 0)), (.int .i64 (.ofNat 0))] [(0, 1, (.t p7)), (1, 1, (.t p8)), (2, 11, (.t p12))])
(dV p6 (oNew [.nilp, .nilp, .nilp, (.int .i64 (.ofNat 0)), .nilp, .nilp, .nilp, (.int .i64 (.ofNat 0)), (.int .i64 (.ofNat 0)), (.int .i64 (.ofNat 0)), (.int .i64 (.ofNat 0)), (.int .i64 (.ofNat 0)), (.int .i64 (.ofNat 0))] 444)
(dU (oSt 13 (.t p6) (.t p13))
dE))))))))))
(dSeq (dDraw (sN p14 ⟨(some p14), (.v (.mv (.t p0))), none⟩
(sN p15 ⟨(some p15), (.v (.mv (.t p0))), none⟩
(sN p16 ⟨(some p16), (.v (.nchk (.t p15))), none⟩
(sN p17 ⟨(some p17), (.v (.fa 7 (.t p16))), none⟩
(sN p18 ⟨(some p18), (.v (.ld1 (.t p17))), none⟩
(sN p19 ⟨(some p19), (.v (.ldN 13 (.t p6))), none⟩
(sN p20 ⟨(some p20), (.v (.mkf 299 [(.t p19)] [])), none⟩
(sA 7 p21 (.buildS 418 1 [.nilf] [(0, 1, (.t p20))])
(sE [7] [] ⟨(some p22), (.v (.app 418 1 (.t p18) (.t p21))), none⟩
(sN p23 ⟨(some p23), (.v (.nchk (.t p14))), none⟩
(sN p24 ⟨(some p24), (.v (.fa 7 (.t p23))), none⟩
(sE [7] [] ⟨none, (.v (.st 1 (.t p24) (.t p22))), none⟩
sEnd)))))))))))))
(dDraw (sN p25 ⟨(some p25), (.v (.mv (.t p0))), none⟩
(sN p26 ⟨(some p26), (.v (.mv (.t p1))), none⟩
(sN p27 ⟨(some p27), (.v (.nchk (.t p26))), none⟩
(sN p28 ⟨(some p28), (.v (.fa 0 (.t p27))), none⟩
(sN p29 ⟨(some p29), (.v (.ldN 3 (.t p28))), none⟩
(sN p30 ⟨(some p30), (.v (.build [.nilp, (.int .i64 (.ofNat 0)), .nilp, .nilp] [(0, 3, (.t p29))])), none⟩
(sN p31 ⟨(some p31), (.v (.ldN 2 (.t p5))), none⟩
(sN p32 ⟨(some p32), (.v (.mv (.t p1))), none⟩
(sN p33 ⟨(some p33), (.v (.nchk (.t p32))), none⟩
(sN p34 ⟨(some p34), (.v (.fa 3 (.t p33))), none⟩
(sN p35 ⟨(some p35), (.v (.ldN 4 (.t p34))), none⟩
(sN p36 ⟨(some p36), (.v (.build [.nilp, (.int .i64 (.ofNat 0)), .nilp, .nilp, .nilp, (.int .i64 (.ofNat 0)), (.int .i64 (.ofNat 0)), (.int .i64 (.ofNat 0)), (.int .i64 (.ofNat 0)), (.int .i64 (.ofNat 0)), (.int .i64 (.ofNat 0))] [(0, 4, (.t p30)), (5, 2, (.t p31)), (7, 4, (.t p35))])), none⟩
(sN p37 ⟨(some p37), (.v (.nchk (.t p25))), none⟩
(sN p38 ⟨(some p38), (.v (.fa 8 (.t p37))), none⟩
(sE [] [] ⟨none, (.v (.st 11 (.t p38) (.t p36))), none⟩
sEnd))))))))))))))))))), []⟩
def af267 : AF := ⟨(dSeq (dOps (dV p2 (oMv (.c (.bool false)))
dE))
(dSeq (dOps (dV p3 (oMv (.c (.int .i64 (.ofNat 1))))
dE))
(dSeq (dSeq (dOps (dV p4 (oMv (.t p0))
(dV p5 (oNchk (.t p4))
(dV p6 (oFa 8 (.t p5))
(dV p7 (oFa 0 (.t p6))
(dV p8 (oFa 0 (.t p7))
(dV p9 (oFa 2 (.t p8))
(dV p10 (oLd1 (.t p9))
(dV p11 (oNchk (.t p10))
(dV p12 (oFa 0 (.t p11))
(dV p13 (oFa 0 (.t p12))
(dV p14 (oLd1 (.t p13))
dE))))))))))))
(dBlock 0 (dSeq (dBlock 6 (dSeq (dBlock 5 (dSeq (dBlock 4 (dSeq (dBlock 3 (dSeq (dBlock 2 (dSeq (dBlock 1 (dSeq (dSeq (dSeq (dOps (dV p16 (oAr .eql (.t p14) (.c (.int .i64 (.ofNat 5))))
(dV p15 (oMv (.t p16))
dE)))
(dCond (.t p15) (dExit 1) dSkip))
(dSeq (dSeq (dOps (dV p18 (oAr .eql (.t p14) (.c (.int .i64 (.ofNat 1))))
(dV p17 (oMv (.t p18))
dE)))
(dCond (.t p17) (dExit 2) dSkip))
(dSeq (dSeq (dOps (dV p20 (oAr .eql (.t p14) (.c (.int .i64 (.ofNat 4))))
(dV p19 (oMv (.t p20))
dE)))
(dCond (.t p19) (dExit 3) dSkip))
(dSeq (dSeq (dOps (dV p22 (oAr .eql (.t p14) (.c (.int .i64 (.ofNat 10))))
(dV p21 (oMv (.t p22))
dE)))
(dCond (.t p21) (dExit 4) dSkip))
(dSeq (dSeq (dOps (dV p24 (oAr .eql (.t p14) (.c (.int .i64 (.ofNat 9))))
(dV p23 (oMv (.t p24))
dE)))
(dCond (.t p23) (dExit 5) dSkip))
(dSeq (dOps (dV p26 (oAr .eql (.t p14) (.c (.int .i64 (.ofNat 8))))
(dV p25 (oMv (.t p26))
dE)))
(dCond (.t p25) (dExit 6) dSkip)))))))
(dExit 0)))
(dSeq (dSeq (dDraw (sN p27 ⟨(some p27), (.v (.mv (.t p0))), none⟩
(sN p28 ⟨(some p28), (.v (.mv (.t p0))), none⟩
(sN p29 ⟨(some p29), (.v (.nchk (.t p28))), none⟩
(sN p30 ⟨(some p30), (.v (.fa 8 (.t p29))), none⟩
(sN p31 ⟨(some p31), (.v (.fa 4 (.t p30))), none⟩
(sN p32 ⟨(some p32), (.v (.ld1 (.t p31))), none⟩
(sN p33 ⟨(some p33), (.v (.mv (.t p0))), none⟩
(sN p34 ⟨(some p34), (.v (.nchk (.t p33))), none⟩
(sN p35 ⟨(some p35), (.v (.fa 8 (.t p34))), none⟩
(sN p36 ⟨(some p36), (.v (.fa 0 (.t p35))), none⟩
(sN p37 ⟨(some p37), (.v (.fa 0 (.t p36))), none⟩
(sN p38 ⟨(some p38), (.v (.ldN 3 (.t p37))), none⟩
(sN p40 ⟨(some p40), (.v (.mv (.t p0))), none⟩
(sN p41 ⟨(some p41), (.v (.nchk (.t p40))), none⟩
(sN p42 ⟨(some p42), (.v (.fa 8 (.t p41))), none⟩
(sN p43 ⟨(some p43), (.v (.fa 0 (.t p42))), none⟩
(sN p44 ⟨(some p44), (.v (.fa 0 (.t p43))), none⟩
(sN p45 ⟨(some p45), (.v (.fa 2 (.t p44))), none⟩
(sN p46 ⟨(some p46), (.v (.ld1 (.t p45))), none⟩
(sN p47 ⟨(some p47), (.v (.nchk (.t p46))), none⟩
(sN p48 ⟨(some p48), (.v (.fa 0 (.t p47))), none⟩
(sN p49 ⟨(some p49), (.v (.fa 2 (.t p48))), none⟩
(sN p50 ⟨(some p50), (.v (.ld1 (.t p49))), none⟩
(sE [] [(p32, ⟨(some p32), (.v (.ld1 (.t p31))), none⟩), (p46, ⟨(some p46), (.v (.ld1 (.t p45))), none⟩), (p50, ⟨(some p50), (.v (.ld1 (.t p49))), none⟩)] ⟨(some p39), (.call p218 [(.t p38), (.c (.int .i64 (.ofNat 1)))]), none⟩
(sE [] [] ⟨(some p51), (.call p253 [(.t p32), (.t p39), (.t p50)]), none⟩
(sN p52 ⟨(some p52), (.v (.nchk (.t p27))), none⟩
(sN p53 ⟨(some p53), (.v (.fa 8 (.t p52))), none⟩
(sN p54 ⟨(some p54), (.v (.fa 4 (.t p53))), none⟩
(sE [] [] ⟨none, (.v (.st 1 (.t p54) (.t p51))), none⟩
sEnd))))))))))))))))))))))))))))))
(dSeq (dOps (dV p55 (oMv (.t p0))
(dV p56 (oMv (.t p0))
(dV p57 (oNchk (.t p56))
(dV p58 (oFa 8 (.t p57))
(dV p59 (oFa 0 (.t p58))
(dV p60 (oFa 0 (.t p59))
(dV p61 (oFa 2 (.t p60))
(dV p62 (oLd1 (.t p61))
(dV p63 (oNchk (.t p62))
(dV p64 (oFa 6 (.t p63))
(dV p65 (oLd1 (.t p64))
(dV p66 (oIa 1 (.t p65) (.c (.int .i64 (.ofNat 0))))
(dV p67 (oLd1 (.t p66))
(dV p68 (oNchk (.t p55))
(dV p69 (oFa 8 (.t p68))
(dV p70 (oFa 0 (.t p69))
(dV p71 (oFa 0 (.t p70))
(dV p72 (oFa 2 (.t p71))
(dU (oSt 1 (.t p72) (.t p67))
dE))))))))))))))))))))
(dSeq (dOps (dV p2 (oMv (.c (.bool true)))
dE))
dRet)))
(dExit 0))))
(dSeq (dSeq (dOps (dV p73 (oMv (.t p0))
(dC (some p74) p300 [(.t p73)]
(dV p2 (oMv (.t p74))
dE))))
dRet)
(dExit 0))))
(dSeq (dSeq (dOps (dV p75 (oMv (.t p0))
(dC (some p76) p301 [(.t p75)]
(dV p2 (oMv (.t p76))
dE))))
dRet)
(dExit 0))))
(dSeq (dSeq (dOps (dV p77 (oMv (.t p0))
(dC (some p78) p302 [(.t p77)]
(dV p79 (oMv (.t p78))
(dG p79 false (some p80) (dV p80 (oMv (.t p0)))
(dG p79 false (some p81) (dC (some p81) p303 [(.t p80)])
(dV p82 (oPick (.t p79) (.c (.bool true)) (.t p81))
(dV p2 (oMv (.t p82))
dE))))))))
dRet)
(dExit 0))))
(dOps (dV p83 (oMv (.t p3))
(dV p84 (oAr .add (.t p83) (.c (.int .i64 (.ofNat 1))))
(dV p3 (oMv (.t p84))
dE))))))
(dSeq (dSeq (dOps (dV p85 (oMv (.t p0))
(dV p86 (oMv (.t p3))
(dC (some p87) p304 [(.t p85), (.t p86)]
(dV p2 (oMv (.t p87))
dE)))))
dRet)
(dExit 0)))))
(dSeq (dOps (dV p2 (oMv (.c (.bool false)))
dE))
dRet)))), [(.t p2)]⟩
def af268 : AF := ⟨(dSeq (dOps (dV p3 (oBox 286 (.t p1))
dE))
(dSeq (dOps (dV p6 (oMv (.t p0))
(dV p7 (oNchk (.t p6))
(dV p8 (oFa 7 (.t p7))
(dV p9 (oLd1 (.t p8))
(dV p10 (oLen (.t p9))
(dV p11 (oAr .sub (.t p10) (.c (.int .i64 (.ofNat 1))))
(dV p4 (oMv (.t p11))
dE))))))))
(dSeq (dOps (dV p12 (oMv (.t p0))
(dV p13 (oNchk (.t p12))
(dV p14 (oFa 7 (.t p13))
(dV p15 (oLd1 (.t p14))
(dV p16 (oMv (.t p4))
(dV p17 (oIa 1 (.t p15) (.t p16))
(dV p18 (oLd1 (.t p17))
(dV p5 (oMv (.t p18))
dE)))))))))
(dSeq (dOps (dV p19 (oMv (.t p0))
(dV p20 (oNchk (.t p19))
(dV p21 (oFa 7 (.t p20))
(dV p22 (oLd1 (.t p21))
(dV p23 (oMv (.t p4))
(dV p24 (oIa 1 (.t p22) (.t p23))
(dU (oSt 1 (.t p24) (.c .nilf))
dE))))))))
(dSeq (dOps (dV p25 (oMv (.t p0))
(dV p26 (oMv (.t p0))
(dV p27 (oNchk (.t p26))
(dV p28 (oFa 7 (.t p27))
(dV p29 (oLd1 (.t p28))
(dV p30 (oMv (.t p4))
(dV p31 (oSl 1 (.t p29) none (some (.t p30)) none)
(dV p32 (oNchk (.t p25))
(dV p33 (oFa 7 (.t p32))
(dU (oSt 1 (.t p33) (.t p31))
dE)))))))))))
(dOps (dV p34 (oMv (.t p5))
(dV p35 (oLdN 9 (.t p3))
(dCv (some p36) (.t p34) [(.t p35)]
dE))))))))), []⟩
def af269 : AF := ⟨(dSeq (dOps (dV p10 (oMv (.c (.bool true)))
dE))
(dSeq (dOps (dV p11 (oMv (.c (.bool true)))
dE))
(dBlock 0 (dLoop (dBlock 1 (dSeq (dOps (dV p21 (oMv (.t p2))
(dV p22 (oMv (.t p1))
(dV p23 (oAr .sub (.t p21) (.t p22))
(dV p12 (oMv (.t p23))
dE)))))
(dSeq (dSeq (dOps (dV p24 (oMv (.t p12))
(dV p25 (oAr .leq (.t p24) (.c (.int .i64 (.ofNat 12))))
dE)))
(dCond (.t p25) (dSeq (dOps (dV p26 (oMv (.t p0))
(dV p27 (oMv (.t p1))
(dV p28 (oMv (.t p2))
(dV p29 (oMv (.t p4))
(dC (some p30) p305 [(.t p26), (.t p27), (.t p28), (.t p29)]
dE))))))
dRet) dSkip))
(dSeq (dSeq (dOps (dV p31 (oMv (.t p3))
(dV p32 (oAr .eql (.t p31) (.c (.int .i64 (.ofNat 0))))
dE)))
(dCond (.t p32) (dSeq (dOps (dV p33 (oMv (.t p0))
(dV p34 (oMv (.t p1))
(dV p35 (oMv (.t p2))
(dV p36 (oMv (.t p4))
(dC (some p37) p306 [(.t p33), (.t p34), (.t p35), (.t p36)]
dE))))))
dRet) dSkip))
(dSeq (dSeq (dOps (dV p38 (oMv (.t p10))
(dV p39 (oUn .not (.t p38))
dE)))
(dCond (.t p39) (dSeq (dOps (dV p40 (oMv (.t p0))
(dV p41 (oMv (.t p1))
(dV p42 (oMv (.t p2))
(dV p43 (oMv (.t p4))
(dC (some p44) p307 [(.t p40), (.t p41), (.t p42), (.t p43)]
dE))))))
(dOps (dV p45 (oMv (.t p3))
(dV p46 (oAr .sub (.t p45) (.c (.int .i64 (.ofNat 1))))
(dV p3 (oMv (.t p46))
dE))))) dSkip))
(dSeq (dOps (dV p48 (oMv (.t p0))
(dV p49 (oMv (.t p1))
(dV p50 (oMv (.t p2))
(dV p51 (oMv (.t p4))
(dC (some p52) p308 [(.t p48), (.t p49), (.t p50), (.t p51)]
(dV p47 (oMv (.t p52))
(dV p53 (oExt (.t p47) 0)
(dV p54 (oExt (.t p47) 1)
(dV p13 (oMv (.t p53))
(dV p14 (oMv (.t p54))
dE)))))))))))
(dSeq (dSeq (dOps (dV p55 (oMv (.t p14))
(dV p56 (oAr .eql (.t p55) (.c (.int .i64 (.ofNat 2))))
dE)))
(dCond (.t p56) (dSeq (dOps (dV p57 (oMv (.t p0))
(dV p58 (oMv (.t p1))
(dV p59 (oMv (.t p2))
(dV p60 (oMv (.t p4))
(dC (some p61) p309 [(.t p57), (.t p58), (.t p59), (.t p60)]
dE))))))
(dSeq (dOps (dV p62 (oMv (.t p2))
(dV p63 (oAr .sub (.t p62) (.c (.int .i64 (.ofNat 1))))
(dV p64 (oMv (.t p13))
(dV p65 (oMv (.t p1))
(dV p66 (oAr .sub (.t p64) (.t p65))
(dV p67 (oAr .sub (.t p63) (.t p66))
(dV p13 (oMv (.t p67))
dE))))))))
(dOps (dV p14 (oMv (.c (.int .i64 (.ofNat 1))))
dE)))) dSkip))
(dSeq (dSeq (dOps (dV p68 (oMv (.t p10))
(dV p69 (oMv (.t p68))
(dG p69 true (some p70) (dV p70 (oMv (.t p11)))
(dV p71 (oPick (.t p69) (.t p70) (.c (.bool false)))
(dV p72 (oMv (.t p71))
(dG p72 true (some p73) (dV p73 (oMv (.t p14)))
(dG p72 true (some p74) (dV p74 (oAr .eql (.t p73) (.c (.int .i64 (.ofNat 1)))))
(dV p75 (oPick (.t p72) (.t p74) (.c (.bool false)))
dE)))))))))
(dCond (.t p75) (dSeq (dOps (dV p76 (oMv (.t p0))
(dV p77 (oMv (.t p1))
(dV p78 (oMv (.t p2))
(dV p79 (oMv (.t p4))
(dC (some p80) p310 [(.t p76), (.t p77), (.t p78), (.t p79)]
dE))))))
(dCond (.t p80) dRet dSkip)) dSkip))
(dSeq (dSeq (dDraw (sN p81 ⟨(some p81), (.v (.mv (.t p1))), none⟩
(sN p82 ⟨(some p82), (.v (.ar .gtr (.t p81) (.c (.int .i64 (.ofNat 0))))), none⟩
(sN p83 ⟨(some p83), (.v (.mv (.t p82))), none⟩
(sN p84 ⟨(some p84), (.v (.mv (.t p4))), (some (p83, true))⟩
(sN p85 ⟨(some p85), (.v (.mv (.t p0))), (some (p83, true))⟩
(sN p86 ⟨(some p86), (.v (.mv (.t p1))), (some (p83, true))⟩
(sN p87 ⟨(some p87), (.v (.ar .sub (.t p86) (.c (.int .i64 (.ofNat 1))))), (some (p83, true))⟩
(sN p88 ⟨(some p88), (.v (.ia 2 (.t p85) (.t p87))), (some (p83, true))⟩
(sN p89 ⟨(some p89), (.v (.ldN 2 (.t p88))), (some (p83, true))⟩
(sN p90 ⟨(some p90), (.v (.mv (.t p0))), (some (p83, true))⟩
(sN p91 ⟨(some p91), (.v (.mv (.t p13))), (some (p83, true))⟩
(sN p92 ⟨(some p92), (.v (.ia 2 (.t p90) (.t p91))), (some (p83, true))⟩
(sN p93 ⟨(some p93), (.v (.ldN 2 (.t p92))), (some (p83, true))⟩
(sE [] [] ⟨(some p94), (.callv (.t p84) [(.t p89), (.t p93)]), (some (p83, true))⟩
(sN p95 ⟨(some p95), (.v (.ar .lss (.t p94) (.c (.int .i64 (.ofNat 0))))), (some (p83, true))⟩
(sN p96 ⟨(some p96), (.v (.un .not (.t p95))), (some (p83, true))⟩
(sN p97 ⟨(some p97), (.v (.pick (.t p83) (.t p96) (.c (.bool false)))), none⟩
sEnd))))))))))))))))))
(dCond (.t p97) (dSeq (dOps (dV p98 (oMv (.t p0))
(dV p99 (oMv (.t p1))
(dV p100 (oMv (.t p2))
(dV p101 (oMv (.t p13))
(dV p102 (oMv (.t p4))
(dC (some p103) p311 [(.t p98), (.t p99), (.t p100), (.t p101), (.t p102)]
(dV p15 (oMv (.t p103))
dE))))))))
(dSeq (dOps (dV p104 (oMv (.t p15))
(dV p1 (oMv (.t p104))
dE)))
(dExit 1))) dSkip))
(dSeq (dOps (dV p106 (oMv (.t p0))
(dV p107 (oMv (.t p1))
(dV p108 (oMv (.t p2))
(dV p109 (oMv (.t p13))
(dV p110 (oMv (.t p4))
(dC (some p111) p312 [(.t p106), (.t p107), (.t p108), (.t p109), (.t p110)]
(dV p105 (oMv (.t p111))
(dV p112 (oExt (.t p105) 0)
(dV p113 (oExt (.t p105) 1)
(dV p16 (oMv (.t p112))
(dV p17 (oMv (.t p113))
dE))))))))))))
(dSeq (dOps (dV p114 (oMv (.t p17))
(dV p11 (oMv (.t p114))
dE)))
(dSeq (dOps (dV p115 (oMv (.t p16))
(dV p116 (oMv (.t p1))
(dV p117 (oAr .sub (.t p115) (.t p116))
(dV p118 (oMv (.t p2))
(dV p119 (oMv (.t p16))
(dV p120 (oAr .sub (.t p118) (.t p119))
(dV p18 (oMv (.t p117))
(dV p19 (oMv (.t p120))
dE)))))))))
(dSeq (dOps (dV p121 (oMv (.t p12))
(dV p122 (oAr .quo (.t p121) (.c (.int .i64 (.ofNat 8))))
(dV p20 (oMv (.t p122))
dE))))
(dSeq (dOps (dV p123 (oMv (.t p18))
(dV p124 (oMv (.t p19))
(dV p125 (oAr .lss (.t p123) (.t p124))
dE))))
(dCond (.t p125) (dSeq (dOps (dV p126 (oMv (.t p18))
(dV p127 (oMv (.t p20))
(dV p128 (oAr .geq (.t p126) (.t p127))
(dV p10 (oMv (.t p128))
dE)))))
(dSeq (dOps (dV p129 (oMv (.t p0))
(dV p130 (oMv (.t p1))
(dV p131 (oMv (.t p16))
(dV p132 (oMv (.t p3))
(dV p133 (oMv (.t p4))
(dC (some p134) p269 [(.t p129), (.t p130), (.t p131), (.t p132), (.t p133)]
dE)))))))
(dOps (dV p135 (oMv (.t p16))
(dV p136 (oAr .add (.t p135) (.c (.int .i64 (.ofNat 1))))
(dV p1 (oMv (.t p136))
dE)))))) (dSeq (dOps (dV p137 (oMv (.t p19))
(dV p138 (oMv (.t p20))
(dV p139 (oAr .geq (.t p137) (.t p138))
(dV p10 (oMv (.t p139))
dE)))))
(dSeq (dOps (dV p140 (oMv (.t p0))
(dV p141 (oMv (.t p16))
(dV p142 (oAr .add (.t p141) (.c (.int .i64 (.ofNat 1))))
(dV p143 (oMv (.t p2))
(dV p144 (oMv (.t p3))
(dV p145 (oMv (.t p4))
(dC (some p146) p269 [(.t p140), (.t p142), (.t p143), (.t p144), (.t p145)]
dE))))))))
(dOps (dV p147 (oMv (.t p16))
(dV p2 (oMv (.t p147))
dE)))))))))))))))))))))))), []⟩
def af270 : AF := ⟨(dSeq (dOps (dV p2 (oMv (.c (.int .i64 (.ofNat 0))))
dE))
(dSeq (dCond (.c (.bool false)) (dSeq (dOps (dV p3 (oMv (.t p0))
(dV p4 (oCvI .u32 (.t p3))
(dC (some p5) p313 [(.t p4)]
(dV p2 (oMv (.t p5))
dE)))))
dRet) dSkip)
(dSeq (dOps (dV p6 (oMv (.t p0))
(dC (some p7) p314 [(.t p6)]
(dV p2 (oMv (.t p7))
dE))))
dRet))), [(.t p2)]⟩
def af271 : AF := ⟨(dSeq (dOps (dV p2 (oMv (.c (.bool false)))
dE))
(dSeq (dOps (dV p3 (oMv (.t p0))
(dV p4 (oMv (.t p0))
(dV p5 (oAr .neq (.t p3) (.t p4))
(dV p2 (oMv (.t p5))
dE)))))
dRet)), [(.t p2)]⟩
def af272 : AF := ⟨(dOps (dV p2 (oMv (.t p0))
(dV p3 (oMki 32 (.t p2))
(dPan (.t p3)
dE)))), []⟩
def af273 : AF := ⟨(dSeq (dOps (dV p2 (oBox 137 (.t p0))
(dV p3 (oBox 153 (.t p1))
(dV p4 (oMv (.c (.int .i64 (.ofNat 0))))
dE))))
(dSeq (dSeq (dOps (dV p5 (oFa 0 (.t p3))
(dV p6 (oLd1 (.t p5))
(dV p7 (oNchk (.t p6))
(dV p8 (oFa 13 (.t p7))
(dV p9 (oLd1 (.t p8))
(dV p10 (oAr .eql (.t p9) (.c (.int .i64 (.ofNat 0))))
dE)))))))
(dCond (.t p10) (dSeq (dOps (dV p11 (oFa 0 (.t p2))
(dV p12 (oLd1 (.t p11))
(dV p13 (oNchk (.t p12))
(dV p14 (oFa 4 (.t p13))
(dV p15 (oLd1 (.t p14))
(dV p16 (oAr .add (.t p15) (.c (.int .i64 (.ofNat 1))))
(dV p17 (oNchk (.t p12))
(dV p18 (oFa 4 (.t p17))
(dU (oSt 1 (.t p18) (.t p16))
dE))))))))))
(dDraw (sN p19 ⟨(some p19), (.v (.fa 0 (.t p3))), none⟩
(sN p20 ⟨(some p20), (.v (.ld1 (.t p19))), none⟩
(sN p21 ⟨(some p21), (.v (.fa 0 (.t p2))), none⟩
(sN p22 ⟨(some p22), (.v (.ld1 (.t p21))), none⟩
(sN p23 ⟨(some p23), (.v (.nchk (.t p22))), none⟩
(sN p24 ⟨(some p24), (.v (.fa 4 (.t p23))), none⟩
(sN p25 ⟨(some p25), (.v (.ld1 (.t p24))), none⟩
(sN p26 ⟨(some p26), (.v (.nchk (.t p20))), none⟩
(sN p27 ⟨(some p27), (.v (.fa 13 (.t p26))), none⟩
(sE [] [] ⟨none, (.v (.st 1 (.t p27) (.t p25))), none⟩
sEnd)))))))))))) dSkip))
(dSeq (dOps (dV p28 (oFa 0 (.t p3))
(dV p29 (oLd1 (.t p28))
(dV p30 (oNchk (.t p29))
(dV p31 (oFa 13 (.t p30))
(dV p32 (oLd1 (.t p31))
(dV p4 (oMv (.t p32))
dE)))))))
dRet))), [(.t p4)]⟩
def af274 : AF := ⟨(dSeq (dOps (dV p1 (oBox 260 (.t p0))
(dV p2 (oMv (.c .nils))
(dV p3 (oMv (.c (.bool false)))
dE))))
(dSeq (dOps (dV p5 (oMkf 315 [] [(.t p1)])
(dV p4 (oMv (.t p5))
dE)))
(dSeq (dDraw (sN p6 ⟨(some p6), (.v (.mv (.t p4))), none⟩
(sN p7 ⟨(some p7), (.v (.fa 0 (.t p1))), none⟩
(sN p8 ⟨(some p8), (.v (.ldN 1 (.t p7))), none⟩
(sN p10 ⟨(some p10), (.v (.mv (.t p4))), none⟩
(sN p11 ⟨(some p11), (.v (.fa 1 (.t p1))), none⟩
(sN p12 ⟨(some p12), (.v (.ldN 1 (.t p11))), none⟩
(sN p14 ⟨(some p14), (.v (.fa 2 (.t p1))), none⟩
(sN p15 ⟨(some p15), (.v (.ld1 (.t p14))), none⟩
(sN p16 ⟨(some p16), (.v (.ar .add (.t p15) (.c (.int .i64 (.ofNat 1))))), none⟩
(sE [] [(p12, ⟨(some p12), (.v (.ldN 1 (.t p11))), none⟩), (p15, ⟨(some p15), (.v (.ld1 (.t p14))), none⟩)] ⟨(some p9), (.callv (.t p6) [(.t p8)]), none⟩
(sE [] [(p15, ⟨(some p15), (.v (.ld1 (.t p14))), none⟩)] ⟨(some p13), (.callv (.t p10) [(.t p12)]), none⟩
(sN p17 ⟨(some p17), (.v (.build [.nilp, .nilp, (.int .i64 (.ofNat 0))] [(0, 1, (.t p9)), (1, 1, (.t p13)), (2, 1, (.t p16))])), none⟩
(sA 12 p18 (.buildS 308 1 [.nilp, .nilp, (.int .i64 (.ofNat 0))] [(0, 3, (.t p17))])
(sN p2 ⟨(some p2), (.v (.mv (.t p18))), none⟩
(sN p3 ⟨(some p3), (.v (.mv (.c (.bool true)))), none⟩
sEnd))))))))))))))))
dRet))), [(.t p2), (.t p3)]⟩
def af275 : AF := ⟨(dSeq (dOps (dV p1 (oBox 260 (.t p0))
(dV p2 (oMv (.c .nils))
(dV p3 (oMv (.c (.bool false)))
dE))))
(dSeq (dOps (dV p7 (oMkf 317 [] [(.t p1)])
(dV p4 (oMv (.t p7))
dE)))
(dSeq (dDraw (sN p8 ⟨(some p8), (.v (.mv (.t p4))), none⟩
(sN p9 ⟨(some p9), (.v (.fa 0 (.t p1))), none⟩
(sN p10 ⟨(some p10), (.v (.ldN 1 (.t p9))), none⟩
(sN p12 ⟨(some p12), (.v (.mv (.t p4))), none⟩
(sN p13 ⟨(some p13), (.v (.fa 1 (.t p1))), none⟩
(sN p14 ⟨(some p14), (.v (.ldN 1 (.t p13))), none⟩
(sN p16 ⟨(some p16), (.v (.fa 2 (.t p1))), none⟩
(sN p17 ⟨(some p17), (.v (.ld1 (.t p16))), none⟩
(sA 11 p5 (.new [.nilp, .nilp, (.int .i64 (.ofNat 0))] 308)
(sE [] [(p14, ⟨(some p14), (.v (.ldN 1 (.t p13))), none⟩), (p17, ⟨(some p17), (.v (.ld1 (.t p16))), none⟩)] ⟨(some p11), (.callv (.t p8) [(.t p10), (.c (.int .i64 (.ofNat 8)))]), none⟩
(sE [] [(p17, ⟨(some p17), (.v (.ld1 (.t p16))), none⟩)] ⟨(some p15), (.callv (.t p12) [(.t p14), (.c (.int .i64 (.ofNat 8)))]), none⟩
(sN p18 ⟨(some p18), (.v (.build [.nilp, .nilp, (.int .i64 (.ofNat 0))] [(0, 1, (.t p11)), (1, 1, (.t p15)), (2, 1, (.t p17))])), none⟩
(sE [11] [] ⟨none, (.v (.st 3 (.t p5) (.t p18))), none⟩
sEnd))))))))))))))
(dSeq (dDraw (sN p19 ⟨(some p19), (.v (.mv (.t p4))), none⟩
(sN p20 ⟨(some p20), (.v (.fa 0 (.t p1))), none⟩
(sN p21 ⟨(some p21), (.v (.ldN 1 (.t p20))), none⟩
(sN p23 ⟨(some p23), (.v (.mv (.t p4))), none⟩
(sN p24 ⟨(some p24), (.v (.fa 1 (.t p1))), none⟩
(sN p25 ⟨(some p25), (.v (.ldN 1 (.t p24))), none⟩
(sN p27 ⟨(some p27), (.v (.fa 2 (.t p1))), none⟩
(sN p28 ⟨(some p28), (.v (.ld1 (.t p27))), none⟩
(sA 11 p6 (.new [.nilp, .nilp, (.int .i64 (.ofNat 0))] 308)
(sE [] [(p25, ⟨(some p25), (.v (.ldN 1 (.t p24))), none⟩), (p28, ⟨(some p28), (.v (.ld1 (.t p27))), none⟩)] ⟨(some p22), (.callv (.t p19) [(.t p21), (.c (.int .i64 (.ofNat 9)))]), none⟩
(sE [] [(p28, ⟨(some p28), (.v (.ld1 (.t p27))), none⟩)] ⟨(some p26), (.callv (.t p23) [(.t p25), (.c (.int .i64 (.ofNat 9)))]), none⟩
(sN p29 ⟨(some p29), (.v (.build [.nilp, .nilp, (.int .i64 (.ofNat 0))] [(0, 1, (.t p22)), (1, 1, (.t p26)), (2, 1, (.t p28))])), none⟩
(sE [11] [] ⟨none, (.v (.st 3 (.t p6) (.t p29))), none⟩
sEnd))))))))))))))
(dSeq (dOps (dV p30 (oLdN 3 (.t p5))
(dV p31 (oLdN 3 (.t p6))
(dV p32 (oBuildS 308 2 [.nilp, .nilp, (.int .i64 (.ofNat 0)), .nilp, .nilp, (.int .i64 (.ofNat 0))] [(0, 3, (.t p30)), (3, 3, (.t p31))])
(dV p2 (oMv (.t p32))
(dV p3 (oMv (.c (.bool true)))
dE))))))
dRet))))), [(.t p2), (.t p3)]⟩
def af276 : AF := ⟨(dSeq (dOps (dV p1 (oBox 260 (.t p0))
(dV p2 (oMv (.c .nils))
(dV p3 (oMv (.c (.bool false)))
dE))))
(dSeq (dOps (dV p2 (oMv (.c .nils))
(dV p3 (oMv (.c (.bool false)))
dE)))
dRet)), [(.t p2), (.t p3)]⟩
def af277 : AF := ⟨(dSeq (dOps (dV p2 (oBox 26 (.t p0))
dE))
(dDraw (sN p3 ⟨(some p3), (.v (.ld1 (.t p1))), none⟩
(sN p4 ⟨(some p4), (.v (.ld1 (.t p1))), none⟩
(sN p5 ⟨(some p5), (.v (.nchk (.t p4))), none⟩
(sN p6 ⟨(some p6), (.v (.ld1 (.t p5))), none⟩
(sN p7 ⟨(some p7), (.v (.fa 2 (.t p2))), none⟩
(sN p8 ⟨(some p8), (.v (.ld1 (.t p7))), none⟩
(sA 6 p9 (.buildS 4 1 [(.bool false)] [(0, 1, (.t p8))])
(sE [6] [(p3, ⟨(some p3), (.v (.ld1 (.t p1))), none⟩)] ⟨(some p10), (.v (.app 4 1 (.t p6) (.t p9))), none⟩
(sN p11 ⟨(some p11), (.v (.nchk (.t p3))), none⟩
(sE [6] [] ⟨none, (.v (.st 1 (.t p11) (.t p10))), none⟩
sEnd)))))))))))), []⟩
def af278 : AF := ⟨(dSeq (dOps (dV p5 (oLdN 6 (.t p1))
(dV p4 (oNew [(.int .i64 (.ofNat 0)), (.int .i64 (.ofNat 0)), (.bool false), (.str []), .nils, .nils] 26)
(dU (oSt 6 (.t p4) (.t p5))
dE))))
(dSeq (dOps (dV p6 (oLd1 (.t p2))
(dV p7 (oMv (.c (.int .i64 (.ofNat 0))))
dE)))
(dBlock 0 (dLoop (dSeq (dOps (dV p8 (oAr .lss (.t p7) (.t p6))
dE))
(dSeq (dCond (.t p8) dSkip (dExit 0))
(dSeq (dBlock 1 (dSeq (dSeq (dOps (dV p9 (oFa 0 (.t p4))
(dV p10 (oLd1 (.t p9))
(dV p11 (oAr .neq (.t p10) (.c (.int .i64 (.ofNat 3))))
(dV p12 (oMv (.t p11))
(dG p12 false (some p13) (dV p13 (oMv (.t p0)))
(dG p12 false (some p14) (dV p14 (oLdN 6 (.t p4)))
(dG p12 false (some p15) (dCv (some p15) (.t p13) [(.t p14)])
(dG p12 false (some p16) (dV p16 (oUn .not (.t p15)))
(dV p17 (oPick (.t p12) (.c (.bool true)) (.t p16))
dE))))))))))
(dCond (.t p17) dRet dSkip))
(dOps (dV p18 (oFa 5 (.t p4))
(dV p19 (oLd1 (.t p18))
(dV p20 (oIa 6 (.t p19) (.c (.int .i64 (.ofNat 1))))
(dV p21 (oLdN 6 (.t p20))
(dU (oSt 6 (.t p4) (.t p21))
dE))))))))
(dOps (dV p22 (oAr .add (.t p7) (.c (.int .i64 (.ofNat 1))))
(dV p7 (oMv (.t p22))
dE)))))))))), []⟩
def af279 : AF := ⟨(dSeq (dOps (dV p2 (oBox 26 (.t p0))
(dV p3 (oBox 26 (.t p1))
(dV p4 (oMv (.c (.bool false)))
dE))))
(dSeq (dOps (dV p5 (oLdN 6 (.t p2))
(dV p6 (oLdN 6 (.t p3))
(dC (some p7) p319 [(.t p5), (.t p6)]
(dV p8 (oMv (.t p7))
(dG p8 true (some p9) (dV p9 (oFa 5 (.t p2)))
(dG p8 true (some p10) (dV p10 (oLd1 (.t p9)))
(dG p8 true (some p11) (dV p11 (oFa 5 (.t p3)))
(dG p8 true (some p12) (dV p12 (oLd1 (.t p11)))
(dG p8 true (some p13) (dC (some p13) p188 [(.t p10), (.t p12), (.c (.fn (.func 279) [] []))])
(dV p14 (oPick (.t p8) (.t p13) (.c (.bool false)))
(dV p4 (oMv (.t p14))
dE))))))))))))
dRet)), [(.t p4)]⟩
def af280 : AF := ⟨(dSeq (dOps (dV p4 (oMv (.c .nils))
dE))
(dSeq (dOps (dV p5 (oMv (.c .nils))
dE))
(dSeq (dSeq (dOps (dV p8 (oMv (.t p0))
(dV p9 (oLen (.t p8))
(dV p10 (oMv (.c (.int .i64 (.ofNat 0))))
dE))))
(dBlock 0 (dLoop (dSeq (dOps (dV p11 (oAr .lss (.t p10) (.t p9))
dE))
(dSeq (dCond (.t p11) dSkip (dExit 0))
(dSeq (dBlock 1 (dSeq (dOps (dV p12 (oIa 6 (.t p8) (.t p10))
(dV p13 (oLdN 6 (.t p12))
(dV p7 (oNew [(.int .i64 (.ofNat 0)), (.int .i64 (.ofNat 0)), (.bool false), (.str []), .nils, .nils] 26)
(dU (oSt 6 (.t p7) (.t p13))
dE)))))
(dOps (dV p14 (oMv (.t p5))
(dV p15 (oMv (.t p1))
(dV p16 (oLdN 6 (.t p7))
(dCv (some p17) (.t p15) [(.t p16)]
(dV p18 (oBuildS 26 1 [(.int .i64 (.ofNat 0)), (.int .i64 (.ofNat 0)), (.bool false), (.str []), .nils, .nils] [(0, 6, (.t p17))])
(dV p19 (oApp 26 6 (.t p14) (.t p18))
(dV p5 (oMv (.t p19))
dE))))))))))
(dOps (dV p20 (oAr .add (.t p10) (.c (.int .i64 (.ofNat 1))))
(dV p10 (oMv (.t p20))
dE)))))))))
(dSeq (dOps (dV p21 (oMv (.t p5))
(dV p4 (oMv (.t p21))
dE)))
dRet)))), [(.t p4)]⟩
def af281 : AF := ⟨(dSeq (dOps (dV p2 (oBox 26 (.t p0))
(dV p4 (oNew [(.int .i64 (.ofNat 0)), (.int .i64 (.ofNat 0)), (.bool false), (.str []), .nils, .nils] 26)
(dV p5 (oMv (.c .nils))
(dV p6 (oMv (.c .nils))
dE)))))
(dSeq (dOps (dV p7 (oNew [.nils] 24)
dE))
(dSeq (dOps (dV p8 (oNew [.nils] 80)
dE))
(dSeq (dOps (dC (some p12) p238 [(.t p8)]
(dV p9 (oNew [.nilf] 183)
(dU (oSt 1 (.t p9) (.t p12))
dE))))
(dSeq (dSeq (dOps (dV p13 (oMv (.t p1))
(dC (some p14) p320 [(.t p13)]
dE)))
(dBlock 0 (dRange (.t p14) [p15, p16] (dOps (dV p11 (oNew [(.int .i64 (.ofNat 0)), (.int .i64 (.ofNat 0)), (.bool false), (.str []), .nils, .nils] 26)
(dU (oSt 6 (.t p11) (.t p16))
dE))) (dBlock 1 (dSeq (dDraw2 (sN p17 ⟨(some p17), (.v (.ld1 (.t p7))), none⟩
(sN p18 ⟨(some p18), (.v (.fa 5 (.t p11))), none⟩
(sN p19 ⟨(some p19), (.v (.ld1 (.t p18))), none⟩
(sN p20 ⟨(some p20), (.v (.ia 6 (.t p19) (.c (.int .i64 (.ofNat 1))))), none⟩
(sN p21 ⟨(some p21), (.v (.ldN 6 (.t p20))), none⟩
(sN p23 ⟨(some p23), (.v (.len (.t p17))), none⟩
(sA 7 p24 (.buildS 26 1 [(.int .i64 (.ofNat 0)), (.int .i64 (.ofNat 0)), (.bool false), (.str []), .nils, .nils] [(0, 6, (.c (.agg [(.int .i64 (.ofNat 0)), (.int .i64 (.ofNat 0)), (.bool false), (.str []), .nils, .nils])))])
(sE [] [(p17, ⟨(some p17), (.v (.ld1 (.t p7))), none⟩)] ⟨(some p22), (.call p44 [(.t p21)]), none⟩
(sE [7] [] ⟨(some p25), (.v (.app 26 6 (.t p17) (.t p24))), none⟩
sEnd))))))))) p26 6 (.t p25) (.t p23) 6 (.t p22) p7 1 (.t p25))
(dOps (dV p27 (oLd1 (.t p9))
(dV p28 (oLdN 6 (.t p11))
(dCv (some p29) (.t p27) [(.t p28)]
dE)))))))))
(dSeq (dDraw (sN p30 ⟨(some p30), (.v (.ldN 6 (.t p2))), none⟩
(sN p32 ⟨(some p32), (.v (.ld1 (.t p7))), none⟩
(sN p33 ⟨(some p33), (.v (.ld1 (.t p8))), none⟩
(sE [] [(p32, ⟨(some p32), (.v (.ld1 (.t p7))), none⟩), (p33, ⟨(some p33), (.v (.ld1 (.t p8))), none⟩)] ⟨(some p31), (.call p44 [(.t p30)]), none⟩
(sE [] [(p32, ⟨(some p32), (.v (.ld1 (.t p7))), none⟩), (p33, ⟨(some p33), (.v (.ld1 (.t p8))), none⟩)] ⟨none, (.v (.st 6 (.t p4) (.t p31))), none⟩
(sN p5 ⟨(some p5), (.v (.mv (.t p32))), none⟩
(sN p6 ⟨(some p6), (.v (.mv (.t p33))), none⟩
sEnd))))))))
dRet)))))), [(.cN p4 6), (.t p5), (.t p6)]⟩
def af282 : AF := ⟨(dSeq (dOps (dV p2 (oNew [(.int .i64 (.ofNat 0)), .nils] 49)
dE))
(dSeq (dOps (dV p3 (oMv (.t p0))
(dV p4 (oBuild [(.int .i64 (.ofNat 0)), (.int .i64 (.ofNat 0))] [(0, 1, (.t p3))])
(dV p5 (oBuildS 46 1 [(.int .i64 (.ofNat 0)), (.int .i64 (.ofNat 0))] [(0, 2, (.t p4))])
(dV p6 (oBuild [(.int .i64 (.ofNat 0)), .nils] [(1, 1, (.t p5))])
(dU (oSt 2 (.t p2) (.t p6))
dE))))))
dRet)), [(.cN p2 2)]⟩
def af283 : AF := ⟨(dSeq (dOps (dV p3 (oMv (.c (.int .i64 (.ofNat 0))))
dE))
(dSeq (dOps (dV p4 (oMv (.t p0))
(dV p5 (oLd1 (.t p1))
(dV p6 (oAr .add (.t p4) (.t p5))
(dV p3 (oMv (.t p6))
dE)))))
dRet)), [(.t p3)]⟩
def af284 : AF := ⟨(dSeq (dOps (dV p4 (oMv (.c (.bool false)))
dE))
(dSeq (dSeq (dOps (dV p6 (oMv (.t p0))
(dV p7 (oLen (.t p6))
(dV p8 (oMv (.t p1))
(dV p9 (oLen (.t p8))
(dV p10 (oAr .neq (.t p7) (.t p9))
dE))))))
(dCond (.t p10) (dSeq (dOps (dV p4 (oMv (.c (.bool false)))
dE))
dRet) dSkip))
(dSeq (dSeq (dOps (dV p11 (oMv (.t p0))
(dV p12 (oLen (.t p11))
(dV p13 (oMv (.c (.int .i64 (.ofNat 0))))
dE))))
(dBlock 0 (dLoop (dSeq (dOps (dV p14 (oAr .lss (.t p13) (.t p12))
dE))
(dSeq (dCond (.t p14) dSkip (dExit 0))
(dSeq (dBlock 1 (dSeq (dOps (dV p15 (oMv (.t p13))
(dV p5 (oMv (.t p15))
dE)))
(dSeq (dDraw (sN p16 ⟨(some p16), (.v (.mv (.t p0))), none⟩
(sN p17 ⟨(some p17), (.v (.mv (.t p5))), none⟩
(sN p18 ⟨(some p18), (.v (.ia 2 (.t p16) (.t p17))), none⟩
(sN p19 ⟨(some p19), (.v (.ldN 2 (.t p18))), none⟩
(sN p20 ⟨(some p20), (.v (.mv (.t p1))), none⟩
(sN p21 ⟨(some p21), (.v (.mv (.t p5))), none⟩
(sN p22 ⟨(some p22), (.v (.ia 2 (.t p20) (.t p21))), none⟩
(sN p23 ⟨(some p23), (.v (.ldN 2 (.t p22))), none⟩
(sN p24 ⟨(some p24), (.v (.ar .neq (.t p19) (.t p23))), none⟩
sEnd))))))))))
(dCond (.t p24) (dSeq (dOps (dV p4 (oMv (.c (.bool false)))
dE))
dRet) dSkip))))
(dOps (dV p25 (oAr .add (.t p13) (.c (.int .i64 (.ofNat 1))))
(dV p13 (oMv (.t p25))
dE)))))))))
(dSeq (dOps (dV p4 (oMv (.c (.bool true)))
dE))
dRet)))), [(.t p4)]⟩
def af285 : AF := ⟨(dBlock 0 (dLoop (dSeq (dSeq (dOps (dV p3 (oLd1 (.t p1))
(dV p4 (oEq .p true (.t p3) (.c .nilp))
(dV p5 (oMv (.t p4))
(dG p5 true (some p6) (dV p6 (oMv (.t p0)))
(dG p5 true (some p7) (dV p7 (oLd1 (.t p1)))
(dG p5 true (some p8) (dCv (some p8) (.t p6) [(.t p7)])
(dV p9 (oPick (.t p5) (.t p8) (.c (.bool false)))
dE))))))))
(dCond (.t p9) dSkip (dExit 0)))
(dSeq (dBlock 1 dSkip)
(dOps (dV p10 (oLd1 (.t p1))
(dV p11 (oNchk (.t p10))
(dV p12 (oFa 2 (.t p11))
(dV p13 (oLd1 (.t p12))
(dU (oSt 1 (.t p1) (.t p13))
dE)))))))))), []⟩
def af286 : AF := ⟨(dSeq (dOps (dV p4 (oLd1 (.t p1))
(dV p5 (oLen (.t p4))
(dV p6 (oAr .sub (.t p5) (.c (.int .i64 (.ofNat 1))))
(dV p3 (oMv (.t p6))
dE)))))
(dBlock 0 (dLoop (dSeq (dSeq (dOps (dV p7 (oMv (.t p3))
(dV p8 (oAr .geq (.t p7) (.c (.int .i64 (.ofNat 0))))
dE)))
(dCond (.t p8) dSkip (dExit 0)))
(dSeq (dBlock 1 (dSeq (dOps (dV p11 (oMv (.t p0))
(dV p12 (oMv (.t p3))
(dV p13 (oLd1 (.t p1))
(dV p14 (oMv (.t p3))
(dV p15 (oIa 1 (.t p13) (.t p14))
(dV p16 (oLd1 (.t p15))
(dCv (some p17) (.t p11) [(.t p12), (.t p16)]
(dV p18 (oUn .not (.t p17))
dE)))))))))
(dCond (.t p18) dRet dSkip)))
(dOps (dV p9 (oMv (.t p3))
(dV p10 (oAr .sub (.t p9) (.c (.int .i64 (.ofNat 1))))
(dV p3 (oMv (.t p10))
dE))))))))), []⟩
def af287 : AF := ⟨(dSeq (dOps (dV p2 (oBox 400 (.t p0))
(dV p4 (oMv (.c .nils))
dE)))
(dSeq (dSeq (dOps (dV p6 (oMv (.t p1))
dE))
(dBlock 0 (dRange (.t p6) [p7] (dOps (dV p5 (oMv (.t p7))
dE)) (dBlock 1 (dOps (dV p8 (oLd1 (.t p2))
(dV p9 (oMv (.t p5))
(dV p10 (oBuildS 233 1 [.nilp] [(0, 1, (.t p9))])
(dV p11 (oApp 233 1 (.t p8) (.t p10))
(dU (oSt 1 (.t p2) (.t p11))
dE))))))))))
(dSeq (dOps (dV p12 (oLd1 (.t p2))
(dV p4 (oMv (.t p12))
dE)))
dRet))), [(.t p4)]⟩
def af288 : AF := ⟨(dSeq (dOps (dV p2 (oBox 235 (.t p0))
(dV p3 (oBox 235 (.t p1))
(dV p4 (oNew [(.int .i64 (.ofNat 0)), (.int .i64 (.ofNat 0))] 235)
dE))))
(dSeq (dOps (dV p5 (oFa 0 (.t p2))
(dV p6 (oLd1 (.t p5))
(dV p7 (oFa 0 (.t p3))
(dV p8 (oLd1 (.t p7))
(dV p9 (oAr .add (.t p6) (.t p8))
(dV p10 (oFa 1 (.t p2))
(dV p11 (oLd1 (.t p10))
(dV p12 (oFa 1 (.t p3))
(dV p13 (oLd1 (.t p12))
(dV p14 (oAr .add (.t p11) (.t p13))
(dV p15 (oBuild [(.int .i64 (.ofNat 0)), (.int .i64 (.ofNat 0))] [(0, 1, (.t p9)), (1, 1, (.t p14))])
(dU (oSt 2 (.t p4) (.t p15))
dE)))))))))))))
dRet)), [(.cN p4 2)]⟩
def af289 : AF := ⟨(dSeq (dOps (dV p2 (oNew [(.int .i64 (.ofNat 0)), (.int .i64 (.ofNat 0))] 235)
dE))
(dSeq (dSeq (dOps (dV p3 (oMv (.t p0))
(dV p4 (oEq .p false (.t p3) (.c .nilp))
dE)))
(dCond (.t p4) (dSeq (dOps (dV p5 (oBuild [(.int .i64 (.ofNat 0)), (.int .i64 (.ofNat 0))] [])
(dU (oSt 2 (.t p2) (.t p5))
dE)))
dRet) dSkip))
(dSeq (dOps (dV p6 (oMv (.t p0))
(dV p7 (oNchk (.t p6))
(dV p8 (oFa 3 (.t p7))
(dV p9 (oLdN 2 (.t p8))
(dU (oSt 2 (.t p2) (.t p9))
dE))))))
dRet))), [(.cN p2 2)]⟩
def af290 : AF := ⟨(dSeq (dOps (dV p1 (oBox 204 (.t p0))
(dV p2 (oNew [(.int .i64 (.ofNat 0)), (.int .i64 (.ofNat 0)), (.int .i64 (.ofNat 0)), (.int .i64 (.ofNat 0))] 237)
dE)))
(dSeq (dOps (dV p5 (oFa 0 (.t p1))
(dV p6 (oLd1 (.t p5))
(dV p7 (oNchk (.t p6))
(dV p8 (oFa 0 (.t p7))
(dV p9 (oFa 0 (.t p8))
(dV p10 (oLdN 3 (.t p9))
(dC (some p11) p237 [(.t p10)]
(dV p3 (oNew [(.int .i64 (.ofNat 0)), (.int .i64 (.ofNat 0)), (.int .i64 (.ofNat 0)), (.int .i64 (.ofNat 0))] 237)
(dU (oSt 4 (.t p3) (.t p11))
dE))))))))))
(dSeq (dSeq (dOps (dV p12 (oFa 0 (.t p1))
(dV p13 (oLd1 (.t p12))
(dV p14 (oNchk (.t p13))
(dV p15 (oFa 4 (.t p14))
(dV p16 (oLd1 (.t p15))
(dC (some p17) p250 [(.t p16)]
dE)))))))
(dBlock 0 (dRange (.t p17) [p18] (dOps (dV p4 (oMv (.t p18))
dE)) (dBlock 1 (dDraw (sN p19 ⟨(some p19), (.v (.fa 0 (.t p3))), none⟩
(sN p20 ⟨(some p20), (.v (.ld1 (.t p19))), none⟩
(sN p21 ⟨(some p21), (.v (.ar .add (.t p20) (.c (.int .i64 (.ofNat 1))))), none⟩
(sN p22 ⟨(some p22), (.v (.mv (.t p4))), none⟩
(sN p23 ⟨(some p23), (.v (.nchk (.t p22))), none⟩
(sN p24 ⟨(some p24), (.v (.fa 0 (.t p23))), none⟩
(sN p25 ⟨(some p25), (.v (.ld1 (.t p24))), none⟩
(sN p26 ⟨(some p26), (.v (.nchk (.t p25))), none⟩
(sN p27 ⟨(some p27), (.v (.fa 3 (.t p26))), none⟩
(sN p28 ⟨(some p28), (.v (.fa 0 (.t p27))), none⟩
(sN p29 ⟨(some p29), (.v (.ld1 (.t p28))), none⟩
(sN p30 ⟨(some p30), (.v (.ar .add (.t p21) (.t p29))), none⟩
(sN p31 ⟨(some p31), (.v (.fa 1 (.t p3))), none⟩
(sN p32 ⟨(some p32), (.v (.ld1 (.t p31))), none⟩
(sN p33 ⟨(some p33), (.v (.mv (.t p4))), none⟩
(sN p34 ⟨(some p34), (.v (.nchk (.t p33))), none⟩
(sN p35 ⟨(some p35), (.v (.fa 0 (.t p34))), none⟩
(sN p36 ⟨(some p36), (.v (.ld1 (.t p35))), none⟩
(sN p37 ⟨(some p37), (.v (.nchk (.t p36))), none⟩
(sN p38 ⟨(some p38), (.v (.fa 3 (.t p37))), none⟩
(sN p39 ⟨(some p39), (.v (.fa 1 (.t p38))), none⟩
(sN p40 ⟨(some p40), (.v (.ld1 (.t p39))), none⟩
(sN p41 ⟨(some p41), (.v (.mm true [(.t p32), (.t p40)])), none⟩
(sN p42 ⟨(some p42), (.v (.ar .add (.t p41) (.c (.int .i64 (.ofNat 1))))), none⟩
(sN p43 ⟨(some p43), (.v (.fa 2 (.t p3))), none⟩
(sN p44 ⟨(some p44), (.v (.ld1 (.t p43))), none⟩
(sN p45 ⟨(some p45), (.v (.mv (.t p4))), none⟩
(sN p46 ⟨(some p46), (.v (.nchk (.t p45))), none⟩
(sN p47 ⟨(some p47), (.v (.fa 0 (.t p46))), none⟩
(sN p48 ⟨(some p48), (.v (.ld1 (.t p47))), none⟩
(sN p49 ⟨(some p49), (.v (.nchk (.t p48))), none⟩
(sN p50 ⟨(some p50), (.v (.fa 3 (.t p49))), none⟩
(sN p51 ⟨(some p51), (.v (.fa 2 (.t p50))), none⟩
(sN p52 ⟨(some p52), (.v (.ld1 (.t p51))), none⟩
(sN p53 ⟨(some p53), (.v (.mm true [(.t p44), (.t p52)])), none⟩
(sN p54 ⟨(some p54), (.v (.fa 3 (.t p3))), none⟩
(sN p55 ⟨(some p55), (.v (.ld1 (.t p54))), none⟩
(sN p56 ⟨(some p56), (.v (.mv (.t p4))), none⟩
(sN p57 ⟨(some p57), (.v (.nchk (.t p56))), none⟩
(sN p58 ⟨(some p58), (.v (.fa 0 (.t p57))), none⟩
(sN p59 ⟨(some p59), (.v (.ld1 (.t p58))), none⟩
(sN p60 ⟨(some p60), (.v (.nchk (.t p59))), none⟩
(sN p61 ⟨(some p61), (.v (.fa 3 (.t p60))), none⟩
(sN p62 ⟨(some p62), (.v (.fa 3 (.t p61))), none⟩
(sN p63 ⟨(some p63), (.v (.ld1 (.t p62))), none⟩
(sN p64 ⟨(some p64), (.v (.mm true [(.t p55), (.t p63)])), none⟩
(sN p65 ⟨(some p65), (.v (.build [(.int .i64 (.ofNat 0)), (.int .i64 (.ofNat 0)), (.int .i64 (.ofNat 0)), (.int .i64 (.ofNat 0))] [(0, 1, (.t p30)), (1, 1, (.t p42)), (2, 1, (.t p53)), (3, 1, (.t p64))])), none⟩
(sE [] [] ⟨none, (.v (.st 4 (.t p3) (.t p65))), none⟩
sEnd)))))))))))))))))))))))))))))))))))))))))))))))))))))
(dSeq (dOps (dV p66 (oLdN 4 (.t p3))
(dU (oSt 4 (.t p2) (.t p66))
dE)))
dRet)))), [(.cN p2 4)]⟩
def af291 : AF := ⟨(dSeq (dOps (dV p2 (oMv (.c .nils))
dE))
(dSeq (dSeq (dOps (dV p9 (oMv (.t p0))
(dV p10 (oNchk (.t p9))
(dV p11 (oFa 0 (.t p10))
(dV p12 (oFa 0 (.t p11))
(dV p13 (oLd1 (.t p12))
(dV p14 (oAr .eql (.t p13) (.c (.int .i64 (.ofNat 1))))
dE)))))))
(dCond (.t p14) (dSeq (dOps (dV p15 (oMv (.t p0))
(dV p16 (oNchk (.t p15))
(dV p17 (oFa 0 (.t p16))
(dV p18 (oFa 1 (.t p17))
(dV p19 (oLd1 (.t p18))
(dV p20 (oBuild [(.int .i64 (.ofNat 0)), (.int .i64 (.ofNat 0)), (.int .i64 (.ofNat 0)), (.int .i64 (.ofNat 0))] [(0, 1, (.t p19)), (1, 1, (.c (.int .i64 (.ofNat 1))))])
(dV p21 (oBuildS 408 1 [(.int .i64 (.ofNat 0)), (.int .i64 (.ofNat 0)), (.int .i64 (.ofNat 0)), (.int .i64 (.ofNat 0))] [(0, 4, (.t p20))])
(dV p2 (oMv (.t p21))
dE)))))))))
dRet) dSkip))
(dSeq (dOps (dV p3 (oMv (.c .nils))
dE))
(dSeq (dSeq (dOps (dV p22 (oMv (.t p0))
(dV p23 (oNchk (.t p22))
(dV p24 (oFa 6 (.t p23))
(dV p25 (oLd1 (.t p24))
(dV p26 (oLen (.t p25))
(dV p27 (oMv (.c (.int .i64 (.ofNat 0))))
dE)))))))
(dBlock 0 (dLoop (dSeq (dOps (dV p28 (oAr .lss (.t p27) (.t p26))
dE))
(dSeq (dCond (.t p28) dSkip (dExit 0))
(dSeq (dBlock 1 (dSeq (dOps (dV p29 (oMv (.t p27))
(dV p30 (oIa 1 (.t p25) (.t p27))
(dV p31 (oLd1 (.t p30))
(dV p4 (oMv (.t p29))
(dV p5 (oMv (.t p31))
dE))))))
(dSeq (dOps (dV p32 (oMv (.t p0))
(dV p33 (oNchk (.t p32))
(dV p34 (oFa 0 (.t p33))
(dV p35 (oFa 0 (.t p34))
(dV p36 (oLd1 (.t p35))
(dV p37 (oMv (.t p4))
(dC (some p38) p183 [(.t p36), (.t p37)]
(dV p6 (oMv (.t p38))
dE)))))))))
(dSeq (dOps (dV p39 (oMv (.t p5))
(dC (some p40) p259 [(.t p39)]
(dV p41 (oLen (.t p40))
(dV p42 (oMv (.c (.int .i64 (.ofNat 0))))
dE)))))
(dBlock 2 (dLoop (dSeq (dOps (dV p43 (oAr .lss (.t p42) (.t p41))
dE))
(dSeq (dCond (.t p43) dSkip (dExit 2))
(dSeq (dBlock 3 (dSeq (dOps (dV p44 (oIa 4 (.t p40) (.t p42))
(dV p45 (oLdN 4 (.t p44))
(dV p8 (oNew [(.int .i64 (.ofNat 0)), (.int .i64 (.ofNat 0)), (.int .i64 (.ofNat 0)), (.int .i64 (.ofNat 0))] 408)
(dU (oSt 4 (.t p8) (.t p45))
dE)))))
(dSeq (dOps (dV p46 (oFa 0 (.t p8))
(dV p47 (oLd1 (.t p46))
(dV p48 (oMv (.t p6))
(dV p49 (oAr .geq (.t p47) (.t p48))
dE)))))
(dCond (.t p49) (dOps (dV p50 (oMv (.t p3))
(dV p51 (oFa 0 (.t p8))
(dV p52 (oLd1 (.t p51))
(dV p53 (oMv (.t p6))
(dV p54 (oAr .sub (.t p52) (.t p53))
(dV p55 (oFa 1 (.t p8))
(dV p56 (oLd1 (.t p55))
(dV p57 (oFa 2 (.t p8))
(dV p58 (oLd1 (.t p57))
(dV p59 (oAr .add (.t p58) (.c (.int .i64 (.ofNat 1))))
(dV p60 (oFa 3 (.t p8))
(dV p61 (oLd1 (.t p60))
(dV p62 (oMv (.t p6))
(dV p63 (oAr .add (.t p61) (.t p62))
(dV p64 (oBuild [(.int .i64 (.ofNat 0)), (.int .i64 (.ofNat 0)), (.int .i64 (.ofNat 0)), (.int .i64 (.ofNat 0))] [(0, 1, (.t p54)), (1, 1, (.t p56)), (2, 1, (.t p59)), (3, 1, (.t p63))])
(dV p65 (oBuildS 408 1 [(.int .i64 (.ofNat 0)), (.int .i64 (.ofNat 0)), (.int .i64 (.ofNat 0)), (.int .i64 (.ofNat 0))] [(0, 4, (.t p64))])
(dV p66 (oApp 408 4 (.t p50) (.t p65))
(dV p3 (oMv (.t p66))
dE))))))))))))))))))) dSkip))))
(dOps (dV p67 (oAr .add (.t p42) (.c (.int .i64 (.ofNat 1))))
(dV p42 (oMv (.t p67))
dE))))))))))))
(dOps (dV p68 (oAr .add (.t p27) (.c (.int .i64 (.ofNat 1))))
(dV p27 (oMv (.t p68))
dE)))))))))
(dSeq (dOps (dV p69 (oMv (.t p3))
(dC (some p70) p321 [(.t p69)]
(dV p2 (oMv (.t p70))
dE))))
dRet))))), [(.t p2)]⟩
def af292 : AF := ⟨(dSeq (dOps (dV p4 (oNew [(.int .i64 (.ofNat 0)), (.int .i64 (.ofNat 0))] 60)
(dV p5 (oMv (.c (.bool false)))
dE)))
(dSeq (dOps (dV p9 (oMv (.t p0))
(dV p10 (oNchk (.t p9))
(dV p11 (oFa 0 (.t p10))
(dV p12 (oLd1 (.t p11))
(dV p13 (oMv (.t p1))
(dV p14 (oLk (.agg [(.int .i64 (.ofNat 0)), (.int .i64 (.ofNat 0))]) true (.t p12) (.t p13))
(dV p8 (oMv (.t p14))
(dV p15 (oExt (.t p8) 0)
(dV p16 (oExt (.t p8) 1)
(dV p6 (oNew [(.int .i64 (.ofNat 0)), (.int .i64 (.ofNat 0))] 60)
(dU (oSt 2 (.t p6) (.t p15))
(dV p7 (oMv (.t p16))
dE)))))))))))))
(dSeq (dOps (dV p17 (oLdN 2 (.t p6))
(dV p18 (oMv (.t p7))
(dU (oSt 2 (.t p4) (.t p17))
(dV p5 (oMv (.t p18))
dE)))))
dRet))), [(.cN p4 2), (.t p5)]⟩
def af293 : AF := ⟨(dSeq (dOps (dV p4 (oNew [(.int .i64 (.ofNat 0)), (.str []), (.int .i64 (.ofNat 0)), (.int .i64 (.ofNat 0)), (.int .i64 (.ofNat 0)), (.bool false), (.str []), .nils, .nils, (.int .i64 (.ofNat 0)), (.int .i64 (.ofNat 0)), (.bool false), (.str []), .nils, .nils, (.int .i64 (.ofNat 0)), .nils] 36)
dE))
(dSeq (dOps (dV p5 (oMv (.t p0))
(dV p6 (oNchk (.t p5))
(dV p7 (oFa 0 (.t p6))
(dV p8 (oLd1 (.t p7))
(dV p9 (oMv (.t p1))
(dV p10 (oIa 17 (.t p8) (.t p9))
(dV p11 (oLdN 17 (.t p10))
(dC (some p12) p26 [(.t p11)]
(dU (oSt 17 (.t p4) (.t p12))
dE))))))))))
dRet)), [(.cN p4 17)]⟩
def af294 : AF := ⟨(dSeq (dOps (dV p1 (oBox 163 (.t p0))
(dV p2 (oMv (.c .nilf))
dE)))
(dSeq (dOps (dV p3 (oMkf 322 [] [(.t p1)])
(dV p2 (oMv (.t p3))
dE)))
dRet)), [(.t p2)]⟩
def af295 : AF := ⟨(dSeq (dOps (dV p1 (oBox 26 (.t p0))
(dV p2 (oNew [(.int .i64 (.ofNat 0)), (.int .i64 (.ofNat 0)), (.bool false), (.str []), .nils, .nils] 26)
(dV p3 (oMv (.c (.int .i64 (.ofNat 0))))
dE))))
(dSeq (dSeq (dOps (dV p4 (oLdN 6 (.t p1))
(dC (some p5) p60 [(.t p4)]
(dV p6 (oAr .neq (.t p5) (.c (.int .i64 (.ofNat 0))))
dE))))
(dCond (.t p6) (dSeq (dOps (dV p7 (oBuild [(.int .i64 (.ofNat 0)), (.int .i64 (.ofNat 0)), (.bool false), (.str []), .nils, .nils] [])
(dU (oSt 6 (.t p2) (.t p7))
(dV p3 (oMv (.c (.int .i64 (.ofNat 2))))
dE))))
dRet) dSkip))
(dSeq (dOps (dV p8 (oLdN 6 (.t p1))
(dU (oSt 6 (.t p2) (.t p8))
(dV p3 (oMv (.c (.int .i64 (.ofNat 0))))
dE))))
dRet))), [(.cN p2 6), (.t p3)]⟩
def af296 : AF := ⟨(dSeq (dOps (dV p2 (oBox 163 (.t p0))
(dV p3 (oBox 434 (.t p1))
(dV p4 (oNew [(.int .i64 (.ofNat 0)), (.int .i64 (.ofNat 0)), (.bool false), (.str []), .nils, .nils] 26)
dE))))
(dSeq (dOps (dV p5 (oBuild [.nils, (.int .i64 (.ofNat 0))] [])
(dV p6 (oFa 17 (.t p2))
(dV p7 (oLd1 (.t p6))
(dV p8 (oMkf 324 [] [(.t p2), (.t p3)])
(dC (some p9) p323 [(.t p5), (.t p7), (.t p8)]
(dU (oSt 6 (.t p4) (.t p9))
dE)))))))
dRet)), [(.cN p4 6)]⟩
def af297 : AF := ⟨(dSeq (dOps (dV p2 (oBox 26 (.t p0))
(dV p4 (oNew [(.int .i64 (.ofNat 0)), (.int .i64 (.ofNat 0)), (.bool false), (.str []), .nils, .nils] 26)
(dV p5 (oMv (.c (.int .i64 (.ofNat 0))))
dE))))
(dSeq (dSeq (dOps (dV p6 (oMv (.t p1))
(dV p7 (oAr .eql (.t p6) (.c (.int .i64 (.ofNat 0))))
(dV p8 (oMv (.t p7))
(dG p8 true (some p9) (dV p9 (oLdN 6 (.t p2)))
(dG p8 true (some p10) (dC (some p10) p60 [(.t p9)])
(dG p8 true (some p11) (dV p11 (oAr .neq (.t p10) (.c (.int .i64 (.ofNat 0)))))
(dV p12 (oPick (.t p8) (.t p11) (.c (.bool false)))
dE))))))))
(dCond (.t p12) (dOps (dV p1 (oMv (.c (.int .i64 (.ofNat 2))))
dE)) dSkip))
(dSeq (dSeq (dOps (dV p13 (oMv (.t p1))
(dV p14 (oAr .neq (.t p13) (.c (.int .i64 (.ofNat 0))))
dE)))
(dCond (.t p14) (dSeq (dOps (dV p15 (oBuild [(.int .i64 (.ofNat 0)), (.int .i64 (.ofNat 0)), (.bool false), (.str []), .nils, .nils] [])
(dV p16 (oMv (.t p1))
(dU (oSt 6 (.t p4) (.t p15))
(dV p5 (oMv (.t p16))
dE)))))
dRet) dSkip))
(dSeq (dOps (dV p17 (oLdN 6 (.t p2))
(dU (oSt 6 (.t p4) (.t p17))
(dV p5 (oMv (.c (.int .i64 (.ofNat 0))))
dE))))
dRet)))), [(.cN p4 6), (.t p5)]⟩
def af298 : AF := ⟨(dSeq (dOps (dV p4 (oBox 26 (.t p1))
(dV p5 (oBox 130 (.t p2))
(dV p6 (oNew [(.int .i64 (.ofNat 0)), (.int .i64 (.ofNat 0)), (.bool false), (.str []), .nils, .nils] 26)
(dV p7 (oMv (.c (.int .i64 (.ofNat 0))))
dE)))))
(dSeq (dOps (dV p13 (oLdN 6 (.t p4))
(dC (some p14) p101 [(.t p13)]
(dV p8 (oNew [(.int .i64 (.ofNat 0)), (.int .i64 (.ofNat 0)), (.bool false), (.str []), .nils, .nils] 26)
(dU (oSt 6 (.t p8) (.t p14))
dE)))))
(dSeq (dSeq (dOps (dV p15 (oFa 4 (.t p8))
(dV p16 (oLd1 (.t p15))
(dV p17 (oLen (.t p16))
(dV p18 (oMv (.c (.int .i64 (.ofNat 0))))
dE)))))
(dBlock 0 (dLoop (dSeq (dOps (dV p19 (oAr .lss (.t p18) (.t p17))
dE))
(dSeq (dCond (.t p19) dSkip (dExit 0))
(dSeq (dBlock 1 (dSeq (dOps (dV p20 (oMv (.t p18))
(dV p21 (oIa 2 (.t p16) (.t p18))
(dV p22 (oLdN 2 (.t p21))
(dV p10 (oNew [(.int .i64 (.ofNat 0)), .nils] 49)
(dV p9 (oMv (.t p20))
(dU (oSt 2 (.t p10) (.t p22))
dE)))))))
(dSeq (dOps (dV p24 (oMv (.t p0))
(dV p25 (oLdN 2 (.t p10))
(dC (some p26) p329 [(.t p24), (.t p25)]
(dV p23 (oMv (.t p26))
(dV p27 (oExt (.t p23) 0)
(dV p28 (oExt (.t p23) 1)
(dV p11 (oNew [(.int .i64 (.ofNat 0)), .nils] 49)
(dU (oSt 2 (.t p11) (.t p27))
(dV p12 (oMv (.t p28))
dE))))))))))
(dSeq (dSeq (dOps (dV p29 (oMv (.t p12))
(dV p30 (oAr .neq (.t p29) (.c (.int .i64 (.ofNat 0))))
dE)))
(dCond (.t p30) (dSeq (dOps (dV p31 (oBuild [(.int .i64 (.ofNat 0)), (.int .i64 (.ofNat 0)), (.bool false), (.str []), .nils, .nils] [])
(dV p32 (oMv (.t p12))
(dU (oSt 6 (.t p6) (.t p31))
(dV p7 (oMv (.t p32))
dE)))))
dRet) dSkip))
(dOps (dV p33 (oFa 4 (.t p8))
(dV p34 (oLd1 (.t p33))
(dV p35 (oMv (.t p9))
(dV p36 (oLdN 2 (.t p11))
(dV p37 (oIa 2 (.t p34) (.t p35))
(dU (oSt 2 (.t p37) (.t p36))
dE)))))))))))
(dOps (dV p38 (oAr .add (.t p18) (.c (.int .i64 (.ofNat 1))))
(dV p18 (oMv (.t p38))
dE)))))))))
(dSeq (dOps (dV p39 (oLdN 6 (.t p8))
(dU (oSt 6 (.t p6) (.t p39))
(dV p7 (oMv (.c (.int .i64 (.ofNat 0))))
dE))))
dRet)))), [(.cN p6 6), (.t p7)]⟩
def af299 : AF := ⟨(dSeq (dOps (dV p2 (oBox 444 (.t p0))
(dV p3 (oBox 286 (.t p1))
dE)))
(dSeq (dDraw (sN p4 ⟨(some p4), (.v (.fa 1 (.t p2))), none⟩
(sN p5 ⟨(some p5), (.v (.ld1 (.t p4))), none⟩
(sN p6 ⟨(some p6), (.v (.fa 1 (.t p2))), none⟩
(sN p7 ⟨(some p7), (.v (.ld1 (.t p6))), none⟩
(sN p8 ⟨(some p8), (.v (.fa 0 (.t p2))), none⟩
(sN p9 ⟨(some p9), (.v (.ld1 (.t p8))), none⟩
(sN p10 ⟨(some p10), (.v (.nchk (.t p9))), none⟩
(sN p11 ⟨(some p11), (.v (.fa 8 (.t p10))), none⟩
(sN p12 ⟨(some p12), (.v (.fa 7 (.t p11))), none⟩
(sN p13 ⟨(some p13), (.v (.ldN 4 (.t p12))), none⟩
(sN p14 ⟨(some p14), (.v (.nchk (.t p5))), none⟩
(sN p15 ⟨(some p15), (.v (.fa 7 (.t p14))), none⟩
(sE [] [(p7, ⟨(some p7), (.v (.ld1 (.t p6))), none⟩)] ⟨none, (.v (.st 1 (.t p15) (.t p3))), none⟩
(sN p16 ⟨(some p16), (.v (.nchk (.t p7))), none⟩
(sN p17 ⟨(some p17), (.v (.fa 8 (.t p16))), none⟩
(sE [] [] ⟨none, (.v (.st 4 (.t p17) (.t p13))), none⟩
sEnd)))))))))))))))))
(dOps (dV p18 (oFa 0 (.t p2))
(dV p19 (oLd1 (.t p18))
(dV p20 (oFa 2 (.t p2))
(dV p21 (oLdN 11 (.t p20))
(dV p22 (oNchk (.t p19))
(dV p23 (oFa 8 (.t p22))
(dU (oSt 11 (.t p23) (.t p21))
dE)))))))))), []⟩
def af300 : AF := ⟨(dSeq (dOps (dV p2 (oMv (.c (.bool false)))
dE))
(dSeq (dDraw (sN p4 ⟨(some p4), (.v (.mv (.t p0))), none⟩
(sN p5 ⟨(some p5), (.v (.nchk (.t p4))), none⟩
(sN p6 ⟨(some p6), (.v (.fa 8 (.t p5))), none⟩
(sN p7 ⟨(some p7), (.v (.fa 0 (.t p6))), none⟩
(sN p8 ⟨(some p8), (.v (.fa 0 (.t p7))), none⟩
(sN p9 ⟨(some p9), (.v (.fa 0 (.t p8))), none⟩
(sN p10 ⟨(some p10), (.v (.ldN 2 (.t p9))), none⟩
(sN p11 ⟨(some p11), (.v (.mv (.t p0))), none⟩
(sN p12 ⟨(some p12), (.v (.nchk (.t p11))), none⟩
(sN p13 ⟨(some p13), (.v (.fa 8 (.t p12))), none⟩
(sN p14 ⟨(some p14), (.v (.fa 0 (.t p13))), none⟩
(sN p15 ⟨(some p15), (.v (.fa 0 (.t p14))), none⟩
(sN p16 ⟨(some p16), (.v (.fa 2 (.t p15))), none⟩
(sN p17 ⟨(some p17), (.v (.ld1 (.t p16))), none⟩
(sN p18 ⟨(some p18), (.v (.nchk (.t p17))), none⟩
(sN p19 ⟨(some p19), (.v (.fa 0 (.t p18))), none⟩
(sN p20 ⟨(some p20), (.v (.fa 1 (.t p19))), none⟩
(sN p21 ⟨(some p21), (.v (.ld1 (.t p20))), none⟩
(sE [] [] ⟨(some p22), (.call p184 [(.t p10), (.t p21)]), none⟩
(sN p3 ⟨(some p3), (.v (.mv (.t p22))), none⟩
sEnd)))))))))))))))))))))
(dSeq (dSeq (dOps (dV p23 (oMv (.t p3))
(dV p24 (oEq .p false (.t p23) (.c .nilp))
dE)))
(dCond (.t p24) (dSeq (dOps (dV p2 (oMv (.c (.bool false)))
dE))
dRet) dSkip))
(dSeq (dSeq (dOps (dV p25 (oMv (.t p3))
(dV p26 (oNchk (.t p25))
(dV p27 (oFa 7 (.t p26))
(dV p28 (oLd1 (.t p27))
(dV p29 (oEq .p false (.t p28) (.c .nilp))
dE))))))
(dCond (.t p29) (dSeq (dDraw (sN p30 ⟨(some p30), (.v (.mv (.t p0))), none⟩
(sN p31 ⟨(some p31), (.v (.mv (.t p3))), none⟩
(sN p32 ⟨(some p32), (.v (.mv (.t p0))), none⟩
(sN p33 ⟨(some p33), (.v (.nchk (.t p32))), none⟩
(sN p34 ⟨(some p34), (.v (.fa 8 (.t p33))), none⟩
(sN p35 ⟨(some p35), (.v (.fa 4 (.t p34))), none⟩
(sN p36 ⟨(some p36), (.v (.ld1 (.t p35))), none⟩
(sN p38 ⟨(some p38), (.v (.mv (.t p0))), none⟩
(sN p39 ⟨(some p39), (.v (.nchk (.t p38))), none⟩
(sN p40 ⟨(some p40), (.v (.fa 8 (.t p39))), none⟩
(sN p41 ⟨(some p41), (.v (.fa 5 (.t p40))), none⟩
(sN p42 ⟨(some p42), (.v (.ldN 2 (.t p41))), none⟩
(sE [] [(p42, ⟨(some p42), (.v (.ldN 2 (.t p41))), none⟩)] ⟨(some p37), (.call p289 [(.t p36)]), none⟩
(sE [] [] ⟨(some p43), (.call p288 [(.t p37), (.t p42)]), none⟩
(sE [] [] ⟨(some p44), (.call p266 [(.t p30), (.t p31), (.t p43)]), none⟩
sEnd))))))))))))))))
(dSeq (dOps (dV p2 (oMv (.c (.bool true)))
dE))
dRet)) dSkip))
(dSeq (dOps (dV p45 (oMv (.t p0))
(dV p46 (oMv (.t p3))
(dV p47 (oNchk (.t p46))
(dV p48 (oFa 8 (.t p47))
(dV p49 (oLdN 4 (.t p48))
(dC (some p50) p330 [(.t p45), (.t p49)]
dE)))))))
(dSeq (dDraw (sN p51 ⟨(some p51), (.v (.mv (.t p0))), none⟩
(sN p52 ⟨(some p52), (.v (.mv (.t p0))), none⟩
(sN p53 ⟨(some p53), (.v (.mv (.t p3))), none⟩
(sN p54 ⟨(some p54), (.v (.nchk (.t p53))), none⟩
(sN p55 ⟨(some p55), (.v (.fa 7 (.t p54))), none⟩
(sN p56 ⟨(some p56), (.v (.ld1 (.t p55))), none⟩
(sN p57 ⟨(some p57), (.v (.nchk (.t p56))), none⟩
(sN p58 ⟨(some p58), (.v (.fa 0 (.t p57))), none⟩
(sN p59 ⟨(some p59), (.v (.ldN 4 (.t p58))), none⟩
(sN p60 ⟨(some p60), (.v (.mv (.t p3))), none⟩
(sN p61 ⟨(some p61), (.v (.nchk (.t p60))), none⟩
(sN p62 ⟨(some p62), (.v (.fa 7 (.t p61))), none⟩
(sN p63 ⟨(some p63), (.v (.ld1 (.t p62))), none⟩
(sN p64 ⟨(some p64), (.v (.nchk (.t p63))), none⟩
(sN p65 ⟨(some p65), (.v (.fa 4 (.t p64))), none⟩
(sN p66 ⟨(some p66), (.v (.ld1 (.t p65))), none⟩
(sN p67 ⟨(some p67), (.v (.mv (.t p0))), none⟩
(sN p68 ⟨(some p68), (.v (.nchk (.t p67))), none⟩
(sN p69 ⟨(some p69), (.v (.fa 8 (.t p68))), none⟩
(sN p70 ⟨(some p70), (.v (.fa 4 (.t p69))), none⟩
(sN p71 ⟨(some p71), (.v (.ld1 (.t p70))), none⟩
(sE [] [(p56, ⟨(some p56), (.v (.ld1 (.t p55))), none⟩), (p59, ⟨(some p59), (.v (.ldN 4 (.t p58))), none⟩)] ⟨(some p72), (.call p331 [(.t p66), (.t p71)]), none⟩
(sN p73 ⟨(some p73), (.v (.nchk (.t p51))), none⟩
(sN p74 ⟨(some p74), (.v (.fa 8 (.t p73))), none⟩
(sN p75 ⟨(some p75), (.v (.fa 0 (.t p74))), none⟩
(sE [] [] ⟨none, (.v (.st 4 (.t p75) (.t p59))), none⟩
(sN p76 ⟨(some p76), (.v (.nchk (.t p52))), none⟩
(sN p77 ⟨(some p77), (.v (.fa 8 (.t p76))), none⟩
(sN p78 ⟨(some p78), (.v (.fa 4 (.t p77))), none⟩
(sE [] [] ⟨none, (.v (.st 1 (.t p78) (.t p72))), none⟩
sEnd)))))))))))))))))))))))))))))))
(dSeq (dOps (dV p2 (oMv (.c (.bool true)))
dE))
dRet))))))), [(.t p2)]⟩
def af301 : AF := ⟨(dSeq (dOps (dV p2 (oMv (.c (.bool false)))
dE))
(dSeq (dSeq (dOps (dV p3 (oMv (.t p0))
(dV p4 (oNchk (.t p3))
(dV p5 (oFa 8 (.t p4))
(dV p6 (oFa 4 (.t p5))
(dV p7 (oLd1 (.t p6))
(dV p8 (oEq .p false (.t p7) (.c .nilp))
dE)))))))
(dCond (.t p8) (dSeq (dOps (dV p2 (oMv (.c (.bool false)))
dE))
dRet) dSkip))
(dSeq (dOps (dV p9 (oMv (.t p0))
(dC (some p10) p332 [(.t p9)]
dE)))
(dSeq (dDraw (sN p11 ⟨(some p11), (.v (.mv (.t p0))), none⟩
(sN p12 ⟨(some p12), (.v (.mv (.t p0))), none⟩
(sN p13 ⟨(some p13), (.v (.nchk (.t p12))), none⟩
(sN p14 ⟨(some p14), (.v (.fa 8 (.t p13))), none⟩
(sN p15 ⟨(some p15), (.v (.fa 0 (.t p14))), none⟩
(sN p16 ⟨(some p16), (.v (.fa 0 (.t p15))), none⟩
(sN p17 ⟨(some p17), (.v (.fa 0 (.t p16))), none⟩
(sN p18 ⟨(some p18), (.v (.ldN 2 (.t p17))), none⟩
(sN p19 ⟨(some p19), (.v (.mv (.t p0))), none⟩
(sN p20 ⟨(some p20), (.v (.nchk (.t p19))), none⟩
(sN p21 ⟨(some p21), (.v (.fa 8 (.t p20))), none⟩
(sN p22 ⟨(some p22), (.v (.fa 4 (.t p21))), none⟩
(sN p23 ⟨(some p23), (.v (.ld1 (.t p22))), none⟩
(sN p24 ⟨(some p24), (.v (.nchk (.t p23))), none⟩
(sN p25 ⟨(some p25), (.v (.fa 0 (.t p24))), none⟩
(sN p26 ⟨(some p26), (.v (.ld1 (.t p25))), none⟩
(sN p28 ⟨(some p28), (.v (.mv (.t p0))), none⟩
(sN p29 ⟨(some p29), (.v (.nchk (.t p28))), none⟩
(sN p30 ⟨(some p30), (.v (.fa 8 (.t p29))), none⟩
(sN p31 ⟨(some p31), (.v (.fa 0 (.t p30))), none⟩
(sN p32 ⟨(some p32), (.v (.fa 0 (.t p31))), none⟩
(sN p33 ⟨(some p33), (.v (.fa 2 (.t p32))), none⟩
(sN p34 ⟨(some p34), (.v (.ld1 (.t p33))), none⟩
(sN p35 ⟨(some p35), (.v (.nchk (.t p34))), none⟩
(sN p36 ⟨(some p36), (.v (.fa 6 (.t p35))), none⟩
(sN p37 ⟨(some p37), (.v (.ld1 (.t p36))), none⟩
(sN p38 ⟨(some p38), (.v (.ia 1 (.t p37) (.c (.int .i64 (.ofNat 1))))), none⟩
(sN p39 ⟨(some p39), (.v (.ld1 (.t p38))), none⟩
(sN p41 ⟨(some p41), (.v (.mv (.t p0))), none⟩
(sN p42 ⟨(some p42), (.v (.nchk (.t p41))), none⟩
(sN p43 ⟨(some p43), (.v (.fa 8 (.t p42))), none⟩
(sN p44 ⟨(some p44), (.v (.fa 4 (.t p43))), none⟩
(sN p45 ⟨(some p45), (.v (.ld1 (.t p44))), none⟩
(sN p46 ⟨(some p46), (.v (.nchk (.t p45))), none⟩
(sN p47 ⟨(some p47), (.v (.fa 2 (.t p46))), none⟩
(sN p48 ⟨(some p48), (.v (.ld1 (.t p47))), none⟩
(sE [] [(p34, ⟨(some p34), (.v (.ld1 (.t p33))), none⟩), (p37, ⟨(some p37), (.v (.ld1 (.t p36))), none⟩), (p39, ⟨(some p39), (.v (.ld1 (.t p38))), none⟩), (p45, ⟨(some p45), (.v (.ld1 (.t p44))), none⟩), (p48, ⟨(some p48), (.v (.ld1 (.t p47))), none⟩)] ⟨(some p27), (.call p214 [(.t p18), (.t p26)]), none⟩
(sN p40 ⟨(some p40), (.v (.build [.nilp, (.int .i64 (.ofNat 0)), .nilp] [(0, 2, (.t p27)), (2, 1, (.t p39))])), none⟩
(sE [] [] ⟨(some p49), (.call p333 [(.t p11), (.t p40), (.t p48)]), none⟩
sEnd))))))))))))))))))))))))))))))))))))))))
(dSeq (dOps (dV p2 (oMv (.c (.bool true)))
dE))
dRet))))), [(.t p2)]⟩
def af302 : AF := ⟨(dSeq (dOps (dV p2 (oMv (.c (.bool false)))
dE))
(dSeq (dOps (dV p4 (oMv (.t p0))
(dV p5 (oMv (.t p0))
(dV p6 (oNchk (.t p5))
(dV p7 (oFa 8 (.t p6))
(dV p8 (oFa 0 (.t p7))
(dV p9 (oFa 0 (.t p8))
(dV p10 (oFa 2 (.t p9))
(dV p11 (oLd1 (.t p10))
(dC (some p12) p334 [(.t p4), (.t p11)]
(dV p3 (oMv (.t p12))
dE)))))))))))
(dSeq (dSeq (dOps (dV p13 (oMv (.t p3))
(dC (some p14) p335 [(.t p13)]
(dV p15 (oUn .not (.t p14))
dE))))
(dCond (.t p15) (dSeq (dOps (dV p2 (oMv (.c (.bool false)))
dE))
dRet) dSkip))
(dSeq (dOps (dV p16 (oMv (.t p0))
(dC (some p17) p332 [(.t p16)]
dE)))
(dSeq (dDraw (sN p18 ⟨(some p18), (.v (.mv (.t p0))), none⟩
(sN p19 ⟨(some p19), (.v (.mv (.t p3))), none⟩
(sN p22 ⟨(some p22), (.v (.mv (.t p0))), none⟩
(sN p23 ⟨(some p23), (.v (.nchk (.t p22))), none⟩
(sN p24 ⟨(some p24), (.v (.fa 8 (.t p23))), none⟩
(sN p25 ⟨(some p25), (.v (.fa 4 (.t p24))), none⟩
(sN p26 ⟨(some p26), (.v (.ld1 (.t p25))), none⟩
(sE [] [(p26, ⟨(some p26), (.v (.ld1 (.t p25))), none⟩)] ⟨(some p20), (.call p336 [(.t p19)]), none⟩
(sN p21 ⟨(some p21), (.v (.build [.nilp, (.int .i64 (.ofNat 0)), .nilp] [(2, 1, (.t p20))])), none⟩
(sE [] [] ⟨(some p27), (.call p333 [(.t p18), (.t p21), (.t p26)]), none⟩
sEnd)))))))))))
(dSeq (dOps (dV p2 (oMv (.c (.bool true)))
dE))
dRet)))))), [(.t p2)]⟩
def af303 : AF := ⟨(dSeq (dOps (dV p2 (oMv (.c (.bool false)))
dE))
(dSeq (dOps (dV p7 (oMv (.t p0))
(dV p8 (oMv (.t p0))
(dV p9 (oNchk (.t p8))
(dV p10 (oFa 8 (.t p9))
(dV p11 (oFa 0 (.t p10))
(dV p12 (oFa 0 (.t p11))
(dV p13 (oFa 2 (.t p12))
(dV p14 (oLd1 (.t p13))
(dC (some p15) p334 [(.t p7), (.t p14)]
(dV p3 (oMv (.t p15))
dE)))))))))))
(dSeq (dSeq (dOps (dV p16 (oMv (.t p3))
(dC (some p17) p337 [(.t p16)]
(dV p18 (oUn .not (.t p17))
dE))))
(dCond (.t p18) (dSeq (dOps (dV p2 (oMv (.c (.bool false)))
dE))
dRet) dSkip))
(dSeq (dDraw (sN p19 ⟨(some p19), (.v (.mv (.t p0))), none⟩
(sN p20 ⟨(some p20), (.v (.nchk (.t p19))), none⟩
(sN p21 ⟨(some p21), (.v (.fa 8 (.t p20))), none⟩
(sN p22 ⟨(some p22), (.v (.fa 4 (.t p21))), none⟩
(sN p23 ⟨(some p23), (.v (.ld1 (.t p22))), none⟩
(sN p24 ⟨(some p24), (.v (.mv (.t p3))), none⟩
(sN p25 ⟨(some p25), (.v (.nchk (.t p24))), none⟩
(sN p26 ⟨(some p26), (.v (.fa 24 (.t p25))), none⟩
(sN p27 ⟨(some p27), (.v (.ld1 (.t p26))), none⟩
(sE [] [(p23, ⟨(some p23), (.v (.ld1 (.t p22))), none⟩)] ⟨(some p28), (.call p339 [(.t p27)]), none⟩
(sE [] [] ⟨(some p29), (.call p338 [(.t p23), (.t p28)]), none⟩
(sN p4 ⟨(some p4), (.v (.mv (.t p29))), none⟩
sEnd)))))))))))))
(dSeq (dSeq (dOps (dV p30 (oMv (.t p4))
(dV p31 (oEq .p false (.t p30) (.c .nilp))
dE)))
(dCond (.t p31) (dSeq (dOps (dV p2 (oMv (.c (.bool false)))
dE))
dRet) dSkip))
(dSeq (dSeq (dOps (dV p32 (oMv (.t p0))
(dV p33 (oMv (.t p4))
(dV p34 (oNchk (.t p33))
(dV p35 (oFa 0 (.t p34))
(dV p36 (oLd1 (.t p35))
(dC (some p37) p340 [(.t p32), (.t p36)]
dE)))))))
(dCond (.t p37) (dSeq (dOps (dV p2 (oMv (.c (.bool true)))
dE))
dRet) dSkip))
(dSeq (dDraw (sN p39 ⟨(some p39), (.v (.mv (.t p0))), none⟩
(sN p40 ⟨(some p40), (.v (.mv (.t p4))), none⟩
(sN p41 ⟨(some p41), (.v (.nchk (.t p40))), none⟩
(sN p42 ⟨(some p42), (.v (.fa 0 (.t p41))), none⟩
(sN p43 ⟨(some p43), (.v (.ld1 (.t p42))), none⟩
(sN p44 ⟨(some p44), (.v (.nchk (.t p43))), none⟩
(sN p45 ⟨(some p45), (.v (.fa 7 (.t p44))), none⟩
(sN p46 ⟨(some p46), (.v (.ld1 (.t p45))), none⟩
(sN p47 ⟨(some p47), (.v (.mv (.t p3))), none⟩
(sN p48 ⟨(some p48), (.v (.nchk (.t p47))), none⟩
(sN p49 ⟨(some p49), (.v (.fa 24 (.t p48))), none⟩
(sN p50 ⟨(some p50), (.v (.ld1 (.t p49))), none⟩
(sE [] [] ⟨(some p51), (.call p341 [(.t p39), (.t p46), (.t p50)]), none⟩
(sN p38 ⟨(some p38), (.v (.mv (.t p51))), none⟩
(sN p52 ⟨(some p52), (.v (.ext (.t p38) 0)), none⟩
(sN p53 ⟨(some p53), (.v (.ext (.t p38) 1)), none⟩
(sN p5 ⟨(some p5), (.v (.mv (.t p52))), none⟩
(sN p6 ⟨(some p6), (.v (.mv (.t p53))), none⟩
sEnd)))))))))))))))))))
(dSeq (dSeq (dOps (dV p54 (oMv (.t p6))
(dV p55 (oUn .not (.t p54))
dE)))
(dCond (.t p55) (dSeq (dOps (dV p2 (oMv (.c (.bool false)))
dE))
dRet) dSkip))
(dSeq (dOps (dV p56 (oMv (.t p0))
(dC (some p57) p332 [(.t p56)]
dE)))
(dSeq (dDraw (sN p58 ⟨(some p58), (.v (.mv (.t p0))), none⟩
(sN p59 ⟨(some p59), (.v (.mv (.t p3))), none⟩
(sN p60 ⟨(some p60), (.v (.nchk (.t p59))), none⟩
(sN p61 ⟨(some p61), (.v (.fa 24 (.t p60))), none⟩
(sN p62 ⟨(some p62), (.v (.ld1 (.t p61))), none⟩
(sN p63 ⟨(some p63), (.v (.mv (.t p0))), none⟩
(sN p64 ⟨(some p64), (.v (.nchk (.t p63))), none⟩
(sN p65 ⟨(some p65), (.v (.fa 8 (.t p64))), none⟩
(sN p66 ⟨(some p66), (.v (.fa 4 (.t p65))), none⟩
(sN p67 ⟨(some p67), (.v (.ld1 (.t p66))), none⟩
(sN p68 ⟨(some p68), (.v (.mv (.t p4))), none⟩
(sN p69 ⟨(some p69), (.v (.nchk (.t p68))), none⟩
(sN p70 ⟨(some p70), (.v (.fa 0 (.t p69))), none⟩
(sN p71 ⟨(some p71), (.v (.ld1 (.t p70))), none⟩
(sN p72 ⟨(some p72), (.v (.nchk (.t p71))), none⟩
(sN p73 ⟨(some p73), (.v (.fa 7 (.t p72))), none⟩
(sN p74 ⟨(some p74), (.v (.ld1 (.t p73))), none⟩
(sN p75 ⟨(some p75), (.v (.nchk (.t p74))), none⟩
(sN p76 ⟨(some p76), (.v (.fa 4 (.t p75))), none⟩
(sN p77 ⟨(some p77), (.v (.ld1 (.t p76))), none⟩
(sN p79 ⟨(some p79), (.v (.mv (.t p3))), none⟩
(sN p80 ⟨(some p80), (.v (.mv (.t p5))), none⟩
(sN p83 ⟨(some p83), (.v (.mv (.t p4))), none⟩
(sN p84 ⟨(some p84), (.v (.nchk (.t p83))), none⟩
(sN p85 ⟨(some p85), (.v (.fa 2 (.t p84))), none⟩
(sN p86 ⟨(some p86), (.v (.ld1 (.t p85))), none⟩
(sE [] [(p86, ⟨(some p86), (.v (.ld1 (.t p85))), none⟩)] ⟨(some p78), (.call p342 [(.t p62), (.t p67), (.t p77)]), none⟩
(sE [] [(p86, ⟨(some p86), (.v (.ld1 (.t p85))), none⟩)] ⟨(some p81), (.call p343 [(.t p79), (.t p80)]), none⟩
(sN p82 ⟨(some p82), (.v (.build [.nilp, (.int .i64 (.ofNat 0)), .nilp] [(0, 2, (.t p78)), (2, 1, (.t p81))])), none⟩
(sE [] [] ⟨(some p87), (.call p333 [(.t p58), (.t p82), (.t p86)]), none⟩
sEnd)))))))))))))))))))))))))))))))
(dSeq (dOps (dV p2 (oMv (.c (.bool true)))
dE))
dRet))))))))))), [(.t p2)]⟩
def af304 : AF := ⟨(dSeq (dOps (dV p4 (oMv (.c (.bool false)))
dE))
(dSeq (dSeq (dOps (dV p6 (oMv (.t p0))
(dV p7 (oNchk (.t p6))
(dV p8 (oFa 8 (.t p7))
(dV p9 (oFa 0 (.t p8))
(dV p10 (oFa 3 (.t p9))
(dV p11 (oLd1 (.t p10))
(dV p12 (oEq .p false (.t p11) (.c .nilp))
dE))))))))
(dCond (.t p12) (dOps (dV p13 (oMv (.t p0))
(dV p14 (oMv (.t p0))
(dV p15 (oNchk (.t p14))
(dV p16 (oFa 8 (.t p15))
(dV p17 (oFa 0 (.t p16))
(dV p18 (oFa 0 (.t p17))
(dV p19 (oLdN 3 (.t p18))
(dC (some p20) p218 [(.t p19), (.c (.int .i64 (.ofNat 0)))]
(dV p21 (oNchk (.t p13))
(dV p22 (oFa 8 (.t p21))
(dV p23 (oFa 0 (.t p22))
(dV p24 (oFa 3 (.t p23))
(dU (oSt 1 (.t p24) (.t p20))
dE)))))))))))))) dSkip))
(dSeq (dSeq (dOps (dV p25 (oMv (.t p0))
(dV p26 (oMv (.t p0))
(dV p27 (oNchk (.t p26))
(dV p28 (oFa 8 (.t p27))
(dV p29 (oFa 0 (.t p28))
(dV p30 (oFa 3 (.t p29))
(dV p31 (oLd1 (.t p30))
(dC (some p32) p340 [(.t p25), (.t p31)]
dE)))))))))
(dCond (.t p32) (dSeq (dOps (dV p4 (oMv (.c (.bool true)))
dE))
dRet) dSkip))
(dSeq (dOps (dV p33 (oMv (.t p0))
(dV p34 (oNchk (.t p33))
(dV p35 (oFa 8 (.t p34))
(dV p36 (oFa 0 (.t p35))
(dV p37 (oFa 3 (.t p36))
(dV p38 (oLd1 (.t p37))
(dV p39 (oNchk (.t p38))
(dV p40 (oFa 7 (.t p39))
(dV p41 (oLd1 (.t p40))
(dV p5 (oMv (.t p41))
dE)))))))))))
(dSeq (dSeq (dOps (dV p42 (oMv (.t p5))
(dV p43 (oNchk (.t p42))
(dV p44 (oFa 0 (.t p43))
(dV p45 (oFa 0 (.t p44))
(dV p46 (oFa 2 (.t p45))
(dV p47 (oLd1 (.t p46))
(dV p48 (oNchk (.t p47))
(dV p49 (oFa 0 (.t p48))
(dV p50 (oFa 0 (.t p49))
(dV p51 (oLd1 (.t p50))
(dV p52 (oAr .neq (.t p51) (.c (.int .i64 (.ofNat 7))))
(dV p53 (oMv (.t p52))
(dG p53 false (some p54) (dV p54 (oMv (.t p5)))
(dG p53 false (some p55) (dV p55 (oNchk (.t p54)))
(dG p53 false (some p56) (dV p56 (oFa 4 (.t p55)))
(dG p53 false (some p57) (dV p57 (oLd1 (.t p56)))
(dG p53 false (some p58) (dV p58 (oEq .p true (.t p57) (.c .nilp)))
(dV p59 (oPick (.t p53) (.c (.bool true)) (.t p58))
dE)))))))))))))))))))
(dCond (.t p59) (dSeq (dOps (dV p4 (oMv (.c (.bool false)))
dE))
dRet) dSkip))
(dSeq (dOps (dV p60 (oMv (.t p0))
(dC (some p61) p332 [(.t p60)]
dE)))
(dSeq (dDraw (sN p62 ⟨(some p62), (.v (.mv (.t p0))), none⟩
(sN p63 ⟨(some p63), (.v (.mv (.t p5))), none⟩
(sN p64 ⟨(some p64), (.v (.nchk (.t p63))), none⟩
(sN p65 ⟨(some p65), (.v (.fa 0 (.t p64))), none⟩
(sN p66 ⟨(some p66), (.v (.fa 0 (.t p65))), none⟩
(sN p67 ⟨(some p67), (.v (.fa 0 (.t p66))), none⟩
(sN p68 ⟨(some p68), (.v (.ldN 2 (.t p67))), none⟩
(sN p69 ⟨(some p69), (.v (.mv (.t p5))), none⟩
(sN p70 ⟨(some p70), (.v (.nchk (.t p69))), none⟩
(sN p71 ⟨(some p71), (.v (.fa 0 (.t p70))), none⟩
(sN p72 ⟨(some p72), (.v (.fa 0 (.t p71))), none⟩
(sN p73 ⟨(some p73), (.v (.fa 2 (.t p72))), none⟩
(sN p74 ⟨(some p74), (.v (.ld1 (.t p73))), none⟩
(sN p75 ⟨(some p75), (.v (.nchk (.t p74))), none⟩
(sN p76 ⟨(some p76), (.v (.fa 6 (.t p75))), none⟩
(sN p77 ⟨(some p77), (.v (.ld1 (.t p76))), none⟩
(sN p78 ⟨(some p78), (.v (.mv (.t p1))), none⟩
(sN p79 ⟨(some p79), (.v (.ia 1 (.t p77) (.t p78))), none⟩
(sN p80 ⟨(some p80), (.v (.ld1 (.t p79))), none⟩
(sN p81 ⟨(some p81), (.v (.build [.nilp, (.int .i64 (.ofNat 0)), .nilp] [(0, 2, (.t p68)), (2, 1, (.t p80))])), none⟩
(sN p82 ⟨(some p82), (.v (.mv (.t p0))), none⟩
(sN p83 ⟨(some p83), (.v (.nchk (.t p82))), none⟩
(sN p84 ⟨(some p84), (.v (.fa 8 (.t p83))), none⟩
(sN p85 ⟨(some p85), (.v (.fa 4 (.t p84))), none⟩
(sN p86 ⟨(some p86), (.v (.ld1 (.t p85))), none⟩
(sE [] [] ⟨(some p87), (.call p333 [(.t p62), (.t p81), (.t p86)]), none⟩
sEnd)))))))))))))))))))))))))))
(dSeq (dOps (dV p4 (oMv (.c (.bool true)))
dE))
dRet)))))))), [(.t p4)]⟩
def af305 : AF := ⟨(dSeq (dOps (dV p10 (oMv (.t p1))
(dV p11 (oAr .add (.t p10) (.c (.int .i64 (.ofNat 1))))
(dV p8 (oMv (.t p11))
dE))))
(dBlock 0 (dLoop (dSeq (dSeq (dOps (dV p12 (oMv (.t p8))
(dV p13 (oMv (.t p2))
(dV p14 (oAr .lss (.t p12) (.t p13))
dE))))
(dCond (.t p14) dSkip (dExit 0)))
(dSeq (dBlock 1 (dSeq (dOps (dV p17 (oMv (.t p8))
(dV p9 (oMv (.t p17))
dE)))
(dBlock 2 (dLoop (dSeq (dSeq (dDraw (sN p18 ⟨(some p18), (.v (.mv (.t p9))), none⟩
(sN p19 ⟨(some p19), (.v (.mv (.t p1))), none⟩
(sN p20 ⟨(some p20), (.v (.ar .gtr (.t p18) (.t p19))), none⟩
(sN p21 ⟨(some p21), (.v (.mv (.t p20))), none⟩
(sN p22 ⟨(some p22), (.v (.mv (.t p3))), (some (p21, true))⟩
(sN p23 ⟨(some p23), (.v (.mv (.t p0))), (some (p21, true))⟩
(sN p24 ⟨(some p24), (.v (.mv (.t p9))), (some (p21, true))⟩
(sN p25 ⟨(some p25), (.v (.ia 2 (.t p23) (.t p24))), (some (p21, true))⟩
(sN p26 ⟨(some p26), (.v (.ldN 2 (.t p25))), (some (p21, true))⟩
(sN p27 ⟨(some p27), (.v (.mv (.t p0))), (some (p21, true))⟩
(sN p28 ⟨(some p28), (.v (.mv (.t p9))), (some (p21, true))⟩
(sN p29 ⟨(some p29), (.v (.ar .sub (.t p28) (.c (.int .i64 (.ofNat 1))))), (some (p21, true))⟩
(sN p30 ⟨(some p30), (.v (.ia 2 (.t p27) (.t p29))), (some (p21, true))⟩
(sN p31 ⟨(some p31), (.v (.ldN 2 (.t p30))), (some (p21, true))⟩
(sE [] [] ⟨(some p32), (.callv (.t p22) [(.t p26), (.t p31)]), (some (p21, true))⟩
(sN p33 ⟨(some p33), (.v (.ar .lss (.t p32) (.c (.int .i64 (.ofNat 0))))), (some (p21, true))⟩
(sN p34 ⟨(some p34), (.v (.pick (.t p21) (.t p33) (.c (.bool false)))), none⟩
sEnd))))))))))))))))))
(dCond (.t p34) dSkip (dExit 2)))
(dSeq (dBlock 3 (dDraw (sN p37 ⟨(some p37), (.v (.mv (.t p0))), none⟩
(sN p38 ⟨(some p38), (.v (.mv (.t p9))), none⟩
(sN p39 ⟨(some p39), (.v (.mv (.t p0))), none⟩
(sN p40 ⟨(some p40), (.v (.mv (.t p9))), none⟩
(sN p41 ⟨(some p41), (.v (.ar .sub (.t p40) (.c (.int .i64 (.ofNat 1))))), none⟩
(sN p42 ⟨(some p42), (.v (.mv (.t p0))), none⟩
(sN p43 ⟨(some p43), (.v (.mv (.t p9))), none⟩
(sN p44 ⟨(some p44), (.v (.ar .sub (.t p43) (.c (.int .i64 (.ofNat 1))))), none⟩
(sN p45 ⟨(some p45), (.v (.ia 2 (.t p42) (.t p44))), none⟩
(sN p46 ⟨(some p46), (.v (.ldN 2 (.t p45))), none⟩
(sN p47 ⟨(some p47), (.v (.mv (.t p0))), none⟩
(sN p48 ⟨(some p48), (.v (.mv (.t p9))), none⟩
(sN p49 ⟨(some p49), (.v (.ia 2 (.t p47) (.t p48))), none⟩
(sN p50 ⟨(some p50), (.v (.ldN 2 (.t p49))), none⟩
(sN p51 ⟨(some p51), (.v (.ia 2 (.t p37) (.t p38))), none⟩
(sE [] [] ⟨none, (.v (.st 2 (.t p51) (.t p46))), none⟩
(sN p52 ⟨(some p52), (.v (.ia 2 (.t p39) (.t p41))), none⟩
(sE [] [] ⟨none, (.v (.st 2 (.t p52) (.t p50))), none⟩
sEnd))))))))))))))))))))
(dOps (dV p35 (oMv (.t p9))
(dV p36 (oAr .sub (.t p35) (.c (.int .i64 (.ofNat 1))))
(dV p9 (oMv (.t p36))
dE))))))))))
(dOps (dV p15 (oMv (.t p8))
(dV p16 (oAr .add (.t p15) (.c (.int .i64 (.ofNat 1))))
(dV p8 (oMv (.t p16))
dE))))))))), []⟩
def af306 : AF := ⟨(dSeq (dOps (dV p13 (oMv (.t p1))
(dV p8 (oMv (.t p13))
dE)))
(dSeq (dOps (dV p9 (oMv (.c (.int .i64 (.ofNat 0))))
dE))
(dSeq (dOps (dV p14 (oMv (.t p2))
(dV p15 (oMv (.t p1))
(dV p16 (oAr .sub (.t p14) (.t p15))
(dV p10 (oMv (.t p16))
dE)))))
(dSeq (dSeq (dOps (dV p17 (oMv (.t p10))
(dV p18 (oAr .sub (.t p17) (.c (.int .i64 (.ofNat 1))))
(dV p19 (oAr .quo (.t p18) (.c (.int .i64 (.ofNat 2))))
(dV p11 (oMv (.t p19))
dE)))))
(dBlock 0 (dLoop (dSeq (dSeq (dOps (dV p20 (oMv (.t p11))
(dV p21 (oAr .geq (.t p20) (.c (.int .i64 (.ofNat 0))))
dE)))
(dCond (.t p21) dSkip (dExit 0)))
(dSeq (dBlock 1 (dOps (dV p24 (oMv (.t p0))
(dV p25 (oMv (.t p11))
(dV p26 (oMv (.t p10))
(dV p27 (oMv (.t p8))
(dV p28 (oMv (.t p3))
(dC (some p29) p344 [(.t p24), (.t p25), (.t p26), (.t p27), (.t p28)]
dE))))))))
(dOps (dV p22 (oMv (.t p11))
(dV p23 (oAr .sub (.t p22) (.c (.int .i64 (.ofNat 1))))
(dV p11 (oMv (.t p23))
dE)))))))))
(dSeq (dOps (dV p30 (oMv (.t p10))
(dV p31 (oAr .sub (.t p30) (.c (.int .i64 (.ofNat 1))))
(dV p12 (oMv (.t p31))
dE))))
(dBlock 2 (dLoop (dSeq (dSeq (dOps (dV p32 (oMv (.t p12))
(dV p33 (oAr .geq (.t p32) (.c (.int .i64 (.ofNat 0))))
dE)))
(dCond (.t p33) dSkip (dExit 2)))
(dSeq (dBlock 3 (dSeq (dDraw (sN p36 ⟨(some p36), (.v (.mv (.t p0))), none⟩
(sN p37 ⟨(some p37), (.v (.mv (.t p8))), none⟩
(sN p38 ⟨(some p38), (.v (.mv (.t p0))), none⟩
(sN p39 ⟨(some p39), (.v (.mv (.t p8))), none⟩
(sN p40 ⟨(some p40), (.v (.mv (.t p12))), none⟩
(sN p41 ⟨(some p41), (.v (.ar .add (.t p39) (.t p40))), none⟩
(sN p42 ⟨(some p42), (.v (.mv (.t p0))), none⟩
(sN p43 ⟨(some p43), (.v (.mv (.t p8))), none⟩
(sN p44 ⟨(some p44), (.v (.mv (.t p12))), none⟩
(sN p45 ⟨(some p45), (.v (.ar .add (.t p43) (.t p44))), none⟩
(sN p46 ⟨(some p46), (.v (.ia 2 (.t p42) (.t p45))), none⟩
(sN p47 ⟨(some p47), (.v (.ldN 2 (.t p46))), none⟩
(sN p48 ⟨(some p48), (.v (.mv (.t p0))), none⟩
(sN p49 ⟨(some p49), (.v (.mv (.t p8))), none⟩
(sN p50 ⟨(some p50), (.v (.ia 2 (.t p48) (.t p49))), none⟩
(sN p51 ⟨(some p51), (.v (.ldN 2 (.t p50))), none⟩
(sN p52 ⟨(some p52), (.v (.ia 2 (.t p36) (.t p37))), none⟩
(sE [] [] ⟨none, (.v (.st 2 (.t p52) (.t p47))), none⟩
(sN p53 ⟨(some p53), (.v (.ia 2 (.t p38) (.t p41))), none⟩
(sE [] [] ⟨none, (.v (.st 2 (.t p53) (.t p51))), none⟩
sEnd)))))))))))))))))))))
(dOps (dV p54 (oMv (.t p0))
(dV p55 (oMv (.t p9))
(dV p56 (oMv (.t p12))
(dV p57 (oMv (.t p8))
(dV p58 (oMv (.t p3))
(dC (some p59) p344 [(.t p54), (.t p55), (.t p56), (.t p57), (.t p58)]
dE)))))))))
(dOps (dV p34 (oMv (.t p12))
(dV p35 (oAr .sub (.t p34) (.c (.int .i64 (.ofNat 1))))
(dV p12 (oMv (.t p35))
dE))))))))))))), []⟩
def af307 : AF := ⟨(dSeq (dOps (dV p13 (oMv (.t p2))
(dV p14 (oMv (.t p1))
(dV p15 (oAr .sub (.t p13) (.t p14))
(dV p8 (oMv (.t p15))
dE)))))
(dSeq (dOps (dV p16 (oMv (.t p8))
(dV p17 (oAr .geq (.t p16) (.c (.int .i64 (.ofNat 8))))
dE)))
(dCond (.t p17) (dSeq (dOps (dV p18 (oMv (.t p8))
(dV p19 (oCvI .u64 (.t p18))
(dV p9 (oNew [(.int .u64 (.ofNat 0))] 482)
(dU (oSt 1 (.t p9) (.t p19))
dE)))))
(dSeq (dOps (dV p20 (oMv (.t p8))
(dC (some p21) p345 [(.t p20)]
(dV p10 (oMv (.t p21))
dE))))
(dSeq (dOps (dV p22 (oMv (.t p1))
(dV p23 (oMv (.t p8))
(dV p24 (oAr .quo (.t p23) (.c (.int .i64 (.ofNat 4))))
(dV p25 (oAr .mul (.t p24) (.c (.int .i64 (.ofNat 2))))
(dV p26 (oAr .add (.t p22) (.t p25))
(dV p27 (oAr .sub (.t p26) (.c (.int .i64 (.ofNat 1))))
(dV p11 (oMv (.t p27))
dE))))))))
(dBlock 0 (dLoop (dSeq (dSeq (dOps (dV p28 (oMv (.t p11))
(dV p29 (oMv (.t p1))
(dV p30 (oMv (.t p8))
(dV p31 (oAr .quo (.t p30) (.c (.int .i64 (.ofNat 4))))
(dV p32 (oAr .mul (.t p31) (.c (.int .i64 (.ofNat 2))))
(dV p33 (oAr .add (.t p29) (.t p32))
(dV p34 (oAr .add (.t p33) (.c (.int .i64 (.ofNat 1))))
(dV p35 (oAr .leq (.t p28) (.t p34))
dE)))))))))
(dCond (.t p35) dSkip (dExit 0)))
(dSeq (dBlock 1 (dSeq (dOps (dC (some p38) p346 [(.t p9)]
(dV p39 (oMv (.t p10))
(dV p40 (oAr .sub (.t p39) (.c (.int .u64 (.ofNat 1))))
(dV p41 (oAr .and (.t p38) (.t p40))
(dV p42 (oCvI .i64 (.t p41))
(dV p12 (oMv (.t p42))
dE)))))))
(dSeq (dSeq (dOps (dV p43 (oMv (.t p12))
(dV p44 (oMv (.t p8))
(dV p45 (oAr .geq (.t p43) (.t p44))
dE))))
(dCond (.t p45) (dOps (dV p46 (oMv (.t p12))
(dV p47 (oMv (.t p8))
(dV p48 (oAr .sub (.t p46) (.t p47))
(dV p12 (oMv (.t p48))
dE))))) dSkip))
(dDraw (sN p49 ⟨(some p49), (.v (.mv (.t p0))), none⟩
(sN p50 ⟨(some p50), (.v (.mv (.t p11))), none⟩
(sN p51 ⟨(some p51), (.v (.mv (.t p0))), none⟩
(sN p52 ⟨(some p52), (.v (.mv (.t p1))), none⟩
(sN p53 ⟨(some p53), (.v (.mv (.t p12))), none⟩
(sN p54 ⟨(some p54), (.v (.ar .add (.t p52) (.t p53))), none⟩
(sN p55 ⟨(some p55), (.v (.mv (.t p0))), none⟩
(sN p56 ⟨(some p56), (.v (.mv (.t p1))), none⟩
(sN p57 ⟨(some p57), (.v (.mv (.t p12))), none⟩
(sN p58 ⟨(some p58), (.v (.ar .add (.t p56) (.t p57))), none⟩
(sN p59 ⟨(some p59), (.v (.ia 2 (.t p55) (.t p58))), none⟩
(sN p60 ⟨(some p60), (.v (.ldN 2 (.t p59))), none⟩
(sN p61 ⟨(some p61), (.v (.mv (.t p0))), none⟩
(sN p62 ⟨(some p62), (.v (.mv (.t p11))), none⟩
(sN p63 ⟨(some p63), (.v (.ia 2 (.t p61) (.t p62))), none⟩
(sN p64 ⟨(some p64), (.v (.ldN 2 (.t p63))), none⟩
(sN p65 ⟨(some p65), (.v (.ia 2 (.t p49) (.t p50))), none⟩
(sE [] [] ⟨none, (.v (.st 2 (.t p65) (.t p60))), none⟩
(sN p66 ⟨(some p66), (.v (.ia 2 (.t p51) (.t p54))), none⟩
(sE [] [] ⟨none, (.v (.st 2 (.t p66) (.t p64))), none⟩
sEnd))))))))))))))))))))))))
(dOps (dV p36 (oMv (.t p11))
(dV p37 (oAr .add (.t p36) (.c (.int .i64 (.ofNat 1))))
(dV p11 (oMv (.t p37))
dE))))))))))) dSkip))), []⟩
def af308 : AF := ⟨(dSeq (dOps (dV p8 (oMv (.c (.int .i64 (.ofNat 0))))
(dV p9 (oMv (.c (.int .i64 (.ofNat 0))))
dE)))
(dSeq (dOps (dV p15 (oMv (.t p2))
(dV p16 (oMv (.t p1))
(dV p17 (oAr .sub (.t p15) (.t p16))
(dV p10 (oMv (.t p17))
dE)))))
(dSeq (dOps (dV p11 (oNew [(.int .i64 (.ofNat 0))] 3)
dE))
(dSeq (dOps (dV p18 (oMv (.t p1))
(dV p19 (oMv (.t p10))
(dV p20 (oAr .quo (.t p19) (.c (.int .i64 (.ofNat 4))))
(dV p21 (oAr .mul (.t p20) (.c (.int .i64 (.ofNat 1))))
(dV p22 (oAr .add (.t p18) (.t p21))
(dV p12 (oMv (.t p22))
dE)))))))
(dSeq (dOps (dV p23 (oMv (.t p1))
(dV p24 (oMv (.t p10))
(dV p25 (oAr .quo (.t p24) (.c (.int .i64 (.ofNat 4))))
(dV p26 (oAr .mul (.t p25) (.c (.int .i64 (.ofNat 2))))
(dV p27 (oAr .add (.t p23) (.t p26))
(dV p13 (oMv (.t p27))
dE)))))))
(dSeq (dOps (dV p28 (oMv (.t p1))
(dV p29 (oMv (.t p10))
(dV p30 (oAr .quo (.t p29) (.c (.int .i64 (.ofNat 4))))
(dV p31 (oAr .mul (.t p30) (.c (.int .i64 (.ofNat 3))))
(dV p32 (oAr .add (.t p28) (.t p31))
(dV p14 (oMv (.t p32))
dE)))))))
(dSeq (dSeq (dOps (dV p33 (oMv (.t p10))
(dV p34 (oAr .geq (.t p33) (.c (.int .i64 (.ofNat 8))))
dE)))
(dCond (.t p34) (dSeq (dSeq (dOps (dV p35 (oMv (.t p10))
(dV p36 (oAr .geq (.t p35) (.c (.int .i64 (.ofNat 50))))
dE)))
(dCond (.t p36) (dSeq (dOps (dV p37 (oMv (.t p0))
(dV p38 (oMv (.t p12))
(dV p39 (oMv (.t p3))
(dC (some p40) p347 [(.t p37), (.t p38), (.t p11), (.t p39)]
(dV p12 (oMv (.t p40))
dE))))))
(dSeq (dOps (dV p41 (oMv (.t p0))
(dV p42 (oMv (.t p13))
(dV p43 (oMv (.t p3))
(dC (some p44) p347 [(.t p41), (.t p42), (.t p11), (.t p43)]
(dV p13 (oMv (.t p44))
dE))))))
(dOps (dV p45 (oMv (.t p0))
(dV p46 (oMv (.t p14))
(dV p47 (oMv (.t p3))
(dC (some p48) p347 [(.t p45), (.t p46), (.t p11), (.t p47)]
(dV p14 (oMv (.t p48))
dE)))))))) dSkip))
(dOps (dV p49 (oMv (.t p0))
(dV p50 (oMv (.t p12))
(dV p51 (oMv (.t p13))
(dV p52 (oMv (.t p14))
(dV p53 (oMv (.t p3))
(dC (some p54) p348 [(.t p49), (.t p50), (.t p51), (.t p52), (.t p11), (.t p53)]
(dV p13 (oMv (.t p54))
dE))))))))) dSkip))
(dSeq (dOps (dV p55 (oLd1 (.t p11))
dE))
(dBlock 0 (dSeq (dOps (dV p58 (oAr .eql (.t p55) (.c (.int .i64 (.ofNat 0))))
(dV p57 (oMv (.t p58))
dE)))
(dCond (.t p57) (dSeq (dOps (dV p59 (oMv (.t p13))
(dV p8 (oMv (.t p59))
(dV p9 (oMv (.c (.int .i64 (.ofNat 1))))
dE))))
dRet) (dSeq (dOps (dV p61 (oAr .eql (.t p55) (.c (.int .i64 (.ofNat 12))))
(dV p60 (oMv (.t p61))
dE)))
(dCond (.t p60) (dSeq (dOps (dV p62 (oMv (.t p13))
(dV p8 (oMv (.t p62))
(dV p9 (oMv (.c (.int .i64 (.ofNat 2))))
dE))))
dRet) (dSeq (dOps (dV p56 (oMv (.t p13))
(dV p8 (oMv (.t p56))
(dV p9 (oMv (.c (.int .i64 (.ofNat 0))))
dE))))
dRet)))))))))))))), [(.t p8), (.t p9)]⟩
def af309 : AF := ⟨(dSeq (dOps (dV p10 (oMv (.t p1))
(dV p8 (oMv (.t p10))
dE)))
(dSeq (dOps (dV p11 (oMv (.t p2))
(dV p12 (oAr .sub (.t p11) (.c (.int .i64 (.ofNat 1))))
(dV p9 (oMv (.t p12))
dE))))
(dBlock 0 (dLoop (dSeq (dSeq (dOps (dV p13 (oMv (.t p8))
(dV p14 (oMv (.t p9))
(dV p15 (oAr .lss (.t p13) (.t p14))
dE))))
(dCond (.t p15) dSkip (dExit 0)))
(dBlock 1 (dSeq (dDraw (sN p16 ⟨(some p16), (.v (.mv (.t p0))), none⟩
(sN p17 ⟨(some p17), (.v (.mv (.t p8))), none⟩
(sN p18 ⟨(some p18), (.v (.mv (.t p0))), none⟩
(sN p19 ⟨(some p19), (.v (.mv (.t p9))), none⟩
(sN p20 ⟨(some p20), (.v (.mv (.t p0))), none⟩
(sN p21 ⟨(some p21), (.v (.mv (.t p9))), none⟩
(sN p22 ⟨(some p22), (.v (.ia 2 (.t p20) (.t p21))), none⟩
(sN p23 ⟨(some p23), (.v (.ldN 2 (.t p22))), none⟩
(sN p24 ⟨(some p24), (.v (.mv (.t p0))), none⟩
(sN p25 ⟨(some p25), (.v (.mv (.t p8))), none⟩
(sN p26 ⟨(some p26), (.v (.ia 2 (.t p24) (.t p25))), none⟩
(sN p27 ⟨(some p27), (.v (.ldN 2 (.t p26))), none⟩
(sN p28 ⟨(some p28), (.v (.ia 2 (.t p16) (.t p17))), none⟩
(sE [] [] ⟨none, (.v (.st 2 (.t p28) (.t p23))), none⟩
(sN p29 ⟨(some p29), (.v (.ia 2 (.t p18) (.t p19))), none⟩
(sE [] [] ⟨none, (.v (.st 2 (.t p29) (.t p27))), none⟩
sEnd)))))))))))))))))
(dSeq (dOps (dV p30 (oMv (.t p8))
(dV p31 (oAr .add (.t p30) (.c (.int .i64 (.ofNat 1))))
(dV p8 (oMv (.t p31))
dE))))
(dOps (dV p32 (oMv (.t p9))
(dV p33 (oAr .sub (.t p32) (.c (.int .i64 (.ofNat 1))))
(dV p9 (oMv (.t p33))
dE)))))))))))), []⟩
def af310 : AF := ⟨(dSeq (dOps (dV p8 (oMv (.c (.bool false)))
dE))
(dSeq (dOps (dV p13 (oMv (.t p1))
(dV p14 (oAr .add (.t p13) (.c (.int .i64 (.ofNat 1))))
(dV p9 (oMv (.t p14))
dE))))
(dSeq (dSeq (dOps (dV p10 (oMv (.c (.int .i64 (.ofNat 0))))
dE))
(dBlock 0 (dLoop (dSeq (dSeq (dOps (dV p15 (oMv (.t p10))
(dV p16 (oAr .lss (.t p15) (.c (.int .i64 (.ofNat 5))))
dE)))
(dCond (.t p16) dSkip (dExit 0)))
(dSeq (dBlock 1 (dSeq (dBlock 2 (dLoop (dSeq (dSeq (dDraw (sN p19 ⟨(some p19), (.v (.mv (.t p9))), none⟩
(sN p20 ⟨(some p20), (.v (.mv (.t p2))), none⟩
(sN p21 ⟨(some p21), (.v (.ar .lss (.t p19) (.t p20))), none⟩
(sN p22 ⟨(some p22), (.v (.mv (.t p21))), none⟩
(sN p23 ⟨(some p23), (.v (.mv (.t p3))), (some (p22, true))⟩
(sN p24 ⟨(some p24), (.v (.mv (.t p0))), (some (p22, true))⟩
(sN p25 ⟨(some p25), (.v (.mv (.t p9))), (some (p22, true))⟩
(sN p26 ⟨(some p26), (.v (.ia 2 (.t p24) (.t p25))), (some (p22, true))⟩
(sN p27 ⟨(some p27), (.v (.ldN 2 (.t p26))), (some (p22, true))⟩
(sN p28 ⟨(some p28), (.v (.mv (.t p0))), (some (p22, true))⟩
(sN p29 ⟨(some p29), (.v (.mv (.t p9))), (some (p22, true))⟩
(sN p30 ⟨(some p30), (.v (.ar .sub (.t p29) (.c (.int .i64 (.ofNat 1))))), (some (p22, true))⟩
(sN p31 ⟨(some p31), (.v (.ia 2 (.t p28) (.t p30))), (some (p22, true))⟩
(sN p32 ⟨(some p32), (.v (.ldN 2 (.t p31))), (some (p22, true))⟩
(sE [] [] ⟨(some p33), (.callv (.t p23) [(.t p27), (.t p32)]), (some (p22, true))⟩
(sN p34 ⟨(some p34), (.v (.ar .lss (.t p33) (.c (.int .i64 (.ofNat 0))))), (some (p22, true))⟩
(sN p35 ⟨(some p35), (.v (.un .not (.t p34))), (some (p22, true))⟩
(sN p36 ⟨(some p36), (.v (.pick (.t p22) (.t p35) (.c (.bool false)))), none⟩
sEnd)))))))))))))))))))
(dCond (.t p36) dSkip (dExit 2)))
(dBlock 3 (dOps (dV p37 (oMv (.t p9))
(dV p38 (oAr .add (.t p37) (.c (.int .i64 (.ofNat 1))))
(dV p9 (oMv (.t p38))
dE))))))))
(dSeq (dSeq (dOps (dV p39 (oMv (.t p9))
(dV p40 (oMv (.t p2))
(dV p41 (oAr .eql (.t p39) (.t p40))
dE))))
(dCond (.t p41) (dSeq (dOps (dV p8 (oMv (.c (.bool true)))
dE))
dRet) dSkip))
(dSeq (dSeq (dOps (dV p42 (oMv (.t p2))
(dV p43 (oMv (.t p1))
(dV p44 (oAr .sub (.t p42) (.t p43))
(dV p45 (oAr .lss (.t p44) (.c (.int .i64 (.ofNat 50))))
dE)))))
(dCond (.t p45) (dSeq (dOps (dV p8 (oMv (.c (.bool false)))
dE))
dRet) dSkip))
(dSeq (dDraw (sN p46 ⟨(some p46), (.v (.mv (.t p0))), none⟩
(sN p47 ⟨(some p47), (.v (.mv (.t p9))), none⟩
(sN p48 ⟨(some p48), (.v (.mv (.t p0))), none⟩
(sN p49 ⟨(some p49), (.v (.mv (.t p9))), none⟩
(sN p50 ⟨(some p50), (.v (.ar .sub (.t p49) (.c (.int .i64 (.ofNat 1))))), none⟩
(sN p51 ⟨(some p51), (.v (.mv (.t p0))), none⟩
(sN p52 ⟨(some p52), (.v (.mv (.t p9))), none⟩
(sN p53 ⟨(some p53), (.v (.ar .sub (.t p52) (.c (.int .i64 (.ofNat 1))))), none⟩
(sN p54 ⟨(some p54), (.v (.ia 2 (.t p51) (.t p53))), none⟩
(sN p55 ⟨(some p55), (.v (.ldN 2 (.t p54))), none⟩
(sN p56 ⟨(some p56), (.v (.mv (.t p0))), none⟩
(sN p57 ⟨(some p57), (.v (.mv (.t p9))), none⟩
(sN p58 ⟨(some p58), (.v (.ia 2 (.t p56) (.t p57))), none⟩
(sN p59 ⟨(some p59), (.v (.ldN 2 (.t p58))), none⟩
(sN p60 ⟨(some p60), (.v (.ia 2 (.t p46) (.t p47))), none⟩
(sE [] [] ⟨none, (.v (.st 2 (.t p60) (.t p55))), none⟩
(sN p61 ⟨(some p61), (.v (.ia 2 (.t p48) (.t p50))), none⟩
(sE [] [] ⟨none, (.v (.st 2 (.t p61) (.t p59))), none⟩
sEnd)))))))))))))))))))
(dSeq (dSeq (dOps (dV p62 (oMv (.t p9))
(dV p63 (oMv (.t p1))
(dV p64 (oAr .sub (.t p62) (.t p63))
(dV p65 (oAr .geq (.t p64) (.c (.int .i64 (.ofNat 2))))
dE)))))
(dCond (.t p65) (dSeq (dOps (dV p66 (oMv (.t p9))
(dV p67 (oAr .sub (.t p66) (.c (.int .i64 (.ofNat 1))))
(dV p11 (oMv (.t p67))
dE))))
(dBlock 4 (dLoop (dSeq (dSeq (dOps (dV p68 (oMv (.t p11))
(dV p69 (oAr .geq (.t p68) (.c (.int .i64 (.ofNat 1))))
dE)))
(dCond (.t p69) dSkip (dExit 4)))
(dSeq (dBlock 5 (dSeq (dSeq (dDraw (sN p72 ⟨(some p72), (.v (.mv (.t p3))), none⟩
(sN p73 ⟨(some p73), (.v (.mv (.t p0))), none⟩
(sN p74 ⟨(some p74), (.v (.mv (.t p11))), none⟩
(sN p75 ⟨(some p75), (.v (.ia 2 (.t p73) (.t p74))), none⟩
(sN p76 ⟨(some p76), (.v (.ldN 2 (.t p75))), none⟩
(sN p77 ⟨(some p77), (.v (.mv (.t p0))), none⟩
(sN p78 ⟨(some p78), (.v (.mv (.t p11))), none⟩
(sN p79 ⟨(some p79), (.v (.ar .sub (.t p78) (.c (.int .i64 (.ofNat 1))))), none⟩
(sN p80 ⟨(some p80), (.v (.ia 2 (.t p77) (.t p79))), none⟩
(sN p81 ⟨(some p81), (.v (.ldN 2 (.t p80))), none⟩
(sE [] [] ⟨(some p82), (.callv (.t p72) [(.t p76), (.t p81)]), none⟩
(sN p83 ⟨(some p83), (.v (.ar .lss (.t p82) (.c (.int .i64 (.ofNat 0))))), none⟩
(sN p84 ⟨(some p84), (.v (.un .not (.t p83))), none⟩
sEnd))))))))))))))
(dCond (.t p84) (dExit 4) dSkip))
(dDraw (sN p85 ⟨(some p85), (.v (.mv (.t p0))), none⟩
(sN p86 ⟨(some p86), (.v (.mv (.t p11))), none⟩
(sN p87 ⟨(some p87), (.v (.mv (.t p0))), none⟩
(sN p88 ⟨(some p88), (.v (.mv (.t p11))), none⟩
(sN p89 ⟨(some p89), (.v (.ar .sub (.t p88) (.c (.int .i64 (.ofNat 1))))), none⟩
(sN p90 ⟨(some p90), (.v (.mv (.t p0))), none⟩
(sN p91 ⟨(some p91), (.v (.mv (.t p11))), none⟩
(sN p92 ⟨(some p92), (.v (.ar .sub (.t p91) (.c (.int .i64 (.ofNat 1))))), none⟩
(sN p93 ⟨(some p93), (.v (.ia 2 (.t p90) (.t p92))), none⟩
(sN p94 ⟨(some p94), (.v (.ldN 2 (.t p93))), none⟩
(sN p95 ⟨(some p95), (.v (.mv (.t p0))), none⟩
(sN p96 ⟨(some p96), (.v (.mv (.t p11))), none⟩
(sN p97 ⟨(some p97), (.v (.ia 2 (.t p95) (.t p96))), none⟩
(sN p98 ⟨(some p98), (.v (.ldN 2 (.t p97))), none⟩
(sN p99 ⟨(some p99), (.v (.ia 2 (.t p85) (.t p86))), none⟩
(sE [] [] ⟨none, (.v (.st 2 (.t p99) (.t p94))), none⟩
(sN p100 ⟨(some p100), (.v (.ia 2 (.t p87) (.t p89))), none⟩
(sE [] [] ⟨none, (.v (.st 2 (.t p100) (.t p98))), none⟩
sEnd)))))))))))))))))))))
(dOps (dV p70 (oMv (.t p11))
(dV p71 (oAr .sub (.t p70) (.c (.int .i64 (.ofNat 1))))
(dV p11 (oMv (.t p71))
dE))))))))) dSkip))
(dSeq (dOps (dV p101 (oMv (.t p2))
(dV p102 (oMv (.t p9))
(dV p103 (oAr .sub (.t p101) (.t p102))
(dV p104 (oAr .geq (.t p103) (.c (.int .i64 (.ofNat 2))))
dE)))))
(dCond (.t p104) (dSeq (dOps (dV p105 (oMv (.t p9))
(dV p106 (oAr .add (.t p105) (.c (.int .i64 (.ofNat 1))))
(dV p12 (oMv (.t p106))
dE))))
(dBlock 6 (dLoop (dSeq (dSeq (dOps (dV p107 (oMv (.t p12))
(dV p108 (oMv (.t p2))
(dV p109 (oAr .lss (.t p107) (.t p108))
dE))))
(dCond (.t p109) dSkip (dExit 6)))
(dSeq (dBlock 7 (dSeq (dSeq (dDraw (sN p112 ⟨(some p112), (.v (.mv (.t p3))), none⟩
(sN p113 ⟨(some p113), (.v (.mv (.t p0))), none⟩
(sN p114 ⟨(some p114), (.v (.mv (.t p12))), none⟩
(sN p115 ⟨(some p115), (.v (.ia 2 (.t p113) (.t p114))), none⟩
(sN p116 ⟨(some p116), (.v (.ldN 2 (.t p115))), none⟩
(sN p117 ⟨(some p117), (.v (.mv (.t p0))), none⟩
(sN p118 ⟨(some p118), (.v (.mv (.t p12))), none⟩
(sN p119 ⟨(some p119), (.v (.ar .sub (.t p118) (.c (.int .i64 (.ofNat 1))))), none⟩
(sN p120 ⟨(some p120), (.v (.ia 2 (.t p117) (.t p119))), none⟩
(sN p121 ⟨(some p121), (.v (.ldN 2 (.t p120))), none⟩
(sE [] [] ⟨(some p122), (.callv (.t p112) [(.t p116), (.t p121)]), none⟩
(sN p123 ⟨(some p123), (.v (.ar .lss (.t p122) (.c (.int .i64 (.ofNat 0))))), none⟩
(sN p124 ⟨(some p124), (.v (.un .not (.t p123))), none⟩
sEnd))))))))))))))
(dCond (.t p124) (dExit 6) dSkip))
(dDraw (sN p125 ⟨(some p125), (.v (.mv (.t p0))), none⟩
(sN p126 ⟨(some p126), (.v (.mv (.t p12))), none⟩
(sN p127 ⟨(some p127), (.v (.mv (.t p0))), none⟩
(sN p128 ⟨(some p128), (.v (.mv (.t p12))), none⟩
(sN p129 ⟨(some p129), (.v (.ar .sub (.t p128) (.c (.int .i64 (.ofNat 1))))), none⟩
(sN p130 ⟨(some p130), (.v (.mv (.t p0))), none⟩
(sN p131 ⟨(some p131), (.v (.mv (.t p12))), none⟩
(sN p132 ⟨(some p132), (.v (.ar .sub (.t p131) (.c (.int .i64 (.ofNat 1))))), none⟩
(sN p133 ⟨(some p133), (.v (.ia 2 (.t p130) (.t p132))), none⟩
(sN p134 ⟨(some p134), (.v (.ldN 2 (.t p133))), none⟩
(sN p135 ⟨(some p135), (.v (.mv (.t p0))), none⟩
(sN p136 ⟨(some p136), (.v (.mv (.t p12))), none⟩
(sN p137 ⟨(some p137), (.v (.ia 2 (.t p135) (.t p136))), none⟩
(sN p138 ⟨(some p138), (.v (.ldN 2 (.t p137))), none⟩
(sN p139 ⟨(some p139), (.v (.ia 2 (.t p125) (.t p126))), none⟩
(sE [] [] ⟨none, (.v (.st 2 (.t p139) (.t p134))), none⟩
(sN p140 ⟨(some p140), (.v (.ia 2 (.t p127) (.t p129))), none⟩
(sE [] [] ⟨none, (.v (.st 2 (.t p140) (.t p138))), none⟩
sEnd)))))))))))))))))))))
(dOps (dV p110 (oMv (.t p12))
(dV p111 (oAr .add (.t p110) (.c (.int .i64 (.ofNat 1))))
(dV p12 (oMv (.t p111))
dE))))))))) dSkip))))))))
(dOps (dV p17 (oMv (.t p10))
(dV p18 (oAr .add (.t p17) (.c (.int .i64 (.ofNat 1))))
(dV p10 (oMv (.t p18))
dE)))))))))
(dSeq (dOps (dV p8 (oMv (.c (.bool false)))
dE))
dRet)))), [(.t p8)]⟩
def af311 : AF := ⟨(dSeq (dOps (dV p10 (oMv (.c (.int .i64 (.ofNat 0))))
dE))
(dSeq (dDraw (sN p13 ⟨(some p13), (.v (.mv (.t p0))), none⟩
(sN p14 ⟨(some p14), (.v (.mv (.t p1))), none⟩
(sN p15 ⟨(some p15), (.v (.mv (.t p0))), none⟩
(sN p16 ⟨(some p16), (.v (.mv (.t p3))), none⟩
(sN p17 ⟨(some p17), (.v (.mv (.t p0))), none⟩
(sN p18 ⟨(some p18), (.v (.mv (.t p3))), none⟩
(sN p19 ⟨(some p19), (.v (.ia 2 (.t p17) (.t p18))), none⟩
(sN p20 ⟨(some p20), (.v (.ldN 2 (.t p19))), none⟩
(sN p21 ⟨(some p21), (.v (.mv (.t p0))), none⟩
(sN p22 ⟨(some p22), (.v (.mv (.t p1))), none⟩
(sN p23 ⟨(some p23), (.v (.ia 2 (.t p21) (.t p22))), none⟩
(sN p24 ⟨(some p24), (.v (.ldN 2 (.t p23))), none⟩
(sN p25 ⟨(some p25), (.v (.ia 2 (.t p13) (.t p14))), none⟩
(sE [] [] ⟨none, (.v (.st 2 (.t p25) (.t p20))), none⟩
(sN p26 ⟨(some p26), (.v (.ia 2 (.t p15) (.t p16))), none⟩
(sE [] [] ⟨none, (.v (.st 2 (.t p26) (.t p24))), none⟩
sEnd)))))))))))))))))
(dSeq (dOps (dV p27 (oMv (.t p1))
(dV p28 (oAr .add (.t p27) (.c (.int .i64 (.ofNat 1))))
(dV p29 (oMv (.t p2))
(dV p30 (oAr .sub (.t p29) (.c (.int .i64 (.ofNat 1))))
(dV p11 (oMv (.t p28))
(dV p12 (oMv (.t p30))
dE)))))))
(dSeq (dBlock 0 (dLoop (dBlock 1 (dSeq (dBlock 2 (dLoop (dSeq (dSeq (dDraw (sN p31 ⟨(some p31), (.v (.mv (.t p11))), none⟩
(sN p32 ⟨(some p32), (.v (.mv (.t p12))), none⟩
(sN p33 ⟨(some p33), (.v (.ar .leq (.t p31) (.t p32))), none⟩
(sN p34 ⟨(some p34), (.v (.mv (.t p33))), none⟩
(sN p35 ⟨(some p35), (.v (.mv (.t p4))), (some (p34, true))⟩
(sN p36 ⟨(some p36), (.v (.mv (.t p0))), (some (p34, true))⟩
(sN p37 ⟨(some p37), (.v (.mv (.t p1))), (some (p34, true))⟩
(sN p38 ⟨(some p38), (.v (.ia 2 (.t p36) (.t p37))), (some (p34, true))⟩
(sN p39 ⟨(some p39), (.v (.ldN 2 (.t p38))), (some (p34, true))⟩
(sN p40 ⟨(some p40), (.v (.mv (.t p0))), (some (p34, true))⟩
(sN p41 ⟨(some p41), (.v (.mv (.t p11))), (some (p34, true))⟩
(sN p42 ⟨(some p42), (.v (.ia 2 (.t p40) (.t p41))), (some (p34, true))⟩
(sN p43 ⟨(some p43), (.v (.ldN 2 (.t p42))), (some (p34, true))⟩
(sE [] [] ⟨(some p44), (.callv (.t p35) [(.t p39), (.t p43)]), (some (p34, true))⟩
(sN p45 ⟨(some p45), (.v (.ar .lss (.t p44) (.c (.int .i64 (.ofNat 0))))), (some (p34, true))⟩
(sN p46 ⟨(some p46), (.v (.un .not (.t p45))), (some (p34, true))⟩
(sN p47 ⟨(some p47), (.v (.pick (.t p34) (.t p46) (.c (.bool false)))), none⟩
sEnd))))))))))))))))))
(dCond (.t p47) dSkip (dExit 2)))
(dBlock 3 (dOps (dV p48 (oMv (.t p11))
(dV p49 (oAr .add (.t p48) (.c (.int .i64 (.ofNat 1))))
(dV p11 (oMv (.t p49))
dE))))))))
(dSeq (dBlock 4 (dLoop (dSeq (dSeq (dDraw (sN p50 ⟨(some p50), (.v (.mv (.t p11))), none⟩
(sN p51 ⟨(some p51), (.v (.mv (.t p12))), none⟩
(sN p52 ⟨(some p52), (.v (.ar .leq (.t p50) (.t p51))), none⟩
(sN p53 ⟨(some p53), (.v (.mv (.t p52))), none⟩
(sN p54 ⟨(some p54), (.v (.mv (.t p4))), (some (p53, true))⟩
(sN p55 ⟨(some p55), (.v (.mv (.t p0))), (some (p53, true))⟩
(sN p56 ⟨(some p56), (.v (.mv (.t p1))), (some (p53, true))⟩
(sN p57 ⟨(some p57), (.v (.ia 2 (.t p55) (.t p56))), (some (p53, true))⟩
(sN p58 ⟨(some p58), (.v (.ldN 2 (.t p57))), (some (p53, true))⟩
(sN p59 ⟨(some p59), (.v (.mv (.t p0))), (some (p53, true))⟩
(sN p60 ⟨(some p60), (.v (.mv (.t p12))), (some (p53, true))⟩
(sN p61 ⟨(some p61), (.v (.ia 2 (.t p59) (.t p60))), (some (p53, true))⟩
(sN p62 ⟨(some p62), (.v (.ldN 2 (.t p61))), (some (p53, true))⟩
(sE [] [] ⟨(some p63), (.callv (.t p54) [(.t p58), (.t p62)]), (some (p53, true))⟩
(sN p64 ⟨(some p64), (.v (.ar .lss (.t p63) (.c (.int .i64 (.ofNat 0))))), (some (p53, true))⟩
(sN p65 ⟨(some p65), (.v (.pick (.t p53) (.t p64) (.c (.bool false)))), none⟩
sEnd)))))))))))))))))
(dCond (.t p65) dSkip (dExit 4)))
(dBlock 5 (dOps (dV p66 (oMv (.t p12))
(dV p67 (oAr .sub (.t p66) (.c (.int .i64 (.ofNat 1))))
(dV p12 (oMv (.t p67))
dE))))))))
(dSeq (dSeq (dOps (dV p68 (oMv (.t p11))
(dV p69 (oMv (.t p12))
(dV p70 (oAr .gtr (.t p68) (.t p69))
dE))))
(dCond (.t p70) (dExit 0) dSkip))
(dSeq (dDraw (sN p71 ⟨(some p71), (.v (.mv (.t p0))), none⟩
(sN p72 ⟨(some p72), (.v (.mv (.t p11))), none⟩
(sN p73 ⟨(some p73), (.v (.mv (.t p0))), none⟩
(sN p74 ⟨(some p74), (.v (.mv (.t p12))), none⟩
(sN p75 ⟨(some p75), (.v (.mv (.t p0))), none⟩
(sN p76 ⟨(some p76), (.v (.mv (.t p12))), none⟩
(sN p77 ⟨(some p77), (.v (.ia 2 (.t p75) (.t p76))), none⟩
(sN p78 ⟨(some p78), (.v (.ldN 2 (.t p77))), none⟩
(sN p79 ⟨(some p79), (.v (.mv (.t p0))), none⟩
(sN p80 ⟨(some p80), (.v (.mv (.t p11))), none⟩
(sN p81 ⟨(some p81), (.v (.ia 2 (.t p79) (.t p80))), none⟩
(sN p82 ⟨(some p82), (.v (.ldN 2 (.t p81))), none⟩
(sN p83 ⟨(some p83), (.v (.ia 2 (.t p71) (.t p72))), none⟩
(sE [] [] ⟨none, (.v (.st 2 (.t p83) (.t p78))), none⟩
(sN p84 ⟨(some p84), (.v (.ia 2 (.t p73) (.t p74))), none⟩
(sE [] [] ⟨none, (.v (.st 2 (.t p84) (.t p82))), none⟩
sEnd)))))))))))))))))
(dSeq (dOps (dV p85 (oMv (.t p11))
(dV p86 (oAr .add (.t p85) (.c (.int .i64 (.ofNat 1))))
(dV p11 (oMv (.t p86))
dE))))
(dOps (dV p87 (oMv (.t p12))
(dV p88 (oAr .sub (.t p87) (.c (.int .i64 (.ofNat 1))))
(dV p12 (oMv (.t p88))
dE))))))))))))
(dSeq (dOps (dV p89 (oMv (.t p11))
(dV p10 (oMv (.t p89))
dE)))
dRet))))), [(.t p10)]⟩
def af312 : AF := ⟨(dSeq (dOps (dV p10 (oMv (.c (.int .i64 (.ofNat 0))))
(dV p11 (oMv (.c (.bool false)))
dE)))
(dSeq (dDraw (sN p14 ⟨(some p14), (.v (.mv (.t p0))), none⟩
(sN p15 ⟨(some p15), (.v (.mv (.t p1))), none⟩
(sN p16 ⟨(some p16), (.v (.mv (.t p0))), none⟩
(sN p17 ⟨(some p17), (.v (.mv (.t p3))), none⟩
(sN p18 ⟨(some p18), (.v (.mv (.t p0))), none⟩
(sN p19 ⟨(some p19), (.v (.mv (.t p3))), none⟩
(sN p20 ⟨(some p20), (.v (.ia 2 (.t p18) (.t p19))), none⟩
(sN p21 ⟨(some p21), (.v (.ldN 2 (.t p20))), none⟩
(sN p22 ⟨(some p22), (.v (.mv (.t p0))), none⟩
(sN p23 ⟨(some p23), (.v (.mv (.t p1))), none⟩
(sN p24 ⟨(some p24), (.v (.ia 2 (.t p22) (.t p23))), none⟩
(sN p25 ⟨(some p25), (.v (.ldN 2 (.t p24))), none⟩
(sN p26 ⟨(some p26), (.v (.ia 2 (.t p14) (.t p15))), none⟩
(sE [] [] ⟨none, (.v (.st 2 (.t p26) (.t p21))), none⟩
(sN p27 ⟨(some p27), (.v (.ia 2 (.t p16) (.t p17))), none⟩
(sE [] [] ⟨none, (.v (.st 2 (.t p27) (.t p25))), none⟩
sEnd)))))))))))))))))
(dSeq (dOps (dV p28 (oMv (.t p1))
(dV p29 (oAr .add (.t p28) (.c (.int .i64 (.ofNat 1))))
(dV p30 (oMv (.t p2))
(dV p31 (oAr .sub (.t p30) (.c (.int .i64 (.ofNat 1))))
(dV p12 (oMv (.t p29))
(dV p13 (oMv (.t p31))
dE)))))))
(dSeq (dBlock 0 (dLoop (dSeq (dSeq (dDraw (sN p32 ⟨(some p32), (.v (.mv (.t p12))), none⟩
(sN p33 ⟨(some p33), (.v (.mv (.t p13))), none⟩
(sN p34 ⟨(some p34), (.v (.ar .leq (.t p32) (.t p33))), none⟩
(sN p35 ⟨(some p35), (.v (.mv (.t p34))), none⟩
(sN p36 ⟨(some p36), (.v (.mv (.t p4))), (some (p35, true))⟩
(sN p37 ⟨(some p37), (.v (.mv (.t p0))), (some (p35, true))⟩
(sN p38 ⟨(some p38), (.v (.mv (.t p12))), (some (p35, true))⟩
(sN p39 ⟨(some p39), (.v (.ia 2 (.t p37) (.t p38))), (some (p35, true))⟩
(sN p40 ⟨(some p40), (.v (.ldN 2 (.t p39))), (some (p35, true))⟩
(sN p41 ⟨(some p41), (.v (.mv (.t p0))), (some (p35, true))⟩
(sN p42 ⟨(some p42), (.v (.mv (.t p1))), (some (p35, true))⟩
(sN p43 ⟨(some p43), (.v (.ia 2 (.t p41) (.t p42))), (some (p35, true))⟩
(sN p44 ⟨(some p44), (.v (.ldN 2 (.t p43))), (some (p35, true))⟩
(sE [] [] ⟨(some p45), (.callv (.t p36) [(.t p40), (.t p44)]), (some (p35, true))⟩
(sN p46 ⟨(some p46), (.v (.ar .lss (.t p45) (.c (.int .i64 (.ofNat 0))))), (some (p35, true))⟩
(sN p47 ⟨(some p47), (.v (.pick (.t p35) (.t p46) (.c (.bool false)))), none⟩
sEnd)))))))))))))))))
(dCond (.t p47) dSkip (dExit 0)))
(dBlock 1 (dOps (dV p48 (oMv (.t p12))
(dV p49 (oAr .add (.t p48) (.c (.int .i64 (.ofNat 1))))
(dV p12 (oMv (.t p49))
dE))))))))
(dSeq (dBlock 2 (dLoop (dSeq (dSeq (dDraw (sN p50 ⟨(some p50), (.v (.mv (.t p12))), none⟩
(sN p51 ⟨(some p51), (.v (.mv (.t p13))), none⟩
(sN p52 ⟨(some p52), (.v (.ar .leq (.t p50) (.t p51))), none⟩
(sN p53 ⟨(some p53), (.v (.mv (.t p52))), none⟩
(sN p54 ⟨(some p54), (.v (.mv (.t p4))), (some (p53, true))⟩
(sN p55 ⟨(some p55), (.v (.mv (.t p0))), (some (p53, true))⟩
(sN p56 ⟨(some p56), (.v (.mv (.t p13))), (some (p53, true))⟩
(sN p57 ⟨(some p57), (.v (.ia 2 (.t p55) (.t p56))), (some (p53, true))⟩
(sN p58 ⟨(some p58), (.v (.ldN 2 (.t p57))), (some (p53, true))⟩
(sN p59 ⟨(some p59), (.v (.mv (.t p0))), (some (p53, true))⟩
(sN p60 ⟨(some p60), (.v (.mv (.t p1))), (some (p53, true))⟩
(sN p61 ⟨(some p61), (.v (.ia 2 (.t p59) (.t p60))), (some (p53, true))⟩
(sN p62 ⟨(some p62), (.v (.ldN 2 (.t p61))), (some (p53, true))⟩
(sE [] [] ⟨(some p63), (.callv (.t p54) [(.t p58), (.t p62)]), (some (p53, true))⟩
(sN p64 ⟨(some p64), (.v (.ar .lss (.t p63) (.c (.int .i64 (.ofNat 0))))), (some (p53, true))⟩
(sN p65 ⟨(some p65), (.v (.un .not (.t p64))), (some (p53, true))⟩
(sN p66 ⟨(some p66), (.v (.pick (.t p53) (.t p65) (.c (.bool false)))), none⟩
sEnd))))))))))))))))))
(dCond (.t p66) dSkip (dExit 2)))
(dBlock 3 (dOps (dV p67 (oMv (.t p13))
(dV p68 (oAr .sub (.t p67) (.c (.int .i64 (.ofNat 1))))
(dV p13 (oMv (.t p68))
dE))))))))
(dSeq (dSeq (dOps (dV p69 (oMv (.t p12))
(dV p70 (oMv (.t p13))
(dV p71 (oAr .gtr (.t p69) (.t p70))
dE))))
(dCond (.t p71) (dSeq (dDraw (sN p72 ⟨(some p72), (.v (.mv (.t p0))), none⟩
(sN p73 ⟨(some p73), (.v (.mv (.t p13))), none⟩
(sN p74 ⟨(some p74), (.v (.mv (.t p0))), none⟩
(sN p75 ⟨(some p75), (.v (.mv (.t p1))), none⟩
(sN p76 ⟨(some p76), (.v (.mv (.t p0))), none⟩
(sN p77 ⟨(some p77), (.v (.mv (.t p1))), none⟩
(sN p78 ⟨(some p78), (.v (.ia 2 (.t p76) (.t p77))), none⟩
(sN p79 ⟨(some p79), (.v (.ldN 2 (.t p78))), none⟩
(sN p80 ⟨(some p80), (.v (.mv (.t p0))), none⟩
(sN p81 ⟨(some p81), (.v (.mv (.t p13))), none⟩
(sN p82 ⟨(some p82), (.v (.ia 2 (.t p80) (.t p81))), none⟩
(sN p83 ⟨(some p83), (.v (.ldN 2 (.t p82))), none⟩
(sN p84 ⟨(some p84), (.v (.ia 2 (.t p72) (.t p73))), none⟩
(sE [] [] ⟨none, (.v (.st 2 (.t p84) (.t p79))), none⟩
(sN p85 ⟨(some p85), (.v (.ia 2 (.t p74) (.t p75))), none⟩
(sE [] [] ⟨none, (.v (.st 2 (.t p85) (.t p83))), none⟩
sEnd)))))))))))))))))
(dSeq (dOps (dV p86 (oMv (.t p13))
(dV p10 (oMv (.t p86))
(dV p11 (oMv (.c (.bool true)))
dE))))
dRet)) dSkip))
(dSeq (dDraw (sN p87 ⟨(some p87), (.v (.mv (.t p0))), none⟩
(sN p88 ⟨(some p88), (.v (.mv (.t p12))), none⟩
(sN p89 ⟨(some p89), (.v (.mv (.t p0))), none⟩
(sN p90 ⟨(some p90), (.v (.mv (.t p13))), none⟩
(sN p91 ⟨(some p91), (.v (.mv (.t p0))), none⟩
(sN p92 ⟨(some p92), (.v (.mv (.t p13))), none⟩
(sN p93 ⟨(some p93), (.v (.ia 2 (.t p91) (.t p92))), none⟩
(sN p94 ⟨(some p94), (.v (.ldN 2 (.t p93))), none⟩
(sN p95 ⟨(some p95), (.v (.mv (.t p0))), none⟩
(sN p96 ⟨(some p96), (.v (.mv (.t p12))), none⟩
(sN p97 ⟨(some p97), (.v (.ia 2 (.t p95) (.t p96))), none⟩
(sN p98 ⟨(some p98), (.v (.ldN 2 (.t p97))), none⟩
(sN p99 ⟨(some p99), (.v (.ia 2 (.t p87) (.t p88))), none⟩
(sE [] [] ⟨none, (.v (.st 2 (.t p99) (.t p94))), none⟩
(sN p100 ⟨(some p100), (.v (.ia 2 (.t p89) (.t p90))), none⟩
(sE [] [] ⟨none, (.v (.st 2 (.t p100) (.t p98))), none⟩
sEnd)))))))))))))))))
(dSeq (dOps (dV p101 (oMv (.t p12))
(dV p102 (oAr .add (.t p101) (.c (.int .i64 (.ofNat 1))))
(dV p12 (oMv (.t p102))
dE))))
(dSeq (dOps (dV p103 (oMv (.t p13))
(dV p104 (oAr .sub (.t p103) (.c (.int .i64 (.ofNat 1))))
(dV p13 (oMv (.t p104))
dE))))
(dSeq (dBlock 4 (dLoop (dBlock 5 (dSeq (dBlock 6 (dLoop (dSeq (dSeq (dDraw (sN p105 ⟨(some p105), (.v (.mv (.t p12))), none⟩
(sN p106 ⟨(some p106), (.v (.mv (.t p13))), none⟩
(sN p107 ⟨(some p107), (.v (.ar .leq (.t p105) (.t p106))), none⟩
(sN p108 ⟨(some p108), (.v (.mv (.t p107))), none⟩
(sN p109 ⟨(some p109), (.v (.mv (.t p4))), (some (p108, true))⟩
(sN p110 ⟨(some p110), (.v (.mv (.t p0))), (some (p108, true))⟩
(sN p111 ⟨(some p111), (.v (.mv (.t p12))), (some (p108, true))⟩
(sN p112 ⟨(some p112), (.v (.ia 2 (.t p110) (.t p111))), (some (p108, true))⟩
(sN p113 ⟨(some p113), (.v (.ldN 2 (.t p112))), (some (p108, true))⟩
(sN p114 ⟨(some p114), (.v (.mv (.t p0))), (some (p108, true))⟩
(sN p115 ⟨(some p115), (.v (.mv (.t p1))), (some (p108, true))⟩
(sN p116 ⟨(some p116), (.v (.ia 2 (.t p114) (.t p115))), (some (p108, true))⟩
(sN p117 ⟨(some p117), (.v (.ldN 2 (.t p116))), (some (p108, true))⟩
(sE [] [] ⟨(some p118), (.callv (.t p109) [(.t p113), (.t p117)]), (some (p108, true))⟩
(sN p119 ⟨(some p119), (.v (.ar .lss (.t p118) (.c (.int .i64 (.ofNat 0))))), (some (p108, true))⟩
(sN p120 ⟨(some p120), (.v (.pick (.t p108) (.t p119) (.c (.bool false)))), none⟩
sEnd)))))))))))))))))
(dCond (.t p120) dSkip (dExit 6)))
(dBlock 7 (dOps (dV p121 (oMv (.t p12))
(dV p122 (oAr .add (.t p121) (.c (.int .i64 (.ofNat 1))))
(dV p12 (oMv (.t p122))
dE))))))))
(dSeq (dBlock 8 (dLoop (dSeq (dSeq (dDraw (sN p123 ⟨(some p123), (.v (.mv (.t p12))), none⟩
(sN p124 ⟨(some p124), (.v (.mv (.t p13))), none⟩
(sN p125 ⟨(some p125), (.v (.ar .leq (.t p123) (.t p124))), none⟩
(sN p126 ⟨(some p126), (.v (.mv (.t p125))), none⟩
(sN p127 ⟨(some p127), (.v (.mv (.t p4))), (some (p126, true))⟩
(sN p128 ⟨(some p128), (.v (.mv (.t p0))), (some (p126, true))⟩
(sN p129 ⟨(some p129), (.v (.mv (.t p13))), (some (p126, true))⟩
(sN p130 ⟨(some p130), (.v (.ia 2 (.t p128) (.t p129))), (some (p126, true))⟩
(sN p131 ⟨(some p131), (.v (.ldN 2 (.t p130))), (some (p126, true))⟩
(sN p132 ⟨(some p132), (.v (.mv (.t p0))), (some (p126, true))⟩
(sN p133 ⟨(some p133), (.v (.mv (.t p1))), (some (p126, true))⟩
(sN p134 ⟨(some p134), (.v (.ia 2 (.t p132) (.t p133))), (some (p126, true))⟩
(sN p135 ⟨(some p135), (.v (.ldN 2 (.t p134))), (some (p126, true))⟩
(sE [] [] ⟨(some p136), (.callv (.t p127) [(.t p131), (.t p135)]), (some (p126, true))⟩
(sN p137 ⟨(some p137), (.v (.ar .lss (.t p136) (.c (.int .i64 (.ofNat 0))))), (some (p126, true))⟩
(sN p138 ⟨(some p138), (.v (.un .not (.t p137))), (some (p126, true))⟩
(sN p139 ⟨(some p139), (.v (.pick (.t p126) (.t p138) (.c (.bool false)))), none⟩
sEnd))))))))))))))))))
(dCond (.t p139) dSkip (dExit 8)))
(dBlock 9 (dOps (dV p140 (oMv (.t p13))
(dV p141 (oAr .sub (.t p140) (.c (.int .i64 (.ofNat 1))))
(dV p13 (oMv (.t p141))
dE))))))))
(dSeq (dSeq (dOps (dV p142 (oMv (.t p12))
(dV p143 (oMv (.t p13))
(dV p144 (oAr .gtr (.t p142) (.t p143))
dE))))
(dCond (.t p144) (dExit 4) dSkip))
(dSeq (dDraw (sN p145 ⟨(some p145), (.v (.mv (.t p0))), none⟩
(sN p146 ⟨(some p146), (.v (.mv (.t p12))), none⟩
(sN p147 ⟨(some p147), (.v (.mv (.t p0))), none⟩
(sN p148 ⟨(some p148), (.v (.mv (.t p13))), none⟩
(sN p149 ⟨(some p149), (.v (.mv (.t p0))), none⟩
(sN p150 ⟨(some p150), (.v (.mv (.t p13))), none⟩
(sN p151 ⟨(some p151), (.v (.ia 2 (.t p149) (.t p150))), none⟩
(sN p152 ⟨(some p152), (.v (.ldN 2 (.t p151))), none⟩
(sN p153 ⟨(some p153), (.v (.mv (.t p0))), none⟩
(sN p154 ⟨(some p154), (.v (.mv (.t p12))), none⟩
(sN p155 ⟨(some p155), (.v (.ia 2 (.t p153) (.t p154))), none⟩
(sN p156 ⟨(some p156), (.v (.ldN 2 (.t p155))), none⟩
(sN p157 ⟨(some p157), (.v (.ia 2 (.t p145) (.t p146))), none⟩
(sE [] [] ⟨none, (.v (.st 2 (.t p157) (.t p152))), none⟩
(sN p158 ⟨(some p158), (.v (.ia 2 (.t p147) (.t p148))), none⟩
(sE [] [] ⟨none, (.v (.st 2 (.t p158) (.t p156))), none⟩
sEnd)))))))))))))))))
(dSeq (dOps (dV p159 (oMv (.t p12))
(dV p160 (oAr .add (.t p159) (.c (.int .i64 (.ofNat 1))))
(dV p12 (oMv (.t p160))
dE))))
(dOps (dV p161 (oMv (.t p13))
(dV p162 (oAr .sub (.t p161) (.c (.int .i64 (.ofNat 1))))
(dV p13 (oMv (.t p162))
dE))))))))))))
(dSeq (dDraw (sN p163 ⟨(some p163), (.v (.mv (.t p0))), none⟩
(sN p164 ⟨(some p164), (.v (.mv (.t p13))), none⟩
(sN p165 ⟨(some p165), (.v (.mv (.t p0))), none⟩
(sN p166 ⟨(some p166), (.v (.mv (.t p1))), none⟩
(sN p167 ⟨(some p167), (.v (.mv (.t p0))), none⟩
(sN p168 ⟨(some p168), (.v (.mv (.t p1))), none⟩
(sN p169 ⟨(some p169), (.v (.ia 2 (.t p167) (.t p168))), none⟩
(sN p170 ⟨(some p170), (.v (.ldN 2 (.t p169))), none⟩
(sN p171 ⟨(some p171), (.v (.mv (.t p0))), none⟩
(sN p172 ⟨(some p172), (.v (.mv (.t p13))), none⟩
(sN p173 ⟨(some p173), (.v (.ia 2 (.t p171) (.t p172))), none⟩
(sN p174 ⟨(some p174), (.v (.ldN 2 (.t p173))), none⟩
(sN p175 ⟨(some p175), (.v (.ia 2 (.t p163) (.t p164))), none⟩
(sE [] [] ⟨none, (.v (.st 2 (.t p175) (.t p170))), none⟩
(sN p176 ⟨(some p176), (.v (.ia 2 (.t p165) (.t p166))), none⟩
(sE [] [] ⟨none, (.v (.st 2 (.t p176) (.t p174))), none⟩
sEnd)))))))))))))))))
(dSeq (dOps (dV p177 (oMv (.t p13))
(dV p10 (oMv (.t p177))
(dV p11 (oMv (.c (.bool false)))
dE))))
dRet)))))))))))), [(.t p10), (.t p11)]⟩
def af313 : AF := ⟨(dSeq (dOps (dV p2 (oMv (.c (.int .i64 (.ofNat 0))))
dE))
(dSeq (dSeq (dOps (dV p3 (oMv (.t p0))
(dV p4 (oAr .geq (.t p3) (.c (.int .u32 (.ofNat 65536))))
dE)))
(dCond (.t p4) (dSeq (dOps (dV p5 (oMv (.t p0))
(dV p6 (oAr .shr (.t p5) (.c (.int .u64 (.ofNat 16))))
(dV p0 (oMv (.t p6))
dE))))
(dOps (dV p2 (oMv (.c (.int .i64 (.ofNat 16))))
dE))) dSkip))
(dSeq (dSeq (dOps (dV p7 (oMv (.t p0))
(dV p8 (oAr .geq (.t p7) (.c (.int .u32 (.ofNat 256))))
dE)))
(dCond (.t p8) (dSeq (dOps (dV p9 (oMv (.t p0))
(dV p10 (oAr .shr (.t p9) (.c (.int .u64 (.ofNat 8))))
(dV p0 (oMv (.t p10))
dE))))
(dOps (dV p11 (oMv (.t p2))
(dV p12 (oAr .add (.t p11) (.c (.int .i64 (.ofNat 8))))
(dV p2 (oMv (.t p12))
dE))))) dSkip))
(dSeq (dOps (dV p13 (oMv (.t p2))
(dV p14 (oMv (.t p0))
(dV p15 (oCvI .u8 (.t p14))
(dV p16 (oIxS (.c (.str [0, 1, 2, 2, 3, 3, 3, 3, 4, 4, 4, 4, 4, 4, 4, 4, 5, 5, 5, 5, 5, 5, 5, 5, 5, 5, 5, 5, 5, 5, 5, 5, 6, 6, 6, 6, 6, 6, 6, 6, 6, 6, 6, 6, 6, 6, 6, 6, 6, 6, 6, 6, 6, 6, 6, 6, 6, 6, 6, 6, 6, 6, 6, 6, 7, 7, 7, 7, 7, 7, 7, 7, 7, 7, 7, 7, 7, 7, 7, 7, 7, 7, 7, 7, 7, 7, 7, 7, 7, 7, 7, 7, 7, 7, 7, 7, 7, 7, 7, 7, 7, 7, 7, 7, 7, 7, 7, 7, 7, 7, 7, 7, 7, 7, 7, 7, 7, 7, 7, 7, 7, 7, 7, 7, 7, 7, 7, 7, 8, 8, 8, 8, 8, 8, 8, 8, 8, 8, 8, 8, 8, 8, 8, 8, 8, 8, 8, 8, 8, 8, 8, 8, 8, 8, 8, 8, 8, 8, 8, 8, 8, 8, 8, 8, 8, 8, 8, 8, 8, 8, 8, 8, 8, 8, 8, 8, 8, 8, 8, 8, 8, 8, 8, 8, 8, 8, 8, 8, 8, 8, 8, 8, 8, 8, 8, 8, 8, 8, 8, 8, 8, 8, 8, 8, 8, 8, 8, 8, 8, 8, 8, 8, 8, 8, 8, 8, 8, 8, 8, 8, 8, 8, 8, 8, 8, 8, 8, 8, 8, 8, 8, 8, 8, 8, 8, 8, 8, 8, 8, 8, 8, 8, 8, 8, 8, 8, 8, 8, 8, 8, 8, 8, 8, 8, 8, 8])) (.t p15))
(dV p17 (oCvI .i64 (.t p16))
(dV p18 (oAr .add (.t p13) (.t p17))
(dV p2 (oMv (.t p18))
dE))))))))
dRet)))), [(.t p2)]⟩
def af314 : AF := ⟨(dSeq (dOps (dV p2 (oMv (.c (.int .i64 (.ofNat 0))))
dE))
(dSeq (dSeq (dOps (dV p3 (oMv (.t p0))
(dV p4 (oAr .geq (.t p3) (.c (.int .u64 (.ofNat 4294967296))))
dE)))
(dCond (.t p4) (dSeq (dOps (dV p5 (oMv (.t p0))
(dV p6 (oAr .shr (.t p5) (.c (.int .u64 (.ofNat 32))))
(dV p0 (oMv (.t p6))
dE))))
(dOps (dV p2 (oMv (.c (.int .i64 (.ofNat 32))))
dE))) dSkip))
(dSeq (dSeq (dOps (dV p7 (oMv (.t p0))
(dV p8 (oAr .geq (.t p7) (.c (.int .u64 (.ofNat 65536))))
dE)))
(dCond (.t p8) (dSeq (dOps (dV p9 (oMv (.t p0))
(dV p10 (oAr .shr (.t p9) (.c (.int .u64 (.ofNat 16))))
(dV p0 (oMv (.t p10))
dE))))
(dOps (dV p11 (oMv (.t p2))
(dV p12 (oAr .add (.t p11) (.c (.int .i64 (.ofNat 16))))
(dV p2 (oMv (.t p12))
dE))))) dSkip))
(dSeq (dSeq (dOps (dV p13 (oMv (.t p0))
(dV p14 (oAr .geq (.t p13) (.c (.int .u64 (.ofNat 256))))
dE)))
(dCond (.t p14) (dSeq (dOps (dV p15 (oMv (.t p0))
(dV p16 (oAr .shr (.t p15) (.c (.int .u64 (.ofNat 8))))
(dV p0 (oMv (.t p16))
dE))))
(dOps (dV p17 (oMv (.t p2))
(dV p18 (oAr .add (.t p17) (.c (.int .i64 (.ofNat 8))))
(dV p2 (oMv (.t p18))
dE))))) dSkip))
(dSeq (dOps (dV p19 (oMv (.t p2))
(dV p20 (oMv (.t p0))
(dV p21 (oCvI .u8 (.t p20))
(dV p22 (oIxS (.c (.str [0, 1, 2, 2, 3, 3, 3, 3, 4, 4, 4, 4, 4, 4, 4, 4, 5, 5, 5, 5, 5, 5, 5, 5, 5, 5, 5, 5, 5, 5, 5, 5, 6, 6, 6, 6, 6, 6, 6, 6, 6, 6, 6, 6, 6, 6, 6, 6, 6, 6, 6, 6, 6, 6, 6, 6, 6, 6, 6, 6, 6, 6, 6, 6, 7, 7, 7, 7, 7, 7, 7, 7, 7, 7, 7, 7, 7, 7, 7, 7, 7, 7, 7, 7, 7, 7, 7, 7, 7, 7, 7, 7, 7, 7, 7, 7, 7, 7, 7, 7, 7, 7, 7, 7, 7, 7, 7, 7, 7, 7, 7, 7, 7, 7, 7, 7, 7, 7, 7, 7, 7, 7, 7, 7, 7, 7, 7, 7, 8, 8, 8, 8, 8, 8, 8, 8, 8, 8, 8, 8, 8, 8, 8, 8, 8, 8, 8, 8, 8, 8, 8, 8, 8, 8, 8, 8, 8, 8, 8, 8, 8, 8, 8, 8, 8, 8, 8, 8, 8, 8, 8, 8, 8, 8, 8, 8, 8, 8, 8, 8, 8, 8, 8, 8, 8, 8, 8, 8, 8, 8, 8, 8, 8, 8, 8, 8, 8, 8, 8, 8, 8, 8, 8, 8, 8, 8, 8, 8, 8, 8, 8, 8, 8, 8, 8, 8, 8, 8, 8, 8, 8, 8, 8, 8, 8, 8, 8, 8, 8, 8, 8, 8, 8, 8, 8, 8, 8, 8, 8, 8, 8, 8, 8, 8, 8, 8, 8, 8, 8, 8, 8, 8, 8, 8, 8, 8])) (.t p21))
(dV p23 (oCvI .i64 (.t p22))
(dV p24 (oAr .add (.t p19) (.t p23))
(dV p2 (oMv (.t p24))
dE))))))))
dRet))))), [(.t p2)]⟩
def af315 : AF := ⟨(dSeq (dOps (dV p2 (oBox 204 (.t p0))
(dV p3 (oNew [.nilp] 153)
dE)))
(dSeq (dSeq (dOps (dV p4 (oLdN 1 (.t p2))
(dC (some p5) p166 [(.t p4)]
(dV p6 (oAr .eql (.t p5) (.c (.int .i64 (.ofNat 4))))
dE))))
(dCond (.t p6) (dSeq (dOps (dV p7 (oLdN 1 (.t p2))
(dV p8 (oFa 2 (.t p1))
(dV p9 (oLd1 (.t p8))
(dC (some p10) p158 [(.t p7), (.c (.int .i64 (.ofNat 1))), (.t p9)]
(dU (oSt 1 (.t p3) (.t p10))
dE))))))
dRet) dSkip))
(dSeq (dOps (dV p11 (oLdN 1 (.t p2))
(dV p12 (oFa 2 (.t p1))
(dV p13 (oLd1 (.t p12))
(dC (some p14) p316 [(.t p11), (.t p13)]
(dU (oSt 1 (.t p3) (.t p14))
dE))))))
dRet))), [(.cN p3 1)]⟩
def af316 : AF := ⟨(dSeq (dOps (dV p2 (oBox 204 (.t p0))
(dV p4 (oNew [.nilp] 153)
dE)))
(dSeq (dOps (dV p6 (oBuild [(.int .i64 (.ofNat 0)), (.int .i64 (.ofNat 0)), (.bool false), (.str []), .nils, .nils] [(0, 1, (.c (.int .i64 (.ofNat 1)))), (1, 1, (.c (.int .i64 (.ofNat 1))))])
(dV p7 (oBuild [(.int .i64 (.ofNat 0)), (.int .i64 (.ofNat 0)), (.bool false), (.str []), .nils, .nils] [(0, 1, (.c (.int .i64 (.ofNat 1)))), (1, 1, (.c (.int .i64 (.ofNat 0))))])
(dV p8 (oBuildS 26 2 [(.int .i64 (.ofNat 0)), (.int .i64 (.ofNat 0)), (.bool false), (.str []), .nils, .nils, (.int .i64 (.ofNat 0)), (.int .i64 (.ofNat 0)), (.bool false), (.str []), .nils, .nils] [(0, 6, (.t p6)), (6, 6, (.t p7))])
(dV p9 (oBuild [(.int .i64 (.ofNat 0)), (.int .i64 (.ofNat 0)), (.bool false), (.str []), .nils, .nils] [(0, 1, (.c (.int .i64 (.ofNat 5)))), (5, 1, (.t p8))])
(dV p5 (oNew [(.int .i64 (.ofNat 0)), (.int .i64 (.ofNat 0)), (.bool false), (.str []), .nils, .nils] 26)
(dU (oSt 6 (.t p5) (.t p9))
dE)))))))
(dSeq (dDraw (sN p10 ⟨(some p10), (.v (.build [.nilp, (.int .i64 (.ofNat 0))] [])), none⟩
(sN p11 ⟨(some p11), (.v (.ldN 1 (.t p2))), none⟩
(sN p15 ⟨(some p15), (.v (.mv (.t p1))), none⟩
(sN p18 ⟨(some p18), (.v (.ldN 6 (.t p5))), none⟩
(sE [] [(p18, ⟨(some p18), (.v (.ldN 6 (.t p5))), none⟩)] ⟨(some p12), (.call p254 [(.t p11)]), none⟩
(sN p13 ⟨(some p13), (.v (.fld1 0 (.t p12))), none⟩
(sE [] [(p18, ⟨(some p18), (.v (.ldN 6 (.t p5))), none⟩)] ⟨(some p14), (.call p214 [(.t p10), (.t p13)]), none⟩
(sE [] [(p18, ⟨(some p18), (.v (.ldN 6 (.t p5))), none⟩)] ⟨(some p16), (.call p245 [(.t p15)]), none⟩
(sE [] [(p18, ⟨(some p18), (.v (.ldN 6 (.t p5))), none⟩)] ⟨(some p17), (.call p214 [(.t p14), (.t p16)]), none⟩
(sE [] [] ⟨(some p19), (.call p126 [(.t p18)]), none⟩
(sN p20 ⟨(some p20), (.v (.build [.nilp, (.int .i64 (.ofNat 0)), .nilp] [(0, 2, (.t p17)), (2, 1, (.t p19))])), none⟩
(sE [] [] ⟨(some p21), (.call p185 [(.t p20)]), none⟩
(sN p22 ⟨(some p22), (.v (.build [.nilp] [(0, 1, (.t p21))])), none⟩
(sE [] [] ⟨none, (.v (.st 1 (.t p4) (.t p22))), none⟩
sEnd)))))))))))))))
dRet))), [(.cN p4 1)]⟩
def af317 : AF := ⟨(dSeq (dOps (dV p3 (oBox 204 (.t p0))
(dV p5 (oNew [.nilp] 153)
dE)))
(dSeq (dSeq (dOps (dV p6 (oLdN 1 (.t p3))
(dC (some p7) p166 [(.t p6)]
(dV p8 (oAr .eql (.t p7) (.c (.int .i64 (.ofNat 7))))
dE))))
(dCond (.t p8) (dSeq (dOps (dV p9 (oLdN 1 (.t p3))
(dV p10 (oMv (.t p1))
(dV p11 (oAr .add (.c (.int .i64 (.ofNat 1))) (.t p10))
(dV p12 (oAr .sub (.t p11) (.c (.int .i64 (.ofNat 8))))
(dV p13 (oFa 2 (.t p2))
(dV p14 (oLd1 (.t p13))
(dC (some p15) p158 [(.t p9), (.t p12), (.t p14)]
(dU (oSt 1 (.t p5) (.t p15))
dE)))))))))
dRet) dSkip))
(dSeq (dOps (dV p16 (oLdN 1 (.t p3))
(dV p17 (oMv (.t p1))
(dC (some p18) p318 [(.t p16), (.t p17)]
(dU (oSt 1 (.t p5) (.t p18))
dE)))))
dRet))), [(.cN p5 1)]⟩
def af318 : AF := ⟨(dSeq (dOps (dV p2 (oBox 204 (.t p0))
(dV p4 (oNew [.nilp] 153)
dE)))
(dSeq (dOps (dV p5 (oLdN 1 (.t p2))
(dC (some p6) p254 [(.t p5)]
(dV p7 (oMv (.t p1))
(dC (some p8) p161 [(.t p6), (.t p7)]
(dU (oSt 1 (.t p4) (.t p8))
dE))))))
dRet)), [(.cN p4 1)]⟩
def af319 : AF := ⟨(dSeq (dOps (dV p2 (oBox 26 (.t p0))
(dV p3 (oBox 26 (.t p1))
(dV p4 (oMv (.c (.bool false)))
dE))))
(dSeq (dSeq (dOps (dV p5 (oFa 0 (.t p2))
(dV p6 (oLd1 (.t p5))
(dV p7 (oFa 0 (.t p3))
(dV p8 (oLd1 (.t p7))
(dV p9 (oAr .neq (.t p6) (.t p8))
dE))))))
(dCond (.t p9) (dSeq (dOps (dV p4 (oMv (.c (.bool false)))
dE))
dRet) dSkip))
(dSeq (dSeq (dOps (dV p10 (oFa 0 (.t p2))
(dV p11 (oLd1 (.t p10))
dE)))
(dBlock 0 (dSeq (dBlock 4 (dSeq (dBlock 3 (dSeq (dBlock 2 (dSeq (dBlock 1 (dSeq (dSeq (dSeq (dSeq (dOps (dV p13 (oAr .eql (.t p11) (.c (.int .i64 (.ofNat 1))))
(dV p12 (oMv (.t p13))
dE)))
(dCond (.t p12) dSkip (dOps (dV p14 (oAr .eql (.t p11) (.c (.int .i64 (.ofNat 11))))
(dV p12 (oMv (.t p14))
dE)))))
(dCond (.t p12) (dExit 1) dSkip))
(dSeq (dSeq (dSeq (dOps (dV p16 (oAr .eql (.t p11) (.c (.int .i64 (.ofNat 3))))
(dV p15 (oMv (.t p16))
dE)))
(dCond (.t p15) dSkip (dSeq (dOps (dV p17 (oAr .eql (.t p11) (.c (.int .i64 (.ofNat 4))))
(dV p15 (oMv (.t p17))
dE)))
(dCond (.t p15) dSkip (dOps (dV p18 (oAr .eql (.t p11) (.c (.int .i64 (.ofNat 5))))
(dV p15 (oMv (.t p18))
dE)))))))
(dCond (.t p15) (dExit 2) dSkip))
(dSeq (dSeq (dOps (dV p20 (oAr .eql (.t p11) (.c (.int .i64 (.ofNat 10))))
(dV p19 (oMv (.t p20))
dE)))
(dCond (.t p19) (dExit 3) dSkip))
(dSeq (dOps (dV p22 (oAr .eql (.t p11) (.c (.int .i64 (.ofNat 2))))
(dV p21 (oMv (.t p22))
dE)))
(dCond (.t p21) (dExit 4) dSkip)))))
(dExit 0)))
(dSeq (dSeq (dOps (dV p23 (oFa 1 (.t p2))
(dV p24 (oLd1 (.t p23))
(dV p25 (oFa 1 (.t p3))
(dV p26 (oLd1 (.t p25))
(dV p27 (oAr .eql (.t p24) (.t p26))
(dV p4 (oMv (.t p27))
dE)))))))
dRet)
(dExit 0))))
(dSeq (dSeq (dOps (dV p28 (oFa 2 (.t p2))
(dV p29 (oLd1 (.t p28))
(dV p30 (oFa 2 (.t p3))
(dV p31 (oLd1 (.t p30))
(dV p32 (oEq .b false (.t p29) (.t p31))
(dV p4 (oMv (.t p32))
dE)))))))
dRet)
(dExit 0))))
(dSeq (dOps (dV p33 (oFa 3 (.t p2))
(dV p34 (oLd1 (.t p33))
(dV p35 (oFa 3 (.t p3))
(dV p36 (oLd1 (.t p35))
(dV p37 (oAr .neq (.t p34) (.t p36))
dE))))))
(dCond (.t p37) (dSeq (dOps (dV p4 (oMv (.c (.bool false)))
dE))
dRet) dSkip))))
(dSeq (dSeq (dOps (dV p38 (oFa 4 (.t p2))
(dV p39 (oLd1 (.t p38))
(dV p40 (oFa 4 (.t p3))
(dV p41 (oLd1 (.t p40))
(dC (some p42) p203 [(.t p39), (.t p41), (.c (.fn (.func 248) [] []))]
(dV p4 (oMv (.t p42))
dE)))))))
dRet)
(dExit 0)))))
(dSeq (dOps (dV p4 (oMv (.c (.bool true)))
dE))
dRet)))), [(.t p4)]⟩
def af320 : AF := ⟨(dSeq (dOps (dV p1 (oBox 24 (.t p0))
(dV p2 (oMv (.c .nilf))
dE)))
(dSeq (dOps (dV p3 (oMkf 349 [] [(.t p1)])
(dV p2 (oMv (.t p3))
dE)))
dRet)), [(.t p2)]⟩
def af321 : AF := ⟨(dSeq (dOps (dV p2 (oMv (.c .nils))
dE))
(dSeq (dOps (dV p8 (oMv (.t p0))
(dC (some p9) p350 [(.t p8), (.c (.fn (.func 351) [] []))]
dE)))
(dSeq (dOps (dV p3 (oMv (.c .nils))
dE))
(dSeq (dSeq (dOps (dV p10 (oMv (.t p0))
(dV p11 (oLen (.t p10))
(dV p12 (oMv (.c (.int .i64 (.ofNat 0))))
dE))))
(dBlock 0 (dLoop (dSeq (dOps (dV p13 (oAr .lss (.t p12) (.t p11))
dE))
(dSeq (dCond (.t p13) dSkip (dExit 0))
(dSeq (dBlock 1 (dSeq (dOps (dV p14 (oIa 4 (.t p10) (.t p12))
(dV p15 (oLdN 4 (.t p14))
(dV p5 (oNew [(.int .i64 (.ofNat 0)), (.int .i64 (.ofNat 0)), (.int .i64 (.ofNat 0)), (.int .i64 (.ofNat 0))] 408)
(dU (oSt 4 (.t p5) (.t p15))
dE)))))
(dSeq (dOps (dV p16 (oMv (.t p3))
(dV p17 (oLen (.t p16))
(dV p18 (oAr .sub (.t p17) (.c (.int .i64 (.ofNat 1))))
(dV p6 (oMv (.t p18))
dE)))))
(dSeq (dSeq (dDraw (sN p19 ⟨(some p19), (.v (.mv (.t p6))), none⟩
(sN p20 ⟨(some p20), (.v (.ar .lss (.t p19) (.c (.int .i64 (.ofNat 0))))), none⟩
(sN p21 ⟨(some p21), (.v (.mv (.t p20))), none⟩
(sN p22 ⟨(some p22), (.v (.mv (.t p3))), (some (p21, false))⟩
(sN p23 ⟨(some p23), (.v (.mv (.t p6))), (some (p21, false))⟩
(sN p24 ⟨(some p24), (.v (.ia 4 (.t p22) (.t p23))), (some (p21, false))⟩
(sN p25 ⟨(some p25), (.v (.fa 0 (.t p24))), (some (p21, false))⟩
(sN p26 ⟨(some p26), (.v (.ld1 (.t p25))), (some (p21, false))⟩
(sN p27 ⟨(some p27), (.v (.fa 0 (.t p5))), (some (p21, false))⟩
(sN p28 ⟨(some p28), (.v (.ld1 (.t p27))), (some (p21, false))⟩
(sN p29 ⟨(some p29), (.v (.ar .neq (.t p26) (.t p28))), (some (p21, false))⟩
(sN p30 ⟨(some p30), (.v (.pick (.t p21) (.c (.bool true)) (.t p29))), none⟩
sEnd)))))))))))))
(dCond (.t p30) (dSeq (dOps (dV p31 (oMv (.t p3))
(dV p32 (oLdN 4 (.t p5))
(dV p33 (oBuildS 408 1 [(.int .i64 (.ofNat 0)), (.int .i64 (.ofNat 0)), (.int .i64 (.ofNat 0)), (.int .i64 (.ofNat 0))] [(0, 4, (.t p32))])
(dV p34 (oApp 408 4 (.t p31) (.t p33))
(dV p3 (oMv (.t p34))
dE))))))
(dExit 1)) dSkip))
(dSeq (dOps (dV p35 (oMv (.t p3))
(dV p36 (oMv (.t p6))
(dV p37 (oIa 4 (.t p35) (.t p36))
(dV p38 (oLdN 4 (.t p37))
(dV p7 (oNew [(.int .i64 (.ofNat 0)), (.int .i64 (.ofNat 0)), (.int .i64 (.ofNat 0)), (.int .i64 (.ofNat 0))] 408)
(dU (oSt 4 (.t p7) (.t p38))
dE)))))))
(dOps (dV p39 (oMv (.t p3))
(dV p40 (oMv (.t p6))
(dV p41 (oFa 0 (.t p7))
(dV p42 (oLd1 (.t p41))
(dV p43 (oFa 1 (.t p7))
(dV p44 (oLd1 (.t p43))
(dV p45 (oFa 1 (.t p5))
(dV p46 (oLd1 (.t p45))
(dV p47 (oAr .add (.t p44) (.t p46))
(dV p48 (oFa 2 (.t p7))
(dV p49 (oLd1 (.t p48))
(dV p50 (oFa 2 (.t p5))
(dV p51 (oLd1 (.t p50))
(dV p52 (oMm true [(.t p49), (.t p51)])
(dV p53 (oFa 3 (.t p7))
(dV p54 (oLd1 (.t p53))
(dV p55 (oFa 3 (.t p5))
(dV p56 (oLd1 (.t p55))
(dV p57 (oMm true [(.t p54), (.t p56)])
(dV p58 (oBuild [(.int .i64 (.ofNat 0)), (.int .i64 (.ofNat 0)), (.int .i64 (.ofNat 0)), (.int .i64 (.ofNat 0))] [(0, 1, (.t p42)), (1, 1, (.t p47)), (2, 1, (.t p52)), (3, 1, (.t p57))])
(dV p59 (oIa 4 (.t p39) (.t p40))
(dU (oSt 4 (.t p59) (.t p58))
dE))))))))))))))))))))))))))))
(dOps (dV p60 (oAr .add (.t p12) (.c (.int .i64 (.ofNat 1))))
(dV p12 (oMv (.t p60))
dE)))))))))
(dSeq (dOps (dV p61 (oMv (.t p3))
(dV p2 (oMv (.t p61))
dE)))
dRet))))), [(.t p2)]⟩
def af322 : AF := ⟨(dSeq (dOps (dV p5 (oFa 0 (.t p1))
(dV p6 (oFa 16 (.t p5))
(dV p7 (oLd1 (.t p6))
(dV p8 (oLen (.t p7))
(dV p9 (oMv (.c (.int .i64 (.ofNat 0))))
dE))))))
(dBlock 0 (dLoop (dSeq (dOps (dV p10 (oAr .lss (.t p9) (.t p8))
dE))
(dSeq (dCond (.t p10) dSkip (dExit 0))
(dSeq (dBlock 1 (dSeq (dOps (dV p11 (oIa 7 (.t p7) (.t p9))
(dV p12 (oLdN 7 (.t p11))
(dV p4 (oNew [(.str []), (.int .i64 (.ofNat 0)), (.int .i64 (.ofNat 0)), (.bool false), (.str []), .nils, .nils] 44)
(dU (oSt 7 (.t p4) (.t p12))
dE)))))
(dSeq (dOps (dV p13 (oMv (.t p0))
(dV p14 (oLdN 21 (.t p1))
(dV p15 (oLdN 7 (.t p4))
(dC (some p16) p131 [(.t p14), (.t p15)]
(dV p17 (oExt (.t p16) 0)
(dV p18 (oExt (.t p16) 1)
(dCv (some p19) (.t p13) [(.t p17), (.t p18)]
(dV p20 (oUn .not (.t p19))
dE)))))))))
(dCond (.t p20) dRet dSkip))))
(dOps (dV p21 (oAr .add (.t p9) (.c (.int .i64 (.ofNat 1))))
(dV p9 (oMv (.t p21))
dE))))))))), []⟩
def af323 : AF := ⟨(dSeq (dOps (dV p3 (oBox 464 (.t p0))
(dV p6 (oNew [(.int .i64 (.ofNat 0)), (.int .i64 (.ofNat 0)), (.bool false), (.str []), .nils, .nils] 26)
dE)))
(dSeq (dSeq (dOps (dV p7 (oMv (.t p1))
(dV p8 (oLen (.t p7))
(dV p9 (oAr .eql (.t p8) (.c (.int .i64 (.ofNat 0))))
dE))))
(dCond (.t p9) (dSeq (dOps (dV p10 (oMv (.t p2))
(dV p11 (oLdN 2 (.t p3))
(dCv (some p12) (.t p10) [(.t p11)]
(dU (oSt 6 (.t p6) (.t p12))
dE)))))
dRet) dSkip))
(dSeq (dDraw (sN p13 ⟨(some p13), (.v (.ldN 2 (.t p3))), none⟩
(sN p14 ⟨(some p14), (.v (.mv (.t p1))), none⟩
(sN p15 ⟨(some p15), (.v (.ia 6 (.t p14) (.c (.int .i64 (.ofNat 0))))), none⟩
(sN p16 ⟨(some p16), (.v (.ldN 6 (.t p15))), none⟩
(sN p18 ⟨(some p18), (.v (.ldN 2 (.t p3))), none⟩
(sN p20 ⟨(some p20), (.v (.mv (.t p1))), none⟩
(sN p21 ⟨(some p21), (.v (.sl 6 (.t p20) (some (.c (.int .i64 (.ofNat 1)))) none none)), none⟩
(sN p22 ⟨(some p22), (.v (.mv (.t p2))), none⟩
(sE [] [(p18, ⟨(some p18), (.v (.ldN 2 (.t p3))), none⟩)] ⟨(some p17), (.call p352 [(.t p13), (.t p16)]), none⟩
(sE [] [] ⟨(some p19), (.call p353 [(.t p18)]), none⟩
(sE [] [] ⟨(some p23), (.call p323 [(.t p19), (.t p21), (.t p22)]), none⟩
(sE [] [] ⟨(some p24), (.call p325 [(.t p17), (.t p23)]), none⟩
(sE [] [] ⟨none, (.v (.st 6 (.t p6) (.t p24))), none⟩
sEnd))))))))))))))
dRet))), [(.cN p6 6)]⟩
def af324 : AF := ⟨(dSeq (dOps (dV p3 (oBox 464 (.t p0))
(dV p4 (oNew [(.int .i64 (.ofNat 0)), (.int .i64 (.ofNat 0)), (.bool false), (.str []), .nils, .nils] 26)
dE)))
(dSeq (dDraw (sN p5 ⟨(some p5), (.v (.ldN 21 (.t p1))), none⟩
(sN p6 ⟨(some p6), (.v (.ldN 2 (.t p3))), none⟩
(sN p8 ⟨(some p8), (.v (.ldN 21 (.t p1))), none⟩
(sN p9 ⟨(some p9), (.v (.ld1 (.t p2))), none⟩
(sN p10 ⟨(some p10), (.v (.ldN 2 (.t p3))), none⟩
(sE [] [(p8, ⟨(some p8), (.v (.ldN 21 (.t p1))), none⟩), (p9, ⟨(some p9), (.v (.ld1 (.t p2))), none⟩), (p10, ⟨(some p10), (.v (.ldN 2 (.t p3))), none⟩)] ⟨(some p7), (.call p326 [(.t p5), (.t p6)]), none⟩
(sE [] [(p8, ⟨(some p8), (.v (.ldN 21 (.t p1))), none⟩), (p9, ⟨(some p9), (.v (.ld1 (.t p2))), none⟩)] ⟨(some p11), (.call p328 [(.t p10)]), none⟩
(sE [] [] ⟨(some p12), (.call p327 [(.t p8), (.t p9), (.t p11)]), none⟩
(sE [] [] ⟨(some p13), (.call p325 [(.t p7), (.t p12)]), none⟩
(sE [] [] ⟨none, (.v (.st 6 (.t p4) (.t p13))), none⟩
sEnd)))))))))))
dRet)), [(.cN p4 6)]⟩
def af325 : AF := ⟨(dSeq (dOps (dV p2 (oBox 26 (.t p0))
(dV p3 (oBox 26 (.t p1))
(dV p4 (oNew [(.int .i64 (.ofNat 0)), (.int .i64 (.ofNat 0)), (.bool false), (.str []), .nils, .nils] 26)
dE))))
(dSeq (dOps (dV p5 (oLdN 6 (.t p2))
(dV p6 (oLdN 6 (.t p3))
(dV p7 (oBuildS 26 2 [(.int .i64 (.ofNat 0)), (.int .i64 (.ofNat 0)), (.bool false), (.str []), .nils, .nils, (.int .i64 (.ofNat 0)), (.int .i64 (.ofNat 0)), (.bool false), (.str []), .nils, .nils] [(0, 6, (.t p5)), (6, 6, (.t p6))])
(dV p8 (oBuild [(.int .i64 (.ofNat 0)), (.int .i64 (.ofNat 0)), (.bool false), (.str []), .nils, .nils] [(0, 1, (.c (.int .i64 (.ofNat 3)))), (5, 1, (.t p7))])
(dU (oSt 6 (.t p4) (.t p8))
dE))))))
dRet)), [(.cN p4 6)]⟩
def af326 : AF := ⟨(dSeq (dOps (dV p2 (oBox 163 (.t p0))
(dV p3 (oBox 464 (.t p1))
(dV p4 (oNew [(.int .i64 (.ofNat 0)), (.int .i64 (.ofNat 0)), (.bool false), (.str []), .nils, .nils] 26)
dE))))
(dSeq (dOps (dV p6 (oFa 0 (.t p2))
(dV p7 (oFa 2 (.t p6))
(dV p8 (oLd1 (.t p7))
(dC (some p9) p282 [(.t p8)]
(dV p10 (oBuildS 49 1 [(.int .i64 (.ofNat 0)), .nils] [(0, 2, (.t p9))])
(dV p11 (oBuild [(.int .i64 (.ofNat 0)), (.int .i64 (.ofNat 0)), (.bool false), (.str []), .nils, .nils] [(0, 1, (.c (.int .i64 (.ofNat 2)))), (4, 1, (.t p10))])
(dV p5 (oNew [(.int .i64 (.ofNat 0)), (.int .i64 (.ofNat 0)), (.bool false), (.str []), .nils, .nils] 26)
(dU (oSt 6 (.t p5) (.t p11))
dE)))))))))
(dSeq (dOps (dV p12 (oLdN 2 (.t p3))
(dV p13 (oFa 18 (.t p2))
(dV p14 (oLd1 (.t p13))
(dV p15 (oMkf 354 [] [(.t p2), (.t p5)])
(dC (some p16) p323 [(.t p12), (.t p14), (.t p15)]
(dU (oSt 6 (.t p4) (.t p16))
dE)))))))
dRet))), [(.cN p4 6)]⟩
def af327 : AF := ⟨(dSeq (dOps (dV p3 (oBox 163 (.t p0))
(dV p5 (oBox 464 (.t p2))
(dV p6 (oNew [(.int .i64 (.ofNat 0)), (.int .i64 (.ofNat 0)), (.bool false), (.str []), .nils, .nils] 26)
dE))))
(dSeq (dSeq (dOps (dV p7 (oMv (.t p1))
(dV p8 (oLen (.t p7))
(dV p9 (oAr .gtr (.t p8) (.c (.int .i64 (.ofNat 0))))
dE))))
(dCond (.t p9) (dSeq (dDraw (sN p10 ⟨(some p10), (.v (.ldN 21 (.t p3))), none⟩
(sN p11 ⟨(some p11), (.v (.mv (.t p1))), none⟩
(sN p12 ⟨(some p12), (.v (.ia 4 (.t p11) (.c (.int .i64 (.ofNat 0))))), none⟩
(sN p13 ⟨(some p13), (.v (.ldN 4 (.t p12))), none⟩
(sN p14 ⟨(some p14), (.v (.ldN 2 (.t p5))), none⟩
(sN p16 ⟨(some p16), (.v (.ldN 21 (.t p3))), none⟩
(sN p17 ⟨(some p17), (.v (.mv (.t p1))), none⟩
(sN p18 ⟨(some p18), (.v (.sl 4 (.t p17) (some (.c (.int .i64 (.ofNat 1)))) none none)), none⟩
(sN p19 ⟨(some p19), (.v (.ldN 2 (.t p5))), none⟩
(sE [] [(p16, ⟨(some p16), (.v (.ldN 21 (.t p3))), none⟩), (p19, ⟨(some p19), (.v (.ldN 2 (.t p5))), none⟩)] ⟨(some p15), (.call p356 [(.t p10), (.t p13), (.t p14)]), none⟩
(sE [] [(p16, ⟨(some p16), (.v (.ldN 21 (.t p3))), none⟩)] ⟨(some p20), (.call p328 [(.t p19)]), none⟩
(sE [] [] ⟨(some p21), (.call p327 [(.t p16), (.t p18), (.t p20)]), none⟩
(sE [] [] ⟨(some p22), (.call p325 [(.t p15), (.t p21)]), none⟩
(sE [] [] ⟨none, (.v (.st 6 (.t p6) (.t p22))), none⟩
sEnd)))))))))))))))
dRet) dSkip))
(dSeq (dOps (dV p23 (oLdN 2 (.t p5))
(dV p24 (oFa 18 (.t p3))
(dV p25 (oLd1 (.t p24))
(dV p26 (oMkf 357 [] [(.t p3)])
(dC (some p27) p323 [(.t p23), (.t p25), (.t p26)]
(dU (oSt 6 (.t p6) (.t p27))
dE)))))))
dRet))), [(.cN p6 6)]⟩
def af328 : AF := ⟨(dSeq (dOps (dV p1 (oBox 464 (.t p0))
(dV p2 (oNew [.nils, (.int .i64 (.ofNat 0))] 464)
dE)))
(dSeq (dOps (dV p3 (oFa 0 (.t p1))
(dV p4 (oLd1 (.t p3))
(dV p5 (oFa 1 (.t p1))
(dV p6 (oLd1 (.t p5))
(dV p7 (oAr .add (.t p6) (.c (.int .i64 (.ofNat 1))))
(dV p8 (oBuild [.nils, (.int .i64 (.ofNat 0))] [(0, 1, (.t p4)), (1, 1, (.t p7))])
(dU (oSt 2 (.t p2) (.t p8))
dE))))))))
dRet)), [(.cN p2 2)]⟩
def af329 : AF := ⟨(dSeq (dOps (dV p3 (oBox 49 (.t p1))
(dV p4 (oNew [(.int .i64 (.ofNat 0)), .nils] 49)
(dV p5 (oMv (.c (.int .i64 (.ofNat 0))))
dE))))
(dSeq (dOps (dV p9 (oMv (.t p0))
(dV p10 (oNchk (.t p9))
(dV p11 (oFa 0 (.t p10))
(dV p12 (oLd1 (.t p11))
(dV p6 (oMv (.t p12))
dE))))))
(dSeq (dSeq (dOps (dV p13 (oMv (.t p0))
(dV p14 (oNchk (.t p13))
(dV p15 (oFa 1 (.t p14))
(dV p16 (oLd1 (.t p15))
dE)))))
(dCond (.t p16) (dOps (dV p17 (oMv (.t p6))
(dV p18 (oMv (.t p6))
(dV p19 (oLen (.t p18))
(dV p20 (oLdN 2 (.t p3))
(dC (some p21) p209 [(.t p20)]
(dV p22 (oMm false [(.t p19), (.t p21)])
(dV p23 (oSl 2 (.t p17) none (some (.t p22)) none)
(dV p6 (oMv (.t p23))
dE))))))))) dSkip))
(dSeq (dOps (dV p25 (oLdN 2 (.t p3))
(dV p26 (oMv (.t p6))
(dC (some p27) p362 [(.t p25), (.t p26)]
(dV p24 (oMv (.t p27))
(dV p28 (oExt (.t p24) 0)
(dV p29 (oExt (.t p24) 1)
(dV p7 (oNew [(.int .i64 (.ofNat 0)), .nils] 49)
(dU (oSt 2 (.t p7) (.t p28))
(dV p8 (oMv (.t p29))
dE))))))))))
(dSeq (dOps (dV p30 (oMv (.t p0))
(dV p31 (oMv (.t p8))
(dV p32 (oAr .eql (.t p31) (.c (.int .i64 (.ofNat 0))))
(dV p33 (oNchk (.t p30))
(dV p34 (oFa 1 (.t p33))
(dU (oSt 1 (.t p34) (.t p32))
dE)))))))
(dSeq (dOps (dV p35 (oLdN 2 (.t p7))
(dV p36 (oMv (.t p8))
(dU (oSt 2 (.t p4) (.t p35))
(dV p5 (oMv (.t p36))
dE)))))
dRet)))))), [(.cN p4 2), (.t p5)]⟩
def af330 : AF := ⟨(dSeq (dOps (dV p3 (oBox 237 (.t p1))
dE))
(dSeq (dDraw (sN p5 ⟨(some p5), (.v (.mv (.t p0))), none⟩
(sN p6 ⟨(some p6), (.v (.nchk (.t p5))), none⟩
(sN p7 ⟨(some p7), (.v (.fa 8 (.t p6))), none⟩
(sN p8 ⟨(some p8), (.v (.fa 4 (.t p7))), none⟩
(sN p9 ⟨(some p9), (.v (.ld1 (.t p8))), none⟩
(sN p11 ⟨(some p11), (.v (.ldN 4 (.t p3))), none⟩
(sA 8 p4 (.new [(.int .i64 (.ofNat 0)), (.int .i64 (.ofNat 0)), (.int .i64 (.ofNat 0)), (.int .i64 (.ofNat 0))] 237)
(sE [] [(p11, ⟨(some p11), (.v (.ldN 4 (.t p3))), none⟩)] ⟨(some p10), (.call p289 [(.t p9)]), none⟩
(sE [] [] ⟨(some p12), (.call p363 [(.t p10), (.t p11)]), none⟩
(sE [8] [] ⟨none, (.v (.st 4 (.t p4) (.t p12))), none⟩
sEnd)))))))))))
(dSeq (dDraw (sN p13 ⟨(some p13), (.v (.mv (.t p0))), none⟩
(sN p14 ⟨(some p14), (.v (.mv (.t p0))), none⟩
(sN p15 ⟨(some p15), (.v (.nchk (.t p14))), none⟩
(sN p16 ⟨(some p16), (.v (.fa 8 (.t p15))), none⟩
(sN p17 ⟨(some p17), (.v (.fa 7 (.t p16))), none⟩
(sN p18 ⟨(some p18), (.v (.ldN 4 (.t p17))), none⟩
(sN p19 ⟨(some p19), (.v (.ldN 4 (.t p4))), none⟩
(sE [] [] ⟨(some p20), (.call p364 [(.t p18), (.t p19)]), none⟩
(sN p21 ⟨(some p21), (.v (.nchk (.t p13))), none⟩
(sN p22 ⟨(some p22), (.v (.fa 8 (.t p21))), none⟩
(sN p23 ⟨(some p23), (.v (.fa 7 (.t p22))), none⟩
(sE [] [] ⟨none, (.v (.st 4 (.t p23) (.t p20))), none⟩
sEnd)))))))))))))
(dDraw (sN p24 ⟨(some p24), (.v (.mv (.t p0))), none⟩
(sN p25 ⟨(some p25), (.v (.mv (.t p0))), none⟩
(sN p26 ⟨(some p26), (.v (.nchk (.t p25))), none⟩
(sN p27 ⟨(some p27), (.v (.fa 8 (.t p26))), none⟩
(sN p28 ⟨(some p28), (.v (.fa 5 (.t p27))), none⟩
(sN p29 ⟨(some p29), (.v (.ldN 2 (.t p28))), none⟩
(sN p30 ⟨(some p30), (.v (.ldN 4 (.t p4))), none⟩
(sE [] [] ⟨(some p31), (.call p363 [(.t p29), (.t p30)]), none⟩
(sE [] [] ⟨(some p32), (.call p232 [(.t p24), (.t p31)]), none⟩
sEnd))))))))))))), []⟩
def af331 : AF := ⟨(dSeq (dOps (dV p3 (oBox 233 (.t p1))
(dV p4 (oMv (.c .nilp))
dE)))
(dSeq (dSeq (dOps (dV p7 (oLd1 (.t p3))
(dV p8 (oEq .p false (.t p7) (.c .nilp))
dE)))
(dCond (.t p8) (dSeq (dOps (dV p9 (oMv (.t p0))
(dV p4 (oMv (.t p9))
dE)))
dRet) dSkip))
(dSeq (dSeq (dOps (dV p10 (oMv (.t p0))
(dC (some p11) p250 [(.t p10)]
(dC (some p12) p252 [(.t p11)]
(dC (some p13) p251 [(.t p12)]
dE)))))
(dBlock 0 (dRange (.t p13) [p14, p15] (dOps (dV p6 (oMv (.t p15))
dE)) (dBlock 1 (dDraw (sN p16 ⟨(some p16), (.v (.ld1 (.t p3))), none⟩
(sN p17 ⟨(some p17), (.v (.mv (.t p6))), none⟩
(sN p18 ⟨(some p18), (.v (.nchk (.t p17))), none⟩
(sN p19 ⟨(some p19), (.v (.fa 0 (.t p18))), none⟩
(sN p20 ⟨(some p20), (.v (.ld1 (.t p19))), none⟩
(sN p21 ⟨(some p21), (.v (.mv (.t p6))), none⟩
(sN p22 ⟨(some p22), (.v (.nchk (.t p21))), none⟩
(sN p23 ⟨(some p23), (.v (.fa 1 (.t p22))), none⟩
(sN p24 ⟨(some p24), (.v (.ld1 (.t p23))), none⟩
(sE [] [] ⟨(some p25), (.call p253 [(.t p16), (.t p20), (.t p24)]), none⟩
(sE [] [] ⟨none, (.v (.st 1 (.t p3) (.t p25))), none⟩
sEnd))))))))))))))))
(dSeq (dOps (dV p26 (oLd1 (.t p3))
(dV p4 (oMv (.t p26))
dE)))
dRet)))), [(.t p4)]⟩
def af332 : AF := ⟨(dSeq (dSeq (dOps (dV p2 (oMv (.t p0))
(dV p3 (oNchk (.t p2))
(dV p4 (oFa 1 (.t p3))
(dV p5 (oLd1 (.t p4))
(dV p6 (oAr .leq (.t p5) (.c (.int .i64 (.ofNat 0))))
dE))))))
(dCond (.t p6) (dOps (dC (some p7) p272 [(.c (.int .i64 (.ofNat 3)))]
dE)) dSkip))
(dOps (dV p8 (oMv (.t p0))
(dV p9 (oNchk (.t p8))
(dV p10 (oFa 1 (.t p9))
(dV p11 (oLd1 (.t p10))
(dV p12 (oAr .sub (.t p11) (.c (.int .i64 (.ofNat 1))))
(dV p13 (oNchk (.t p8))
(dV p14 (oFa 1 (.t p13))
(dU (oSt 1 (.t p14) (.t p12))
dE)))))))))), []⟩
def af333 : AF := ⟨(dSeq (dOps (dV p4 (oBox 222 (.t p1))
dE))
(dSeq (dOps (dV p6 (oMv (.t p0))
(dV p7 (oMv (.t p0))
(dV p8 (oLdN 3 (.t p4))
(dV p9 (oBuild [.nilp, (.int .i64 (.ofNat 0)), .nilp, .nilp] [(0, 3, (.t p8))])
(dV p10 (oMv (.t p2))
(dV p11 (oNchk (.t p6))
(dV p12 (oFa 8 (.t p11))
(dV p13 (oFa 0 (.t p12))
(dU (oSt 4 (.t p13) (.t p9))
(dV p14 (oNchk (.t p7))
(dV p15 (oFa 8 (.t p14))
(dV p16 (oFa 4 (.t p15))
(dU (oSt 1 (.t p16) (.t p10))
dE))))))))))))))
(dOps (dV p17 (oMv (.t p0))
(dV p18 (oLdN 3 (.t p4))
(dC (some p19) p237 [(.t p18)]
(dC (some p20) p330 [(.t p17), (.t p19)]
dE))))))), []⟩
def af334 : AF := ⟨(dSeq (dOps (dV p4 (oMv (.c .nilp))
dE))
(dSeq (dSeq (dOps (dV p5 (oMv (.t p1))
(dV p6 (oNchk (.t p5))
(dV p7 (oFa 11 (.t p6))
(dV p8 (oLd1 (.t p7))
(dV p9 (oEq .p false (.t p8) (.c .nilp))
dE))))))
(dCond (.t p9) (dOps (dV p10 (oMv (.t p1))
(dV p11 (oMv (.t p0))
(dV p12 (oMv (.t p1))
(dV p13 (oNchk (.t p12))
(dV p14 (oFa 0 (.t p13))
(dV p15 (oLdN 6 (.t p14))
(dC (some p16) p365 [(.t p11), (.t p15)]
(dV p17 (oNchk (.t p10))
(dV p18 (oFa 11 (.t p17))
(dU (oSt 1 (.t p18) (.t p16))
dE))))))))))) dSkip))
(dSeq (dOps (dV p19 (oMv (.t p1))
(dV p20 (oNchk (.t p19))
(dV p21 (oFa 11 (.t p20))
(dV p22 (oLd1 (.t p21))
(dV p4 (oMv (.t p22))
dE))))))
dRet))), [(.t p4)]⟩
def af335 : AF := ⟨(dSeq (dOps (dV p2 (oMv (.c (.bool false)))
dE))
(dSeq (dOps (dC (some p10) p261 []
(dV p9 (oMv (.t p10))
(dV p11 (oExt (.t p9) 0)
(dV p12 (oExt (.t p9) 1)
(dV p13 (oExt (.t p9) 2)
(dV p14 (oExt (.t p9) 3)
(dV p15 (oExt (.t p9) 4)
(dV p16 (oExt (.t p9) 5)
(dV p3 (oMv (.t p11))
(dV p4 (oMv (.t p12))
(dV p5 (oMv (.t p13))
(dV p6 (oMv (.t p14))
(dV p7 (oMv (.t p15))
(dV p8 (oMv (.t p16))
dE)))))))))))))))
(dSeq (dDraw (sN p17 ⟨(some p17), (.v (.mv (.t p0))), none⟩
(sN p18 ⟨(some p18), (.v (.nchk (.t p17))), none⟩
(sN p19 ⟨(some p19), (.v (.fa 6 (.t p18))), none⟩
(sN p20 ⟨(some p20), (.v (.ld1 (.t p19))), none⟩
(sN p21 ⟨(some p21), (.v (.mv (.t p5))), none⟩
(sN p22 ⟨(some p22), (.v (.ar .eql (.t p20) (.t p21))), none⟩
(sN p23 ⟨(some p23), (.v (.mv (.t p22))), none⟩
(sN p24 ⟨(some p24), (.v (.mv (.t p0))), (some (p23, true))⟩
(sN p25 ⟨(some p25), (.v (.nchk (.t p24))), (some (p23, true))⟩
(sN p26 ⟨(some p26), (.v (.fa 0 (.t p25))), (some (p23, true))⟩
(sN p27 ⟨(some p27), (.v (.fa 4 (.t p26))), (some (p23, true))⟩
(sN p28 ⟨(some p28), (.v (.ld1 (.t p27))), (some (p23, true))⟩
(sN p29 ⟨(some p29), (.v (.len (.t p28))), (some (p23, true))⟩
(sN p30 ⟨(some p30), (.v (.mv (.t p0))), (some (p23, true))⟩
(sN p31 ⟨(some p31), (.v (.nchk (.t p30))), (some (p23, true))⟩
(sN p32 ⟨(some p32), (.v (.fa 7 (.t p31))), (some (p23, true))⟩
(sN p33 ⟨(some p33), (.v (.fa 2 (.t p32))), (some (p23, true))⟩
(sN p34 ⟨(some p34), (.v (.ld1 (.t p33))), (some (p23, true))⟩
(sN p35 ⟨(some p35), (.v (.ar .eql (.t p29) (.t p34))), (some (p23, true))⟩
(sN p36 ⟨(some p36), (.v (.pick (.t p23) (.t p35) (.c (.bool false)))), none⟩
(sN p2 ⟨(some p2), (.v (.mv (.t p36))), none⟩
sEnd))))))))))))))))))))))
dRet))), [(.t p2)]⟩
def af336 : AF := ⟨(dSeq (dOps (dV p2 (oMv (.c .nilp))
dE))
(dSeq (dSeq (dOps (dV p3 (oMv (.t p0))
(dV p4 (oNchk (.t p3))
(dV p5 (oFa 25 (.t p4))
(dV p6 (oLd1 (.t p5))
(dV p7 (oEq .p false (.t p6) (.c .nilp))
dE))))))
(dCond (.t p7) (dDraw (sN p8 ⟨(some p8), (.v (.mv (.t p0))), none⟩
(sN p9 ⟨(some p9), (.v (.mv (.t p0))), none⟩
(sN p10 ⟨(some p10), (.v (.nchk (.t p9))), none⟩
(sN p11 ⟨(some p11), (.v (.fa 7 (.t p10))), none⟩
(sN p12 ⟨(some p12), (.v (.fa 9 (.t p11))), none⟩
(sN p13 ⟨(some p13), (.v (.ldN 6 (.t p12))), none⟩
(sN p14 ⟨(some p14), (.v (.mv (.t p0))), none⟩
(sN p15 ⟨(some p15), (.v (.nchk (.t p14))), none⟩
(sN p16 ⟨(some p16), (.v (.fa 0 (.t p15))), none⟩
(sN p17 ⟨(some p17), (.v (.fa 4 (.t p16))), none⟩
(sN p18 ⟨(some p18), (.v (.ld1 (.t p17))), none⟩
(sE [] [] ⟨(some p19), (.call p366 [(.t p13), (.t p18)]), none⟩
(sE [] [] ⟨(some p20), (.call p126 [(.t p19)]), none⟩
(sN p21 ⟨(some p21), (.v (.nchk (.t p8))), none⟩
(sN p22 ⟨(some p22), (.v (.fa 25 (.t p21))), none⟩
(sE [] [] ⟨none, (.v (.st 1 (.t p22) (.t p20))), none⟩
sEnd))))))))))))))))) dSkip))
(dSeq (dOps (dV p23 (oMv (.t p0))
(dV p24 (oNchk (.t p23))
(dV p25 (oFa 25 (.t p24))
(dV p26 (oLd1 (.t p25))
(dV p2 (oMv (.t p26))
dE))))))
dRet))), [(.t p2)]⟩
def af337 : AF := ⟨(dSeq (dOps (dV p2 (oMv (.c (.bool false)))
dE))
(dSeq (dOps (dC (some p10) p261 []
(dV p9 (oMv (.t p10))
(dV p11 (oExt (.t p9) 0)
(dV p12 (oExt (.t p9) 1)
(dV p13 (oExt (.t p9) 2)
(dV p14 (oExt (.t p9) 3)
(dV p15 (oExt (.t p9) 4)
(dV p16 (oExt (.t p9) 5)
(dV p3 (oMv (.t p11))
(dV p4 (oMv (.t p12))
(dV p5 (oMv (.t p13))
(dV p6 (oMv (.t p14))
(dV p7 (oMv (.t p15))
(dV p8 (oMv (.t p16))
dE)))))))))))))))
(dSeq (dDraw (sN p17 ⟨(some p17), (.v (.mv (.t p0))), none⟩
(sN p18 ⟨(some p18), (.v (.nchk (.t p17))), none⟩
(sN p19 ⟨(some p19), (.v (.fa 6 (.t p18))), none⟩
(sN p20 ⟨(some p20), (.v (.ld1 (.t p19))), none⟩
(sN p21 ⟨(some p21), (.v (.mv (.t p8))), none⟩
(sN p22 ⟨(some p22), (.v (.ar .eql (.t p20) (.t p21))), none⟩
(sN p23 ⟨(some p23), (.v (.mv (.t p22))), none⟩
(sN p24 ⟨(some p24), (.v (.mv (.t p0))), (some (p23, true))⟩
(sN p25 ⟨(some p25), (.v (.nchk (.t p24))), (some (p23, true))⟩
(sN p26 ⟨(some p26), (.v (.fa 0 (.t p25))), (some (p23, true))⟩
(sN p27 ⟨(some p27), (.v (.fa 4 (.t p26))), (some (p23, true))⟩
(sN p28 ⟨(some p28), (.v (.ld1 (.t p27))), (some (p23, true))⟩
(sN p29 ⟨(some p29), (.v (.len (.t p28))), (some (p23, true))⟩
(sN p30 ⟨(some p30), (.v (.mv (.t p0))), (some (p23, true))⟩
(sN p31 ⟨(some p31), (.v (.nchk (.t p30))), (some (p23, true))⟩
(sN p32 ⟨(some p32), (.v (.fa 7 (.t p31))), (some (p23, true))⟩
(sN p33 ⟨(some p33), (.v (.fa 2 (.t p32))), (some (p23, true))⟩
(sN p34 ⟨(some p34), (.v (.ld1 (.t p33))), (some (p23, true))⟩
(sN p35 ⟨(some p35), (.v (.ar .add (.t p34) (.c (.int .i64 (.ofNat 1))))), (some (p23, true))⟩
(sN p36 ⟨(some p36), (.v (.ar .eql (.t p29) (.t p35))), (some (p23, true))⟩
(sN p37 ⟨(some p37), (.v (.pick (.t p23) (.t p36) (.c (.bool false)))), none⟩
(sN p38 ⟨(some p38), (.v (.mv (.t p37))), none⟩
(sN p39 ⟨(some p39), (.v (.mv (.t p0))), (some (p38, true))⟩
(sN p40 ⟨(some p40), (.v (.nchk (.t p39))), (some (p38, true))⟩
(sN p41 ⟨(some p41), (.v (.fa 24 (.t p40))), (some (p38, true))⟩
(sN p42 ⟨(some p42), (.v (.ld1 (.t p41))), (some (p38, true))⟩
(sN p43 ⟨(some p43), (.v (.nchk (.t p42))), (some (p38, true))⟩
(sN p44 ⟨(some p44), (.v (.fa 17 (.t p43))), (some (p38, true))⟩
(sN p45 ⟨(some p45), (.v (.ld1 (.t p44))), (some (p38, true))⟩
(sN p46 ⟨(some p46), (.v (.pick (.t p38) (.t p45) (.c (.bool false)))), none⟩
(sN p47 ⟨(some p47), (.v (.mv (.t p46))), none⟩
(sN p48 ⟨(some p48), (.v (.mv (.t p0))), (some (p47, true))⟩
(sN p49 ⟨(some p49), (.v (.nchk (.t p48))), (some (p47, true))⟩
(sN p50 ⟨(some p50), (.v (.fa 7 (.t p49))), (some (p47, true))⟩
(sN p51 ⟨(some p51), (.v (.fa 16 (.t p50))), (some (p47, true))⟩
(sN p52 ⟨(some p52), (.v (.ld1 (.t p51))), (some (p47, true))⟩
(sN p53 ⟨(some p53), (.v (.len (.t p52))), (some (p47, true))⟩
(sN p54 ⟨(some p54), (.v (.ar .gtr (.t p53) (.c (.int .i64 (.ofNat 0))))), (some (p47, true))⟩
(sN p55 ⟨(some p55), (.v (.pick (.t p47) (.t p54) (.c (.bool false)))), none⟩
(sN p2 ⟨(some p2), (.v (.mv (.t p55))), none⟩
sEnd)))))))))))))))))))))))))))))))))))))))))
dRet))), [(.t p2)]⟩
def af338 : AF := ⟨(dSeq (dOps (dV p4 (oMv (.c .nilp))
dE))
(dSeq (dBlock 0 (dLoop (dSeq (dSeq (dOps (dV p5 (oMv (.t p0))
(dV p6 (oEq .p true (.t p5) (.c .nilp))
(dV p7 (oMv (.t p6))
(dG p7 true (some p8) (dV p8 (oMv (.t p1)))
(dG p7 true (some p9) (dV p9 (oAr .gtr (.t p8) (.c (.int .i64 (.ofNat 0)))))
(dV p10 (oPick (.t p7) (.t p9) (.c (.bool false)))
dE)))))))
(dCond (.t p10) dSkip (dExit 0)))
(dSeq (dBlock 1 (dOps (dV p13 (oMv (.t p0))
(dV p14 (oNchk (.t p13))
(dV p15 (oFa 2 (.t p14))
(dV p16 (oLd1 (.t p15))
(dV p0 (oMv (.t p16))
dE)))))))
(dOps (dV p11 (oMv (.t p1))
(dV p12 (oAr .sub (.t p11) (.c (.int .i64 (.ofNat 1))))
(dV p1 (oMv (.t p12))
dE))))))))
(dSeq (dOps (dV p17 (oMv (.t p0))
(dV p4 (oMv (.t p17))
dE)))
dRet))), [(.t p4)]⟩
def af339 : AF := ⟨(dSeq (dOps (dV p2 (oMv (.c (.int .i64 (.ofNat 0))))
dE))
(dSeq (dDraw (sN p3 ⟨(some p3), (.v (.mv (.t p0))), none⟩
(sN p5 ⟨(some p5), (.v (.mv (.t p0))), none⟩
(sN p6 ⟨(some p6), (.v (.nchk (.t p5))), none⟩
(sN p7 ⟨(some p7), (.v (.fa 19 (.t p6))), none⟩
(sN p8 ⟨(some p8), (.v (.ld1 (.t p7))), none⟩
(sE [] [(p8, ⟨(some p8), (.v (.ld1 (.t p7))), none⟩)] ⟨(some p4), (.call p367 [(.t p3)]), none⟩
(sN p9 ⟨(some p9), (.v (.ar .add (.t p4) (.t p8))), none⟩
(sN p2 ⟨(some p2), (.v (.mv (.t p9))), none⟩
sEnd)))))))))
dRet)), [(.t p2)]⟩
def af340 : AF := ⟨(dSeq (dOps (dV p4 (oMv (.c (.bool false)))
dE))
(dSeq (dSeq (dOps (dV p5 (oMv (.t p1))
(dV p6 (oNchk (.t p5))
(dV p7 (oFa 7 (.t p6))
(dV p8 (oLd1 (.t p7))
(dV p9 (oEq .p false (.t p8) (.c .nilp))
dE))))))
(dCond (.t p9) (dSeq (dOps (dV p10 (oMv (.t p0))
(dV p11 (oMv (.t p1))
(dV p12 (oBuild [(.int .i64 (.ofNat 0)), (.int .i64 (.ofNat 0))] [])
(dC (some p13) p266 [(.t p10), (.t p11), (.t p12)]
dE)))))
(dSeq (dOps (dV p4 (oMv (.c (.bool true)))
dE))
dRet)) dSkip))
(dSeq (dOps (dV p14 (oMv (.t p0))
(dV p15 (oMv (.t p1))
(dV p16 (oNchk (.t p15))
(dV p17 (oFa 8 (.t p16))
(dV p18 (oLdN 4 (.t p17))
(dC (some p19) p232 [(.t p14), (.t p18)]
dE)))))))
(dSeq (dOps (dV p4 (oMv (.c (.bool false)))
dE))
dRet)))), [(.t p4)]⟩
theorem ok158 : FunSem Tryz.prog 158 af158 := .of mixed (by kernel_rfl)
theorem ok159 : FunSem Tryz.prog 159 af159 := .of mixed (by kernel_rfl)
theorem ok160 : FunSem Tryz.prog 160 af160 := .of mixed (by kernel_rfl)
theorem ok161 : FunSem Tryz.prog 161 af161 := .of mixed (by kernel_rfl)
theorem ok162 : FunSem Tryz.prog 162 af162 := .of mixed (by kernel_rfl)
theorem ok164 : FunSem Tryz.prog 164 af164 := .of mixed (by kernel_rfl)
theorem ok165 : FunSem Tryz.prog 165 af165 := .of mixed (by kernel_rfl)
theorem ok166 : FunSem Tryz.prog 166 af166 := .of mixed (by kernel_rfl)
theorem ok171 : FunSem Tryz.prog 171 af171 := .of mixed (by kernel_rfl)
theorem ok172 : FunSem Tryz.prog 172 af172 := .of mixed (by kernel_rfl)
theorem ok173 : FunSem Tryz.prog 173 af173 := .of mixed (by kernel_rfl)
theorem ok175 : FunSem Tryz.prog 175 af175 := .of mixed (by kernel_rfl)
theorem ok176 : FunSem Tryz.prog 176 af176 := .of mixed (by kernel_rfl)
theorem ok179 : FunSem Tryz.prog 179 af179 := .of mixed (by kernel_rfl)
theorem ok180 : FunSem Tryz.prog 180 af180 := .of mixed (by kernel_rfl)
theorem ok181 : FunSem Tryz.prog 181 af181 := .of mixed (by kernel_rfl)
theorem ok182 : FunSem Tryz.prog 182 af182 := .of mixed (by kernel_rfl)
theorem ok183 : FunSem Tryz.prog 183 af183 := .of mixed (by kernel_rfl)
theorem ok184 : FunSem Tryz.prog 184 af184 := .of mixed (by kernel_rfl)
theorem ok185 : FunSem Tryz.prog 185 af185 := .of mixed (by kernel_rfl)
theorem ok186 : FunSem Tryz.prog 186 af186 := .of mixed (by kernel_rfl)
theorem ok188 : FunSem Tryz.prog 188 af188 := .of mixed (by kernel_rfl)
theorem ok189 : FunSem Tryz.prog 189 af189 := .of mixed (by kernel_rfl)
theorem ok190 : FunSem Tryz.prog 190 af190 := .of mixed (by kernel_rfl)
theorem ok191 : FunSem Tryz.prog 191 af191 := .of mixed (by kernel_rfl)
theorem ok192 : FunSem Tryz.prog 192 af192 := .of mixed (by kernel_rfl)
theorem ok193 : FunSem Tryz.prog 193 af193 := .of mixed (by kernel_rfl)
theorem ok194 : FunSem Tryz.prog 194 af194 := .of mixed (by kernel_rfl)
theorem ok195 : FunSem Tryz.prog 195 af195 := .of mixed (by kernel_rfl)
theorem ok196 : FunSem Tryz.prog 196 af196 := .of mixed (by kernel_rfl)
theorem ok197 : FunSem Tryz.prog 197 af197 := .of mixed (by kernel_rfl)
theorem ok198 : FunSem Tryz.prog 198 af198 := .of mixed (by kernel_rfl)
theorem ok199 : FunSem Tryz.prog 199 af199 := .of mixed (by kernel_rfl)
theorem ok200 : FunSem Tryz.prog 200 af200 := .of mixed (by kernel_rfl)
theorem ok201 : FunSem Tryz.prog 201 af201 := .of mixed (by kernel_rfl)
theorem ok202 : FunSem Tryz.prog 202 af202 := .of mixed (by kernel_rfl)
theorem ok203 : FunSem Tryz.prog 203 af203 := .of mixed (by kernel_rfl)
theorem ok204 : FunSem Tryz.prog 204 af204 := .of mixed (by kernel_rfl)
theorem ok205 : FunSem Tryz.prog 205 af205 := .of mixed (by kernel_rfl)
theorem ok206 : FunSem Tryz.prog 206 af206 := .of mixed (by kernel_rfl)
theorem ok207 : FunSem Tryz.prog 207 af207 := .of mixed (by kernel_rfl)
theorem ok208 : FunSem Tryz.prog 208 af208 := .of mixed (by kernel_rfl)
theorem ok209 : FunSem Tryz.prog 209 af209 := .of mixed (by kernel_rfl)
theorem ok210 : FunSem Tryz.prog 210 af210 := .of mixed (by kernel_rfl)
theorem ok211 : FunSem Tryz.prog 211 af211 := .of mixed (by kernel_rfl)
theorem ok212 : FunSem Tryz.prog 212 af212 := .of mixed (by kernel_rfl)
theorem ok213 : FunSem Tryz.prog 213 af213 := .of mixed (by kernel_rfl)
theorem ok214 : FunSem Tryz.prog 214 af214 := .of mixed (by kernel_rfl)
theorem ok215 : FunSem Tryz.prog 215 af215 := .of mixed (by kernel_rfl)
theorem ok216 : FunSem Tryz.prog 216 af216 := .of mixed (by kernel_rfl)
theorem ok217 : FunSem Tryz.prog 217 af217 := .of mixed (by kernel_rfl)
theorem ok218 : FunSem Tryz.prog 218 af218 := .of mixed (by kernel_rfl)
theorem ok219 : FunSem Tryz.prog 219 af219 := .of mixed (by kernel_rfl)
theorem ok220 : FunSem Tryz.prog 220 af220 := .of mixed (by kernel_rfl)
theorem ok222 : FunSem Tryz.prog 222 af222 := .of mixed (by kernel_rfl)
theorem ok226 : FunSem Tryz.prog 226 af226 := .of mixed (by kernel_rfl)
theorem ok227 : FunSem Tryz.prog 227 af227 := .of mixed (by kernel_rfl)
theorem ok228 : FunSem Tryz.prog 228 af228 := .of mixed (by kernel_rfl)
theorem ok229 : FunSem Tryz.prog 229 af229 := .of mixed (by kernel_rfl)
theorem ok230 : FunSem Tryz.prog 230 af230 := .of mixed (by kernel_rfl)
theorem ok232 : FunSem Tryz.prog 232 af232 := .of mixed (by kernel_rfl)
theorem ok233 : FunSem Tryz.prog 233 af233 := .of mixed (by kernel_rfl)
theorem ok234 : FunSem Tryz.prog 234 af234 := .of mixed (by kernel_rfl)
theorem ok235 : FunSem Tryz.prog 235 af235 := .of mixed (by kernel_rfl)
theorem ok236 : FunSem Tryz.prog 236 af236 := .of mixed (by kernel_rfl)
theorem ok237 : FunSem Tryz.prog 237 af237 := .of mixed (by kernel_rfl)
theorem ok238 : FunSem Tryz.prog 238 af238 := .of mixed (by kernel_rfl)
theorem ok239 : FunSem Tryz.prog 239 af239 := .of mixed (by kernel_rfl)
theorem ok240 : FunSem Tryz.prog 240 af240 := .of mixed (by kernel_rfl)
theorem ok241 : FunSem Tryz.prog 241 af241 := .of mixed (by kernel_rfl)
theorem ok242 : FunSem Tryz.prog 242 af242 := .of mixed (by kernel_rfl)
theorem ok243 : FunSem Tryz.prog 243 af243 := .of mixed (by kernel_rfl)
theorem ok244 : FunSem Tryz.prog 244 af244 := .of mixed (by kernel_rfl)
theorem ok245 : FunSem Tryz.prog 245 af245 := .of mixed (by kernel_rfl)
theorem ok246 : FunSem Tryz.prog 246 af246 := .of mixed (by kernel_rfl)
theorem ok247 : FunSem Tryz.prog 247 af247 := .of mixed (by kernel_rfl)
theorem ok248 : FunSem Tryz.prog 248 af248 := .of mixed (by kernel_rfl)
theorem ok249 : FunSem Tryz.prog 249 af249 := .of mixed (by kernel_rfl)
theorem ok250 : FunSem Tryz.prog 250 af250 := .of mixed (by kernel_rfl)
theorem ok251 : FunSem Tryz.prog 251 af251 := .of mixed (by kernel_rfl)
theorem ok252 : FunSem Tryz.prog 252 af252 := .of mixed (by kernel_rfl)
theorem ok253 : FunSem Tryz.prog 253 af253 := .of mixed (by kernel_rfl)
theorem ok254 : FunSem Tryz.prog 254 af254 := .of mixed (by kernel_rfl)
theorem ok255 : FunSem Tryz.prog 255 af255 := .of mixed (by kernel_rfl)
theorem ok256 : FunSem Tryz.prog 256 af256 := .of mixed (by kernel_rfl)
theorem ok258 : FunSem Tryz.prog 258 af258 := .of mixed (by kernel_rfl)
theorem ok259 : FunSem Tryz.prog 259 af259 := .of mixed (by kernel_rfl)
theorem ok260 : FunSem Tryz.prog 260 af260 := .of mixed (by kernel_rfl)
theorem ok261 : FunSem Tryz.prog 261 af261 := .of mixed (by kernel_rfl)
theorem ok262 : FunSem Tryz.prog 262 af262 := .of mixed (by kernel_rfl)
theorem ok263 : FunSem Tryz.prog 263 af263 := .of mixed (by kernel_rfl)
theorem ok264 : FunSem Tryz.prog 264 af264 := .of mixed (by kernel_rfl)
theorem ok265 : FunSem Tryz.prog 265 af265 := .of mixed (by kernel_rfl)
theorem ok266 : FunSem Tryz.prog 266 af266 := .of mixed (by kernel_rfl)
theorem ok267 : FunSem Tryz.prog 267 af267 := .of mixed (by kernel_rfl)
theorem ok268 : FunSem Tryz.prog 268 af268 := .of mixed (by kernel_rfl)
theorem ok269 : FunSem Tryz.prog 269 af269 := .of mixed (by kernel_rfl)
theorem ok270 : FunSem Tryz.prog 270 af270 := .of mixed (by kernel_rfl)
theorem ok271 : FunSem Tryz.prog 271 af271 := .of mixed (by kernel_rfl)
theorem ok272 : FunSem Tryz.prog 272 af272 := .of mixed (by kernel_rfl)
theorem ok273 : FunSem Tryz.prog 273 af273 := .of mixed (by kernel_rfl)
theorem ok274 : FunSem Tryz.prog 274 af274 := .of mixed (by kernel_rfl)
theorem ok275 : FunSem Tryz.prog 275 af275 := .of mixed (by kernel_rfl)
theorem ok276 : FunSem Tryz.prog 276 af276 := .of mixed (by kernel_rfl)
theorem ok277 : FunSem Tryz.prog 277 af277 := .of mixed (by kernel_rfl)
theorem ok278 : FunSem Tryz.prog 278 af278 := .of mixed (by kernel_rfl)
theorem ok279 : FunSem Tryz.prog 279 af279 := .of mixed (by kernel_rfl)
theorem ok280 : FunSem Tryz.prog 280 af280 := .of mixed (by kernel_rfl)
theorem ok281 : FunSem Tryz.prog 281 af281 := .of mixed (by kernel_rfl)
theorem ok282 : FunSem Tryz.prog 282 af282 := .of mixed (by kernel_rfl)
theorem ok283 : FunSem Tryz.prog 283 af283 := .of mixed (by kernel_rfl)
theorem ok284 : FunSem Tryz.prog 284 af284 := .of mixed (by kernel_rfl)
theorem ok285 : FunSem Tryz.prog 285 af285 := .of mixed (by kernel_rfl)
theorem ok286 : FunSem Tryz.prog 286 af286 := .of mixed (by kernel_rfl)
theorem ok287 : FunSem Tryz.prog 287 af287 := .of mixed (by kernel_rfl)
theorem ok288 : FunSem Tryz.prog 288 af288 := .of mixed (by kernel_rfl)
theorem ok289 : FunSem Tryz.prog 289 af289 := .of mixed (by kernel_rfl)
theorem ok290 : FunSem Tryz.prog 290 af290 := .of mixed (by kernel_rfl)
theorem ok291 : FunSem Tryz.prog 291 af291 := .of mixed (by kernel_rfl)
theorem ok292 : FunSem Tryz.prog 292 af292 := .of mixed (by kernel_rfl)
theorem ok293 : FunSem Tryz.prog 293 af293 := .of mixed (by kernel_rfl)
theorem ok294 : FunSem Tryz.prog 294 af294 := .of mixed (by kernel_rfl)
theorem ok295 : FunSem Tryz.prog 295 af295 := .of mixed (by kernel_rfl)
theorem ok296 : FunSem Tryz.prog 296 af296 := .of mixed (by kernel_rfl)
theorem ok297 : FunSem Tryz.prog 297 af297 := .of mixed (by kernel_rfl)
theorem ok298 : FunSem Tryz.prog 298 af298 := .of mixed (by kernel_rfl)
theorem ok299 : FunSem Tryz.prog 299 af299 := .of mixed (by kernel_rfl)
theorem ok300 : FunSem Tryz.prog 300 af300 := .of mixed (by kernel_rfl)
theorem ok301 : FunSem Tryz.prog 301 af301 := .of mixed (by kernel_rfl)
theorem ok302 : FunSem Tryz.prog 302 af302 := .of mixed (by kernel_rfl)
theorem ok303 : FunSem Tryz.prog 303 af303 := .of mixed (by kernel_rfl)
theorem ok304 : FunSem Tryz.prog 304 af304 := .of mixed (by kernel_rfl)
theorem ok305 : FunSem Tryz.prog 305 af305 := .of mixed (by kernel_rfl)
theorem ok306 : FunSem Tryz.prog 306 af306 := .of mixed (by kernel_rfl)
theorem ok307 : FunSem Tryz.prog 307 af307 := .of mixed (by kernel_rfl)
theorem ok308 : FunSem Tryz.prog 308 af308 := .of mixed (by kernel_rfl)
theorem ok309 : FunSem Tryz.prog 309 af309 := .of mixed (by kernel_rfl)
theorem ok310 : FunSem Tryz.prog 310 af310 := .of mixed (by kernel_rfl)
theorem ok311 : FunSem Tryz.prog 311 af311 := .of mixed (by kernel_rfl)
theorem ok312 : FunSem Tryz.prog 312 af312 := .of mixed (by kernel_rfl)
theorem ok313 : FunSem Tryz.prog 313 af313 := .of mixed (by kernel_rfl)
theorem ok314 : FunSem Tryz.prog 314 af314 := .of mixed (by kernel_rfl)
theorem ok315 : FunSem Tryz.prog 315 af315 := .of mixed (by kernel_rfl)
theorem ok316 : FunSem Tryz.prog 316 af316 := .of mixed (by kernel_rfl)
theorem ok317 : FunSem Tryz.prog 317 af317 := .of mixed (by kernel_rfl)
theorem ok318 : FunSem Tryz.prog 318 af318 := .of mixed (by kernel_rfl)
theorem ok319 : FunSem Tryz.prog 319 af319 := .of mixed (by kernel_rfl)
theorem ok320 : FunSem Tryz.prog 320 af320 := .of mixed (by kernel_rfl)
theorem ok321 : FunSem Tryz.prog 321 af321 := .of mixed (by kernel_rfl)
theorem ok322 : FunSem Tryz.prog 322 af322 := .of mixed (by kernel_rfl)
theorem ok323 : FunSem Tryz.prog 323 af323 := .of mixed (by kernel_rfl)
theorem ok324 : FunSem Tryz.prog 324 af324 := .of mixed (by kernel_rfl)
theorem ok325 : FunSem Tryz.prog 325 af325 := .of mixed (by kernel_rfl)
theorem ok326 : FunSem Tryz.prog 326 af326 := .of mixed (by kernel_rfl)
theorem ok327 : FunSem Tryz.prog 327 af327 := .of mixed (by kernel_rfl)
theorem ok328 : FunSem Tryz.prog 328 af328 := .of mixed (by kernel_rfl)
theorem ok329 : FunSem Tryz.prog 329 af329 := .of mixed (by kernel_rfl)
theorem ok330 : FunSem Tryz.prog 330 af330 := .of mixed (by kernel_rfl)
theorem ok331 : FunSem Tryz.prog 331 af331 := .of mixed (by kernel_rfl)
theorem ok332 : FunSem Tryz.prog 332 af332 := .of mixed (by kernel_rfl)
theorem ok333 : FunSem Tryz.prog 333 af333 := .of mixed (by kernel_rfl)
theorem ok334 : FunSem Tryz.prog 334 af334 := .of mixed (by kernel_rfl)
theorem ok335 : FunSem Tryz.prog 335 af335 := .of mixed (by kernel_rfl)
theorem ok336 : FunSem Tryz.prog 336 af336 := .of mixed (by kernel_rfl)
theorem ok337 : FunSem Tryz.prog 337 af337 := .of mixed (by kernel_rfl)
theorem ok338 : FunSem Tryz.prog 338 af338 := .of mixed (by kernel_rfl)
theorem ok339 : FunSem Tryz.prog 339 af339 := .of mixed (by kernel_rfl)
theorem ok340 : FunSem Tryz.prog 340 af340 := .of mixed (by kernel_rfl)
end Go.Proofs.YtkcpnbfhoamlfaaGreatDoor.X
