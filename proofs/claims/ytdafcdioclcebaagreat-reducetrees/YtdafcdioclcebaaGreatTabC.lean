/- Functions of the program, as the executor runs them, and that they are the program's. -/
import Derived.Test.YtdafcdioclcebaaGreatTabB
set_option maxRecDepth 100000
namespace Go.Proofs.YtdafcdioclcebaaGreat.X
open Go.RowKit
def af313 : AF := ⟨(dSeq (dOps (dV p10 (oMv (.c (.int .i64 (.ofNat 0))))
(dV p11 (oMv (.c (.bool false)))
dE)))
(dSeq (dDraw (sN p14 ⟨(some p14), (.v (.mv (.t p0))), none⟩
(sN p15 ⟨(some p15), (.v (.mv (.t p1))), none⟩
(sN p16 ⟨(some p16), (.v (.mv (.t p0))), none⟩
(sN p17 ⟨(some p17), (.v (.mv (.t p3))), none⟩
(sN p18 ⟨(some p18), (.v (.mv (.t p0))), none⟩
(sN p19 ⟨(some p19), (.v (.mv (.t p3))), none⟩
(sN p20 ⟨(some p20), (.v (.ia 2 (.t p18) (.t p19))), none⟩
(sN p21 ⟨(some p21), (.v (.ldN 2 (.t p20))), none⟩
(sN p22 ⟨(some p22), (.v (.mv (.t p0))), none⟩
(sN p23 ⟨(some p23), (.v (.mv (.t p1))), none⟩
(sN p24 ⟨(some p24), (.v (.ia 2 (.t p22) (.t p23))), none⟩
(sN p25 ⟨(some p25), (.v (.ldN 2 (.t p24))), none⟩
(sN p26 ⟨(some p26), (.v (.ia 2 (.t p14) (.t p15))), none⟩
(sE [] [] ⟨none, (.v (.st 2 (.t p26) (.t p21))), none⟩
(sN p27 ⟨(some p27), (.v (.ia 2 (.t p16) (.t p17))), none⟩
(sE [] [] ⟨none, (.v (.st 2 (.t p27) (.t p25))), none⟩
sEnd)))))))))))))))))
(dSeq (dOps (dV p28 (oMv (.t p1))
(dV p29 (oAr .add (.t p28) (.c (.int .i64 (.ofNat 1))))
(dV p30 (oMv (.t p2))
(dV p31 (oAr .sub (.t p30) (.c (.int .i64 (.ofNat 1))))
(dV p12 (oMv (.t p29))
(dV p13 (oMv (.t p31))
dE)))))))
(dSeq (dBlock 0 (dLoop (dSeq (dSeq (dDraw (sN p32 ⟨(some p32), (.v (.mv (.t p12))), none⟩
(sN p33 ⟨(some p33), (.v (.mv (.t p13))), none⟩
(sN p34 ⟨(some p34), (.v (.ar .leq (.t p32) (.t p33))), none⟩
(sN p35 ⟨(some p35), (.v (.mv (.t p34))), none⟩
(sN p36 ⟨(some p36), (.v (.mv (.t p4))), (some (p35, true))⟩
(sN p37 ⟨(some p37), (.v (.mv (.t p0))), (some (p35, true))⟩
(sN p38 ⟨(some p38), (.v (.mv (.t p12))), (some (p35, true))⟩
(sN p39 ⟨(some p39), (.v (.ia 2 (.t p37) (.t p38))), (some (p35, true))⟩
(sN p40 ⟨(some p40), (.v (.ldN 2 (.t p39))), (some (p35, true))⟩
(sN p41 ⟨(some p41), (.v (.mv (.t p0))), (some (p35, true))⟩
(sN p42 ⟨(some p42), (.v (.mv (.t p1))), (some (p35, true))⟩
(sN p43 ⟨(some p43), (.v (.ia 2 (.t p41) (.t p42))), (some (p35, true))⟩
(sN p44 ⟨(some p44), (.v (.ldN 2 (.t p43))), (some (p35, true))⟩
(sE [] [] ⟨(some p45), (.callv (.t p36) [(.t p40), (.t p44)]), (some (p35, true))⟩
(sN p46 ⟨(some p46), (.v (.ar .lss (.t p45) (.c (.int .i64 (.ofNat 0))))), (some (p35, true))⟩
(sN p47 ⟨(some p47), (.v (.pick (.t p35) (.t p46) (.c (.bool false)))), none⟩
sEnd)))))))))))))))))
(dCond (.t p47) dSkip (dExit 0)))
(dBlock 1 (dOps (dV p48 (oMv (.t p12))
(dV p49 (oAr .add (.t p48) (.c (.int .i64 (.ofNat 1))))
(dV p12 (oMv (.t p49))
dE))))))))
(dSeq (dBlock 2 (dLoop (dSeq (dSeq (dDraw (sN p50 ⟨(some p50), (.v (.mv (.t p12))), none⟩
(sN p51 ⟨(some p51), (.v (.mv (.t p13))), none⟩
(sN p52 ⟨(some p52), (.v (.ar .leq (.t p50) (.t p51))), none⟩
(sN p53 ⟨(some p53), (.v (.mv (.t p52))), none⟩
(sN p54 ⟨(some p54), (.v (.mv (.t p4))), (some (p53, true))⟩
(sN p55 ⟨(some p55), (.v (.mv (.t p0))), (some (p53, true))⟩
(sN p56 ⟨(some p56), (.v (.mv (.t p13))), (some (p53, true))⟩
(sN p57 ⟨(some p57), (.v (.ia 2 (.t p55) (.t p56))), (some (p53, true))⟩
(sN p58 ⟨(some p58), (.v (.ldN 2 (.t p57))), (some (p53, true))⟩
(sN p59 ⟨(some p59), (.v (.mv (.t p0))), (some (p53, true))⟩
(sN p60 ⟨(some p60), (.v (.mv (.t p1))), (some (p53, true))⟩
(sN p61 ⟨(some p61), (.v (.ia 2 (.t p59) (.t p60))), (some (p53, true))⟩
(sN p62 ⟨(some p62), (.v (.ldN 2 (.t p61))), (some (p53, true))⟩
(sE [] [] ⟨(some p63), (.callv (.t p54) [(.t p58), (.t p62)]), (some (p53, true))⟩
(sN p64 ⟨(some p64), (.v (.ar .lss (.t p63) (.c (.int .i64 (.ofNat 0))))), (some (p53, true))⟩
(sN p65 ⟨(some p65), (.v (.un .not (.t p64))), (some (p53, true))⟩
(sN p66 ⟨(some p66), (.v (.pick (.t p53) (.t p65) (.c (.bool false)))), none⟩
sEnd))))))))))))))))))
(dCond (.t p66) dSkip (dExit 2)))
(dBlock 3 (dOps (dV p67 (oMv (.t p13))
(dV p68 (oAr .sub (.t p67) (.c (.int .i64 (.ofNat 1))))
(dV p13 (oMv (.t p68))
dE))))))))
(dSeq (dSeq (dOps (dV p69 (oMv (.t p12))
(dV p70 (oMv (.t p13))
(dV p71 (oAr .gtr (.t p69) (.t p70))
dE))))
(dCond (.t p71) (dSeq (dDraw (sN p72 ⟨(some p72), (.v (.mv (.t p0))), none⟩
(sN p73 ⟨(some p73), (.v (.mv (.t p13))), none⟩
(sN p74 ⟨(some p74), (.v (.mv (.t p0))), none⟩
(sN p75 ⟨(some p75), (.v (.mv (.t p1))), none⟩
(sN p76 ⟨(some p76), (.v (.mv (.t p0))), none⟩
(sN p77 ⟨(some p77), (.v (.mv (.t p1))), none⟩
(sN p78 ⟨(some p78), (.v (.ia 2 (.t p76) (.t p77))), none⟩
(sN p79 ⟨(some p79), (.v (.ldN 2 (.t p78))), none⟩
(sN p80 ⟨(some p80), (.v (.mv (.t p0))), none⟩
(sN p81 ⟨(some p81), (.v (.mv (.t p13))), none⟩
(sN p82 ⟨(some p82), (.v (.ia 2 (.t p80) (.t p81))), none⟩
(sN p83 ⟨(some p83), (.v (.ldN 2 (.t p82))), none⟩
(sN p84 ⟨(some p84), (.v (.ia 2 (.t p72) (.t p73))), none⟩
(sE [] [] ⟨none, (.v (.st 2 (.t p84) (.t p79))), none⟩
(sN p85 ⟨(some p85), (.v (.ia 2 (.t p74) (.t p75))), none⟩
(sE [] [] ⟨none, (.v (.st 2 (.t p85) (.t p83))), none⟩
sEnd)))))))))))))))))
(dSeq (dOps (dV p86 (oMv (.t p13))
(dV p10 (oMv (.t p86))
(dV p11 (oMv (.c (.bool true)))
dE))))
dRet)) dSkip))
(dSeq (dDraw (sN p87 ⟨(some p87), (.v (.mv (.t p0))), none⟩
(sN p88 ⟨(some p88), (.v (.mv (.t p12))), none⟩
(sN p89 ⟨(some p89), (.v (.mv (.t p0))), none⟩
(sN p90 ⟨(some p90), (.v (.mv (.t p13))), none⟩
(sN p91 ⟨(some p91), (.v (.mv (.t p0))), none⟩
(sN p92 ⟨(some p92), (.v (.mv (.t p13))), none⟩
(sN p93 ⟨(some p93), (.v (.ia 2 (.t p91) (.t p92))), none⟩
(sN p94 ⟨(some p94), (.v (.ldN 2 (.t p93))), none⟩
(sN p95 ⟨(some p95), (.v (.mv (.t p0))), none⟩
(sN p96 ⟨(some p96), (.v (.mv (.t p12))), none⟩
(sN p97 ⟨(some p97), (.v (.ia 2 (.t p95) (.t p96))), none⟩
(sN p98 ⟨(some p98), (.v (.ldN 2 (.t p97))), none⟩
(sN p99 ⟨(some p99), (.v (.ia 2 (.t p87) (.t p88))), none⟩
(sE [] [] ⟨none, (.v (.st 2 (.t p99) (.t p94))), none⟩
(sN p100 ⟨(some p100), (.v (.ia 2 (.t p89) (.t p90))), none⟩
(sE [] [] ⟨none, (.v (.st 2 (.t p100) (.t p98))), none⟩
sEnd)))))))))))))))))
(dSeq (dOps (dV p101 (oMv (.t p12))
(dV p102 (oAr .add (.t p101) (.c (.int .i64 (.ofNat 1))))
(dV p12 (oMv (.t p102))
dE))))
(dSeq (dOps (dV p103 (oMv (.t p13))
(dV p104 (oAr .sub (.t p103) (.c (.int .i64 (.ofNat 1))))
(dV p13 (oMv (.t p104))
dE))))
(dSeq (dBlock 4 (dLoop (dBlock 5 (dSeq (dBlock 6 (dLoop (dSeq (dSeq (dDraw (sN p105 ⟨(some p105), (.v (.mv (.t p12))), none⟩
(sN p106 ⟨(some p106), (.v (.mv (.t p13))), none⟩
(sN p107 ⟨(some p107), (.v (.ar .leq (.t p105) (.t p106))), none⟩
(sN p108 ⟨(some p108), (.v (.mv (.t p107))), none⟩
(sN p109 ⟨(some p109), (.v (.mv (.t p4))), (some (p108, true))⟩
(sN p110 ⟨(some p110), (.v (.mv (.t p0))), (some (p108, true))⟩
(sN p111 ⟨(some p111), (.v (.mv (.t p12))), (some (p108, true))⟩
(sN p112 ⟨(some p112), (.v (.ia 2 (.t p110) (.t p111))), (some (p108, true))⟩
(sN p113 ⟨(some p113), (.v (.ldN 2 (.t p112))), (some (p108, true))⟩
(sN p114 ⟨(some p114), (.v (.mv (.t p0))), (some (p108, true))⟩
(sN p115 ⟨(some p115), (.v (.mv (.t p1))), (some (p108, true))⟩
(sN p116 ⟨(some p116), (.v (.ia 2 (.t p114) (.t p115))), (some (p108, true))⟩
(sN p117 ⟨(some p117), (.v (.ldN 2 (.t p116))), (some (p108, true))⟩
(sE [] [] ⟨(some p118), (.callv (.t p109) [(.t p113), (.t p117)]), (some (p108, true))⟩
(sN p119 ⟨(some p119), (.v (.ar .lss (.t p118) (.c (.int .i64 (.ofNat 0))))), (some (p108, true))⟩
(sN p120 ⟨(some p120), (.v (.pick (.t p108) (.t p119) (.c (.bool false)))), none⟩
sEnd)))))))))))))))))
(dCond (.t p120) dSkip (dExit 6)))
(dBlock 7 (dOps (dV p121 (oMv (.t p12))
(dV p122 (oAr .add (.t p121) (.c (.int .i64 (.ofNat 1))))
(dV p12 (oMv (.t p122))
dE))))))))
(dSeq (dBlock 8 (dLoop (dSeq (dSeq (dDraw (sN p123 ⟨(some p123), (.v (.mv (.t p12))), none⟩
(sN p124 ⟨(some p124), (.v (.mv (.t p13))), none⟩
(sN p125 ⟨(some p125), (.v (.ar .leq (.t p123) (.t p124))), none⟩
(sN p126 ⟨(some p126), (.v (.mv (.t p125))), none⟩
(sN p127 ⟨(some p127), (.v (.mv (.t p4))), (some (p126, true))⟩
(sN p128 ⟨(some p128), (.v (.mv (.t p0))), (some (p126, true))⟩
(sN p129 ⟨(some p129), (.v (.mv (.t p13))), (some (p126, true))⟩
(sN p130 ⟨(some p130), (.v (.ia 2 (.t p128) (.t p129))), (some (p126, true))⟩
(sN p131 ⟨(some p131), (.v (.ldN 2 (.t p130))), (some (p126, true))⟩
(sN p132 ⟨(some p132), (.v (.mv (.t p0))), (some (p126, true))⟩
(sN p133 ⟨(some p133), (.v (.mv (.t p1))), (some (p126, true))⟩
(sN p134 ⟨(some p134), (.v (.ia 2 (.t p132) (.t p133))), (some (p126, true))⟩
(sN p135 ⟨(some p135), (.v (.ldN 2 (.t p134))), (some (p126, true))⟩
(sE [] [] ⟨(some p136), (.callv (.t p127) [(.t p131), (.t p135)]), (some (p126, true))⟩
(sN p137 ⟨(some p137), (.v (.ar .lss (.t p136) (.c (.int .i64 (.ofNat 0))))), (some (p126, true))⟩
(sN p138 ⟨(some p138), (.v (.un .not (.t p137))), (some (p126, true))⟩
(sN p139 ⟨(some p139), (.v (.pick (.t p126) (.t p138) (.c (.bool false)))), none⟩
sEnd))))))))))))))))))
(dCond (.t p139) dSkip (dExit 8)))
(dBlock 9 (dOps (dV p140 (oMv (.t p13))
(dV p141 (oAr .sub (.t p140) (.c (.int .i64 (.ofNat 1))))
(dV p13 (oMv (.t p141))
dE))))))))
(dSeq (dSeq (dOps (dV p142 (oMv (.t p12))
(dV p143 (oMv (.t p13))
(dV p144 (oAr .gtr (.t p142) (.t p143))
dE))))
(dCond (.t p144) (dExit 4) dSkip))
(dSeq (dDraw (sN p145 ⟨(some p145), (.v (.mv (.t p0))), none⟩
(sN p146 ⟨(some p146), (.v (.mv (.t p12))), none⟩
(sN p147 ⟨(some p147), (.v (.mv (.t p0))), none⟩
(sN p148 ⟨(some p148), (.v (.mv (.t p13))), none⟩
(sN p149 ⟨(some p149), (.v (.mv (.t p0))), none⟩
(sN p150 ⟨(some p150), (.v (.mv (.t p13))), none⟩
(sN p151 ⟨(some p151), (.v (.ia 2 (.t p149) (.t p150))), none⟩
(sN p152 ⟨(some p152), (.v (.ldN 2 (.t p151))), none⟩
(sN p153 ⟨(some p153), (.v (.mv (.t p0))), none⟩
(sN p154 ⟨(some p154), (.v (.mv (.t p12))), none⟩
(sN p155 ⟨(some p155), (.v (.ia 2 (.t p153) (.t p154))), none⟩
(sN p156 ⟨(some p156), (.v (.ldN 2 (.t p155))), none⟩
(sN p157 ⟨(some p157), (.v (.ia 2 (.t p145) (.t p146))), none⟩
(sE [] [] ⟨none, (.v (.st 2 (.t p157) (.t p152))), none⟩
(sN p158 ⟨(some p158), (.v (.ia 2 (.t p147) (.t p148))), none⟩
(sE [] [] ⟨none, (.v (.st 2 (.t p158) (.t p156))), none⟩
sEnd)))))))))))))))))
(dSeq (dOps (dV p159 (oMv (.t p12))
(dV p160 (oAr .add (.t p159) (.c (.int .i64 (.ofNat 1))))
(dV p12 (oMv (.t p160))
dE))))
(dOps (dV p161 (oMv (.t p13))
(dV p162 (oAr .sub (.t p161) (.c (.int .i64 (.ofNat 1))))
(dV p13 (oMv (.t p162))
dE))))))))))))
(dSeq (dDraw (sN p163 ⟨(some p163), (.v (.mv (.t p0))), none⟩
(sN p164 ⟨(some p164), (.v (.mv (.t p13))), none⟩
(sN p165 ⟨(some p165), (.v (.mv (.t p0))), none⟩
(sN p166 ⟨(some p166), (.v (.mv (.t p1))), none⟩
(sN p167 ⟨(some p167), (.v (.mv (.t p0))), none⟩
(sN p168 ⟨(some p168), (.v (.mv (.t p1))), none⟩
(sN p169 ⟨(some p169), (.v (.ia 2 (.t p167) (.t p168))), none⟩
(sN p170 ⟨(some p170), (.v (.ldN 2 (.t p169))), none⟩
(sN p171 ⟨(some p171), (.v (.mv (.t p0))), none⟩
(sN p172 ⟨(some p172), (.v (.mv (.t p13))), none⟩
(sN p173 ⟨(some p173), (.v (.ia 2 (.t p171) (.t p172))), none⟩
(sN p174 ⟨(some p174), (.v (.ldN 2 (.t p173))), none⟩
(sN p175 ⟨(some p175), (.v (.ia 2 (.t p163) (.t p164))), none⟩
(sE [] [] ⟨none, (.v (.st 2 (.t p175) (.t p170))), none⟩
(sN p176 ⟨(some p176), (.v (.ia 2 (.t p165) (.t p166))), none⟩
(sE [] [] ⟨none, (.v (.st 2 (.t p176) (.t p174))), none⟩
sEnd)))))))))))))))))
(dSeq (dOps (dV p177 (oMv (.t p13))
(dV p10 (oMv (.t p177))
(dV p11 (oMv (.c (.bool false)))
dE))))
dRet)))))))))))), [(.t p10), (.t p11)]⟩
def af314 : AF := ⟨(dSeq (dOps (dV p10 (oMv (.c (.int .i64 (.ofNat 0))))
(dV p11 (oMv (.c (.int .i64 (.ofNat 0))))
dE)))
(dSeq (dSeq (dDraw (sN p12 ⟨(some p12), (.v (.mv (.t p4))), none⟩
(sN p13 ⟨(some p13), (.v (.mv (.t p0))), none⟩
(sN p14 ⟨(some p14), (.v (.mv (.t p2))), none⟩
(sN p15 ⟨(some p15), (.v (.ia 4 (.t p13) (.t p14))), none⟩
(sN p16 ⟨(some p16), (.v (.ldN 4 (.t p15))), none⟩
(sN p17 ⟨(some p17), (.v (.mv (.t p0))), none⟩
(sN p18 ⟨(some p18), (.v (.mv (.t p1))), none⟩
(sN p19 ⟨(some p19), (.v (.ia 4 (.t p17) (.t p18))), none⟩
(sN p20 ⟨(some p20), (.v (.ldN 4 (.t p19))), none⟩
(sE [] [] ⟨(some p21), (.callv (.t p12) [(.t p16), (.t p20)]), none⟩
(sN p22 ⟨(some p22), (.v (.ar .lss (.t p21) (.c (.int .i64 (.ofNat 0))))), none⟩
sEnd))))))))))))
(dCond (.t p22) (dSeq (dOps (dV p23 (oMv (.t p3))
(dV p24 (oNchk (.t p23))
(dV p25 (oLd1 (.t p24))
(dV p26 (oAr .add (.t p25) (.c (.int .i64 (.ofNat 1))))
(dV p27 (oNchk (.t p23))
(dU (oSt 1 (.t p27) (.t p26))
dE)))))))
(dSeq (dOps (dV p28 (oMv (.t p2))
(dV p29 (oMv (.t p1))
(dV p10 (oMv (.t p28))
(dV p11 (oMv (.t p29))
dE)))))
dRet)) dSkip))
(dSeq (dOps (dV p30 (oMv (.t p1))
(dV p31 (oMv (.t p2))
(dV p10 (oMv (.t p30))
(dV p11 (oMv (.t p31))
dE)))))
dRet))), [(.t p10), (.t p11)]⟩
def af315 : AF := ⟨(dSeq (dOps (dV p1 (oBox 56 (.t p0))
(dV p2 (oMv (.c (.bool false)))
dE)))
(dSeq (dOps (dV p3 (oLdN 2 (.t p1))
(dC (some p4) p254 [(.t p3)]
(dV p5 (oUn .not (.t p4))
(dV p2 (oMv (.t p5))
dE)))))
dRet)), [(.t p2)]⟩
def af316 : AF := ⟨(dSeq (dOps (dV p2 (oBox 56 (.t p0))
(dV p4 (oMv (.c (.int .i64 (.ofNat 0))))
(dV p5 (oMv (.c .nils))
dE))))
(dSeq (dOps (dV p10 (oMv (.t p1))
(dC (some p11) p320 [(.t p10)]
(dV p6 (oMv (.t p11))
dE))))
(dSeq (dOps (dV p12 (oFa 1 (.t p2))
(dV p13 (oLd1 (.t p12))
(dV p14 (oLen (.t p13))
(dV p15 (oMkS 168 2 [(.int .i64 (.ofNat 0)), (.int .i64 (.ofNat 0))] (.c (.int .i64 (.ofNat 0))) (.t p14))
(dV p7 (oMv (.t p15))
dE))))))
(dSeq (dSeq (dOps (dV p16 (oFa 1 (.t p2))
(dV p17 (oLd1 (.t p16))
(dV p18 (oLen (.t p17))
(dV p19 (oMv (.c (.int .i64 (.ofNat 0))))
dE)))))
(dBlock 0 (dLoop (dSeq (dOps (dV p20 (oAr .lss (.t p19) (.t p18))
dE))
(dSeq (dCond (.t p20) dSkip (dExit 0))
(dSeq (dBlock 1 (dSeq (dOps (dV p21 (oIa 2 (.t p17) (.t p19))
(dV p22 (oLdN 2 (.t p21))
(dV p9 (oNew [(.int .i64 (.ofNat 0)), (.int .i64 (.ofNat 0))] 168)
(dU (oSt 2 (.t p9) (.t p22))
dE)))))
(dDraw (sN p23 ⟨(some p23), (.v (.mv (.t p7))), none⟩
(sN p24 ⟨(some p24), (.v (.fa 0 (.t p9))), none⟩
(sN p25 ⟨(some p25), (.v (.ld1 (.t p24))), none⟩
(sN p26 ⟨(some p26), (.v (.mv (.t p6))), none⟩
(sN p27 ⟨(some p27), (.v (.fa 1 (.t p9))), none⟩
(sN p28 ⟨(some p28), (.v (.ld1 (.t p27))), none⟩
(sE [] [(p25, ⟨(some p25), (.v (.ld1 (.t p24))), none⟩)] ⟨(some p29), (.callv (.t p26) [(.t p28)]), none⟩
(sN p30 ⟨(some p30), (.v (.build [(.int .i64 (.ofNat 0)), (.int .i64 (.ofNat 0))] [(0, 1, (.t p25)), (1, 1, (.t p29))])), none⟩
(sA 8 p31 (.buildS 168 1 [(.int .i64 (.ofNat 0)), (.int .i64 (.ofNat 0))] [(0, 2, (.t p30))])
(sE [8] [] ⟨(some p32), (.v (.app 168 2 (.t p23) (.t p31))), none⟩
(sE [8] [] ⟨(some p7), (.v (.mv (.t p32))), none⟩
sEnd))))))))))))))
(dOps (dV p33 (oAr .add (.t p19) (.c (.int .i64 (.ofNat 1))))
(dV p19 (oMv (.t p33))
dE)))))))))
(dSeq (dOps (dV p34 (oMv (.t p6))
(dV p35 (oFa 0 (.t p2))
(dV p36 (oLd1 (.t p35))
(dCv (some p37) (.t p34) [(.t p36)]
(dV p38 (oMv (.t p7))
(dV p4 (oMv (.t p37))
(dV p5 (oMv (.t p38))
dE))))))))
dRet))))), [(.t p4), (.t p5)]⟩
def af317 : AF := ⟨(dSeq (dOps (dV p12 (oMv (.t p1))
(dV p10 (oMv (.t p12))
dE)))
(dBlock 0 (dLoop (dBlock 1 (dSeq (dOps (dV p13 (oMv (.t p10))
(dV p14 (oAr .mul (.c (.int .i64 (.ofNat 2))) (.t p13))
(dV p15 (oAr .add (.t p14) (.c (.int .i64 (.ofNat 1))))
(dV p11 (oMv (.t p15))
dE)))))
(dSeq (dSeq (dOps (dV p16 (oMv (.t p11))
(dV p17 (oMv (.t p2))
(dV p18 (oAr .geq (.t p16) (.t p17))
dE))))
(dCond (.t p18) (dExit 0) dSkip))
(dSeq (dSeq (dDraw (sN p19 ⟨(some p19), (.v (.mv (.t p11))), none⟩
(sN p20 ⟨(some p20), (.v (.ar .add (.t p19) (.c (.int .i64 (.ofNat 1))))), none⟩
(sN p21 ⟨(some p21), (.v (.mv (.t p2))), none⟩
(sN p22 ⟨(some p22), (.v (.ar .lss (.t p20) (.t p21))), none⟩
(sN p23 ⟨(some p23), (.v (.mv (.t p22))), none⟩
(sN p24 ⟨(some p24), (.v (.mv (.t p4))), (some (p23, true))⟩
(sN p25 ⟨(some p25), (.v (.mv (.t p0))), (some (p23, true))⟩
(sN p26 ⟨(some p26), (.v (.mv (.t p3))), (some (p23, true))⟩
(sN p27 ⟨(some p27), (.v (.mv (.t p11))), (some (p23, true))⟩
(sN p28 ⟨(some p28), (.v (.ar .add (.t p26) (.t p27))), (some (p23, true))⟩
(sN p29 ⟨(some p29), (.v (.ia 2 (.t p25) (.t p28))), (some (p23, true))⟩
(sN p30 ⟨(some p30), (.v (.ldN 2 (.t p29))), (some (p23, true))⟩
(sN p31 ⟨(some p31), (.v (.mv (.t p0))), (some (p23, true))⟩
(sN p32 ⟨(some p32), (.v (.mv (.t p3))), (some (p23, true))⟩
(sN p33 ⟨(some p33), (.v (.mv (.t p11))), (some (p23, true))⟩
(sN p34 ⟨(some p34), (.v (.ar .add (.t p32) (.t p33))), (some (p23, true))⟩
(sN p35 ⟨(some p35), (.v (.ar .add (.t p34) (.c (.int .i64 (.ofNat 1))))), (some (p23, true))⟩
(sN p36 ⟨(some p36), (.v (.ia 2 (.t p31) (.t p35))), (some (p23, true))⟩
(sN p37 ⟨(some p37), (.v (.ldN 2 (.t p36))), (some (p23, true))⟩
(sE [] [] ⟨(some p38), (.callv (.t p24) [(.t p30), (.t p37)]), (some (p23, true))⟩
(sN p39 ⟨(some p39), (.v (.ar .lss (.t p38) (.c (.int .i64 (.ofNat 0))))), (some (p23, true))⟩
(sN p40 ⟨(some p40), (.v (.pick (.t p23) (.t p39) (.c (.bool false)))), none⟩
sEnd)))))))))))))))))))))))
(dCond (.t p40) (dOps (dV p41 (oMv (.t p11))
(dV p42 (oAr .add (.t p41) (.c (.int .i64 (.ofNat 1))))
(dV p11 (oMv (.t p42))
dE)))) dSkip))
(dSeq (dSeq (dDraw (sN p43 ⟨(some p43), (.v (.mv (.t p4))), none⟩
(sN p44 ⟨(some p44), (.v (.mv (.t p0))), none⟩
(sN p45 ⟨(some p45), (.v (.mv (.t p3))), none⟩
(sN p46 ⟨(some p46), (.v (.mv (.t p10))), none⟩
(sN p47 ⟨(some p47), (.v (.ar .add (.t p45) (.t p46))), none⟩
(sN p48 ⟨(some p48), (.v (.ia 2 (.t p44) (.t p47))), none⟩
(sN p49 ⟨(some p49), (.v (.ldN 2 (.t p48))), none⟩
(sN p50 ⟨(some p50), (.v (.mv (.t p0))), none⟩
(sN p51 ⟨(some p51), (.v (.mv (.t p3))), none⟩
(sN p52 ⟨(some p52), (.v (.mv (.t p11))), none⟩
(sN p53 ⟨(some p53), (.v (.ar .add (.t p51) (.t p52))), none⟩
(sN p54 ⟨(some p54), (.v (.ia 2 (.t p50) (.t p53))), none⟩
(sN p55 ⟨(some p55), (.v (.ldN 2 (.t p54))), none⟩
(sE [] [] ⟨(some p56), (.callv (.t p43) [(.t p49), (.t p55)]), none⟩
(sN p57 ⟨(some p57), (.v (.ar .lss (.t p56) (.c (.int .i64 (.ofNat 0))))), none⟩
(sN p58 ⟨(some p58), (.v (.un .not (.t p57))), none⟩
sEnd)))))))))))))))))
(dCond (.t p58) dRet dSkip))
(dSeq (dDraw (sN p59 ⟨(some p59), (.v (.mv (.t p0))), none⟩
(sN p60 ⟨(some p60), (.v (.mv (.t p3))), none⟩
(sN p61 ⟨(some p61), (.v (.mv (.t p10))), none⟩
(sN p62 ⟨(some p62), (.v (.ar .add (.t p60) (.t p61))), none⟩
(sN p63 ⟨(some p63), (.v (.mv (.t p0))), none⟩
(sN p64 ⟨(some p64), (.v (.mv (.t p3))), none⟩
(sN p65 ⟨(some p65), (.v (.mv (.t p11))), none⟩
(sN p66 ⟨(some p66), (.v (.ar .add (.t p64) (.t p65))), none⟩
(sN p67 ⟨(some p67), (.v (.mv (.t p0))), none⟩
(sN p68 ⟨(some p68), (.v (.mv (.t p3))), none⟩
(sN p69 ⟨(some p69), (.v (.mv (.t p11))), none⟩
(sN p70 ⟨(some p70), (.v (.ar .add (.t p68) (.t p69))), none⟩
(sN p71 ⟨(some p71), (.v (.ia 2 (.t p67) (.t p70))), none⟩
(sN p72 ⟨(some p72), (.v (.ldN 2 (.t p71))), none⟩
(sN p73 ⟨(some p73), (.v (.mv (.t p0))), none⟩
(sN p74 ⟨(some p74), (.v (.mv (.t p3))), none⟩
(sN p75 ⟨(some p75), (.v (.mv (.t p10))), none⟩
(sN p76 ⟨(some p76), (.v (.ar .add (.t p74) (.t p75))), none⟩
(sN p77 ⟨(some p77), (.v (.ia 2 (.t p73) (.t p76))), none⟩
(sN p78 ⟨(some p78), (.v (.ldN 2 (.t p77))), none⟩
(sN p79 ⟨(some p79), (.v (.ia 2 (.t p59) (.t p62))), none⟩
(sE [] [] ⟨none, (.v (.st 2 (.t p79) (.t p72))), none⟩
(sN p80 ⟨(some p80), (.v (.ia 2 (.t p63) (.t p66))), none⟩
(sE [] [] ⟨none, (.v (.st 2 (.t p80) (.t p78))), none⟩
sEnd)))))))))))))))))))))))))
(dOps (dV p81 (oMv (.t p11))
(dV p10 (oMv (.t p81))
dE)))))))))))), []⟩
def af318 : AF := ⟨(dSeq (dOps (dV p8 (oMv (.c (.int .i64 (.ofNat 0))))
dE))
(dSeq (dOps (dV p9 (oMv (.t p0))
(dV p10 (oMv (.t p1))
(dV p11 (oAr .sub (.t p10) (.c (.int .i64 (.ofNat 1))))
(dV p12 (oMv (.t p1))
(dV p13 (oMv (.t p1))
(dV p14 (oAr .add (.t p13) (.c (.int .i64 (.ofNat 1))))
(dV p15 (oMv (.t p2))
(dV p16 (oMv (.t p3))
(dC (some p17) p319 [(.t p9), (.t p11), (.t p12), (.t p14), (.t p15), (.t p16)]
(dV p8 (oMv (.t p17))
dE)))))))))))
dRet)), [(.t p8)]⟩
def af319 : AF := ⟨(dSeq (dOps (dV p12 (oMv (.c (.int .i64 (.ofNat 0))))
dE))
(dSeq (dOps (dV p14 (oMv (.t p0))
(dV p15 (oMv (.t p1))
(dV p16 (oMv (.t p2))
(dV p17 (oMv (.t p4))
(dV p18 (oMv (.t p5))
(dC (some p19) p321 [(.t p14), (.t p15), (.t p16), (.t p17), (.t p18)]
(dV p13 (oMv (.t p19))
(dV p20 (oExt (.t p13) 0)
(dV p21 (oExt (.t p13) 1)
(dV p1 (oMv (.t p20))
(dV p2 (oMv (.t p21))
dE))))))))))))
(dSeq (dOps (dV p23 (oMv (.t p0))
(dV p24 (oMv (.t p2))
(dV p25 (oMv (.t p3))
(dV p26 (oMv (.t p4))
(dV p27 (oMv (.t p5))
(dC (some p28) p321 [(.t p23), (.t p24), (.t p25), (.t p26), (.t p27)]
(dV p22 (oMv (.t p28))
(dV p29 (oExt (.t p22) 0)
(dV p30 (oExt (.t p22) 1)
(dV p2 (oMv (.t p29))
(dV p3 (oMv (.t p30))
dE))))))))))))
(dSeq (dOps (dV p32 (oMv (.t p0))
(dV p33 (oMv (.t p1))
(dV p34 (oMv (.t p2))
(dV p35 (oMv (.t p4))
(dV p36 (oMv (.t p5))
(dC (some p37) p321 [(.t p32), (.t p33), (.t p34), (.t p35), (.t p36)]
(dV p31 (oMv (.t p37))
(dV p38 (oExt (.t p31) 0)
(dV p39 (oExt (.t p31) 1)
(dV p1 (oMv (.t p38))
(dV p2 (oMv (.t p39))
dE))))))))))))
(dSeq (dOps (dV p40 (oMv (.t p2))
(dV p12 (oMv (.t p40))
dE)))
dRet))))), [(.t p12)]⟩
def af320 : AF := ⟨(dSeq (dOps (dV p1 (oBox 3 (.t p0))
(dV p2 (oMv (.c .nilf))
dE)))
(dSeq (dOps (dV p3 (oLd1 (.t p1))
(dV p4 (oMm false [(.t p3), (.c (.int .i64 (.ofNat 1001)))])
(dU (oSt 1 (.t p1) (.t p4))
dE))))
(dSeq (dOps (dV p5 (oMkf 322 [] [(.t p1)])
(dV p2 (oMv (.t p5))
dE)))
dRet))), [(.t p2)]⟩
def af321 : AF := ⟨(dSeq (dOps (dV p10 (oMv (.c (.int .i64 (.ofNat 0))))
(dV p11 (oMv (.c (.int .i64 (.ofNat 0))))
dE)))
(dSeq (dSeq (dDraw (sN p12 ⟨(some p12), (.v (.mv (.t p4))), none⟩
(sN p13 ⟨(some p13), (.v (.mv (.t p0))), none⟩
(sN p14 ⟨(some p14), (.v (.mv (.t p2))), none⟩
(sN p15 ⟨(some p15), (.v (.ia 2 (.t p13) (.t p14))), none⟩
(sN p16 ⟨(some p16), (.v (.ldN 2 (.t p15))), none⟩
(sN p17 ⟨(some p17), (.v (.mv (.t p0))), none⟩
(sN p18 ⟨(some p18), (.v (.mv (.t p1))), none⟩
(sN p19 ⟨(some p19), (.v (.ia 2 (.t p17) (.t p18))), none⟩
(sN p20 ⟨(some p20), (.v (.ldN 2 (.t p19))), none⟩
(sE [] [] ⟨(some p21), (.callv (.t p12) [(.t p16), (.t p20)]), none⟩
(sN p22 ⟨(some p22), (.v (.ar .lss (.t p21) (.c (.int .i64 (.ofNat 0))))), none⟩
sEnd))))))))))))
(dCond (.t p22) (dSeq (dOps (dV p23 (oMv (.t p3))
(dV p24 (oNchk (.t p23))
(dV p25 (oLd1 (.t p24))
(dV p26 (oAr .add (.t p25) (.c (.int .i64 (.ofNat 1))))
(dV p27 (oNchk (.t p23))
(dU (oSt 1 (.t p27) (.t p26))
dE)))))))
(dSeq (dOps (dV p28 (oMv (.t p2))
(dV p29 (oMv (.t p1))
(dV p10 (oMv (.t p28))
(dV p11 (oMv (.t p29))
dE)))))
dRet)) dSkip))
(dSeq (dOps (dV p30 (oMv (.t p1))
(dV p31 (oMv (.t p2))
(dV p10 (oMv (.t p30))
(dV p11 (oMv (.t p31))
dE)))))
dRet))), [(.t p10), (.t p11)]⟩
def af322 : AF := ⟨(dSeq (dOps (dV p3 (oMv (.c (.int .i64 (.ofNat 0))))
dE))
(dSeq (dOps (dV p4 (oMv (.t p0))
(dV p5 (oLd1 (.t p1))
(dV p6 (oAr .add (.t p4) (.t p5))
(dV p3 (oMv (.t p6))
dE)))))
dRet)), [(.t p3)]⟩
theorem ok313 : FunSem Tryz.prog 313 af313 := .of mixed (by kernel_rfl)
theorem ok314 : FunSem Tryz.prog 314 af314 := .of mixed (by kernel_rfl)
theorem ok315 : FunSem Tryz.prog 315 af315 := .of mixed (by kernel_rfl)
theorem ok316 : FunSem Tryz.prog 316 af316 := .of mixed (by kernel_rfl)
theorem ok317 : FunSem Tryz.prog 317 af317 := .of mixed (by kernel_rfl)
theorem ok318 : FunSem Tryz.prog 318 af318 := .of mixed (by kernel_rfl)
theorem ok319 : FunSem Tryz.prog 319 af319 := .of mixed (by kernel_rfl)
theorem ok320 : FunSem Tryz.prog 320 af320 := .of mixed (by kernel_rfl)
theorem ok321 : FunSem Tryz.prog 321 af321 := .of mixed (by kernel_rfl)
theorem ok322 : FunSem Tryz.prog 322 af322 := .of mixed (by kernel_rfl)
end Go.Proofs.YtdafcdioclcebaaGreat.X
