/- Functions of the program, as the executor runs them, and that they are the program's. -/
import Derived.Test.YtlejihhbliodoaaGreatXQB
import Derived.Test.YtlejihhbliodoaaGreatProg
set_option maxRecDepth 100000
namespace Go.Proofs.YtlejihhbliodoaaGreat.X
open Go.RowKit
def p0 : Pt := .e
def p1 : Pt := (.z .e)
def p2 : Pt := (.o .e)
def p3 : Pt := (.z (.z .e))
def p4 : Pt := (.o (.z .e))
def p5 : Pt := (.z (.o .e))
def p6 : Pt := (.o (.o .e))
def p7 : Pt := (.z (.z (.z .e)))
def p8 : Pt := (.o (.z (.z .e)))
def p9 : Pt := (.z (.o (.z .e)))
def p10 : Pt := (.o (.o (.z .e)))
def p11 : Pt := (.z (.z (.o .e)))
def p12 : Pt := (.o (.z (.o .e)))
def p13 : Pt := (.z (.o (.o .e)))
def p14 : Pt := (.o (.o (.o .e)))
def p15 : Pt := (.z (.z (.z (.z .e))))
def p16 : Pt := (.o (.z (.z (.z .e))))
def p17 : Pt := (.z (.o (.z (.z .e))))
def p18 : Pt := (.o (.o (.z (.z .e))))
def p19 : Pt := (.z (.z (.o (.z .e))))
def p20 : Pt := (.o (.z (.o (.z .e))))
def p21 : Pt := (.z (.o (.o (.z .e))))
def p22 : Pt := (.o (.o (.o (.z .e))))
def p23 : Pt := (.z (.z (.z (.o .e))))
def p24 : Pt := (.o (.z (.z (.o .e))))
def p25 : Pt := (.z (.o (.z (.o .e))))
def p26 : Pt := (.o (.o (.z (.o .e))))
def p27 : Pt := (.z (.z (.o (.o .e))))
def p28 : Pt := (.o (.z (.o (.o .e))))
def p29 : Pt := (.z (.o (.o (.o .e))))
def p30 : Pt := (.o (.o (.o (.o .e))))
def p31 : Pt := (.z (.z (.z (.z (.z .e)))))
def p32 : Pt := (.o (.z (.z (.z (.z .e)))))
def p33 : Pt := (.z (.o (.z (.z (.z .e)))))
def p34 : Pt := (.o (.o (.z (.z (.z .e)))))
def p35 : Pt := (.z (.z (.o (.z (.z .e)))))
def p36 : Pt := (.o (.z (.o (.z (.z .e)))))
def p37 : Pt := (.z (.o (.o (.z (.z .e)))))
def p38 : Pt := (.o (.o (.o (.z (.z .e)))))
def p39 : Pt := (.z (.z (.z (.o (.z .e)))))
def p40 : Pt := (.o (.z (.z (.o (.z .e)))))
def p41 : Pt := (.z (.o (.z (.o (.z .e)))))
def p42 : Pt := (.o (.o (.z (.o (.z .e)))))
def p43 : Pt := (.z (.z (.o (.o (.z .e)))))
def p44 : Pt := (.o (.z (.o (.o (.z .e)))))
def p45 : Pt := (.z (.o (.o (.o (.z .e)))))
def p46 : Pt := (.o (.o (.o (.o (.z .e)))))
def p47 : Pt := (.z (.z (.z (.z (.o .e)))))
def p48 : Pt := (.o (.z (.z (.z (.o .e)))))
def p49 : Pt := (.z (.o (.z (.z (.o .e)))))
def p50 : Pt := (.o (.o (.z (.z (.o .e)))))
def p51 : Pt := (.z (.z (.o (.z (.o .e)))))
def p52 : Pt := (.o (.z (.o (.z (.o .e)))))
def p53 : Pt := (.z (.o (.o (.z (.o .e)))))
def p54 : Pt := (.o (.o (.o (.z (.o .e)))))
def p55 : Pt := (.z (.z (.z (.o (.o .e)))))
def p56 : Pt := (.o (.z (.z (.o (.o .e)))))
def p57 : Pt := (.z (.o (.z (.o (.o .e)))))
def p58 : Pt := (.o (.o (.z (.o (.o .e)))))
def p59 : Pt := (.z (.z (.o (.o (.o .e)))))
def p60 : Pt := (.o (.z (.o (.o (.o .e)))))
def p61 : Pt := (.z (.o (.o (.o (.o .e)))))
def p62 : Pt := (.o (.o (.o (.o (.o .e)))))
def p63 : Pt := (.z (.z (.z (.z (.z (.z .e))))))
def p64 : Pt := (.o (.z (.z (.z (.z (.z .e))))))
def p65 : Pt := (.z (.o (.z (.z (.z (.z .e))))))
def p66 : Pt := (.o (.o (.z (.z (.z (.z .e))))))
def p67 : Pt := (.z (.z (.o (.z (.z (.z .e))))))
def p68 : Pt := (.o (.z (.o (.z (.z (.z .e))))))
def p69 : Pt := (.z (.o (.o (.z (.z (.z .e))))))
def p70 : Pt := (.o (.o (.o (.z (.z (.z .e))))))
def p71 : Pt := (.z (.z (.z (.o (.z (.z .e))))))
def p72 : Pt := (.o (.z (.z (.o (.z (.z .e))))))
def p73 : Pt := (.z (.o (.z (.o (.z (.z .e))))))
def p74 : Pt := (.o (.o (.z (.o (.z (.z .e))))))
def p75 : Pt := (.z (.z (.o (.o (.z (.z .e))))))
def p76 : Pt := (.o (.z (.o (.o (.z (.z .e))))))
def p77 : Pt := (.z (.o (.o (.o (.z (.z .e))))))
def p78 : Pt := (.o (.o (.o (.o (.z (.z .e))))))
def p79 : Pt := (.z (.z (.z (.z (.o (.z .e))))))
def p80 : Pt := (.o (.z (.z (.z (.o (.z .e))))))
def p81 : Pt := (.z (.o (.z (.z (.o (.z .e))))))
def p82 : Pt := (.o (.o (.z (.z (.o (.z .e))))))
def p83 : Pt := (.z (.z (.o (.z (.o (.z .e))))))
def p84 : Pt := (.o (.z (.o (.z (.o (.z .e))))))
def p85 : Pt := (.z (.o (.o (.z (.o (.z .e))))))
def p86 : Pt := (.o (.o (.o (.z (.o (.z .e))))))
def p87 : Pt := (.z (.z (.z (.o (.o (.z .e))))))
def p88 : Pt := (.o (.z (.z (.o (.o (.z .e))))))
def p89 : Pt := (.z (.o (.z (.o (.o (.z .e))))))
def p90 : Pt := (.o (.o (.z (.o (.o (.z .e))))))
def p91 : Pt := (.z (.z (.o (.o (.o (.z .e))))))
def p92 : Pt := (.o (.z (.o (.o (.o (.z .e))))))
def p93 : Pt := (.z (.o (.o (.o (.o (.z .e))))))
def p94 : Pt := (.o (.o (.o (.o (.o (.z .e))))))
def p95 : Pt := (.z (.z (.z (.z (.z (.o .e))))))
def p96 : Pt := (.o (.z (.z (.z (.z (.o .e))))))
def p97 : Pt := (.z (.o (.z (.z (.z (.o .e))))))
def p98 : Pt := (.o (.o (.z (.z (.z (.o .e))))))
def p99 : Pt := (.z (.z (.o (.z (.z (.o .e))))))
def p100 : Pt := (.o (.z (.o (.z (.z (.o .e))))))
def p101 : Pt := (.z (.o (.o (.z (.z (.o .e))))))
def p102 : Pt := (.o (.o (.o (.z (.z (.o .e))))))
def p103 : Pt := (.z (.z (.z (.o (.z (.o .e))))))
def p104 : Pt := (.o (.z (.z (.o (.z (.o .e))))))
def p105 : Pt := (.z (.o (.z (.o (.z (.o .e))))))
def p106 : Pt := (.o (.o (.z (.o (.z (.o .e))))))
def p107 : Pt := (.z (.z (.o (.o (.z (.o .e))))))
def p108 : Pt := (.o (.z (.o (.o (.z (.o .e))))))
def p109 : Pt := (.z (.o (.o (.o (.z (.o .e))))))
def p110 : Pt := (.o (.o (.o (.o (.z (.o .e))))))
def p111 : Pt := (.z (.z (.z (.z (.o (.o .e))))))
def p112 : Pt := (.o (.z (.z (.z (.o (.o .e))))))
def p113 : Pt := (.z (.o (.z (.z (.o (.o .e))))))
def p114 : Pt := (.o (.o (.z (.z (.o (.o .e))))))
def p115 : Pt := (.z (.z (.o (.z (.o (.o .e))))))
def p116 : Pt := (.o (.z (.o (.z (.o (.o .e))))))
def p117 : Pt := (.z (.o (.o (.z (.o (.o .e))))))
def p118 : Pt := (.o (.o (.o (.z (.o (.o .e))))))
def p119 : Pt := (.z (.z (.z (.o (.o (.o .e))))))
def p120 : Pt := (.o (.z (.z (.o (.o (.o .e))))))
def p121 : Pt := (.z (.o (.z (.o (.o (.o .e))))))
def p122 : Pt := (.o (.o (.z (.o (.o (.o .e))))))
def p123 : Pt := (.z (.z (.o (.o (.o (.o .e))))))
def p124 : Pt := (.o (.z (.o (.o (.o (.o .e))))))
def p125 : Pt := (.z (.o (.o (.o (.o (.o .e))))))
def p126 : Pt := (.o (.o (.o (.o (.o (.o .e))))))
def p127 : Pt := (.z (.z (.z (.z (.z (.z (.z .e)))))))
def p128 : Pt := (.o (.z (.z (.z (.z (.z (.z .e)))))))
def p129 : Pt := (.z (.o (.z (.z (.z (.z (.z .e)))))))
def p130 : Pt := (.o (.o (.z (.z (.z (.z (.z .e)))))))
def p131 : Pt := (.z (.z (.o (.z (.z (.z (.z .e)))))))
def p132 : Pt := (.o (.z (.o (.z (.z (.z (.z .e)))))))
def p133 : Pt := (.z (.o (.o (.z (.z (.z (.z .e)))))))
def p134 : Pt := (.o (.o (.o (.z (.z (.z (.z .e)))))))
def p135 : Pt := (.z (.z (.z (.o (.z (.z (.z .e)))))))
def p136 : Pt := (.o (.z (.z (.o (.z (.z (.z .e)))))))
def p137 : Pt := (.z (.o (.z (.o (.z (.z (.z .e)))))))
def p138 : Pt := (.o (.o (.z (.o (.z (.z (.z .e)))))))
def p139 : Pt := (.z (.z (.o (.o (.z (.z (.z .e)))))))
def p140 : Pt := (.o (.z (.o (.o (.z (.z (.z .e)))))))
def p141 : Pt := (.z (.o (.o (.o (.z (.z (.z .e)))))))
def p142 : Pt := (.o (.o (.o (.o (.z (.z (.z .e)))))))
def p143 : Pt := (.z (.z (.z (.z (.o (.z (.z .e)))))))
def p144 : Pt := (.o (.z (.z (.z (.o (.z (.z .e)))))))
def p145 : Pt := (.z (.o (.z (.z (.o (.z (.z .e)))))))
def p146 : Pt := (.o (.o (.z (.z (.o (.z (.z .e)))))))
def p147 : Pt := (.z (.z (.o (.z (.o (.z (.z .e)))))))
def p148 : Pt := (.o (.z (.o (.z (.o (.z (.z .e)))))))
def p149 : Pt := (.z (.o (.o (.z (.o (.z (.z .e)))))))
def p150 : Pt := (.o (.o (.o (.z (.o (.z (.z .e)))))))
def p151 : Pt := (.z (.z (.z (.o (.o (.z (.z .e)))))))
def p152 : Pt := (.o (.z (.z (.o (.o (.z (.z .e)))))))
def p153 : Pt := (.z (.o (.z (.o (.o (.z (.z .e)))))))
def p154 : Pt := (.o (.o (.z (.o (.o (.z (.z .e)))))))
def p155 : Pt := (.z (.z (.o (.o (.o (.z (.z .e)))))))
def p156 : Pt := (.o (.z (.o (.o (.o (.z (.z .e)))))))
def p157 : Pt := (.z (.o (.o (.o (.o (.z (.z .e)))))))
def p158 : Pt := (.o (.o (.o (.o (.o (.z (.z .e)))))))
def p159 : Pt := (.z (.z (.z (.z (.z (.o (.z .e)))))))
def p160 : Pt := (.o (.z (.z (.z (.z (.o (.z .e)))))))
def p161 : Pt := (.z (.o (.z (.z (.z (.o (.z .e)))))))
def p162 : Pt := (.o (.o (.z (.z (.z (.o (.z .e)))))))
def p163 : Pt := (.z (.z (.o (.z (.z (.o (.z .e)))))))
def p164 : Pt := (.o (.z (.o (.z (.z (.o (.z .e)))))))
def p165 : Pt := (.z (.o (.o (.z (.z (.o (.z .e)))))))
def p166 : Pt := (.o (.o (.o (.z (.z (.o (.z .e)))))))
def p167 : Pt := (.z (.z (.z (.o (.z (.o (.z .e)))))))
def p168 : Pt := (.o (.z (.z (.o (.z (.o (.z .e)))))))
def p169 : Pt := (.z (.o (.z (.o (.z (.o (.z .e)))))))
def p170 : Pt := (.o (.o (.z (.o (.z (.o (.z .e)))))))
def p171 : Pt := (.z (.z (.o (.o (.z (.o (.z .e)))))))
def p172 : Pt := (.o (.z (.o (.o (.z (.o (.z .e)))))))
def p173 : Pt := (.z (.o (.o (.o (.z (.o (.z .e)))))))
def p174 : Pt := (.o (.o (.o (.o (.z (.o (.z .e)))))))
def p175 : Pt := (.z (.z (.z (.z (.o (.o (.z .e)))))))
def p176 : Pt := (.o (.z (.z (.z (.o (.o (.z .e)))))))
def p177 : Pt := (.z (.o (.z (.z (.o (.o (.z .e)))))))
def p178 : Pt := (.o (.o (.z (.z (.o (.o (.z .e)))))))
def p179 : Pt := (.z (.z (.o (.z (.o (.o (.z .e)))))))
def p180 : Pt := (.o (.z (.o (.z (.o (.o (.z .e)))))))
def p181 : Pt := (.z (.o (.o (.z (.o (.o (.z .e)))))))
def p182 : Pt := (.o (.o (.o (.z (.o (.o (.z .e)))))))
def p183 : Pt := (.z (.z (.z (.o (.o (.o (.z .e)))))))
def p184 : Pt := (.o (.z (.z (.o (.o (.o (.z .e)))))))
def p185 : Pt := (.z (.o (.z (.o (.o (.o (.z .e)))))))
def p186 : Pt := (.o (.o (.z (.o (.o (.o (.z .e)))))))
def p187 : Pt := (.z (.z (.o (.o (.o (.o (.z .e)))))))
def p188 : Pt := (.o (.z (.o (.o (.o (.o (.z .e)))))))
def p189 : Pt := (.z (.o (.o (.o (.o (.o (.z .e)))))))
def p190 : Pt := (.o (.o (.o (.o (.o (.o (.z .e)))))))
def p191 : Pt := (.z (.z (.z (.z (.z (.z (.o .e)))))))
def p192 : Pt := (.o (.z (.z (.z (.z (.z (.o .e)))))))
def p193 : Pt := (.z (.o (.z (.z (.z (.z (.o .e)))))))
def p194 : Pt := (.o (.o (.z (.z (.z (.z (.o .e)))))))
def p195 : Pt := (.z (.z (.o (.z (.z (.z (.o .e)))))))
def p196 : Pt := (.o (.z (.o (.z (.z (.z (.o .e)))))))
def p197 : Pt := (.z (.o (.o (.z (.z (.z (.o .e)))))))
def p198 : Pt := (.o (.o (.o (.z (.z (.z (.o .e)))))))
def p199 : Pt := (.z (.z (.z (.o (.z (.z (.o .e)))))))
def p200 : Pt := (.o (.z (.z (.o (.z (.z (.o .e)))))))
def p202 : Pt := (.o (.o (.z (.o (.z (.z (.o .e)))))))
def p203 : Pt := (.z (.z (.o (.o (.z (.z (.o .e)))))))
def p204 : Pt := (.o (.z (.o (.o (.z (.z (.o .e)))))))
def p205 : Pt := (.z (.o (.o (.o (.z (.z (.o .e)))))))
def p206 : Pt := (.o (.o (.o (.o (.z (.z (.o .e)))))))
def p207 : Pt := (.z (.z (.z (.z (.o (.z (.o .e)))))))
def p208 : Pt := (.o (.z (.z (.z (.o (.z (.o .e)))))))
def p209 : Pt := (.z (.o (.z (.z (.o (.z (.o .e)))))))
def p210 : Pt := (.o (.o (.z (.z (.o (.z (.o .e)))))))
def p211 : Pt := (.z (.z (.o (.z (.o (.z (.o .e)))))))
def p212 : Pt := (.o (.z (.o (.z (.o (.z (.o .e)))))))
def p213 : Pt := (.z (.o (.o (.z (.o (.z (.o .e)))))))
def p214 : Pt := (.o (.o (.o (.z (.o (.z (.o .e)))))))
def p215 : Pt := (.z (.z (.z (.o (.o (.z (.o .e)))))))
def p216 : Pt := (.o (.z (.z (.o (.o (.z (.o .e)))))))
def p217 : Pt := (.z (.o (.z (.o (.o (.z (.o .e)))))))
def p218 : Pt := (.o (.o (.z (.o (.o (.z (.o .e)))))))
def p219 : Pt := (.z (.z (.o (.o (.o (.z (.o .e)))))))
def p220 : Pt := (.o (.z (.o (.o (.o (.z (.o .e)))))))
def p221 : Pt := (.z (.o (.o (.o (.o (.z (.o .e)))))))
def p224 : Pt := (.o (.z (.z (.z (.z (.o (.o .e)))))))
def p225 : Pt := (.z (.o (.z (.z (.z (.o (.o .e)))))))
def p226 : Pt := (.o (.o (.z (.z (.z (.o (.o .e)))))))
def p227 : Pt := (.z (.z (.o (.z (.z (.o (.o .e)))))))
def p228 : Pt := (.o (.z (.o (.z (.z (.o (.o .e)))))))
def p229 : Pt := (.z (.o (.o (.z (.z (.o (.o .e)))))))
def p230 : Pt := (.o (.o (.o (.z (.z (.o (.o .e)))))))
def p231 : Pt := (.z (.z (.z (.o (.z (.o (.o .e)))))))
def p232 : Pt := (.o (.z (.z (.o (.z (.o (.o .e)))))))
def p233 : Pt := (.z (.o (.z (.o (.z (.o (.o .e)))))))
def p234 : Pt := (.o (.o (.z (.o (.z (.o (.o .e)))))))
def p235 : Pt := (.z (.z (.o (.o (.z (.o (.o .e)))))))
def p236 : Pt := (.o (.z (.o (.o (.z (.o (.o .e)))))))
def p237 : Pt := (.z (.o (.o (.o (.z (.o (.o .e)))))))
def p238 : Pt := (.o (.o (.o (.o (.z (.o (.o .e)))))))
def p239 : Pt := (.z (.z (.z (.z (.o (.o (.o .e)))))))
def p240 : Pt := (.o (.z (.z (.z (.o (.o (.o .e)))))))
def p241 : Pt := (.z (.o (.z (.z (.o (.o (.o .e)))))))
def p242 : Pt := (.o (.o (.z (.z (.o (.o (.o .e)))))))
def p243 : Pt := (.z (.z (.o (.z (.o (.o (.o .e)))))))
def p244 : Pt := (.o (.z (.o (.z (.o (.o (.o .e)))))))
def p245 : Pt := (.z (.o (.o (.z (.o (.o (.o .e)))))))
def p246 : Pt := (.o (.o (.o (.z (.o (.o (.o .e)))))))
def p247 : Pt := (.z (.z (.z (.o (.o (.o (.o .e)))))))
def p248 : Pt := (.o (.z (.z (.o (.o (.o (.o .e)))))))
def p249 : Pt := (.z (.o (.z (.o (.o (.o (.o .e)))))))
def p250 : Pt := (.o (.o (.z (.o (.o (.o (.o .e)))))))
def p251 : Pt := (.z (.z (.o (.o (.o (.o (.o .e)))))))
def p252 : Pt := (.o (.z (.o (.o (.o (.o (.o .e)))))))
def p253 : Pt := (.z (.o (.o (.o (.o (.o (.o .e)))))))
def p254 : Pt := (.o (.o (.o (.o (.o (.o (.o .e)))))))
def p255 : Pt := (.z (.z (.z (.z (.z (.z (.z (.z .e))))))))
def p256 : Pt := (.o (.z (.z (.z (.z (.z (.z (.z .e))))))))
def p257 : Pt := (.z (.o (.z (.z (.z (.z (.z (.z .e))))))))
def p258 : Pt := (.o (.o (.z (.z (.z (.z (.z (.z .e))))))))
def p259 : Pt := (.z (.z (.o (.z (.z (.z (.z (.z .e))))))))
def p260 : Pt := (.o (.z (.o (.z (.z (.z (.z (.z .e))))))))
def p261 : Pt := (.z (.o (.o (.z (.z (.z (.z (.z .e))))))))
def p262 : Pt := (.o (.o (.o (.z (.z (.z (.z (.z .e))))))))
def p263 : Pt := (.z (.z (.z (.o (.z (.z (.z (.z .e))))))))
def p264 : Pt := (.o (.z (.z (.o (.z (.z (.z (.z .e))))))))
def p265 : Pt := (.z (.o (.z (.o (.z (.z (.z (.z .e))))))))
def p266 : Pt := (.o (.o (.z (.o (.z (.z (.z (.z .e))))))))
def p267 : Pt := (.z (.z (.o (.o (.z (.z (.z (.z .e))))))))
def p268 : Pt := (.o (.z (.o (.o (.z (.z (.z (.z .e))))))))
def p269 : Pt := (.z (.o (.o (.o (.z (.z (.z (.z .e))))))))
def p270 : Pt := (.o (.o (.o (.o (.z (.z (.z (.z .e))))))))
def p271 : Pt := (.z (.z (.z (.z (.o (.z (.z (.z .e))))))))
def p272 : Pt := (.o (.z (.z (.z (.o (.z (.z (.z .e))))))))
def p273 : Pt := (.z (.o (.z (.z (.o (.z (.z (.z .e))))))))
def p274 : Pt := (.o (.o (.z (.z (.o (.z (.z (.z .e))))))))
def p275 : Pt := (.z (.z (.o (.z (.o (.z (.z (.z .e))))))))
def p276 : Pt := (.o (.z (.o (.z (.o (.z (.z (.z .e))))))))
def p277 : Pt := (.z (.o (.o (.z (.o (.z (.z (.z .e))))))))
def p278 : Pt := (.o (.o (.o (.z (.o (.z (.z (.z .e))))))))
def p279 : Pt := (.z (.z (.z (.o (.o (.z (.z (.z .e))))))))
def p280 : Pt := (.o (.z (.z (.o (.o (.z (.z (.z .e))))))))
def p281 : Pt := (.z (.o (.z (.o (.o (.z (.z (.z .e))))))))
def p282 : Pt := (.o (.o (.z (.o (.o (.z (.z (.z .e))))))))
def p283 : Pt := (.z (.z (.o (.o (.o (.z (.z (.z .e))))))))
def p284 : Pt := (.o (.z (.o (.o (.o (.z (.z (.z .e))))))))
def p285 : Pt := (.z (.o (.o (.o (.o (.z (.z (.z .e))))))))
def p286 : Pt := (.o (.o (.o (.o (.o (.z (.z (.z .e))))))))
def p287 : Pt := (.z (.z (.z (.z (.z (.o (.z (.z .e))))))))
def p288 : Pt := (.o (.z (.z (.z (.z (.o (.z (.z .e))))))))
def p289 : Pt := (.z (.o (.z (.z (.z (.o (.z (.z .e))))))))
def p290 : Pt := (.o (.o (.z (.z (.z (.o (.z (.z .e))))))))
def p291 : Pt := (.z (.z (.o (.z (.z (.o (.z (.z .e))))))))
def p292 : Pt := (.o (.z (.o (.z (.z (.o (.z (.z .e))))))))
def p293 : Pt := (.z (.o (.o (.z (.z (.o (.z (.z .e))))))))
def p294 : Pt := (.o (.o (.o (.z (.z (.o (.z (.z .e))))))))
def p295 : Pt := (.z (.z (.z (.o (.z (.o (.z (.z .e))))))))
def p296 : Pt := (.o (.z (.z (.o (.z (.o (.z (.z .e))))))))
def p297 : Pt := (.z (.o (.z (.o (.z (.o (.z (.z .e))))))))
def p298 : Pt := (.o (.o (.z (.o (.z (.o (.z (.z .e))))))))
def p299 : Pt := (.z (.z (.o (.o (.z (.o (.z (.z .e))))))))
def p300 : Pt := (.o (.z (.o (.o (.z (.o (.z (.z .e))))))))
def p301 : Pt := (.z (.o (.o (.o (.z (.o (.z (.z .e))))))))
def p302 : Pt := (.o (.o (.o (.o (.z (.o (.z (.z .e))))))))
def p303 : Pt := (.z (.z (.z (.z (.o (.o (.z (.z .e))))))))
def p304 : Pt := (.o (.z (.z (.z (.o (.o (.z (.z .e))))))))
def p305 : Pt := (.z (.o (.z (.z (.o (.o (.z (.z .e))))))))
theorem mixed : Tryz.prog.follows .mixedOrders = true := by kernel_rfl
def af3 : AF := ⟨(dSeq (dOps (dV p6 (oMv (.c (.bool false)))
dE))
(dSeq (dOps (dC (some p15) p6 []
(dV p7 (oMv (.t p15))
dE)))
(dSeq (dSeq (dOps (dV p16 (oMv (.t p7))
(dV p17 (oUn .not (.t p16))
(dV p18 (oMv (.t p17))
(dG p18 false (some p19) (dV p19 (oMv (.t p0)))
(dG p18 false (some p20) (dV p20 (oAr .lss (.t p19) (.c (.int .i64 (.ofNat 0)))))
(dV p21 (oPick (.t p18) (.c (.bool true)) (.t p20))
(dV p22 (oMv (.t p21))
(dG p22 false (some p23) (dV p23 (oMv (.t p0)))
(dG p22 false (some p24) (dV p24 (oAr .gtr (.t p23) (.c (.int .i64 (.ofNat 6)))))
(dV p25 (oPick (.t p22) (.c (.bool true)) (.t p24))
dE)))))))))))
(dCond (.t p25) (dSeq (dOps (dV p26 (oMv (.t p7))
(dV p6 (oMv (.t p26))
dE)))
dRet) dSkip))
(dSeq (dOps (dC (some p27) p7 [(.c (.int .i64 (.ofNat 3)))]
(dV p8 (oNew [(.int .i64 (.ofNat 0)), (.int .i64 (.ofNat 0)), (.bool false), (.str []), .nils, .nils] 26)
(dU (oSt 6 (.t p8) (.t p27))
dE))))
(dSeq (dOps (dV p28 (oLdN 6 (.t p8))
(dV p9 (oNew [(.int .i64 (.ofNat 0)), (.int .i64 (.ofNat 0)), (.bool false), (.str []), .nils, .nils] 26)
(dU (oSt 6 (.t p9) (.t p28))
dE))))
(dSeq (dSeq (dOps (dV p10 (oMv (.c (.int .i64 (.ofNat 0))))
dE))
(dBlock 0 (dLoop (dSeq (dSeq (dOps (dV p29 (oMv (.t p10))
(dV p30 (oMv (.t p0))
(dV p31 (oAr .lss (.t p29) (.t p30))
dE))))
(dCond (.t p31) dSkip (dExit 0)))
(dSeq (dBlock 1 (dSeq (dOps (dV p34 (oMv (.t p1))
dE))
(dCond (.t p34) (dSeq (dOps (dC (some p35) p8 [(.c (.int .i64 (.ofNat 0)))]
(dC (some p36) p8 [(.c (.int .i64 (.ofNat 0)))]
(dV p37 (oBuildS 26 2 [(.int .i64 (.ofNat 0)), (.int .i64 (.ofNat 0)), (.bool false), (.str []), .nils, .nils, (.int .i64 (.ofNat 0)), (.int .i64 (.ofNat 0)), (.bool false), (.str []), .nils, .nils] [(0, 6, (.t p35)), (6, 6, (.t p36))])
(dV p38 (oBuild [(.int .i64 (.ofNat 0)), (.int .i64 (.ofNat 0)), (.bool false), (.str []), .nils, .nils] [(0, 1, (.c (.int .i64 (.ofNat 6)))), (5, 1, (.t p37))])
(dV p11 (oNew [(.int .i64 (.ofNat 0)), (.int .i64 (.ofNat 0)), (.bool false), (.str []), .nils, .nils] 26)
(dU (oSt 6 (.t p11) (.t p38))
dE)))))))
(dOps (dV p39 (oLdN 6 (.t p11))
(dV p40 (oLdN 6 (.t p9))
(dV p41 (oBuildS 26 1 [(.int .i64 (.ofNat 0)), (.int .i64 (.ofNat 0)), (.bool false), (.str []), .nils, .nils] [(0, 6, (.t p40))])
(dV p42 (oBuild [(.int .i64 (.ofNat 0)), (.int .i64 (.ofNat 0)), (.bool false), (.str []), .nils, .nils] [(0, 1, (.c (.int .i64 (.ofNat 8)))), (5, 1, (.t p41))])
(dV p43 (oLdN 6 (.t p9))
(dV p44 (oBuildS 26 1 [(.int .i64 (.ofNat 0)), (.int .i64 (.ofNat 0)), (.bool false), (.str []), .nils, .nils] [(0, 6, (.t p43))])
(dV p45 (oBuild [(.int .i64 (.ofNat 0)), (.int .i64 (.ofNat 0)), (.bool false), (.str []), .nils, .nils] [(0, 1, (.c (.int .i64 (.ofNat 9)))), (5, 1, (.t p44))])
(dV p46 (oBuildS 26 3 [(.int .i64 (.ofNat 0)), (.int .i64 (.ofNat 0)), (.bool false), (.str []), .nils, .nils, (.int .i64 (.ofNat 0)), (.int .i64 (.ofNat 0)), (.bool false), (.str []), .nils, .nils, (.int .i64 (.ofNat 0)), (.int .i64 (.ofNat 0)), (.bool false), (.str []), .nils, .nils] [(0, 6, (.t p39)), (6, 6, (.t p42)), (12, 6, (.t p45))])
(dV p47 (oBuild [(.int .i64 (.ofNat 0)), (.int .i64 (.ofNat 0)), (.bool false), (.str []), .nils, .nils] [(0, 1, (.c (.int .i64 (.ofNat 7)))), (5, 1, (.t p46))])
(dU (oSt 6 (.t p9) (.t p47))
dE)))))))))))) (dDraw (sN p48 ⟨(some p48), (.v (.mv (.t p10))), none⟩
(sN p50 ⟨(some p50), (.v (.ldN 6 (.t p9))), none⟩
(sE [] [(p50, ⟨(some p50), (.v (.ldN 6 (.t p9))), none⟩)] ⟨(some p49), (.call p8 [(.t p48)]), none⟩
(sE [] [] ⟨(some p51), (.call p11 [(.t p50), (.c (.int .i64 (.ofNat 1)))]), none⟩
(sE [] [] ⟨(some p52), (.call p7 [(.c (.int .i64 (.ofNat 0)))]), none⟩
(sE [] [] ⟨(some p53), (.call p10 [(.t p51), (.t p52)]), none⟩
(sE [] [] ⟨(some p54), (.call p9 [(.t p49), (.t p53)]), none⟩
(sE [] [] ⟨none, (.v (.st 6 (.t p9) (.t p54))), none⟩
sEnd))))))))))))
(dOps (dV p32 (oMv (.t p10))
(dV p33 (oAr .add (.t p32) (.c (.int .i64 (.ofNat 1))))
(dV p10 (oMv (.t p33))
dE)))))))))
(dSeq (dOps (dV p55 (oLdN 6 (.t p8))
(dV p12 (oNew [(.int .i64 (.ofNat 0)), (.int .i64 (.ofNat 0)), (.bool false), (.str []), .nils, .nils] 26)
(dU (oSt 6 (.t p12) (.t p55))
dE))))
(dSeq (dSeq (dOps (dV p56 (oMv (.t p2))
dE))
(dCond (.t p56) (dOps (dC (some p57) p7 [(.c (.int .i64 (.ofNat 4)))]
(dU (oSt 6 (.t p12) (.t p57))
dE))) dSkip))
(dSeq (dOps (dV p59 (oLdN 6 (.t p9))
(dV p60 (oLdN 6 (.t p12))
(dC (some p61) p12 [(.c .nilp), (.t p59), (.t p60), (.c (.int .i64 (.ofNat 100000)))]
(dV p58 (oMv (.t p61))
(dV p62 (oExt (.t p58) 0)
(dV p63 (oExt (.t p58) 1)
(dV p13 (oMv (.t p62))
(dV p14 (oMv (.t p63))
dE)))))))))
(dSeq (dOps (dV p64 (oMv (.t p14))
(dC (some p65) p13 [(.t p64)]
(dV p66 (oAr .eql (.t p65) (.c (.int .i64 (.ofNat 0))))
(dV p67 (oMv (.t p66))
(dG p67 true (some p68) (dV p68 (oMv (.t p13)))
(dG p67 true (some p69) (dV p69 (oMv (.t p2)))
(dG p67 true (some p70) (dV p70 (oUn .not (.t p69)))
(dG p67 true (some p71) (dV p71 (oEq .b false (.t p68) (.t p70)))
(dV p72 (oPick (.t p67) (.t p71) (.c (.bool false)))
(dV p6 (oMv (.t p72))
dE)))))))))))
dRet)))))))))), [(.t p6)]⟩
def af5 : AF := ⟨(dSeq (dOps (dV p6 (oMv (.c (.bool false)))
dE))
(dSeq (dOps (dC (some p13) p6 []
(dV p7 (oMv (.t p13))
dE)))
(dSeq (dSeq (dOps (dV p14 (oMv (.t p7))
(dV p15 (oUn .not (.t p14))
(dV p16 (oMv (.t p15))
(dG p16 false (some p17) (dV p17 (oMv (.t p0)))
(dG p16 false (some p18) (dV p18 (oAr .lss (.t p17) (.c (.int .i64 (.ofNat 3)))))
(dV p19 (oPick (.t p16) (.c (.bool true)) (.t p18))
(dV p20 (oMv (.t p19))
(dG p20 false (some p21) (dV p21 (oMv (.t p0)))
(dG p20 false (some p22) (dV p22 (oAr .gtr (.t p21) (.c (.int .i64 (.ofNat 5)))))
(dV p23 (oPick (.t p20) (.c (.bool true)) (.t p22))
(dV p24 (oMv (.t p23))
(dG p24 false (some p25) (dV p25 (oMv (.t p2)))
(dG p24 false (some p26) (dV p26 (oAr .lss (.t p25) (.c (.int .i64 (.ofNat 0)))))
(dV p27 (oPick (.t p24) (.c (.bool true)) (.t p26))
(dV p28 (oMv (.t p27))
(dG p28 false (some p29) (dV p29 (oMv (.t p2)))
(dG p28 false (some p30) (dV p30 (oAr .gtr (.t p29) (.c (.int .i64 (.ofNat 100)))))
(dV p31 (oPick (.t p28) (.c (.bool true)) (.t p30))
dE)))))))))))))))))))
(dCond (.t p31) (dSeq (dOps (dV p32 (oMv (.t p7))
(dV p6 (oMv (.t p32))
dE)))
dRet) dSkip))
(dSeq (dOps (dC (some p33) p8 [(.c (.int .i64 (.ofNat 0)))]
(dV p8 (oNew [(.int .i64 (.ofNat 0)), (.int .i64 (.ofNat 0)), (.bool false), (.str []), .nils, .nils] 26)
(dU (oSt 6 (.t p8) (.t p33))
dE))))
(dSeq (dSeq (dOps (dV p34 (oMv (.t p0))
(dV p35 (oAr .eql (.t p34) (.c (.int .i64 (.ofNat 4))))
dE)))
(dCond (.t p35) (dOps (dV p36 (oMv (.t p2))
(dC (some p37) p8 [(.t p36)]
(dU (oSt 6 (.t p8) (.t p37))
dE)))) dSkip))
(dSeq (dDraw (sN p38 ⟨(some p38), (.v (.mv (.t p0))), none⟩
(sN p39 ⟨(some p39), (.v (.mv (.t p1))), none⟩
(sN p40 ⟨(some p40), (.v (.ldN 6 (.t p8))), none⟩
(sA 6 p9 (.new [(.int .i64 (.ofNat 0)), (.int .i64 (.ofNat 0)), (.bool false), (.str []), .nils, .nils] 26)
(sE [] [(p40, ⟨(some p40), (.v (.ldN 6 (.t p8))), none⟩)] ⟨(some p41), (.call p7 [(.c (.int .i64 (.ofNat 0)))]), none⟩
(sA 4 p42 (.buildS 26 2 [(.int .i64 (.ofNat 0)), (.int .i64 (.ofNat 0)), (.bool false), (.str []), .nils, .nils, (.int .i64 (.ofNat 0)), (.int .i64 (.ofNat 0)), (.bool false), (.str []), .nils, .nils] [(0, 6, (.t p40)), (6, 6, (.t p41))])
(sN p43 ⟨(some p43), (.v (.build [(.int .i64 (.ofNat 0)), (.int .i64 (.ofNat 0)), (.bool false), (.str []), .nils, .nils] [(0, 1, (.t p38)), (2, 1, (.t p39)), (5, 1, (.t p42))])), none⟩
(sE [6, 4] [] ⟨none, (.v (.st 6 (.t p9) (.t p43))), none⟩
sEnd)))))))))
(dSeq (dOps (dV p44 (oMv (.t p0))
(dV p45 (oMv (.t p1))
(dV p46 (oUn .not (.t p45))
(dC (some p47) p8 [(.c (.int .i64 (.ofNat 0)))]
(dC (some p48) p7 [(.c (.int .i64 (.ofNat 0)))]
(dV p49 (oBuildS 26 2 [(.int .i64 (.ofNat 0)), (.int .i64 (.ofNat 0)), (.bool false), (.str []), .nils, .nils, (.int .i64 (.ofNat 0)), (.int .i64 (.ofNat 0)), (.bool false), (.str []), .nils, .nils] [(0, 6, (.t p47)), (6, 6, (.t p48))])
(dV p50 (oBuild [(.int .i64 (.ofNat 0)), (.int .i64 (.ofNat 0)), (.bool false), (.str []), .nils, .nils] [(0, 1, (.t p44)), (2, 1, (.t p46)), (5, 1, (.t p49))])
(dV p10 (oNew [(.int .i64 (.ofNat 0)), (.int .i64 (.ofNat 0)), (.bool false), (.str []), .nils, .nils] 26)
(dU (oSt 6 (.t p10) (.t p50))
dE))))))))))
(dSeq (dOps (dV p52 (oLdN 6 (.t p9))
(dV p53 (oLdN 6 (.t p10))
(dC (some p54) p12 [(.c .nilp), (.t p52), (.t p53), (.c (.int .i64 (.ofNat 100)))]
(dV p51 (oMv (.t p54))
(dV p55 (oExt (.t p51) 0)
(dV p56 (oExt (.t p51) 1)
(dV p11 (oMv (.t p55))
(dV p12 (oMv (.t p56))
dE)))))))))
(dSeq (dOps (dV p57 (oMv (.t p12))
(dC (some p58) p13 [(.t p57)]
(dV p59 (oAr .eql (.t p58) (.c (.int .i64 (.ofNat 0))))
(dV p60 (oMv (.t p59))
(dG p60 true (some p61) (dV p61 (oMv (.t p11)))
(dV p62 (oPick (.t p60) (.t p61) (.c (.bool false)))
(dV p6 (oMv (.t p62))
dE))))))))
dRet))))))))), [(.t p6)]⟩
def af6 : AF := ⟨(dSeq (dOps (dV p0 (oMv (.c (.bool false)))
dE))
(dSeq (dOps (dC (some p11) p7 [(.c (.int .i64 (.ofNat 0)))]
(dV p1 (oNew [(.int .i64 (.ofNat 0)), (.int .i64 (.ofNat 0)), (.bool false), (.str []), .nils, .nils] 26)
(dU (oSt 6 (.t p1) (.t p11))
dE))))
(dSeq (dOps (dC (some p12) p8 [(.c (.int .i64 (.ofNat 0)))]
(dC (some p13) p7 [(.c (.int .i64 (.ofNat 1)))]
(dC (some p14) p7 [(.c (.int .i64 (.ofNat 0)))]
(dC (some p15) p10 [(.t p13), (.t p14)]
(dC (some p16) p9 [(.t p12), (.t p15)]
(dV p2 (oNew [(.int .i64 (.ofNat 0)), (.int .i64 (.ofNat 0)), (.bool false), (.str []), .nils, .nils] 26)
(dU (oSt 6 (.t p2) (.t p16))
dE))))))))
(dSeq (dOps (dC (some p17) p8 [(.c (.int .i64 (.ofNat 0)))]
(dC (some p18) p8 [(.c (.int .i64 (.ofNat 0)))]
(dV p19 (oBuildS 26 2 [(.int .i64 (.ofNat 0)), (.int .i64 (.ofNat 0)), (.bool false), (.str []), .nils, .nils, (.int .i64 (.ofNat 0)), (.int .i64 (.ofNat 0)), (.bool false), (.str []), .nils, .nils] [(0, 6, (.t p17)), (6, 6, (.t p18))])
(dV p20 (oBuild [(.int .i64 (.ofNat 0)), (.int .i64 (.ofNat 0)), (.bool false), (.str []), .nils, .nils] [(0, 1, (.c (.int .i64 (.ofNat 6)))), (5, 1, (.t p19))])
(dV p3 (oNew [(.int .i64 (.ofNat 0)), (.int .i64 (.ofNat 0)), (.bool false), (.str []), .nils, .nils] 26)
(dU (oSt 6 (.t p3) (.t p20))
dE)))))))
(dSeq (dOps (dV p21 (oLdN 6 (.t p3))
(dV p22 (oLdN 6 (.t p1))
(dV p23 (oBuildS 26 1 [(.int .i64 (.ofNat 0)), (.int .i64 (.ofNat 0)), (.bool false), (.str []), .nils, .nils] [(0, 6, (.t p22))])
(dV p24 (oBuild [(.int .i64 (.ofNat 0)), (.int .i64 (.ofNat 0)), (.bool false), (.str []), .nils, .nils] [(0, 1, (.c (.int .i64 (.ofNat 8)))), (5, 1, (.t p23))])
(dV p25 (oLdN 6 (.t p1))
(dV p26 (oBuildS 26 1 [(.int .i64 (.ofNat 0)), (.int .i64 (.ofNat 0)), (.bool false), (.str []), .nils, .nils] [(0, 6, (.t p25))])
(dV p27 (oBuild [(.int .i64 (.ofNat 0)), (.int .i64 (.ofNat 0)), (.bool false), (.str []), .nils, .nils] [(0, 1, (.c (.int .i64 (.ofNat 9)))), (5, 1, (.t p26))])
(dV p28 (oBuildS 26 3 [(.int .i64 (.ofNat 0)), (.int .i64 (.ofNat 0)), (.bool false), (.str []), .nils, .nils, (.int .i64 (.ofNat 0)), (.int .i64 (.ofNat 0)), (.bool false), (.str []), .nils, .nils, (.int .i64 (.ofNat 0)), (.int .i64 (.ofNat 0)), (.bool false), (.str []), .nils, .nils] [(0, 6, (.t p21)), (6, 6, (.t p24)), (12, 6, (.t p27))])
(dV p29 (oBuild [(.int .i64 (.ofNat 0)), (.int .i64 (.ofNat 0)), (.bool false), (.str []), .nils, .nils] [(0, 1, (.c (.int .i64 (.ofNat 7)))), (5, 1, (.t p28))])
(dV p4 (oNew [(.int .i64 (.ofNat 0)), (.int .i64 (.ofNat 0)), (.bool false), (.str []), .nils, .nils] 26)
(dU (oSt 6 (.t p4) (.t p29))
dE))))))))))))
(dSeq (dOps (dV p31 (oLdN 6 (.t p2))
(dV p32 (oLdN 6 (.t p1))
(dC (some p33) p12 [(.c .nilp), (.t p31), (.t p32), (.c (.int .i64 (.ofNat 1000)))]
(dV p30 (oMv (.t p33))
(dV p34 (oExt (.t p30) 0)
(dV p35 (oExt (.t p30) 1)
(dV p5 (oMv (.t p34))
(dV p6 (oMv (.t p35))
dE)))))))))
(dSeq (dOps (dV p37 (oLdN 6 (.t p1))
(dV p38 (oLdN 6 (.t p4))
(dC (some p39) p12 [(.c .nilp), (.t p37), (.t p38), (.c (.int .i64 (.ofNat 1000)))]
(dV p36 (oMv (.t p39))
(dV p40 (oExt (.t p36) 0)
(dV p41 (oExt (.t p36) 1)
(dV p7 (oMv (.t p40))
(dV p8 (oMv (.t p41))
dE)))))))))
(dSeq (dDraw (sN p43 ⟨(some p43), (.v (.ldN 6 (.t p1))), none⟩
(sE [] [(p43, ⟨(some p43), (.v (.ldN 6 (.t p1))), none⟩)] ⟨(some p44), (.call p8 [(.c (.int .i64 (.ofNat 0)))]), none⟩
(sE [] [] ⟨(some p45), (.call p12 [(.c .nilp), (.t p43), (.t p44), (.c (.int .i64 (.ofNat 1000)))]), none⟩
(sN p42 ⟨(some p42), (.v (.mv (.t p45))), none⟩
(sN p46 ⟨(some p46), (.v (.ext (.t p42) 0)), none⟩
(sN p47 ⟨(some p47), (.v (.ext (.t p42) 1)), none⟩
(sN p9 ⟨(some p9), (.v (.mv (.t p46))), none⟩
(sN p10 ⟨(some p10), (.v (.mv (.t p47))), none⟩
sEnd)))))))))
(dSeq (dOps (dV p48 (oMv (.t p6))
(dC (some p49) p13 [(.t p48)]
(dV p50 (oAr .eql (.t p49) (.c (.int .i64 (.ofNat 0))))
(dV p51 (oMv (.t p50))
(dG p51 true (some p52) (dV p52 (oMv (.t p5)))
(dV p53 (oPick (.t p51) (.t p52) (.c (.bool false)))
(dV p54 (oMv (.t p53))
(dG p54 true (some p55) (dV p55 (oMv (.t p8)))
(dG p54 true (some p56) (dC (some p56) p13 [(.t p55)])
(dG p54 true (some p57) (dV p57 (oAr .eql (.t p56) (.c (.int .i64 (.ofNat 0)))))
(dV p58 (oPick (.t p54) (.t p57) (.c (.bool false)))
(dV p59 (oMv (.t p58))
(dG p59 true (some p60) (dV p60 (oMv (.t p7)))
(dV p61 (oPick (.t p59) (.t p60) (.c (.bool false)))
(dV p62 (oMv (.t p61))
(dG p62 true (some p63) (dV p63 (oMv (.t p10)))
(dG p62 true (some p64) (dC (some p64) p13 [(.t p63)])
(dG p62 true (some p65) (dV p65 (oAr .eql (.t p64) (.c (.int .i64 (.ofNat 0)))))
(dV p66 (oPick (.t p62) (.t p65) (.c (.bool false)))
(dV p67 (oMv (.t p66))
(dG p67 true (some p68) (dV p68 (oMv (.t p9)))
(dG p67 true (some p69) (dV p69 (oUn .not (.t p68)))
(dV p70 (oPick (.t p67) (.t p69) (.c (.bool false)))
(dV p0 (oMv (.t p70))
dE)))))))))))))))))))))))))
dRet))))))))), [(.t p0)]⟩
def af7 : AF := ⟨(dSeq (dOps (dV p2 (oNew [(.int .i64 (.ofNat 0)), (.int .i64 (.ofNat 0)), (.bool false), (.str []), .nils, .nils] 26)
dE))
(dSeq (dOps (dV p3 (oMv (.t p0))
(dV p4 (oBuild [(.int .i64 (.ofNat 0)), (.int .i64 (.ofNat 0)), (.bool false), (.str []), .nils, .nils] [(0, 1, (.c (.int .i64 (.ofNat 1)))), (1, 1, (.t p3))])
(dU (oSt 6 (.t p2) (.t p4))
dE))))
dRet)), [(.cN p2 6)]⟩
def af8 : AF := ⟨(dSeq (dOps (dV p2 (oNew [(.int .i64 (.ofNat 0)), (.int .i64 (.ofNat 0)), (.bool false), (.str []), .nils, .nils] 26)
dE))
(dSeq (dOps (dV p3 (oMv (.t p0))
(dV p4 (oBuild [(.int .i64 (.ofNat 0)), .nils] [(0, 1, (.t p3))])
(dV p5 (oBuildS 49 1 [(.int .i64 (.ofNat 0)), .nils] [(0, 2, (.t p4))])
(dV p6 (oBuild [(.int .i64 (.ofNat 0)), (.int .i64 (.ofNat 0)), (.bool false), (.str []), .nils, .nils] [(0, 1, (.c (.int .i64 (.ofNat 2)))), (4, 1, (.t p5))])
(dU (oSt 6 (.t p2) (.t p6))
dE))))))
dRet)), [(.cN p2 6)]⟩
def af9 : AF := ⟨(dSeq (dOps (dV p2 (oBox 26 (.t p0))
(dV p3 (oBox 26 (.t p1))
(dV p4 (oNew [(.int .i64 (.ofNat 0)), (.int .i64 (.ofNat 0)), (.bool false), (.str []), .nils, .nils] 26)
dE))))
(dSeq (dOps (dV p5 (oLdN 6 (.t p2))
(dV p6 (oLdN 6 (.t p3))
(dV p7 (oBuildS 26 2 [(.int .i64 (.ofNat 0)), (.int .i64 (.ofNat 0)), (.bool false), (.str []), .nils, .nils, (.int .i64 (.ofNat 0)), (.int .i64 (.ofNat 0)), (.bool false), (.str []), .nils, .nils] [(0, 6, (.t p5)), (6, 6, (.t p6))])
(dV p8 (oBuild [(.int .i64 (.ofNat 0)), (.int .i64 (.ofNat 0)), (.bool false), (.str []), .nils, .nils] [(0, 1, (.c (.int .i64 (.ofNat 4)))), (5, 1, (.t p7))])
(dU (oSt 6 (.t p4) (.t p8))
dE))))))
dRet)), [(.cN p4 6)]⟩
def af10 : AF := ⟨(dSeq (dOps (dV p2 (oBox 26 (.t p0))
(dV p3 (oBox 26 (.t p1))
(dV p4 (oNew [(.int .i64 (.ofNat 0)), (.int .i64 (.ofNat 0)), (.bool false), (.str []), .nils, .nils] 26)
dE))))
(dSeq (dOps (dV p5 (oLdN 6 (.t p2))
(dV p6 (oLdN 6 (.t p3))
(dV p7 (oBuildS 26 2 [(.int .i64 (.ofNat 0)), (.int .i64 (.ofNat 0)), (.bool false), (.str []), .nils, .nils, (.int .i64 (.ofNat 0)), (.int .i64 (.ofNat 0)), (.bool false), (.str []), .nils, .nils] [(0, 6, (.t p5)), (6, 6, (.t p6))])
(dV p8 (oBuild [(.int .i64 (.ofNat 0)), (.int .i64 (.ofNat 0)), (.bool false), (.str []), .nils, .nils] [(0, 1, (.c (.int .i64 (.ofNat 5)))), (5, 1, (.t p7))])
(dU (oSt 6 (.t p4) (.t p8))
dE))))))
dRet)), [(.cN p4 6)]⟩
def af11 : AF := ⟨(dSeq (dOps (dV p2 (oBox 26 (.t p0))
(dV p4 (oNew [(.int .i64 (.ofNat 0)), (.int .i64 (.ofNat 0)), (.bool false), (.str []), .nils, .nils] 26)
dE)))
(dSeq (dOps (dV p5 (oLdN 6 (.t p2))
(dV p6 (oMv (.t p1))
(dC (some p7) p17 [(.t p5), (.c (.int .i64 (.ofNat 0))), (.t p6)]
(dU (oSt 6 (.t p4) (.t p7))
dE)))))
dRet)), [(.cN p4 6)]⟩
def af12 : AF := ⟨(dSeq (dOps (dV p5 (oBox 26 (.t p1))
(dV p6 (oBox 26 (.t p2))
(dV p8 (oMv (.c (.bool false)))
(dV p9 (oMv (.c (.int .i64 (.ofNat 0))))
dE)))))
(dSeq (dSeq (dOps (dV p15 (oLdN 6 (.t p5))
(dV p16 (oLdN 6 (.t p6))
(dV p17 (oBuildS 26 2 [(.int .i64 (.ofNat 0)), (.int .i64 (.ofNat 0)), (.bool false), (.str []), .nils, .nils, (.int .i64 (.ofNat 0)), (.int .i64 (.ofNat 0)), (.bool false), (.str []), .nils, .nils] [(0, 6, (.t p15)), (6, 6, (.t p16))])
(dV p18 (oLen (.t p17))
(dV p19 (oMv (.c (.int .i64 (.ofNat 0))))
dE))))))
(dBlock 0 (dLoop (dSeq (dOps (dV p20 (oAr .lss (.t p19) (.t p18))
dE))
(dSeq (dCond (.t p20) dSkip (dExit 0))
(dSeq (dBlock 1 (dSeq (dOps (dV p21 (oIa 6 (.t p17) (.t p19))
(dV p22 (oLdN 6 (.t p21))
(dV p11 (oNew [(.int .i64 (.ofNat 0)), (.int .i64 (.ofNat 0)), (.bool false), (.str []), .nils, .nils] 26)
(dU (oSt 6 (.t p11) (.t p22))
dE)))))
(dSeq (dOps (dV p23 (oLdN 6 (.t p11))
(dC (some p24) p18 [(.t p23)]
(dV p12 (oMv (.t p24))
dE))))
(dSeq (dOps (dV p25 (oMv (.t p12))
(dV p26 (oAr .neq (.t p25) (.c (.int .i64 (.ofNat 0))))
dE)))
(dCond (.t p26) (dSeq (dOps (dV p27 (oMv (.t p12))
(dV p8 (oMv (.c (.bool false)))
(dV p9 (oMv (.t p27))
dE))))
dRet) dSkip)))))
(dOps (dV p28 (oAr .add (.t p19) (.c (.int .i64 (.ofNat 1))))
(dV p19 (oMv (.t p28))
dE)))))))))
(dSeq (dOps (dV p29 (oMv (.t p0))
(dV p30 (oMv (.t p3))
(dC (some p31) p20 [(.t p29), (.t p30)]
(dC (some p32) p19 [(.t p31)]
(dV p13 (oNew [.nilp] 52)
(dU (oSt 1 (.t p13) (.t p32))
dE)))))))
(dSeq (dOps (dV p33 (oBuild [.nilp, (.int .i64 (.ofNat 0))] [])
(dV p14 (oNew [.nilp, (.int .i64 (.ofNat 0))] 62)
(dU (oSt 2 (.t p14) (.t p33))
dE))))
(dSeq (dOps (dV p34 (oMkf 22 [] [(.t p13), (.t p14), (.t p5), (.t p6)])
(dC (some p35) p21 [(.t p34)]
(dV p36 (oExt (.t p35) 0)
(dV p37 (oExt (.t p35) 1)
(dV p8 (oMv (.t p36))
(dV p9 (oMv (.t p37))
dE)))))))
dRet))))), [(.t p8), (.t p9)]⟩
def af13 : AF := ⟨(dSeq (dOps (dV p2 (oMv (.c (.int .i64 (.ofNat 0))))
dE))
(dSeq (dOps (dV p3 (oMv (.t p0))
(dV p2 (oMv (.t p3))
dE)))
dRet)), [(.t p2)]⟩
def af17 : AF := ⟨(dSeq (dOps (dV p3 (oBox 26 (.t p0))
(dV p6 (oNew [(.int .i64 (.ofNat 0)), (.int .i64 (.ofNat 0)), (.bool false), (.str []), .nils, .nils] 26)
dE)))
(dSeq (dSeq (dOps (dV p10 (oFa 0 (.t p3))
(dV p11 (oLd1 (.t p10))
(dV p12 (oAr .eql (.t p11) (.c (.int .i64 (.ofNat 1))))
(dV p13 (oMv (.t p12))
(dG p13 true (some p14) (dV p14 (oFa 1 (.t p3)))
(dG p13 true (some p15) (dV p15 (oLd1 (.t p14)))
(dG p13 true (some p16) (dV p16 (oMv (.t p1)))
(dG p13 true (some p17) (dV p17 (oAr .geq (.t p15) (.t p16)))
(dV p18 (oPick (.t p13) (.t p17) (.c (.bool false)))
dE))))))))))
(dCond (.t p18) (dSeq (dOps (dV p19 (oFa 1 (.t p3))
(dV p20 (oLd1 (.t p19))
(dV p21 (oMv (.t p2))
(dV p22 (oAr .add (.t p20) (.t p21))
(dV p23 (oFa 1 (.t p3))
(dU (oSt 1 (.t p23) (.t p22))
dE)))))))
(dSeq (dOps (dV p24 (oLdN 6 (.t p3))
(dU (oSt 6 (.t p6) (.t p24))
dE)))
dRet)) dSkip))
(dSeq (dSeq (dOps (dV p25 (oFa 5 (.t p3))
(dV p26 (oLd1 (.t p25))
(dV p27 (oLen (.t p26))
(dV p28 (oAr .eql (.t p27) (.c (.int .i64 (.ofNat 0))))
dE)))))
(dCond (.t p28) (dSeq (dOps (dV p29 (oLdN 6 (.t p3))
(dU (oSt 6 (.t p6) (.t p29))
dE)))
dRet) dSkip))
(dSeq (dOps (dV p7 (oMv (.c .nils))
dE))
(dSeq (dSeq (dOps (dV p8 (oMv (.c (.int .i64 (.ofNat 0))))
dE))
(dBlock 0 (dLoop (dSeq (dSeq (dOps (dV p30 (oMv (.t p8))
(dV p31 (oFa 5 (.t p3))
(dV p32 (oLd1 (.t p31))
(dV p33 (oLen (.t p32))
(dV p34 (oAr .lss (.t p30) (.t p33))
dE))))))
(dCond (.t p34) dSkip (dExit 0)))
(dSeq (dBlock 1 (dSeq (dOps (dV p37 (oMv (.t p1))
(dV p9 (oMv (.t p37))
dE)))
(dSeq (dSeq (dOps (dV p38 (oMv (.t p8))
(dV p39 (oAr .eql (.t p38) (.c (.int .i64 (.ofNat 1))))
(dV p40 (oMv (.t p39))
(dG p40 true (some p41) (dV p41 (oFa 0 (.t p3)))
(dG p40 true (some p42) (dV p42 (oLd1 (.t p41)))
(dG p40 true (some p43) (dC (some p43) p30 [(.t p42)])
(dV p44 (oPick (.t p40) (.t p43) (.c (.bool false)))
dE))))))))
(dCond (.t p44) (dOps (dV p45 (oMv (.t p9))
(dV p46 (oAr .add (.t p45) (.c (.int .i64 (.ofNat 1))))
(dV p9 (oMv (.t p46))
dE)))) dSkip))
(dOps (dV p47 (oMv (.t p7))
(dV p48 (oFa 5 (.t p3))
(dV p49 (oLd1 (.t p48))
(dV p50 (oMv (.t p8))
(dV p51 (oIa 6 (.t p49) (.t p50))
(dV p52 (oLdN 6 (.t p51))
(dV p53 (oMv (.t p9))
(dV p54 (oMv (.t p2))
(dC (some p55) p17 [(.t p52), (.t p53), (.t p54)]
(dV p56 (oBuildS 26 1 [(.int .i64 (.ofNat 0)), (.int .i64 (.ofNat 0)), (.bool false), (.str []), .nils, .nils] [(0, 6, (.t p55))])
(dV p57 (oApp 26 6 (.t p47) (.t p56))
(dV p7 (oMv (.t p57))
dE))))))))))))))))
(dOps (dV p35 (oMv (.t p8))
(dV p36 (oAr .add (.t p35) (.c (.int .i64 (.ofNat 1))))
(dV p8 (oMv (.t p36))
dE)))))))))
(dSeq (dOps (dV p58 (oMv (.t p7))
(dV p59 (oFa 5 (.t p3))
(dU (oSt 1 (.t p59) (.t p58))
dE))))
(dSeq (dOps (dV p60 (oLdN 6 (.t p3))
(dU (oSt 6 (.t p6) (.t p60))
dE)))
dRet))))))), [(.cN p6 6)]⟩
def af18 : AF := ⟨(dSeq (dOps (dV p1 (oBox 26 (.t p0))
(dV p2 (oMv (.c (.int .i64 (.ofNat 0))))
dE)))
(dSeq (dSeq (dOps (dV p8 (oLdN 6 (.t p1))
(dC (some p9) p31 [(.t p8), (.c (.int .i64 (.ofNat 20000))), (.c (.int .i64 (.ofNat 500)))]
(dV p7 (oMv (.t p9))
(dV p10 (oExt (.t p7) 0)
(dV p11 (oExt (.t p7) 1)
(dV p3 (oMv (.t p10))
(dV p4 (oMv (.t p11))
dE))))))))
(dSeq (dOps (dV p12 (oMv (.t p4))
(dV p13 (oAr .neq (.t p12) (.c (.int .i64 (.ofNat 0))))
dE)))
(dCond (.t p13) (dSeq (dOps (dV p14 (oMv (.t p4))
(dV p2 (oMv (.t p14))
dE)))
dRet) dSkip)))
(dSeq (dOps (dV p16 (oLdN 6 (.t p1))
(dV p17 (oBuild [(.int .i64 (.ofNat 0)), (.int .i64 (.ofNat 0))] [])
(dC (some p18) p32 [(.t p16), (.t p17), (.c (.fn (.func 33) [] [])), (.c (.fn (.func 34) [] []))]
(dV p15 (oMv (.t p18))
(dV p19 (oExt (.t p15) 0)
(dV p20 (oExt (.t p15) 1)
(dV p5 (oMv (.t p19))
(dV p6 (oMv (.t p20))
dE)))))))))
(dSeq (dOps (dV p21 (oMv (.t p6))
(dV p2 (oMv (.t p21))
dE)))
dRet)))), [(.t p2)]⟩
def af19 : AF := ⟨(dSeq (dOps (dV p1 (oBox 56 (.t p0))
(dV p2 (oMv (.c .nilp))
dE)))
(dSeq (dDraw (sN p3 ⟨(some p3), (.v (.ldN 1 (.t p1))), none⟩
(sA 1 p4 (.mkM)
(sE [] [(p3, ⟨(some p3), (.v (.ldN 1 (.t p1))), none⟩)] ⟨(some p5), (.call p35 []), none⟩
(sN p6 ⟨(some p6), (.v (.build [.nilp, .nils, .nilm, .nilf, .nilf, .nilf, .nilf, .nilf, .nilf, .nilf, .nilf, .nilf, .nilf, .nilf, .nilf] [(0, 1, (.t p3)), (2, 1, (.t p4)), (3, 12, (.t p5))])), none⟩
(sA 4 p7 (.box 92 (.t p6))
(sN p2 ⟨(some p2), (.v (.mv (.t p7))), none⟩
sEnd)))))))
dRet)), [(.t p2)]⟩
def af20 : AF := ⟨(dSeq (dOps (dV p4 (oNew [.nilp] 56)
dE))
(dSeq (dOps (dV p5 (oMv (.t p0))
(dV p6 (oMv (.t p1))
(dC (some p7) p36 [(.t p5), (.t p6)]
(dV p8 (oBuild [.nilp] [(0, 1, (.t p7))])
(dU (oSt 1 (.t p4) (.t p8))
dE))))))
dRet)), [(.cN p4 1)]⟩
def af22 : AF := ⟨(dSeq (dOps (dV p4 (oMv (.c (.bool false)))
dE))
(dSeq (dDraw (sN p5 ⟨(some p5), (.v (.ld1 (.t p0))), none⟩
(sN p6 ⟨(some p6), (.v (.ldN 2 (.t p1))), none⟩
(sN p7 ⟨(some p7), (.v (.ldN 6 (.t p2))), none⟩
(sN p9 ⟨(some p9), (.v (.ldN 2 (.t p1))), none⟩
(sN p10 ⟨(some p10), (.v (.ldN 6 (.t p3))), none⟩
(sE [] [(p5, ⟨(some p5), (.v (.ld1 (.t p0))), none⟩), (p9, ⟨(some p9), (.v (.ldN 2 (.t p1))), none⟩), (p10, ⟨(some p10), (.v (.ldN 6 (.t p3))), none⟩)] ⟨(some p8), (.call p24 [(.t p6), (.t p7)]), none⟩
(sE [] [(p5, ⟨(some p5), (.v (.ld1 (.t p0))), none⟩)] ⟨(some p11), (.call p24 [(.t p9), (.t p10)]), none⟩
(sE [] [] ⟨(some p12), (.call p23 [(.t p5), (.t p8), (.t p11), (.c (.int .i64 (.ofNat 0)))]), none⟩
(sN p4 ⟨(some p4), (.v (.mv (.t p12))), none⟩
sEnd))))))))))
dRet)), [(.t p4)]⟩
def af23 : AF := ⟨(dSeq (dOps (dV p5 (oBox 67 (.t p1))
(dV p6 (oBox 67 (.t p2))
(dV p8 (oMv (.c (.bool false)))
dE))))
(dSeq (dDraw (sN p11 ⟨(some p11), (.v (.mv (.t p0))), none⟩
(sN p12 ⟨(some p12), (.v (.nchk (.t p11))), none⟩
(sN p13 ⟨(some p13), (.v (.fa 1 (.t p12))), none⟩
(sN p14 ⟨(some p14), (.v (.ldN 1 (.t p5))), none⟩
(sN p15 ⟨(some p15), (.v (.ldN 1 (.t p6))), none⟩
(sN p16 ⟨(some p16), (.v (.mv (.t p3))), none⟩
(sN p17 ⟨(some p17), (.v (.build [.nilp, .nilp, (.int .i64 (.ofNat 0))] [(0, 1, (.t p14)), (1, 1, (.t p15)), (2, 1, (.t p16))])), none⟩
(sA 7 p18 (.buildS 97 1 [.nilp, .nilp, (.int .i64 (.ofNat 0))] [(0, 3, (.t p17))])
(sE [7] [] ⟨(some p19), (.call p39 [(.t p13), (.t p18)]), none⟩
sEnd))))))))))
(dBlock 0 (dLoop (dBlock 1 (dSeq (dOps (dV p21 (oMv (.t p0))
(dV p22 (oNchk (.t p21))
(dV p23 (oFa 1 (.t p22))
(dC (some p24) p40 [(.t p23)]
(dV p20 (oMv (.t p24))
(dV p25 (oExt (.t p20) 0)
(dV p26 (oExt (.t p20) 1)
(dV p9 (oNew [.nilp, .nilp, (.int .i64 (.ofNat 0))] 97)
(dU (oSt 3 (.t p9) (.t p25))
(dV p10 (oMv (.t p26))
dE)))))))))))
(dSeq (dSeq (dOps (dV p27 (oMv (.t p10))
(dV p28 (oUn .not (.t p27))
dE)))
(dCond (.t p28) (dSeq (dOps (dV p8 (oMv (.c (.bool true)))
dE))
dRet) dSkip))
(dSeq (dSeq (dOps (dV p29 (oMv (.t p0))
(dV p30 (oLdN 3 (.t p9))
(dC (some p31) p41 [(.t p29), (.t p30)]
dE))))
(dCond (.t p31) (dExit 1) dSkip))
(dSeq (dOps (dV p32 (oMv (.t p0))
(dV p33 (oLdN 3 (.t p9))
(dC (some p34) p42 [(.t p32), (.t p33)]
(dV p35 (oUn .not (.t p34))
dE)))))
(dCond (.t p35) (dSeq (dOps (dV p8 (oMv (.c (.bool false)))
dE))
dRet) dSkip)))))))))), [(.t p8)]⟩
def af24 : AF := ⟨(dSeq (dOps (dV p2 (oBox 62 (.t p0))
(dV p3 (oBox 26 (.t p1))
(dV p4 (oNew [.nilp] 67)
dE))))
(dSeq (dDraw (sN p5 ⟨(some p5), (.v (.fa 0 (.t p2))), none⟩
(sN p6 ⟨(some p6), (.v (.ldN 2 (.t p5))), none⟩
(sN p7 ⟨(some p7), (.v (.ldN 6 (.t p3))), none⟩
(sE [] [(p6, ⟨(some p6), (.v (.ldN 2 (.t p5))), none⟩)] ⟨(some p8), (.call p43 [(.t p7)]), none⟩
(sN p9 ⟨(some p9), (.v (.build [.nilp, (.int .i64 (.ofNat 0)), .nilp] [(0, 2, (.t p6)), (2, 1, (.t p8))])), none⟩
(sE [] [] ⟨(some p10), (.call p44 [(.t p9)]), none⟩
(sN p11 ⟨(some p11), (.v (.build [.nilp] [(0, 1, (.t p10))])), none⟩
(sE [] [] ⟨none, (.v (.st 1 (.t p4) (.t p11))), none⟩
sEnd)))))))))
dRet)), [(.cN p4 1)]⟩
def af26 : AF := ⟨(dSeq (dOps (dV p0 (oMv (.c .nilp))
dE))
(dSeq (dOps (dV p1 (oBuild [.nils, .nilm] [])
(dV p2 (oBox 113 (.t p1))
(dV p0 (oMv (.t p2))
dE))))
dRet)), [(.t p0)]⟩
def af30 : AF := ⟨(dSeq (dOps (dV p2 (oMv (.c (.bool false)))
dE))
(dSeq (dOps (dV p3 (oMv (.t p0))
(dV p4 (oAr .eql (.t p3) (.c (.int .i64 (.ofNat 3))))
(dV p5 (oMv (.t p4))
(dG p5 false (some p6) (dV p6 (oMv (.t p0)))
(dG p5 false (some p7) (dV p7 (oAr .eql (.t p6) (.c (.int .i64 (.ofNat 4)))))
(dV p8 (oPick (.t p5) (.c (.bool true)) (.t p7))
(dV p9 (oMv (.t p8))
(dG p9 false (some p10) (dV p10 (oMv (.t p0)))
(dG p9 false (some p11) (dV p11 (oAr .eql (.t p10) (.c (.int .i64 (.ofNat 6)))))
(dV p12 (oPick (.t p9) (.c (.bool true)) (.t p11))
(dV p2 (oMv (.t p12))
dE))))))))))))
dRet)), [(.t p2)]⟩
def af31 : AF := ⟨(dSeq (dOps (dV p3 (oBox 26 (.t p0))
(dV p6 (oMv (.c (.int .i64 (.ofNat 0))))
(dV p7 (oMv (.c (.int .i64 (.ofNat 0))))
dE))))
(dSeq (dOps (dV p9 (oMv (.t p1))
(dV p10 (oMv (.t p2))
(dV p11 (oBuild [(.int .i64 (.ofNat 0)), (.int .i64 (.ofNat 0))] [(0, 1, (.t p9)), (1, 1, (.t p10))])
(dV p8 (oNew [(.int .i64 (.ofNat 0)), (.int .i64 (.ofNat 0))] 121)
(dU (oSt 2 (.t p8) (.t p11))
dE))))))
(dSeq (dOps (dV p12 (oLdN 6 (.t p3))
(dV p13 (oBuild [(.int .i64 (.ofNat 0)), (.int .i64 (.ofNat 0))] [])
(dV p14 (oMkf 51 [(.t p8)] [])
(dC (some p15) p32 [(.t p12), (.t p13), (.t p14), (.c (.fn (.func 34) [] []))]
(dV p16 (oExt (.t p15) 0)
(dV p17 (oExt (.t p15) 1)
(dV p6 (oMv (.t p16))
(dV p7 (oMv (.t p17))
dE)))))))))
dRet))), [(.t p6), (.t p7)]⟩
def af32 : AF := ⟨(dSeq (dOps (dV p4 (oBox 26 (.t p0))
(dV p5 (oBox 80 (.t p1))
(dV p8 (oMv (.c (.int .i64 (.ofNat 0))))
(dV p9 (oMv (.c (.int .i64 (.ofNat 0))))
dE)))))
(dSeq (dOps (dV p20 (oMv (.t p2))
(dV p21 (oLdN 6 (.t p4))
(dV p22 (oLdN 2 (.t p5))
(dCv (some p23) (.t p20) [(.t p21), (.t p22)]
(dV p19 (oMv (.t p23))
(dV p24 (oExt (.t p19) 0)
(dV p25 (oExt (.t p19) 1)
(dV p10 (oMv (.t p24))
(dV p11 (oMv (.t p25))
dE))))))))))
(dSeq (dSeq (dOps (dV p26 (oMv (.t p11))
(dV p27 (oAr .neq (.t p26) (.c (.int .i64 (.ofNat 0))))
dE)))
(dCond (.t p27) (dSeq (dOps (dV p28 (oMv (.t p10))
(dV p29 (oMv (.t p11))
(dV p8 (oMv (.t p28))
(dV p9 (oMv (.t p29))
dE)))))
dRet) dSkip))
(dSeq (dSeq (dOps (dV p30 (oLdN 6 (.t p4))
(dC (some p31) p52 [(.t p30)]
(dV p32 (oMv (.c (.int .i64 (.ofNat 0))))
dE))))
(dBlock 0 (dLoop (dSeq (dOps (dV p33 (oAr .lss (.t p32) (.c (.int .i64 (.ofNat 2))))
dE))
(dSeq (dCond (.t p33) dSkip (dExit 0))
(dSeq (dBlock 1 (dSeq (dOps (dV p34 (oMv (.t p32))
(dV p35 (oIx1 2 (.t p31) (.t p32))
(dV p12 (oMv (.t p34))
(dV p13 (oMv (.t p35))
dE)))))
(dSeq (dOps (dV p36 (oFa 0 (.t p5))
(dV p37 (oLd1 (.t p36))
(dV p38 (oMv (.t p12))
(dV p39 (oAr .add (.t p37) (.t p38))
(dV p40 (oFa 1 (.t p5))
(dV p41 (oLd1 (.t p40))
(dV p42 (oAr .add (.t p41) (.c (.int .i64 (.ofNat 1))))
(dV p43 (oBuild [(.int .i64 (.ofNat 0)), (.int .i64 (.ofNat 0))] [(0, 1, (.t p39)), (1, 1, (.t p42))])
(dV p14 (oNew [(.int .i64 (.ofNat 0)), (.int .i64 (.ofNat 0))] 80)
(dU (oSt 2 (.t p14) (.t p43))
dE)))))))))))
(dSeq (dOps (dV p44 (oMv (.t p13))
(dV p45 (oLen (.t p44))
(dV p46 (oMv (.c (.int .i64 (.ofNat 0))))
dE))))
(dBlock 2 (dLoop (dSeq (dOps (dV p47 (oAr .lss (.t p46) (.t p45))
dE))
(dSeq (dCond (.t p47) dSkip (dExit 2))
(dSeq (dBlock 3 (dSeq (dOps (dV p48 (oIa 6 (.t p44) (.t p46))
(dV p49 (oLdN 6 (.t p48))
(dV p16 (oNew [(.int .i64 (.ofNat 0)), (.int .i64 (.ofNat 0)), (.bool false), (.str []), .nils, .nils] 26)
(dU (oSt 6 (.t p16) (.t p49))
dE)))))
(dSeq (dOps (dV p51 (oLdN 6 (.t p16))
(dV p52 (oLdN 2 (.t p14))
(dV p53 (oMv (.t p2))
(dV p54 (oMv (.t p3))
(dC (some p55) p32 [(.t p51), (.t p52), (.t p53), (.t p54)]
(dV p50 (oMv (.t p55))
(dV p56 (oExt (.t p50) 0)
(dV p57 (oExt (.t p50) 1)
(dV p17 (oMv (.t p56))
(dV p18 (oMv (.t p57))
dE)))))))))))
(dSeq (dSeq (dOps (dV p58 (oMv (.t p18))
(dV p59 (oAr .neq (.t p58) (.c (.int .i64 (.ofNat 0))))
dE)))
(dCond (.t p59) (dSeq (dOps (dV p60 (oMv (.t p10))
(dV p61 (oMv (.t p18))
(dV p8 (oMv (.t p60))
(dV p9 (oMv (.t p61))
dE)))))
dRet) dSkip))
(dOps (dV p62 (oMv (.t p3))
(dV p63 (oMv (.t p10))
(dV p64 (oMv (.t p17))
(dCv (some p65) (.t p62) [(.t p63), (.t p64)]
(dV p10 (oMv (.t p65))
dE))))))))))
(dOps (dV p66 (oAr .add (.t p46) (.c (.int .i64 (.ofNat 1))))
(dV p46 (oMv (.t p66))
dE))))))))))))
(dOps (dV p67 (oAr .add (.t p32) (.c (.int .i64 (.ofNat 1))))
(dV p32 (oMv (.t p67))
dE)))))))))
(dSeq (dOps (dV p68 (oMv (.t p10))
(dV p8 (oMv (.t p68))
(dV p9 (oMv (.c (.int .i64 (.ofNat 0))))
dE))))
dRet))))), [(.t p8), (.t p9)]⟩
def af33 : AF := ⟨(dSeq (dOps (dV p2 (oBox 26 (.t p0))
(dV p3 (oBox 80 (.t p1))
(dV p4 (oMv (.c (.int .i64 (.ofNat 0))))
(dV p5 (oMv (.c (.int .i64 (.ofNat 0))))
dE)))))
(dSeq (dSeq (dDraw (sN p6 ⟨(some p6), (.v (.fa 5 (.t p2))), none⟩
(sN p7 ⟨(some p7), (.v (.ld1 (.t p6))), none⟩
(sN p8 ⟨(some p8), (.v (.len (.t p7))), none⟩
(sN p9 ⟨(some p9), (.v (.fa 0 (.t p2))), none⟩
(sN p10 ⟨(some p10), (.v (.ld1 (.t p9))), none⟩
(sE [] [(p7, ⟨(some p7), (.v (.ld1 (.t p6))), none⟩)] ⟨(some p11), (.call p53 [(.t p10)]), none⟩
(sN p12 ⟨(some p12), (.v (.ar .neq (.t p8) (.t p11))), none⟩
(sN p13 ⟨(some p13), (.v (.mv (.t p12))), none⟩
(sN p14 ⟨(some p14), (.v (.ldN 6 (.t p2))), (some (p13, false))⟩
(sE [] [] ⟨(some p15), (.call p54 [(.t p14)]), (some (p13, false))⟩
(sN p16 ⟨(some p16), (.v (.un .not (.t p15))), (some (p13, false))⟩
(sN p17 ⟨(some p17), (.v (.pick (.t p13) (.c (.bool true)) (.t p16))), none⟩
sEnd)))))))))))))
(dCond (.t p17) (dSeq (dOps (dV p4 (oMv (.c (.int .i64 (.ofNat 0))))
(dV p5 (oMv (.c (.int .i64 (.ofNat 10))))
dE)))
dRet) dSkip))
(dSeq (dOps (dV p4 (oMv (.c (.int .i64 (.ofNat 1))))
(dV p5 (oMv (.c (.int .i64 (.ofNat 0))))
dE)))
dRet))), [(.t p4), (.t p5)]⟩
def af34 : AF := ⟨(dSeq (dOps (dV p4 (oMv (.c (.int .i64 (.ofNat 0))))
dE))
(dSeq (dOps (dV p5 (oMv (.t p0))
(dV p6 (oMv (.t p1))
(dV p7 (oAr .add (.t p5) (.t p6))
(dV p4 (oMv (.t p7))
dE)))))
dRet)), [(.t p4)]⟩
def af35 : AF := ⟨(dSeq (dOps (dV p0 (oNew [.nilf, .nilf, .nilf, .nilf, .nilf, .nilf, .nilf, .nilf, .nilf, .nilf, .nilf, .nilf] 86)
dE))
(dSeq (dOps (dV p1 (oBuild [.nilf, .nilf, .nilf, .nilf, .nilf, .nilf, .nilf, .nilf, .nilf, .nilf, .nilf, .nilf] [(1, 1, (.c (.fn (.func 55) [] []))), (11, 1, (.c (.fn (.func 55) [] []))), (2, 1, (.c (.fn (.func 56) [] []))), (10, 1, (.c (.fn (.func 56) [] []))), (3, 1, (.c (.fn (.func 57) [] []))), (6, 1, (.c (.fn (.func 57) [] []))), (5, 1, (.c (.fn (.func 58) [] []))), (8, 1, (.c (.fn (.func 59) [] []))), (9, 1, (.c (.fn (.func 59) [] [])))])
(dU (oSt 12 (.t p0) (.t p1))
dE)))
dRet)), [(.cN p0 12)]⟩
def af36 : AF := ⟨(dSeq (dOps (dV p4 (oMv (.c .nilp))
dE))
(dSeq (dOps (dV p5 (oMv (.t p0))
(dV p6 (oMv (.t p1))
(dV p7 (oMkM)
(dV p8 (oMkM)
(dV p9 (oBuild [.nilp, (.int .i64 (.ofNat 0)), (.int .i64 (.ofNat 0)), (.int .i64 (.ofNat 0)), (.int .i64 (.ofNat 0)), .nilm, .nilm, .nils, .nilp, (.int .i64 (.ofNat 0)), .nilp, .nilp, .nilp, (.int .i64 (.ofNat 0)), (.int .i64 (.ofNat 0)), (.int .i64 (.ofNat 0)), (.int .i64 (.ofNat 0)), (.int .i64 (.ofNat 0)), (.int .i64 (.ofNat 0))] [(0, 1, (.t p5)), (1, 1, (.t p6)), (2, 1, (.c (.int .i64 (.ofNat 20000)))), (5, 1, (.t p7)), (6, 1, (.t p8))])
(dV p10 (oBox 144 (.t p9))
(dV p4 (oMv (.t p10))
dE))))))))
dRet)), [(.t p4)]⟩
def af39 : AF := ⟨(dSeq (dOps (dV p7 (oMv (.t p0))
(dC (some p8) p60 [(.t p7)]
dE)))
(dSeq (dOps (dV p9 (oMv (.t p1))
(dV p10 (oLen (.t p9))
(dV p11 (oMkC (.t p10))
(dV p4 (oMv (.t p11))
dE)))))
(dSeq (dSeq (dOps (dV p12 (oMv (.t p1))
(dV p13 (oLen (.t p12))
(dV p14 (oMv (.c (.int .i64 (.ofNat 0))))
dE))))
(dBlock 0 (dLoop (dSeq (dOps (dV p15 (oAr .lss (.t p14) (.t p13))
dE))
(dSeq (dCond (.t p15) dSkip (dExit 0))
(dSeq (dBlock 1 (dSeq (dOps (dV p16 (oIa 3 (.t p12) (.t p14))
(dV p17 (oLdN 3 (.t p16))
(dV p6 (oNew [.nilp, .nilp, (.int .i64 (.ofNat 0))] 97)
(dU (oSt 3 (.t p6) (.t p17))
dE)))))
(dOps (dV p18 (oMv (.t p4))
(dV p19 (oLdN 3 (.t p6))
(dSnd none (.t p18) (.t p19)
dE))))))
(dOps (dV p20 (oAr .add (.t p14) (.c (.int .i64 (.ofNat 1))))
(dV p14 (oMv (.t p20))
dE)))))))))
(dOps (dV p21 (oMv (.t p0))
(dV p22 (oMv (.t p0))
(dV p23 (oNchk (.t p22))
(dV p24 (oFa 0 (.t p23))
(dV p25 (oLd1 (.t p24))
(dV p26 (oMv (.t p4))
(dV p27 (oBuildS 148 1 [.nilc] [(0, 1, (.t p26))])
(dV p28 (oApp 148 1 (.t p25) (.t p27))
(dV p29 (oNchk (.t p21))
(dV p30 (oFa 0 (.t p29))
(dU (oSt 1 (.t p30) (.t p28))
dE))))))))))))))), []⟩
def af40 : AF := ⟨(dSeq (dOps (dV p2 (oNew [.nilp, .nilp, (.int .i64 (.ofNat 0))] 97)
(dV p3 (oMv (.c (.bool false)))
dE)))
(dSeq (dSeq (dOps (dV p7 (oMv (.t p0))
(dV p8 (oNchk (.t p7))
(dV p9 (oFa 0 (.t p8))
(dV p10 (oLd1 (.t p9))
(dV p11 (oLen (.t p10))
(dV p12 (oAr .sub (.t p11) (.c (.int .i64 (.ofNat 1))))
(dV p4 (oMv (.t p12))
dE))))))))
(dBlock 0 (dLoop (dSeq (dSeq (dOps (dV p13 (oMv (.t p4))
(dV p14 (oAr .geq (.t p13) (.c (.int .i64 (.ofNat 0))))
dE)))
(dCond (.t p14) dSkip (dExit 0)))
(dSeq (dBlock 1 (dSeq (dOps (dV p17 (oMv (.t p0))
(dV p18 (oNchk (.t p17))
(dV p19 (oFa 0 (.t p18))
(dV p20 (oLd1 (.t p19))
(dV p21 (oMv (.t p4))
(dV p22 (oIa 1 (.t p20) (.t p21))
(dV p23 (oLd1 (.t p22))
dE))))))))
(dSeq (dOps (dSel (some p24) (.t p23) (.agg [.nilp, .nilp, (.int .i64 (.ofNat 0))])
(dV p25 (oExt (.t p24) 0)
(dV p26 (oAr .eql (.t p25) (.c (.int .i64 (.ofNat 0))))
dE))))
(dBlock 2 (dCond (.t p26) (dSeq (dOps (dV p36 (oExt (.t p24) 2)
(dV p5 (oNew [.nilp, .nilp, (.int .i64 (.ofNat 0))] 97)
(dU (oSt 3 (.t p5) (.t p36))
dE))))
(dSeq (dOps (dV p37 (oLdN 3 (.t p5))
(dU (oSt 3 (.t p2) (.t p37))
(dV p3 (oMv (.c (.bool true)))
dE))))
dRet)) (dOps (dV p27 (oMv (.t p0))
(dV p28 (oMv (.t p0))
(dV p29 (oNchk (.t p28))
(dV p30 (oFa 0 (.t p29))
(dV p31 (oLd1 (.t p30))
(dV p32 (oMv (.t p4))
(dV p33 (oSl 1 (.t p31) none (some (.t p32)) none)
(dV p34 (oNchk (.t p27))
(dV p35 (oFa 0 (.t p34))
(dU (oSt 1 (.t p35) (.t p33))
dE))))))))))))))))
(dOps (dV p15 (oMv (.t p4))
(dV p16 (oAr .sub (.t p15) (.c (.int .i64 (.ofNat 1))))
(dV p4 (oMv (.t p16))
dE)))))))))
(dSeq (dOps (dV p6 (oNew [.nilp, .nilp, (.int .i64 (.ofNat 0))] 97)
dE))
(dSeq (dOps (dV p38 (oLdN 3 (.t p6))
(dU (oSt 3 (.t p2) (.t p38))
(dV p3 (oMv (.c (.bool false)))
dE))))
dRet)))), [(.cN p2 3), (.t p3)]⟩
def af41 : AF := ⟨(dSeq (dOps (dV p3 (oBox 97 (.t p1))
(dV p4 (oMv (.c (.bool false)))
dE)))
(dSeq (dSeq (dOps (dV p5 (oFa 0 (.t p3))
(dV p6 (oLdN 1 (.t p5))
(dC (some p7) p61 [(.t p6)]
(dV p8 (oUn .not (.t p7))
(dV p9 (oMv (.t p8))
(dG p9 false (some p10) (dV p10 (oFa 1 (.t p3)))
(dG p9 false (some p11) (dV p11 (oLdN 1 (.t p10)))
(dG p9 false (some p12) (dC (some p12) p61 [(.t p11)])
(dG p9 false (some p13) (dV p13 (oUn .not (.t p12)))
(dV p14 (oPick (.t p9) (.c (.bool true)) (.t p13))
dE)))))))))))
(dCond (.t p14) (dSeq (dOps (dV p4 (oMv (.c (.bool false)))
dE))
dRet) dSkip))
(dSeq (dDraw (sN p15 ⟨(some p15), (.v (.mv (.t p0))), none⟩
(sN p16 ⟨(some p16), (.v (.nchk (.t p15))), none⟩
(sN p17 ⟨(some p17), (.v (.fa 2 (.t p16))), none⟩
(sN p18 ⟨(some p18), (.v (.ld1 (.t p17))), none⟩
(sN p19 ⟨(some p19), (.v (.mv (.t p0))), none⟩
(sN p20 ⟨(some p20), (.v (.ldN 3 (.t p3))), none⟩
(sE [] [(p18, ⟨(some p18), (.v (.ld1 (.t p17))), none⟩)] ⟨(some p21), (.call p62 [(.t p19), (.t p20)]), none⟩
(sN p22 ⟨(some p22), (.v (.lkA 3 (.int .i64 (.ofNat 0)) false (.t p18) (.t p21))), none⟩
(sN p23 ⟨(some p23), (.v (.ar .gtr (.t p22) (.c (.int .i64 (.ofNat 0))))), none⟩
(sN p4 ⟨(some p4), (.v (.mv (.t p23))), none⟩
sEnd)))))))))))
dRet))), [(.t p4)]⟩
def af42 : AF := ⟨(dSeq (dOps (dV p3 (oBox 97 (.t p1))
(dV p4 (oMv (.c (.bool false)))
dE)))
(dSeq (dDraw (sN p8 ⟨(some p8), (.v (.mv (.t p0))), none⟩
(sN p9 ⟨(some p9), (.v (.nchk (.t p8))), none⟩
(sN p10 ⟨(some p10), (.v (.fa 0 (.t p9))), none⟩
(sN p11 ⟨(some p11), (.v (.ldN 1 (.t p10))), none⟩
(sN p12 ⟨(some p12), (.v (.fa 0 (.t p3))), none⟩
(sN p13 ⟨(some p13), (.v (.ldN 1 (.t p12))), none⟩
(sN p14 ⟨(some p14), (.v (.fa 2 (.t p3))), none⟩
(sN p15 ⟨(some p15), (.v (.ld1 (.t p14))), none⟩
(sN p17 ⟨(some p17), (.v (.mv (.t p0))), none⟩
(sN p18 ⟨(some p18), (.v (.nchk (.t p17))), none⟩
(sN p19 ⟨(some p19), (.v (.fa 0 (.t p18))), none⟩
(sN p20 ⟨(some p20), (.v (.ldN 1 (.t p19))), none⟩
(sN p21 ⟨(some p21), (.v (.fa 1 (.t p3))), none⟩
(sN p22 ⟨(some p22), (.v (.ldN 1 (.t p21))), none⟩
(sN p23 ⟨(some p23), (.v (.fa 2 (.t p3))), none⟩
(sN p24 ⟨(some p24), (.v (.ld1 (.t p23))), none⟩
(sN p26 ⟨(some p26), (.v (.fa 2 (.t p3))), none⟩
(sN p27 ⟨(some p27), (.v (.ld1 (.t p26))), none⟩
(sA 21 p5 (.new [.nilp, .nilp, (.int .i64 (.ofNat 0))] 130)
(sE [] [(p20, ⟨(some p20), (.v (.ldN 1 (.t p19))), none⟩), (p22, ⟨(some p22), (.v (.ldN 1 (.t p21))), none⟩), (p24, ⟨(some p24), (.v (.ld1 (.t p23))), none⟩), (p27, ⟨(some p27), (.v (.ld1 (.t p26))), none⟩)] ⟨(some p16), (.call p63 [(.t p11), (.t p13), (.t p15)]), none⟩
(sE [] [(p27, ⟨(some p27), (.v (.ld1 (.t p26))), none⟩)] ⟨(some p25), (.call p63 [(.t p20), (.t p22), (.t p24)]), none⟩
(sN p28 ⟨(some p28), (.v (.build [.nilp, .nilp, (.int .i64 (.ofNat 0))] [(0, 1, (.t p16)), (1, 1, (.t p25)), (2, 1, (.t p27))])), none⟩
(sE [21] [] ⟨none, (.v (.st 3 (.t p5) (.t p28))), none⟩
sEnd))))))))))))))))))))))))
(dSeq (dDraw (sN p30 ⟨(some p30), (.v (.mv (.t p0))), none⟩
(sN p31 ⟨(some p31), (.v (.fa 0 (.t p5))), none⟩
(sN p32 ⟨(some p32), (.v (.ldN 1 (.t p31))), none⟩
(sN p34 ⟨(some p34), (.v (.fa 1 (.t p5))), none⟩
(sN p35 ⟨(some p35), (.v (.ldN 1 (.t p34))), none⟩
(sN p38 ⟨(some p38), (.v (.ldN 3 (.t p5))), none⟩
(sE [] [(p35, ⟨(some p35), (.v (.ldN 1 (.t p34))), none⟩), (p38, ⟨(some p38), (.v (.ldN 3 (.t p5))), none⟩)] ⟨(some p33), (.call p65 [(.t p32)]), none⟩
(sE [] [(p38, ⟨(some p38), (.v (.ldN 3 (.t p5))), none⟩)] ⟨(some p36), (.call p65 [(.t p35)]), none⟩
(sE [] [(p38, ⟨(some p38), (.v (.ldN 3 (.t p5))), none⟩)] ⟨(some p37), (.call p64 [(.t p30), (.t p33), (.t p36)]), none⟩
(sE [] [] ⟨(some p39), (.callv (.t p37) [(.t p38)]), none⟩
(sN p29 ⟨(some p29), (.v (.mv (.t p39))), none⟩
(sN p40 ⟨(some p40), (.v (.ext (.t p29) 0)), none⟩
(sN p41 ⟨(some p41), (.v (.ext (.t p29) 1)), none⟩
(sN p6 ⟨(some p6), (.v (.mv (.t p40))), none⟩
(sN p7 ⟨(some p7), (.v (.mv (.t p41))), none⟩
sEnd))))))))))))))))
(dSeq (dSeq (dOps (dV p42 (oMv (.t p6))
(dV p43 (oLen (.t p42))
(dV p44 (oAr .gtr (.t p43) (.c (.int .i64 (.ofNat 0))))
dE))))
(dCond (.t p44) (dSeq (dDraw (sN p45 ⟨(some p45), (.v (.mv (.t p0))), none⟩
(sN p46 ⟨(some p46), (.v (.nchk (.t p45))), none⟩
(sN p47 ⟨(some p47), (.v (.fa 2 (.t p46))), none⟩
(sN p48 ⟨(some p48), (.v (.ld1 (.t p47))), none⟩
(sN p49 ⟨(some p49), (.v (.mv (.t p0))), none⟩
(sN p50 ⟨(some p50), (.v (.ldN 3 (.t p3))), none⟩
(sN p52 ⟨(some p52), (.v (.mv (.t p6))), none⟩
(sN p53 ⟨(some p53), (.v (.len (.t p52))), none⟩
(sE [] [(p48, ⟨(some p48), (.v (.ld1 (.t p47))), none⟩)] ⟨(some p51), (.call p62 [(.t p49), (.t p50)]), none⟩
(sE [] [] ⟨none, (.v (.upA 3 (.t p48) (.t p51) (.t p53))), none⟩
sEnd)))))))))))
(dOps (dV p54 (oMv (.t p0))
(dV p55 (oNchk (.t p54))
(dV p56 (oFa 1 (.t p55))
(dV p57 (oMv (.t p6))
(dC (some p58) p39 [(.t p56), (.t p57)]
dE))))))) dSkip))
(dSeq (dOps (dV p59 (oMv (.t p7))
(dV p4 (oMv (.t p59))
dE)))
dRet))))), [(.t p4)]⟩
def af43 : AF := ⟨(dSeq (dOps (dV p1 (oBox 26 (.t p0))
(dV p2 (oMv (.c .nilp))
dE)))
(dSeq (dOps (dV p7 (oLdN 6 (.t p1))
(dV p8 (oBuild [(.int .i64 (.ofNat 0)), (.int .i64 (.ofNat 0)), (.bool false), (.str []), .nils, .nils, .nils, (.int .i64 (.ofNat 0)), (.int .i64 (.ofNat 0)), (.int .i64 (.ofNat 0)), .nils, .nilp] [(0, 6, (.t p7)), (7, 1, (.c (.int .i64 (.ofNat 1))))])
(dV p9 (oBox 160 (.t p8))
(dV p3 (oMv (.t p9))
dE)))))
(dSeq (dOps (dV p10 (oMv (.t p3))
(dV p11 (oNchk (.t p10))
(dV p12 (oFa 0 (.t p11))
(dV p13 (oFa 5 (.t p12))
(dU (oSt 1 (.t p13) (.c .nils))
dE))))))
(dSeq (dSeq (dOps (dV p14 (oFa 0 (.t p1))
(dV p15 (oLd1 (.t p14))
(dV p16 (oAr .eql (.t p15) (.c (.int .i64 (.ofNat 1))))
dE))))
(dCond (.t p16) (dOps (dV p17 (oMv (.t p3))
(dV p18 (oFa 1 (.t p1))
(dV p19 (oLd1 (.t p18))
(dV p20 (oAr .add (.t p19) (.c (.int .i64 (.ofNat 1))))
(dV p21 (oNchk (.t p17))
(dV p22 (oFa 9 (.t p21))
(dU (oSt 1 (.t p22) (.t p20))
dE)))))))) dSkip))
(dSeq (dSeq (dOps (dV p23 (oFa 5 (.t p1))
(dV p24 (oLd1 (.t p23))
(dV p25 (oLen (.t p24))
(dV p26 (oMv (.c (.int .i64 (.ofNat 0))))
dE)))))
(dBlock 0 (dLoop (dSeq (dOps (dV p27 (oAr .lss (.t p26) (.t p25))
dE))
(dSeq (dCond (.t p27) dSkip (dExit 0))
(dSeq (dBlock 1 (dSeq (dOps (dV p28 (oMv (.t p26))
(dV p29 (oIa 6 (.t p24) (.t p26))
(dV p30 (oLdN 6 (.t p29))
(dV p5 (oNew [(.int .i64 (.ofNat 0)), (.int .i64 (.ofNat 0)), (.bool false), (.str []), .nils, .nils] 26)
(dV p4 (oMv (.t p28))
(dU (oSt 6 (.t p5) (.t p30))
dE)))))))
(dSeq (dOps (dV p31 (oLdN 6 (.t p5))
(dC (some p32) p43 [(.t p31)]
(dV p6 (oMv (.t p32))
dE))))
(dSeq (dOps (dV p33 (oMv (.t p3))
(dV p34 (oMv (.t p3))
(dV p35 (oNchk (.t p34))
(dV p36 (oFa 6 (.t p35))
(dV p37 (oLd1 (.t p36))
(dV p38 (oMv (.t p6))
(dV p39 (oBuildS 101 1 [.nilp] [(0, 1, (.t p38))])
(dV p40 (oApp 101 1 (.t p37) (.t p39))
(dV p41 (oNchk (.t p33))
(dV p42 (oFa 6 (.t p41))
(dU (oSt 1 (.t p42) (.t p40))
dE))))))))))))
(dSeq (dDraw (sN p43 ⟨(some p43), (.v (.mv (.t p3))), none⟩
(sN p44 ⟨(some p44), (.v (.nchk (.t p43))), none⟩
(sN p45 ⟨(some p45), (.v (.fa 7 (.t p44))), none⟩
(sN p46 ⟨(some p46), (.v (.ld1 (.t p45))), none⟩
(sN p47 ⟨(some p47), (.v (.mv (.t p6))), none⟩
(sN p48 ⟨(some p48), (.v (.nchk (.t p47))), none⟩
(sN p49 ⟨(some p49), (.v (.fa 7 (.t p48))), none⟩
(sN p50 ⟨(some p50), (.v (.ld1 (.t p49))), none⟩
(sN p51 ⟨(some p51), (.v (.ar .add (.t p46) (.t p50))), none⟩
(sN p52 ⟨(some p52), (.v (.nchk (.t p43))), none⟩
(sN p53 ⟨(some p53), (.v (.fa 7 (.t p52))), none⟩
(sE [] [] ⟨none, (.v (.st 1 (.t p53) (.t p51))), none⟩
sEnd)))))))))))))
(dSeq (dDraw (sN p54 ⟨(some p54), (.v (.mv (.t p3))), none⟩
(sN p55 ⟨(some p55), (.v (.mv (.t p3))), none⟩
(sN p56 ⟨(some p56), (.v (.nchk (.t p55))), none⟩
(sN p57 ⟨(some p57), (.v (.fa 8 (.t p56))), none⟩
(sN p58 ⟨(some p58), (.v (.ld1 (.t p57))), none⟩
(sN p59 ⟨(some p59), (.v (.mv (.t p6))), none⟩
(sN p60 ⟨(some p60), (.v (.nchk (.t p59))), none⟩
(sN p61 ⟨(some p61), (.v (.fa 8 (.t p60))), none⟩
(sN p62 ⟨(some p62), (.v (.ld1 (.t p61))), none⟩
(sN p63 ⟨(some p63), (.v (.mm true [(.t p58), (.t p62)])), none⟩
(sN p64 ⟨(some p64), (.v (.nchk (.t p54))), none⟩
(sN p65 ⟨(some p65), (.v (.fa 8 (.t p64))), none⟩
(sE [] [] ⟨none, (.v (.st 1 (.t p65) (.t p63))), none⟩
sEnd))))))))))))))
(dDraw (sN p66 ⟨(some p66), (.v (.mv (.t p3))), none⟩
(sN p67 ⟨(some p67), (.v (.mv (.t p3))), none⟩
(sN p68 ⟨(some p68), (.v (.nchk (.t p67))), none⟩
(sN p69 ⟨(some p69), (.v (.fa 9 (.t p68))), none⟩
(sN p70 ⟨(some p70), (.v (.ld1 (.t p69))), none⟩
(sN p71 ⟨(some p71), (.v (.mv (.t p6))), none⟩
(sN p72 ⟨(some p72), (.v (.nchk (.t p71))), none⟩
(sN p73 ⟨(some p73), (.v (.fa 9 (.t p72))), none⟩
(sN p74 ⟨(some p74), (.v (.ld1 (.t p73))), none⟩
(sN p75 ⟨(some p75), (.v (.mv (.t p3))), none⟩
(sN p76 ⟨(some p76), (.v (.nchk (.t p75))), none⟩
(sN p77 ⟨(some p77), (.v (.fa 0 (.t p76))), none⟩
(sN p78 ⟨(some p78), (.v (.fa 0 (.t p77))), none⟩
(sN p79 ⟨(some p79), (.v (.ld1 (.t p78))), none⟩
(sN p80 ⟨(some p80), (.v (.mv (.t p4))), none⟩
(sE [] [(p70, ⟨(some p70), (.v (.ld1 (.t p69))), none⟩), (p74, ⟨(some p74), (.v (.ld1 (.t p73))), none⟩)] ⟨(some p81), (.call p66 [(.t p79), (.t p80)]), none⟩
(sN p82 ⟨(some p82), (.v (.ar .sub (.t p74) (.t p81))), none⟩
(sN p83 ⟨(some p83), (.v (.mm true [(.t p70), (.t p82)])), none⟩
(sN p84 ⟨(some p84), (.v (.nchk (.t p66))), none⟩
(sN p85 ⟨(some p85), (.v (.fa 9 (.t p84))), none⟩
(sE [] [] ⟨none, (.v (.st 1 (.t p85) (.t p83))), none⟩
sEnd))))))))))))))))))))))))))))
(dOps (dV p86 (oAr .add (.t p26) (.c (.int .i64 (.ofNat 1))))
(dV p26 (oMv (.t p86))
dE)))))))))
(dSeq (dOps (dV p87 (oMv (.t p3))
(dV p88 (oNchk (.t p87))
(dV p89 (oFa 8 (.t p88))
(dV p90 (oLd1 (.t p89))
(dV p91 (oAr .add (.t p90) (.c (.int .i64 (.ofNat 1))))
(dV p92 (oNchk (.t p87))
(dV p93 (oFa 8 (.t p92))
(dU (oSt 1 (.t p93) (.t p91))
dE)))))))))
(dSeq (dOps (dV p94 (oMv (.t p3))
(dV p2 (oMv (.t p94))
dE)))
dRet))))))), [(.t p2)]⟩
def af44 : AF := ⟨(dSeq (dOps (dV p1 (oBox 104 (.t p0))
(dV p2 (oMv (.c .nilp))
dE)))
(dSeq (dSeq (dOps (dV p4 (oFa 2 (.t p1))
(dV p5 (oLd1 (.t p4))
(dV p6 (oNchk (.t p5))
(dV p7 (oFa 0 (.t p6))
(dV p8 (oFa 0 (.t p7))
(dV p9 (oLd1 (.t p8))
(dV p10 (oAr .eql (.t p9) (.c (.int .i64 (.ofNat 1))))
dE))))))))
(dCond (.t p10) (dSeq (dDraw (sN p11 ⟨(some p11), (.v (.fa 0 (.t p1))), none⟩
(sN p12 ⟨(some p12), (.v (.ldN 2 (.t p11))), none⟩
(sN p13 ⟨(some p13), (.v (.fa 2 (.t p1))), none⟩
(sN p14 ⟨(some p14), (.v (.ld1 (.t p13))), none⟩
(sN p15 ⟨(some p15), (.v (.nchk (.t p14))), none⟩
(sN p16 ⟨(some p16), (.v (.fa 0 (.t p15))), none⟩
(sN p17 ⟨(some p17), (.v (.fa 1 (.t p16))), none⟩
(sN p18 ⟨(some p18), (.v (.ld1 (.t p17))), none⟩
(sE [] [] ⟨(some p19), (.call p67 [(.t p12), (.t p18)]), none⟩
(sN p3 ⟨(some p3), (.v (.mv (.t p19))), none⟩
sEnd)))))))))))
(dSeq (dOps (dV p20 (oMv (.t p3))
(dV p21 (oEq .p true (.t p20) (.c .nilp))
dE)))
(dCond (.t p21) (dSeq (dOps (dV p22 (oMv (.t p3))
(dV p2 (oMv (.t p22))
dE)))
dRet) dSkip))) dSkip))
(dSeq (dSeq (dOps (dV p23 (oFa 2 (.t p1))
(dV p24 (oLd1 (.t p23))
(dV p25 (oNchk (.t p24))
(dV p26 (oFa 9 (.t p25))
(dV p27 (oLd1 (.t p26))
(dV p28 (oAr .eql (.t p27) (.c (.int .i64 (.ofNat 0))))
dE)))))))
(dCond (.t p28) (dOps (dV p29 (oBuild [.nilp, (.int .i64 (.ofNat 0))] [])
(dV p30 (oFa 0 (.t p1))
(dU (oSt 2 (.t p30) (.t p29))
dE)))) dSkip))
(dSeq (dOps (dV p31 (oLdN 3 (.t p1))
(dC (some p32) p68 [(.t p31)]
(dV p2 (oMv (.t p32))
dE))))
dRet)))), [(.t p2)]⟩
def af46 : AF := ⟨(dSeq (dOps (dV p2 (oMv (.c .nilp))
dE))
(dSeq (dSeq (dOps (dV p3 (oMv (.t p0))
(dV p4 (oEq .p false (.t p3) (.c .nilp))
dE)))
(dCond (.t p4) (dSeq (dOps (dC (some p5) p26 []
(dV p2 (oMv (.t p5))
dE)))
dRet) dSkip))
(dSeq (dOps (dV p6 (oMv (.t p0))
(dV p2 (oMv (.t p6))
dE)))
dRet))), [(.t p2)]⟩
def af51 : AF := ⟨(dSeq (dOps (dV p4 (oBox 26 (.t p1))
(dV p5 (oBox 80 (.t p2))
(dV p6 (oMv (.c (.int .i64 (.ofNat 0))))
(dV p7 (oMv (.c (.int .i64 (.ofNat 0))))
dE)))))
(dSeq (dOps (dV p8 (oMv (.t p0))
(dV p9 (oNchk (.t p8))
(dV p10 (oFa 0 (.t p9))
(dV p11 (oLd1 (.t p10))
(dV p12 (oAr .sub (.t p11) (.c (.int .i64 (.ofNat 1))))
(dV p13 (oNchk (.t p8))
(dV p14 (oFa 0 (.t p13))
(dU (oSt 1 (.t p14) (.t p12))
dE)))))))))
(dSeq (dSeq (dDraw (sN p15 ⟨(some p15), (.v (.mv (.t p0))), none⟩
(sN p16 ⟨(some p16), (.v (.nchk (.t p15))), none⟩
(sN p17 ⟨(some p17), (.v (.fa 0 (.t p16))), none⟩
(sN p18 ⟨(some p18), (.v (.ld1 (.t p17))), none⟩
(sN p19 ⟨(some p19), (.v (.ar .lss (.t p18) (.c (.int .i64 (.ofNat 0))))), none⟩
(sN p20 ⟨(some p20), (.v (.mv (.t p19))), none⟩
(sN p21 ⟨(some p21), (.v (.fa 1 (.t p5))), (some (p20, false))⟩
(sN p22 ⟨(some p22), (.v (.ld1 (.t p21))), (some (p20, false))⟩
(sN p23 ⟨(some p23), (.v (.mv (.t p0))), (some (p20, false))⟩
(sN p24 ⟨(some p24), (.v (.nchk (.t p23))), (some (p20, false))⟩
(sN p25 ⟨(some p25), (.v (.fa 1 (.t p24))), (some (p20, false))⟩
(sN p26 ⟨(some p26), (.v (.ld1 (.t p25))), (some (p20, false))⟩
(sN p27 ⟨(some p27), (.v (.ar .geq (.t p22) (.t p26))), (some (p20, false))⟩
(sN p28 ⟨(some p28), (.v (.pick (.t p20) (.c (.bool true)) (.t p27))), none⟩
sEnd)))))))))))))))
(dCond (.t p28) (dSeq (dOps (dV p6 (oMv (.c (.int .i64 (.ofNat 0))))
(dV p7 (oMv (.c (.int .i64 (.ofNat 2))))
dE)))
dRet) dSkip))
(dSeq (dOps (dV p6 (oMv (.c (.int .i64 (.ofNat 1))))
(dV p7 (oMv (.c (.int .i64 (.ofNat 0))))
dE)))
dRet)))), [(.t p6), (.t p7)]⟩
def af52 : AF := ⟨(dSeq (dOps (dV p1 (oBox 26 (.t p0))
(dV p2 (oNew [.nils, .nils] 122)
dE)))
(dSeq (dDraw (sN p5 ⟨(some p5), (.v (.fa 5 (.t p1))), none⟩
(sN p6 ⟨(some p6), (.v (.ld1 (.t p5))), none⟩
(sN p7 ⟨(some p7), (.v (.len (.t p6))), none⟩
(sN p8 ⟨(some p8), (.v (.fa 5 (.t p1))), none⟩
(sN p9 ⟨(some p9), (.v (.ld1 (.t p8))), none⟩
(sN p10 ⟨(some p10), (.v (.len (.t p9))), none⟩
(sN p3 ⟨(some p3), (.v (.mv (.t p7))), none⟩
(sN p4 ⟨(some p4), (.v (.mv (.t p10))), none⟩
sEnd)))))))))
(dSeq (dSeq (dOps (dV p11 (oFa 0 (.t p1))
(dV p12 (oLd1 (.t p11))
(dV p13 (oAr .eql (.t p12) (.c (.int .i64 (.ofNat 3))))
(dV p14 (oMv (.t p13))
(dG p14 false (some p15) (dV p15 (oFa 0 (.t p1)))
(dG p14 false (some p16) (dV p16 (oLd1 (.t p15)))
(dG p14 false (some p17) (dV p17 (oAr .eql (.t p16) (.c (.int .i64 (.ofNat 4)))))
(dV p18 (oPick (.t p14) (.c (.bool true)) (.t p17))
(dV p19 (oMv (.t p18))
(dG p19 false (some p20) (dV p20 (oFa 0 (.t p1)))
(dG p19 false (some p21) (dV p21 (oLd1 (.t p20)))
(dG p19 false (some p22) (dV p22 (oAr .eql (.t p21) (.c (.int .i64 (.ofNat 6)))))
(dV p23 (oPick (.t p19) (.c (.bool true)) (.t p22))
dE))))))))))))))
(dCond (.t p23) (dOps (dV p24 (oMv (.t p3))
(dV p25 (oMm false [(.t p24), (.c (.int .i64 (.ofNat 1)))])
(dV p3 (oMv (.t p25))
dE)))) dSkip))
(dSeq (dDraw (sN p26 ⟨(some p26), (.v (.fa 5 (.t p1))), none⟩
(sN p27 ⟨(some p27), (.v (.ld1 (.t p26))), none⟩
(sN p28 ⟨(some p28), (.v (.mv (.t p3))), none⟩
(sN p29 ⟨(some p29), (.v (.mv (.t p3))), none⟩
(sN p30 ⟨(some p30), (.v (.sl 6 (.t p27) none (some (.t p28)) (some (.t p29)))), none⟩
(sN p31 ⟨(some p31), (.v (.fa 5 (.t p1))), none⟩
(sN p32 ⟨(some p32), (.v (.ld1 (.t p31))), none⟩
(sN p33 ⟨(some p33), (.v (.mv (.t p3))), none⟩
(sN p34 ⟨(some p34), (.v (.mv (.t p4))), none⟩
(sN p35 ⟨(some p35), (.v (.mv (.t p4))), none⟩
(sN p36 ⟨(some p36), (.v (.sl 6 (.t p32) (some (.t p33)) (some (.t p34)) (some (.t p35)))), none⟩
(sN p37 ⟨(some p37), (.v (.build [.nils, .nils] [(0, 1, (.t p30)), (1, 1, (.t p36))])), none⟩
(sE [] [] ⟨none, (.v (.st 2 (.t p2) (.t p37))), none⟩
sEnd))))))))))))))
dRet)))), [(.cN p2 2)]⟩
def af53 : AF := ⟨(dSeq (dOps (dV p2 (oMv (.c (.int .i64 (.ofNat 0))))
dE))
(dSeq (dOps (dV p3 (oMv (.c (.int .i64 (.ofNat 0))))
dE))
(dSeq (dSeq (dOps (dV p4 (oMv (.t p0))
dE))
(dBlock 0 (dSeq (dBlock 4 (dSeq (dBlock 3 (dSeq (dBlock 2 (dSeq (dBlock 1 (dSeq (dSeq (dSeq (dOps (dV p6 (oAr .eql (.t p4) (.c (.int .i64 (.ofNat 7))))
(dV p5 (oMv (.t p6))
dE)))
(dCond (.t p5) (dExit 1) dSkip))
(dSeq (dSeq (dSeq (dOps (dV p8 (oAr .eql (.t p4) (.c (.int .i64 (.ofNat 3))))
(dV p7 (oMv (.t p8))
dE)))
(dCond (.t p7) dSkip (dSeq (dOps (dV p9 (oAr .eql (.t p4) (.c (.int .i64 (.ofNat 4))))
(dV p7 (oMv (.t p9))
dE)))
(dCond (.t p7) dSkip (dSeq (dOps (dV p10 (oAr .eql (.t p4) (.c (.int .i64 (.ofNat 5))))
(dV p7 (oMv (.t p10))
dE)))
(dCond (.t p7) dSkip (dOps (dV p11 (oAr .eql (.t p4) (.c (.int .i64 (.ofNat 6))))
(dV p7 (oMv (.t p11))
dE)))))))))
(dCond (.t p7) (dExit 2) dSkip))
(dSeq (dSeq (dSeq (dOps (dV p13 (oAr .eql (.t p4) (.c (.int .i64 (.ofNat 8))))
(dV p12 (oMv (.t p13))
dE)))
(dCond (.t p12) dSkip (dOps (dV p14 (oAr .eql (.t p4) (.c (.int .i64 (.ofNat 9))))
(dV p12 (oMv (.t p14))
dE)))))
(dCond (.t p12) (dExit 3) dSkip))
(dSeq (dSeq (dOps (dV p16 (oAr .eql (.t p4) (.c (.int .i64 (.ofNat 1))))
(dV p15 (oMv (.t p16))
dE)))
(dCond (.t p15) dSkip (dSeq (dOps (dV p17 (oAr .eql (.t p4) (.c (.int .i64 (.ofNat 2))))
(dV p15 (oMv (.t p17))
dE)))
(dCond (.t p15) dSkip (dSeq (dOps (dV p18 (oAr .eql (.t p4) (.c (.int .i64 (.ofNat 10))))
(dV p15 (oMv (.t p18))
dE)))
(dCond (.t p15) dSkip (dOps (dV p19 (oAr .eql (.t p4) (.c (.int .i64 (.ofNat 11))))
(dV p15 (oMv (.t p19))
dE)))))))))
(dCond (.t p15) (dExit 4) dSkip)))))
(dExit 0)))
(dOps (dV p20 (oMv (.t p3))
(dV p21 (oAr .add (.t p20) (.c (.int .i64 (.ofNat 1))))
(dV p3 (oMv (.t p21))
dE))))))
(dOps (dV p22 (oMv (.t p3))
(dV p23 (oAr .add (.t p22) (.c (.int .i64 (.ofNat 1))))
(dV p3 (oMv (.t p23))
dE))))))
(dOps (dV p24 (oMv (.t p3))
(dV p25 (oAr .add (.t p24) (.c (.int .i64 (.ofNat 1))))
(dV p3 (oMv (.t p25))
dE))))))
(dSeq (dSeq (dOps (dV p26 (oMv (.t p3))
(dV p2 (oMv (.t p26))
dE)))
dRet)
(dExit 0)))))
(dSeq (dOps (dV p2 (oMv (.c (.int .i64 (.negSucc 0))))
dE))
dRet)))), [(.t p2)]⟩
def af54 : AF := ⟨(dSeq (dOps (dV p1 (oBox 26 (.t p0))
(dV p2 (oMv (.c (.bool false)))
dE)))
(dSeq (dSeq (dOps (dV p3 (oFa 0 (.t p1))
(dV p4 (oLd1 (.t p3))
dE)))
(dBlock 0 (dSeq (dSeq (dOps (dV p6 (oAr .eql (.t p4) (.c (.int .i64 (.ofNat 1))))
(dV p5 (oMv (.t p6))
dE)))
(dCond (.t p5) dSkip (dOps (dV p7 (oAr .eql (.t p4) (.c (.int .i64 (.ofNat 11))))
(dV p5 (oMv (.t p7))
dE)))))
(dCond (.t p5) (dSeq (dOps (dV p8 (oFa 1 (.t p1))
(dV p9 (oLd1 (.t p8))
(dV p10 (oAr .leq (.c (.int .i64 (.ofNat 0))) (.t p9))
(dV p11 (oMv (.t p10))
(dG p11 true (some p12) (dV p12 (oFa 1 (.t p1)))
(dG p11 true (some p13) (dV p13 (oLd1 (.t p12)))
(dG p11 true (some p14) (dV p14 (oAr .leq (.t p13) (.c (.int .i64 (.ofNat 1073741824)))))
(dV p15 (oPick (.t p11) (.t p14) (.c (.bool false)))
(dV p2 (oMv (.t p15))
dE))))))))))
dRet) (dSeq (dOps (dV p17 (oAr .eql (.t p4) (.c (.int .i64 (.ofNat 7))))
(dV p16 (oMv (.t p17))
dE)))
(dCond (.t p16) (dSeq (dOps (dV p18 (oFa 5 (.t p1))
(dV p19 (oLd1 (.t p18))
(dV p20 (oIa 6 (.t p19) (.c (.int .i64 (.ofNat 0))))
(dV p21 (oFa 0 (.t p20))
(dV p22 (oLd1 (.t p21))
(dV p23 (oAr .eql (.t p22) (.c (.int .i64 (.ofNat 6))))
(dV p2 (oMv (.t p23))
dE))))))))
dRet) (dSeq (dOps (dV p25 (oAr .eql (.t p4) (.c (.int .i64 (.ofNat 2))))
(dV p24 (oMv (.t p25))
dE)))
(dCond (.t p24) (dSeq (dOps (dV p26 (oFa 4 (.t p1))
(dV p27 (oLd1 (.t p26))
(dV p28 (oLen (.t p27))
(dV p29 (oAr .eql (.t p28) (.c (.int .i64 (.ofNat 1))))
(dV p30 (oMv (.t p29))
(dG p30 true (some p31) (dV p31 (oFa 4 (.t p1)))
(dG p30 true (some p32) (dV p32 (oLd1 (.t p31)))
(dG p30 true (some p33) (dV p33 (oIa 2 (.t p32) (.c (.int .i64 (.ofNat 0)))))
(dG p30 true (some p34) (dV p34 (oLdN 2 (.t p33)))
(dG p30 true (some p35) (dC (some p35) p84 [(.t p34)])
(dV p36 (oPick (.t p30) (.t p35) (.c (.bool false)))
(dV p2 (oMv (.t p36))
dE)))))))))))))
dRet) (dSeq (dOps (dV p38 (oAr .eql (.t p4) (.c (.int .i64 (.ofNat 10))))
(dV p37 (oMv (.t p38))
dE)))
(dCond (.t p37) (dSeq (dOps (dV p39 (oFa 3 (.t p1))
(dV p40 (oLd1 (.t p39))
(dV p41 (oAr .neq (.t p40) (.c (.str [])))
(dV p42 (oMv (.t p41))
(dG p42 true (some p43) (dV p43 (oFa 3 (.t p1)))
(dG p42 true (some p44) (dV p44 (oLd1 (.t p43)))
(dG p42 true (some p45) (dV p45 (oLenS (.t p44)))
(dG p42 true (some p46) (dV p46 (oAr .leq (.t p45) (.c (.int .i64 (.ofNat 60)))))
(dV p47 (oPick (.t p42) (.t p46) (.c (.bool false)))
(dV p48 (oMv (.t p47))
(dG p48 true (some p49) (dV p49 (oFa 4 (.t p1)))
(dG p48 true (some p50) (dV p50 (oLd1 (.t p49)))
(dG p48 true (some p51) (dC (some p51) p85 [(.t p50), (.c (.fn (.func 86) [] []))])
(dG p48 true (some p52) (dV p52 (oUn .not (.t p51)))
(dV p53 (oPick (.t p48) (.t p52) (.c (.bool false)))
(dV p2 (oMv (.t p53))
dE)))))))))))))))))
dRet) dSkip))))))))))
(dSeq (dOps (dV p2 (oMv (.c (.bool true)))
dE))
dRet))), [(.t p2)]⟩
def af55 : AF := ⟨(dSeq (dOps (dV p1 (oBox 130 (.t p0))
(dV p2 (oMv (.c .nils))
(dV p3 (oMv (.c (.bool false)))
dE))))
(dSeq (dDraw (sN p4 ⟨(some p4), (.v (.fa 0 (.t p1))), none⟩
(sN p5 ⟨(some p5), (.v (.ldN 1 (.t p4))), none⟩
(sN p8 ⟨(some p8), (.v (.fa 1 (.t p1))), none⟩
(sN p9 ⟨(some p9), (.v (.ldN 1 (.t p8))), none⟩
(sE [] [(p9, ⟨(some p9), (.v (.ldN 1 (.t p8))), none⟩)] ⟨(some p6), (.call p87 [(.t p5)]), none⟩
(sN p7 ⟨(some p7), (.v (.fld1 1 (.t p6))), none⟩
(sE [] [] ⟨(some p10), (.call p87 [(.t p9)]), none⟩
(sN p11 ⟨(some p11), (.v (.fld1 1 (.t p10))), none⟩
(sN p12 ⟨(some p12), (.v (.ar .eql (.t p7) (.t p11))), none⟩
(sN p2 ⟨(some p2), (.v (.mv (.c .nils))), none⟩
(sN p3 ⟨(some p3), (.v (.mv (.t p12))), none⟩
sEnd))))))))))))
dRet)), [(.t p2), (.t p3)]⟩
def af56 : AF := ⟨(dSeq (dOps (dV p1 (oBox 130 (.t p0))
(dV p2 (oMv (.c .nils))
(dV p3 (oMv (.c (.bool false)))
dE))))
(dSeq (dDraw (sN p7 ⟨(some p7), (.v (.fa 0 (.t p1))), none⟩
(sN p8 ⟨(some p8), (.v (.ldN 1 (.t p7))), none⟩
(sN p10 ⟨(some p10), (.v (.fa 1 (.t p1))), none⟩
(sN p11 ⟨(some p11), (.v (.ldN 1 (.t p10))), none⟩
(sA 6 p4 (.new [(.int .i64 (.ofNat 0)), (.int .i64 (.ofNat 0)), (.bool false), (.str []), .nils, .nils] 26)
(sA 7 p5 (.new [(.int .i64 (.ofNat 0)), (.int .i64 (.ofNat 0)), (.bool false), (.str []), .nils, .nils] 26)
(sE [] [(p11, ⟨(some p11), (.v (.ldN 1 (.t p10))), none⟩)] ⟨(some p9), (.call p87 [(.t p8)]), none⟩
(sE [] [] ⟨(some p12), (.call p87 [(.t p11)]), none⟩
(sE [6, 7] [] ⟨none, (.v (.st 6 (.t p4) (.t p9))), none⟩
(sE [6, 7] [] ⟨none, (.v (.st 6 (.t p5) (.t p12))), none⟩
sEnd)))))))))))
(dSeq (dOps (dV p13 (oFa 0 (.t p4))
(dV p14 (oLd1 (.t p13))
(dV p15 (oAr .eql (.t p14) (.c (.int .i64 (.ofNat 2))))
(dV p16 (oMv (.t p15))
(dG p16 false (some p17) (dV p17 (oFa 3 (.t p4)))
(dG p16 false (some p18) (dV p18 (oLd1 (.t p17)))
(dG p16 false (some p19) (dV p19 (oFa 3 (.t p5)))
(dG p16 false (some p20) (dV p20 (oLd1 (.t p19)))
(dG p16 false (some p21) (dV p21 (oAr .eql (.t p18) (.t p20)))
(dV p22 (oPick (.t p16) (.c (.bool true)) (.t p21))
(dV p6 (oMv (.t p22))
dE))))))))))))
(dSeq (dOps (dV p23 (oMv (.t p6))
(dV p24 (oMv (.t p23))
(dG p24 true (some p25) (dV p25 (oFa 4 (.t p4)))
(dG p24 true (some p26) (dV p26 (oLd1 (.t p25)))
(dG p24 true (some p27) (dV p27 (oFa 4 (.t p5)))
(dG p24 true (some p28) (dV p28 (oLd1 (.t p27)))
(dG p24 true (some p29) (dC (some p29) p88 [(.t p26), (.t p28), (.c (.fn (.func 89) [] []))])
(dV p30 (oPick (.t p24) (.t p29) (.c (.bool false)))
(dV p2 (oMv (.c .nils))
(dV p3 (oMv (.t p30))
dE)))))))))))
dRet)))), [(.t p2), (.t p3)]⟩
def af57 : AF := ⟨(dSeq (dOps (dV p1 (oBox 130 (.t p0))
(dV p2 (oMv (.c .nils))
(dV p3 (oMv (.c (.bool false)))
dE))))
(dSeq (dDraw (sN p4 ⟨(some p4), (.v (.ldN 3 (.t p1))), none⟩
(sN p5 ⟨(some p5), (.v (.fa 2 (.t p1))), none⟩
(sN p6 ⟨(some p6), (.v (.ld1 (.t p5))), none⟩
(sN p8 ⟨(some p8), (.v (.ldN 3 (.t p1))), none⟩
(sN p9 ⟨(some p9), (.v (.fa 2 (.t p1))), none⟩
(sN p10 ⟨(some p10), (.v (.ld1 (.t p9))), none⟩
(sN p11 ⟨(some p11), (.v (.ar .add (.t p10) (.c (.int .i64 (.ofNat 1))))), none⟩
(sE [] [(p8, ⟨(some p8), (.v (.ldN 3 (.t p1))), none⟩), (p10, ⟨(some p10), (.v (.ld1 (.t p9))), none⟩)] ⟨(some p7), (.call p90 [(.t p4), (.c (.int .i64 (.ofNat 0))), (.t p6)]), none⟩
(sE [] [] ⟨(some p12), (.call p90 [(.t p8), (.c (.int .i64 (.ofNat 1))), (.t p11)]), none⟩
(sA 9 p13 (.buildS 97 2 [.nilp, .nilp, (.int .i64 (.ofNat 0)), .nilp, .nilp, (.int .i64 (.ofNat 0))] [(0, 3, (.t p7)), (3, 3, (.t p12))])
(sN p2 ⟨(some p2), (.v (.mv (.t p13))), none⟩
(sN p3 ⟨(some p3), (.v (.mv (.c (.bool true)))), none⟩
sEnd)))))))))))))
dRet)), [(.t p2), (.t p3)]⟩
def af58 : AF := ⟨(dSeq (dOps (dV p1 (oBox 130 (.t p0))
(dV p2 (oMv (.c .nils))
(dV p3 (oMv (.c (.bool false)))
dE))))
(dSeq (dDraw (sN p11 ⟨(some p11), (.v (.fa 0 (.t p1))), none⟩
(sN p12 ⟨(some p12), (.v (.ldN 1 (.t p11))), none⟩
(sN p14 ⟨(some p14), (.v (.fa 1 (.t p1))), none⟩
(sN p15 ⟨(some p15), (.v (.ldN 1 (.t p14))), none⟩
(sE [] [(p15, ⟨(some p15), (.v (.ldN 1 (.t p14))), none⟩)] ⟨(some p13), (.call p91 [(.t p12)]), none⟩
(sE [] [] ⟨(some p16), (.call p91 [(.t p15)]), none⟩
(sN p4 ⟨(some p4), (.v (.mv (.t p13))), none⟩
(sN p5 ⟨(some p5), (.v (.mv (.t p16))), none⟩
sEnd)))))))))
(dSeq (dOps (dV p17 (oMv (.t p4))
(dV p18 (oLen (.t p17))
(dV p19 (oMv (.t p5))
(dV p20 (oLen (.t p19))
(dV p21 (oMm false [(.t p18), (.t p20)])
(dV p6 (oMv (.t p21))
dE)))))))
(dSeq (dOps (dV p22 (oMv (.t p4))
(dV p23 (oLen (.t p22))
(dV p24 (oMv (.t p6))
(dV p25 (oAr .sub (.t p23) (.t p24))
(dV p26 (oMv (.t p5))
(dV p27 (oLen (.t p26))
(dV p28 (oMv (.t p6))
(dV p29 (oAr .sub (.t p27) (.t p28))
(dV p7 (oMv (.t p25))
(dV p8 (oMv (.t p29))
dE)))))))))))
(dSeq (dDraw (sN p30 ⟨(some p30), (.v (.fa 0 (.t p1))), none⟩
(sN p31 ⟨(some p31), (.v (.ldN 1 (.t p30))), none⟩
(sN p32 ⟨(some p32), (.v (.mv (.t p7))), none⟩
(sN p34 ⟨(some p34), (.v (.fa 1 (.t p1))), none⟩
(sN p35 ⟨(some p35), (.v (.ldN 1 (.t p34))), none⟩
(sN p36 ⟨(some p36), (.v (.mv (.t p8))), none⟩
(sN p38 ⟨(some p38), (.v (.fa 2 (.t p1))), none⟩
(sN p39 ⟨(some p39), (.v (.ld1 (.t p38))), none⟩
(sE [] [(p35, ⟨(some p35), (.v (.ldN 1 (.t p34))), none⟩), (p39, ⟨(some p39), (.v (.ld1 (.t p38))), none⟩)] ⟨(some p33), (.call p92 [(.t p31), (.t p32)]), none⟩
(sE [] [(p39, ⟨(some p39), (.v (.ld1 (.t p38))), none⟩)] ⟨(some p37), (.call p92 [(.t p35), (.t p36)]), none⟩
(sN p40 ⟨(some p40), (.v (.build [.nilp, .nilp, (.int .i64 (.ofNat 0))] [(0, 1, (.t p33)), (1, 1, (.t p37)), (2, 1, (.t p39))])), none⟩
(sA 11 p41 (.buildS 97 1 [.nilp, .nilp, (.int .i64 (.ofNat 0))] [(0, 3, (.t p40))])
(sN p9 ⟨(some p9), (.v (.mv (.t p41))), none⟩
sEnd))))))))))))))
(dSeq (dSeq (dOps (dV p42 (oMv (.t p6))
(dV p43 (oMv (.c (.int .i64 (.ofNat 0))))
dE)))
(dBlock 0 (dLoop (dSeq (dOps (dV p44 (oAr .lss (.t p43) (.t p42))
dE))
(dSeq (dCond (.t p44) dSkip (dExit 0))
(dSeq (dBlock 1 (dSeq (dOps (dV p45 (oMv (.t p43))
(dV p10 (oMv (.t p45))
dE)))
(dDraw (sN p46 ⟨(some p46), (.v (.mv (.t p9))), none⟩
(sN p47 ⟨(some p47), (.v (.mv (.t p4))), none⟩
(sN p48 ⟨(some p48), (.v (.mv (.t p7))), none⟩
(sN p49 ⟨(some p49), (.v (.mv (.t p10))), none⟩
(sN p50 ⟨(some p50), (.v (.ar .add (.t p48) (.t p49))), none⟩
(sN p51 ⟨(some p51), (.v (.ia 1 (.t p47) (.t p50))), none⟩
(sN p52 ⟨(some p52), (.v (.ldN 1 (.t p51))), none⟩
(sN p53 ⟨(some p53), (.v (.mv (.t p5))), none⟩
(sN p54 ⟨(some p54), (.v (.mv (.t p8))), none⟩
(sN p55 ⟨(some p55), (.v (.mv (.t p10))), none⟩
(sN p56 ⟨(some p56), (.v (.ar .add (.t p54) (.t p55))), none⟩
(sN p57 ⟨(some p57), (.v (.ia 1 (.t p53) (.t p56))), none⟩
(sN p58 ⟨(some p58), (.v (.ldN 1 (.t p57))), none⟩
(sN p59 ⟨(some p59), (.v (.fa 2 (.t p1))), none⟩
(sN p60 ⟨(some p60), (.v (.ld1 (.t p59))), none⟩
(sN p61 ⟨(some p61), (.v (.build [.nilp, .nilp, (.int .i64 (.ofNat 0))] [(0, 1, (.t p52)), (1, 1, (.t p58)), (2, 1, (.t p60))])), none⟩
(sA 16 p62 (.buildS 97 1 [.nilp, .nilp, (.int .i64 (.ofNat 0))] [(0, 3, (.t p61))])
(sE [16] [] ⟨(some p63), (.v (.app 97 3 (.t p46) (.t p62))), none⟩
(sE [16] [] ⟨(some p9), (.v (.mv (.t p63))), none⟩
sEnd))))))))))))))))))))))
(dOps (dV p64 (oAr .add (.t p43) (.c (.int .i64 (.ofNat 1))))
(dV p43 (oMv (.t p64))
dE)))))))))
(dSeq (dOps (dV p65 (oMv (.t p9))
(dV p2 (oMv (.t p65))
(dV p3 (oMv (.c (.bool true)))
dE))))
dRet))))))), [(.t p2), (.t p3)]⟩
def af59 : AF := ⟨(dSeq (dOps (dV p1 (oBox 130 (.t p0))
(dV p2 (oMv (.c .nils))
(dV p3 (oMv (.c (.bool false)))
dE))))
(dSeq (dOps (dV p4 (oLdN 3 (.t p1))
(dV p5 (oFa 2 (.t p1))
(dV p6 (oLd1 (.t p5))
(dC (some p7) p90 [(.t p4), (.c (.int .i64 (.ofNat 0))), (.t p6)]
(dV p8 (oBuildS 97 1 [.nilp, .nilp, (.int .i64 (.ofNat 0))] [(0, 3, (.t p7))])
(dV p2 (oMv (.t p8))
(dV p3 (oMv (.c (.bool true)))
dE))))))))
dRet)), [(.t p2), (.t p3)]⟩
def af60 : AF := ⟨(dSeq (dOps (dV p3 (oMv (.t p0))
(dV p4 (oNchk (.t p3))
(dV p5 (oFa 0 (.t p4))
(dV p6 (oLd1 (.t p5))
(dV p7 (oLen (.t p6))
(dV p8 (oAr .sub (.t p7) (.c (.int .i64 (.ofNat 1))))
(dV p2 (oMv (.t p8))
dE))))))))
(dSeq (dOps (dV p9 (oMv (.t p2))
(dV p10 (oAr .geq (.t p9) (.c (.int .i64 (.ofNat 0))))
(dV p11 (oMv (.t p10))
(dG p11 true (some p12) (dV p12 (oMv (.t p0)))
(dG p11 true (some p13) (dV p13 (oNchk (.t p12)))
(dG p11 true (some p14) (dV p14 (oFa 0 (.t p13)))
(dG p11 true (some p15) (dV p15 (oLd1 (.t p14)))
(dG p11 true (some p16) (dV p16 (oMv (.t p2)))
(dG p11 true (some p17) (dV p17 (oIa 1 (.t p15) (.t p16)))
(dG p11 true (some p18) (dV p18 (oLd1 (.t p17)))
(dG p11 true (some p19) (dV p19 (oLenC (.t p18)))
(dG p11 true (some p20) (dV p20 (oAr .eql (.t p19) (.c (.int .i64 (.ofNat 0)))))
(dV p21 (oPick (.t p11) (.t p20) (.c (.bool false)))
dE))))))))))))))
(dCond (.t p21) (dOps (dV p22 (oMv (.t p0))
(dV p23 (oMv (.t p0))
(dV p24 (oNchk (.t p23))
(dV p25 (oFa 0 (.t p24))
(dV p26 (oLd1 (.t p25))
(dV p27 (oMv (.t p2))
(dV p28 (oSl 1 (.t p26) none (some (.t p27)) none)
(dV p29 (oNchk (.t p22))
(dV p30 (oFa 0 (.t p29))
(dU (oSt 1 (.t p30) (.t p28))
dE))))))))))) dSkip))), []⟩
def af61 : AF := ⟨(dSeq (dOps (dV p1 (oBox 67 (.t p0))
(dV p2 (oMv (.c (.bool false)))
dE)))
(dSeq (dOps (dV p3 (oFa 0 (.t p1))
(dV p4 (oLd1 (.t p3))
(dV p5 (oNchk (.t p4))
(dV p6 (oFa 13 (.t p5))
(dV p7 (oLd1 (.t p6))
(dV p8 (oAr .gtr (.t p7) (.c (.int .i64 (.ofNat 0))))
(dV p2 (oMv (.t p8))
dE))))))))
dRet)), [(.t p2)]⟩
def af62 : AF := ⟨(dSeq (dOps (dV p3 (oBox 97 (.t p1))
(dV p4 (oNew [(.int .i64 (.ofNat 0)), (.int .i64 (.ofNat 0)), (.int .i64 (.ofNat 0))] 150)
dE)))
(dSeq (dDraw (sN p5 ⟨(some p5), (.v (.mv (.t p0))), none⟩
(sN p6 ⟨(some p6), (.v (.nchk (.t p5))), none⟩
(sN p7 ⟨(some p7), (.v (.fa 0 (.t p6))), none⟩
(sN p8 ⟨(some p8), (.v (.ldN 1 (.t p7))), none⟩
(sN p9 ⟨(some p9), (.v (.fa 0 (.t p3))), none⟩
(sN p10 ⟨(some p10), (.v (.ldN 1 (.t p9))), none⟩
(sN p12 ⟨(some p12), (.v (.mv (.t p0))), none⟩
(sN p13 ⟨(some p13), (.v (.nchk (.t p12))), none⟩
(sN p14 ⟨(some p14), (.v (.fa 0 (.t p13))), none⟩
(sN p15 ⟨(some p15), (.v (.ldN 1 (.t p14))), none⟩
(sN p16 ⟨(some p16), (.v (.fa 1 (.t p3))), none⟩
(sN p17 ⟨(some p17), (.v (.ldN 1 (.t p16))), none⟩
(sN p19 ⟨(some p19), (.v (.fa 2 (.t p3))), none⟩
(sN p20 ⟨(some p20), (.v (.ld1 (.t p19))), none⟩
(sE [] [(p15, ⟨(some p15), (.v (.ldN 1 (.t p14))), none⟩), (p17, ⟨(some p17), (.v (.ldN 1 (.t p16))), none⟩), (p20, ⟨(some p20), (.v (.ld1 (.t p19))), none⟩)] ⟨(some p11), (.call p93 [(.t p8), (.t p10)]), none⟩
(sE [] [(p20, ⟨(some p20), (.v (.ld1 (.t p19))), none⟩)] ⟨(some p18), (.call p93 [(.t p15), (.t p17)]), none⟩
(sN p21 ⟨(some p21), (.v (.build [(.int .i64 (.ofNat 0)), (.int .i64 (.ofNat 0)), (.int .i64 (.ofNat 0))] [(0, 1, (.t p11)), (1, 1, (.t p18)), (2, 1, (.t p20))])), none⟩
(sE [] [] ⟨none, (.v (.st 3 (.t p4) (.t p21))), none⟩
sEnd)))))))))))))))))))
dRet)), [(.cN p4 3)]⟩
def af63 : AF := ⟨(dSeq (dOps (dV p3 (oBox 56 (.t p0))
(dV p4 (oBox 67 (.t p1))
(dV p6 (oNew [.nilp] 128)
dE))))
(dSeq (dOps (dV p7 (oFa 0 (.t p3))
(dV p8 (oLd1 (.t p7))
(dV p9 (oMv (.t p2))
(dV p10 (oNchk (.t p8))
(dV p11 (oFa 3 (.t p10))
(dU (oSt 1 (.t p11) (.t p9))
dE)))))))
(dSeq (dOps (dV p12 (oFa 0 (.t p3))
(dV p13 (oLd1 (.t p12))
(dV p14 (oFa 0 (.t p4))
(dV p15 (oLd1 (.t p14))
(dC (some p16) p94 [(.t p13), (.t p15)]
(dV p17 (oBuild [.nilp] [(0, 1, (.t p16))])
(dU (oSt 1 (.t p6) (.t p17))
dE))))))))
dRet))), [(.cN p6 1)]⟩
def af64 : AF := ⟨(dSeq (dOps (dV p6 (oMv (.c .nilf))
dE))
(dSeq (dBlock 0 (dSeq (dOps (dV p8 (oMv (.t p1))
(dV p9 (oAr .eql (.t p8) (.c (.int .i64 (.ofNat 4))))
(dV p10 (oMv (.t p9))
(dG p10 false (some p11) (dV p11 (oMv (.t p2)))
(dG p10 false (some p12) (dV p12 (oAr .eql (.t p11) (.c (.int .i64 (.ofNat 4)))))
(dV p13 (oPick (.t p10) (.c (.bool true)) (.t p12))
(dV p7 (oMv (.t p13))
dE))))))))
(dCond (.t p7) (dSeq (dOps (dV p6 (oMv (.c (.fn (.func 95) [] [])))
dE))
dRet) (dSeq (dOps (dV p15 (oMv (.t p1))
(dV p16 (oAr .eql (.t p15) (.c (.int .i64 (.ofNat 7))))
(dV p17 (oMv (.t p16))
(dG p17 false (some p18) (dV p18 (oMv (.t p2)))
(dG p17 false (some p19) (dV p19 (oAr .eql (.t p18) (.c (.int .i64 (.ofNat 7)))))
(dV p20 (oPick (.t p17) (.c (.bool true)) (.t p19))
(dV p14 (oMv (.t p20))
dE))))))))
(dCond (.t p14) (dSeq (dOps (dV p6 (oMv (.c (.fn (.func 96) [] [])))
dE))
dRet) (dSeq (dOps (dV p22 (oMv (.t p1))
(dV p23 (oMv (.t p2))
(dV p24 (oAr .neq (.t p22) (.t p23))
(dV p21 (oMv (.t p24))
dE)))))
(dCond (.t p21) (dSeq (dOps (dV p6 (oMv (.c (.fn (.func 97) [] [])))
dE))
dRet) dSkip)))))))
(dSeq (dOps (dV p25 (oMv (.t p0))
(dV p26 (oMv (.t p1))
(dV p27 (oNchk (.t p25))
(dV p28 (oFa 3 (.t p27))
(dV p29 (oIaA 12 1 (.t p28) (.t p26))
(dV p30 (oLd1 (.t p29))
(dV p6 (oMv (.t p30))
dE))))))))
dRet))), [(.t p6)]⟩
def af65 : AF := ⟨(dSeq (dOps (dV p1 (oBox 128 (.t p0))
(dV p2 (oMv (.c (.int .i64 (.ofNat 0))))
dE)))
(dSeq (dSeq (dOps (dV p3 (oFa 0 (.t p1))
(dV p4 (oLd1 (.t p3))
(dV p5 (oNchk (.t p4))
(dV p6 (oFa 4 (.t p5))
(dV p7 (oLd1 (.t p6))
(dV p8 (oEq .p true (.t p7) (.c .nilp))
dE)))))))
(dCond (.t p8) (dSeq (dOps (dV p2 (oMv (.c (.int .i64 (.ofNat 5))))
dE))
dRet) dSkip))
(dSeq (dOps (dV p9 (oFa 0 (.t p1))
(dV p10 (oLd1 (.t p9))
(dV p11 (oNchk (.t p10))
(dV p12 (oFa 0 (.t p11))
(dV p13 (oFa 0 (.t p12))
(dV p14 (oFa 2 (.t p13))
(dV p15 (oLd1 (.t p14))
(dV p16 (oNchk (.t p15))
(dV p17 (oFa 0 (.t p16))
(dV p18 (oFa 0 (.t p17))
(dV p19 (oLd1 (.t p18))
(dV p2 (oMv (.t p19))
dE)))))))))))))
dRet))), [(.t p2)]⟩
def af66 : AF := ⟨(dSeq (dOps (dV p4 (oMv (.c (.int .i64 (.ofNat 0))))
dE))
(dSeq (dSeq (dOps (dV p5 (oMv (.t p1))
(dV p6 (oAr .eql (.t p5) (.c (.int .i64 (.ofNat 1))))
(dV p7 (oMv (.t p6))
(dG p7 true (some p8) (dV p8 (oMv (.t p0)))
(dG p7 true (some p9) (dV p9 (oAr .eql (.t p8) (.c (.int .i64 (.ofNat 3)))))
(dG p7 true (some p10) (dV p10 (oMv (.t p9)))
(dG p10 false (some p11) (dV p11 (oMv (.t p0)))
(dG p10 false (some p12) (dV p12 (oAr .eql (.t p11) (.c (.int .i64 (.ofNat 4)))))
(dG p7 true (some p13) (dV p13 (oPick (.t p10) (.c (.bool true)) (.t p12)))
(dG p7 true (some p14) (dV p14 (oMv (.t p13)))
(dG p14 false (some p15) (dV p15 (oMv (.t p0)))
(dG p14 false (some p16) (dV p16 (oAr .eql (.t p15) (.c (.int .i64 (.ofNat 6)))))
(dG p7 true (some p17) (dV p17 (oPick (.t p14) (.c (.bool true)) (.t p16)))
(dV p18 (oPick (.t p7) (.t p17) (.c (.bool false)))
dE)))))))))))))))
(dCond (.t p18) (dSeq (dOps (dV p4 (oMv (.c (.int .i64 (.ofNat 1))))
dE))
dRet) dSkip))
(dSeq (dOps (dV p4 (oMv (.c (.int .i64 (.ofNat 0))))
dE))
dRet))), [(.t p4)]⟩
def af67 : AF := ⟨(dSeq (dOps (dV p2 (oBox 60 (.t p0))
(dV p4 (oMv (.c .nilp))
dE)))
(dSeq (dSeq (dOps (dV p6 (oMv (.t p1))
(dV p7 (oAr .lss (.t p6) (.c (.int .i64 (.ofNat 0))))
(dV p8 (oMv (.t p7))
(dG p8 false (some p9) (dV p9 (oMv (.t p1)))
(dG p8 false (some p10) (dV p10 (oFa 1 (.t p2)))
(dG p8 false (some p11) (dV p11 (oLd1 (.t p10)))
(dG p8 false (some p12) (dV p12 (oAr .geq (.t p9) (.t p11)))
(dV p13 (oPick (.t p8) (.c (.bool true)) (.t p12))
dE)))))))))
(dCond (.t p13) (dSeq (dOps (dV p4 (oMv (.c .nilp))
dE))
dRet) dSkip))
(dSeq (dOps (dV p14 (oFa 0 (.t p2))
(dV p15 (oLd1 (.t p14))
(dV p5 (oMv (.t p15))
dE))))
(dSeq (dSeq (dOps (dV p16 (oMv (.t p1))
(dV p17 (oMv (.c (.int .i64 (.ofNat 0))))
dE)))
(dBlock 0 (dLoop (dSeq (dOps (dV p18 (oAr .lss (.t p17) (.t p16))
dE))
(dSeq (dCond (.t p18) dSkip (dExit 0))
(dSeq (dBlock 1 (dOps (dV p19 (oMv (.t p5))
(dV p20 (oNchk (.t p19))
(dV p21 (oFa 1 (.t p20))
(dV p22 (oLd1 (.t p21))
(dV p5 (oMv (.t p22))
dE)))))))
(dOps (dV p23 (oAr .add (.t p17) (.c (.int .i64 (.ofNat 1))))
(dV p17 (oMv (.t p23))
dE)))))))))
(dSeq (dOps (dV p24 (oMv (.t p5))
(dV p25 (oNchk (.t p24))
(dV p26 (oFa 0 (.t p25))
(dV p27 (oLd1 (.t p26))
(dV p4 (oMv (.t p27))
dE))))))
dRet))))), [(.t p4)]⟩
def af68 : AF := ⟨(dSeq (dOps (dV p1 (oBox 104 (.t p0))
(dV p2 (oMv (.c .nilp))
dE)))
(dSeq (dDraw (sN p3 ⟨(some p3), (.v (.ldN 3 (.t p1))), none⟩
(sN p4 ⟨(some p4), (.v (.ldN 3 (.t p1))), none⟩
(sE [] [(p3, ⟨(some p3), (.v (.ldN 3 (.t p1))), none⟩)] ⟨(some p5), (.call p98 [(.t p4)]), none⟩
(sN p6 ⟨(some p6), (.v (.build [.nilp, (.int .i64 (.ofNat 0)), .nilp, (.int .i64 (.ofNat 0)), (.int .i64 (.ofNat 0)), (.int .i64 (.ofNat 0)), (.int .i64 (.ofNat 0)), .nilp, (.int .i64 (.ofNat 0)), (.int .i64 (.ofNat 0)), (.int .i64 (.ofNat 0)), (.int .i64 (.ofNat 0)), .nilp, (.int .i64 (.ofNat 0))] [(0, 3, (.t p3)), (3, 4, (.t p5))])), none⟩
(sA 4 p7 (.box 194 (.t p6))
(sN p2 ⟨(some p2), (.v (.mv (.t p7))), none⟩
sEnd)))))))
dRet)), [(.t p2)]⟩
def af70 : AF := ⟨(dSeq (dOps (dV p2 (oMv (.c .nils))
(dV p3 (oMv (.c (.int .i64 (.ofNat 0))))
dE)))
(dSeq (dSeq (dOps (dV p8 (oMv (.t p0))
(dV p9 (oLen (.t p8))
(dV p10 (oAr .gtr (.t p9) (.c (.int .i64 (.ofNat 500))))
dE))))
(dCond (.t p10) (dSeq (dOps (dV p2 (oMv (.c .nils))
(dV p3 (oMv (.c (.int .i64 (.ofNat 2))))
dE)))
dRet) dSkip))
(dSeq (dSeq (dOps (dV p11 (oMv (.t p0))
(dV p12 (oLen (.t p11))
(dV p13 (oMv (.c (.int .i64 (.ofNat 0))))
dE))))
(dBlock 0 (dLoop (dSeq (dOps (dV p14 (oAr .lss (.t p13) (.t p12))
dE))
(dSeq (dCond (.t p14) dSkip (dExit 0))
(dSeq (dBlock 1 (dSeq (dOps (dV p15 (oIa 17 (.t p11) (.t p13))
(dV p16 (oLdN 17 (.t p15))
(dV p5 (oNew [(.int .i64 (.ofNat 0)), (.str []), (.int .i64 (.ofNat 0)), (.int .i64 (.ofNat 0)), (.int .i64 (.ofNat 0)), (.bool false), (.str []), .nils, .nils, (.int .i64 (.ofNat 0)), (.int .i64 (.ofNat 0)), (.bool false), (.str []), .nils, .nils, (.int .i64 (.ofNat 0)), .nils] 39)
(dU (oSt 17 (.t p5) (.t p16))
dE)))))
(dSeq (dOps (dV p17 (oLdN 17 (.t p5))
(dC (some p18) p99 [(.t p17)]
(dV p6 (oMv (.t p18))
dE))))
(dSeq (dOps (dV p19 (oMv (.t p6))
(dV p20 (oAr .neq (.t p19) (.c (.int .i64 (.ofNat 0))))
dE)))
(dCond (.t p20) (dSeq (dOps (dV p21 (oMv (.t p6))
(dV p2 (oMv (.c .nils))
(dV p3 (oMv (.t p21))
dE))))
dRet) dSkip)))))
(dOps (dV p22 (oAr .add (.t p13) (.c (.int .i64 (.ofNat 1))))
(dV p13 (oMv (.t p22))
dE)))))))))
(dSeq (dOps (dV p23 (oBuild [.nils, (.bool false)] [])
(dV p7 (oNew [.nils, (.bool false)] 206)
(dU (oSt 2 (.t p7) (.t p23))
dE))))
(dSeq (dOps (dV p24 (oMv (.t p0))
(dC (some p25) p100 [(.t p7), (.t p24)]
dE)))
(dSeq (dOps (dC (some p26) p101 [(.t p7)]
(dV p27 (oExt (.t p26) 0)
(dV p28 (oExt (.t p26) 1)
(dV p2 (oMv (.t p27))
(dV p3 (oMv (.t p28))
dE))))))
dRet)))))), [(.t p2), (.t p3)]⟩
def af71 : AF := ⟨(dSeq (dOps (dV p1 (oBox 39 (.t p0))
(dV p2 (oNew [(.int .i64 (.ofNat 0)), (.str []), (.int .i64 (.ofNat 0)), (.int .i64 (.ofNat 0)), (.int .i64 (.ofNat 0)), (.bool false), (.str []), .nils, .nils, (.int .i64 (.ofNat 0)), (.int .i64 (.ofNat 0)), (.bool false), (.str []), .nils, .nils, (.int .i64 (.ofNat 0)), .nils] 39)
dE)))
(dSeq (dDraw (sN p6 ⟨(some p6), (.v (.fa 0 (.t p1))), none⟩
(sN p7 ⟨(some p7), (.v (.ld1 (.t p6))), none⟩
(sN p8 ⟨(some p8), (.v (.fa 1 (.t p1))), none⟩
(sN p9 ⟨(some p9), (.v (.ld1 (.t p8))), none⟩
(sN p10 ⟨(some p10), (.v (.fa 2 (.t p1))), none⟩
(sN p11 ⟨(some p11), (.v (.ld1 (.t p10))), none⟩
(sN p12 ⟨(some p12), (.v (.fa 3 (.t p1))), none⟩
(sN p13 ⟨(some p13), (.v (.ldN 6 (.t p12))), none⟩
(sA 10 p3 (.new [(.int .i64 (.ofNat 0)), (.str []), (.int .i64 (.ofNat 0)), (.int .i64 (.ofNat 0)), (.int .i64 (.ofNat 0)), (.bool false), (.str []), .nils, .nils, (.int .i64 (.ofNat 0)), (.int .i64 (.ofNat 0)), (.bool false), (.str []), .nils, .nils, (.int .i64 (.ofNat 0)), .nils] 39)
(sE [] [(p7, ⟨(some p7), (.v (.ld1 (.t p6))), none⟩), (p9, ⟨(some p9), (.v (.ld1 (.t p8))), none⟩), (p11, ⟨(some p11), (.v (.ld1 (.t p10))), none⟩)] ⟨(some p14), (.call p102 [(.t p13)]), none⟩
(sN p15 ⟨(some p15), (.v (.build [(.int .i64 (.ofNat 0)), (.str []), (.int .i64 (.ofNat 0)), (.int .i64 (.ofNat 0)), (.int .i64 (.ofNat 0)), (.bool false), (.str []), .nils, .nils, (.int .i64 (.ofNat 0)), (.int .i64 (.ofNat 0)), (.bool false), (.str []), .nils, .nils, (.int .i64 (.ofNat 0)), .nils] [(0, 1, (.t p7)), (1, 1, (.t p9)), (2, 1, (.t p11)), (3, 6, (.t p14))])), none⟩
(sE [10] [] ⟨none, (.v (.st 17 (.t p3) (.t p15))), none⟩
sEnd)))))))))))))
(dSeq (dSeq (dOps (dV p16 (oFa 0 (.t p1))
(dV p17 (oLd1 (.t p16))
dE)))
(dBlock 0 (dSeq (dOps (dV p19 (oAr .eql (.t p17) (.c (.int .i64 (.ofNat 2))))
(dV p18 (oMv (.t p19))
dE)))
(dCond (.t p18) (dOps (dV p20 (oFa 9 (.t p1))
(dV p21 (oLdN 6 (.t p20))
(dC (some p22) p102 [(.t p21)]
(dV p23 (oFa 9 (.t p3))
(dU (oSt 6 (.t p23) (.t p22))
dE)))))) (dSeq (dOps (dV p25 (oAr .eql (.t p17) (.c (.int .i64 (.ofNat 3))))
(dV p24 (oMv (.t p25))
dE)))
(dCond (.t p24) (dSeq (dOps (dV p26 (oFa 15 (.t p1))
(dV p27 (oLd1 (.t p26))
(dV p28 (oFa 15 (.t p3))
(dU (oSt 1 (.t p28) (.t p27))
dE)))))
(dSeq (dOps (dV p29 (oFa 16 (.t p1))
(dV p30 (oLd1 (.t p29))
(dV p31 (oLen (.t p30))
(dV p32 (oMv (.c (.int .i64 (.ofNat 0))))
dE)))))
(dBlock 1 (dLoop (dSeq (dOps (dV p33 (oAr .lss (.t p32) (.t p31))
dE))
(dSeq (dCond (.t p33) dSkip (dExit 1))
(dSeq (dBlock 2 (dSeq (dOps (dV p34 (oIa 7 (.t p30) (.t p32))
(dV p35 (oLdN 7 (.t p34))
(dV p5 (oNew [(.str []), (.int .i64 (.ofNat 0)), (.int .i64 (.ofNat 0)), (.bool false), (.str []), .nils, .nils] 108)
(dU (oSt 7 (.t p5) (.t p35))
dE)))))
(dDraw (sN p36 ⟨(some p36), (.v (.fa 16 (.t p3))), none⟩
(sN p37 ⟨(some p37), (.v (.ld1 (.t p36))), none⟩
(sN p38 ⟨(some p38), (.v (.fa 0 (.t p5))), none⟩
(sN p39 ⟨(some p39), (.v (.ld1 (.t p38))), none⟩
(sN p40 ⟨(some p40), (.v (.fa 1 (.t p5))), none⟩
(sN p41 ⟨(some p41), (.v (.ldN 6 (.t p40))), none⟩
(sE [] [(p37, ⟨(some p37), (.v (.ld1 (.t p36))), none⟩), (p39, ⟨(some p39), (.v (.ld1 (.t p38))), none⟩)] ⟨(some p42), (.call p102 [(.t p41)]), none⟩
(sN p43 ⟨(some p43), (.v (.build [(.str []), (.int .i64 (.ofNat 0)), (.int .i64 (.ofNat 0)), (.bool false), (.str []), .nils, .nils] [(0, 1, (.t p39)), (1, 6, (.t p42))])), none⟩
(sA 8 p44 (.buildS 108 1 [(.str []), (.int .i64 (.ofNat 0)), (.int .i64 (.ofNat 0)), (.bool false), (.str []), .nils, .nils] [(0, 7, (.t p43))])
(sE [8] [] ⟨(some p45), (.v (.app 108 7 (.t p37) (.t p44))), none⟩
(sN p46 ⟨(some p46), (.v (.fa 16 (.t p3))), none⟩
(sE [8] [] ⟨none, (.v (.st 1 (.t p46) (.t p45))), none⟩
sEnd)))))))))))))))
(dOps (dV p47 (oAr .add (.t p32) (.c (.int .i64 (.ofNat 1))))
(dV p32 (oMv (.t p47))
dE)))))))))) dSkip))))))
(dSeq (dOps (dV p48 (oLdN 17 (.t p3))
(dU (oSt 17 (.t p2) (.t p48))
dE)))
dRet)))), [(.cN p2 17)]⟩
def af84 : AF := ⟨(dSeq (dOps (dV p1 (oBox 49 (.t p0))
(dV p2 (oMv (.c (.bool false)))
dE)))
(dSeq (dOps (dV p6 (oLdN 2 (.t p1))
(dC (some p7) p111 [(.t p6)]
(dV p5 (oMv (.t p7))
(dV p8 (oExt (.t p5) 0)
(dV p9 (oExt (.t p5) 1)
(dV p3 (oNew [(.int .i64 (.ofNat 0)), .nils] 49)
(dU (oSt 2 (.t p3) (.t p8))
(dV p4 (oMv (.t p9))
dE)))))))))
(dSeq (dOps (dV p10 (oMv (.t p4))
(dV p11 (oAr .eql (.t p10) (.c (.int .i64 (.ofNat 0))))
(dV p12 (oMv (.t p11))
(dG p12 true (some p13) (dV p13 (oLdN 2 (.t p3)))
(dG p12 true (some p14) (dV p14 (oLdN 2 (.t p1)))
(dG p12 true (some p15) (dC (some p15) p112 [(.t p13), (.t p14)])
(dV p16 (oPick (.t p12) (.t p15) (.c (.bool false)))
(dV p2 (oMv (.t p16))
dE)))))))))
dRet))), [(.t p2)]⟩
def af85 : AF := ⟨(dSeq (dOps (dV p4 (oMv (.c (.bool false)))
dE))
(dSeq (dOps (dV p5 (oMv (.t p0))
(dV p6 (oMv (.t p1))
(dC (some p7) p113 [(.t p5), (.t p6)]
(dV p8 (oAr .geq (.t p7) (.c (.int .i64 (.ofNat 0))))
(dV p4 (oMv (.t p8))
dE))))))
dRet)), [(.t p4)]⟩
def af86 : AF := ⟨(dSeq (dOps (dV p1 (oBox 49 (.t p0))
(dV p2 (oMv (.c (.bool false)))
dE)))
(dSeq (dOps (dV p3 (oLdN 2 (.t p1))
(dC (some p4) p84 [(.t p3)]
(dV p5 (oUn .not (.t p4))
(dV p2 (oMv (.t p5))
dE)))))
dRet)), [(.t p2)]⟩
def af87 : AF := ⟨(dSeq (dOps (dV p1 (oBox 128 (.t p0))
(dV p2 (oNew [(.int .i64 (.ofNat 0)), (.int .i64 (.ofNat 0)), (.bool false), (.str []), .nils, .nils] 26)
dE)))
(dSeq (dOps (dV p4 (oFa 0 (.t p1))
(dV p5 (oLd1 (.t p4))
(dV p6 (oNchk (.t p5))
(dV p7 (oFa 0 (.t p6))
(dV p8 (oFa 0 (.t p7))
(dV p9 (oFa 2 (.t p8))
(dV p10 (oLd1 (.t p9))
(dV p11 (oNchk (.t p10))
(dV p12 (oFa 0 (.t p11))
(dV p13 (oLdN 6 (.t p12))
(dV p3 (oNew [(.int .i64 (.ofNat 0)), (.int .i64 (.ofNat 0)), (.bool false), (.str []), .nils, .nils] 26)
(dU (oSt 6 (.t p3) (.t p13))
dE)))))))))))))
(dSeq (dSeq (dOps (dV p14 (oFa 0 (.t p3))
(dV p15 (oLd1 (.t p14))
(dV p16 (oAr .eql (.t p15) (.c (.int .i64 (.ofNat 1))))
dE))))
(dCond (.t p16) (dDraw (sN p17 ⟨(some p17), (.v (.fa 1 (.t p3))), none⟩
(sN p18 ⟨(some p18), (.v (.ld1 (.t p17))), none⟩
(sN p19 ⟨(some p19), (.v (.fa 0 (.t p1))), none⟩
(sN p20 ⟨(some p20), (.v (.ld1 (.t p19))), none⟩
(sN p21 ⟨(some p21), (.v (.nchk (.t p20))), none⟩
(sN p22 ⟨(some p22), (.v (.fa 0 (.t p21))), none⟩
(sN p23 ⟨(some p23), (.v (.fa 0 (.t p22))), none⟩
(sN p24 ⟨(some p24), (.v (.fa 0 (.t p23))), none⟩
(sN p25 ⟨(some p25), (.v (.fa 1 (.t p24))), none⟩
(sN p26 ⟨(some p26), (.v (.ld1 (.t p25))), none⟩
(sN p27 ⟨(some p27), (.v (.ar .sub (.t p18) (.t p26))), none⟩
(sN p28 ⟨(some p28), (.v (.fa 1 (.t p3))), none⟩
(sE [] [] ⟨none, (.v (.st 1 (.t p28) (.t p27))), none⟩
sEnd)))))))))))))) dSkip))
(dSeq (dOps (dV p29 (oLdN 6 (.t p3))
(dU (oSt 6 (.t p2) (.t p29))
dE)))
dRet)))), [(.cN p2 6)]⟩
def af88 : AF := ⟨(dSeq (dOps (dV p6 (oMv (.c (.bool false)))
dE))
(dSeq (dSeq (dOps (dV p10 (oMv (.t p0))
(dV p11 (oLen (.t p10))
(dV p12 (oMv (.t p1))
(dV p13 (oLen (.t p12))
(dV p14 (oAr .neq (.t p11) (.t p13))
dE))))))
(dCond (.t p14) (dSeq (dOps (dV p6 (oMv (.c (.bool false)))
dE))
dRet) dSkip))
(dSeq (dSeq (dOps (dV p15 (oMv (.t p0))
(dV p16 (oLen (.t p15))
(dV p17 (oMv (.c (.int .i64 (.ofNat 0))))
dE))))
(dBlock 0 (dLoop (dSeq (dOps (dV p18 (oAr .lss (.t p17) (.t p16))
dE))
(dSeq (dCond (.t p18) dSkip (dExit 0))
(dSeq (dBlock 1 (dSeq (dOps (dV p19 (oMv (.t p17))
(dV p20 (oIa 2 (.t p15) (.t p17))
(dV p21 (oLdN 2 (.t p20))
(dV p8 (oNew [(.int .i64 (.ofNat 0)), .nils] 49)
(dV p7 (oMv (.t p19))
(dU (oSt 2 (.t p8) (.t p21))
dE)))))))
(dSeq (dOps (dV p22 (oMv (.t p1))
(dV p23 (oMv (.t p7))
(dV p24 (oIa 2 (.t p22) (.t p23))
(dV p25 (oLdN 2 (.t p24))
(dV p9 (oNew [(.int .i64 (.ofNat 0)), .nils] 49)
(dU (oSt 2 (.t p9) (.t p25))
dE)))))))
(dSeq (dOps (dV p26 (oMv (.t p2))
(dV p27 (oLdN 2 (.t p8))
(dV p28 (oLdN 2 (.t p9))
(dCv (some p29) (.t p26) [(.t p27), (.t p28)]
(dV p30 (oUn .not (.t p29))
dE))))))
(dCond (.t p30) (dSeq (dOps (dV p6 (oMv (.c (.bool false)))
dE))
dRet) dSkip)))))
(dOps (dV p31 (oAr .add (.t p17) (.c (.int .i64 (.ofNat 1))))
(dV p17 (oMv (.t p31))
dE)))))))))
(dSeq (dOps (dV p6 (oMv (.c (.bool true)))
dE))
dRet)))), [(.t p6)]⟩
def af89 : AF := ⟨(dSeq (dOps (dV p2 (oBox 49 (.t p0))
(dV p3 (oBox 49 (.t p1))
(dV p4 (oMv (.c (.bool false)))
dE))))
(dSeq (dOps (dV p5 (oLdN 2 (.t p2))
(dV p6 (oLdN 2 (.t p3))
(dC (some p7) p114 [(.t p5), (.t p6)]
(dV p8 (oMv (.t p7))
(dG p8 true (some p9) (dV p9 (oLdN 2 (.t p3)))
(dG p8 true (some p10) (dV p10 (oLdN 2 (.t p2)))
(dG p8 true (some p11) (dC (some p11) p114 [(.t p9), (.t p10)])
(dV p12 (oPick (.t p8) (.t p11) (.c (.bool false)))
(dV p4 (oMv (.t p12))
dE))))))))))
dRet)), [(.t p4)]⟩
def af90 : AF := ⟨(dSeq (dOps (dV p3 (oBox 130 (.t p0))
(dV p6 (oNew [.nilp, .nilp, (.int .i64 (.ofNat 0))] 97)
dE)))
(dSeq (dDraw (sN p7 ⟨(some p7), (.v (.fa 0 (.t p3))), none⟩
(sN p8 ⟨(some p8), (.v (.ldN 1 (.t p7))), none⟩
(sN p9 ⟨(some p9), (.v (.mv (.t p1))), none⟩
(sN p10 ⟨(some p10), (.v (.fa 2 (.t p3))), none⟩
(sN p11 ⟨(some p11), (.v (.ld1 (.t p10))), none⟩
(sN p13 ⟨(some p13), (.v (.fa 1 (.t p3))), none⟩
(sN p14 ⟨(some p14), (.v (.ldN 1 (.t p13))), none⟩
(sN p15 ⟨(some p15), (.v (.mv (.t p1))), none⟩
(sN p16 ⟨(some p16), (.v (.fa 2 (.t p3))), none⟩
(sN p17 ⟨(some p17), (.v (.ld1 (.t p16))), none⟩
(sN p19 ⟨(some p19), (.v (.mv (.t p2))), none⟩
(sE [] [(p14, ⟨(some p14), (.v (.ldN 1 (.t p13))), none⟩), (p17, ⟨(some p17), (.v (.ld1 (.t p16))), none⟩)] ⟨(some p12), (.call p115 [(.t p8), (.t p9), (.t p11)]), none⟩
(sE [] [] ⟨(some p18), (.call p115 [(.t p14), (.t p15), (.t p17)]), none⟩
(sN p20 ⟨(some p20), (.v (.build [.nilp, .nilp, (.int .i64 (.ofNat 0))] [(0, 1, (.t p12)), (1, 1, (.t p18)), (2, 1, (.t p19))])), none⟩
(sE [] [] ⟨none, (.v (.st 3 (.t p6) (.t p20))), none⟩
sEnd))))))))))))))))
dRet)), [(.cN p6 3)]⟩
def af91 : AF := ⟨(dSeq (dOps (dV p1 (oBox 128 (.t p0))
(dV p2 (oMv (.c .nils))
dE)))
(dSeq (dOps (dV p3 (oNew [.nils] 189)
dE))
(dSeq (dSeq (dOps (dV p5 (oFa 0 (.t p1))
(dV p6 (oLd1 (.t p5))
(dV p7 (oNchk (.t p6))
(dV p8 (oFa 4 (.t p7))
(dV p9 (oLd1 (.t p8))
(dC (some p10) p116 [(.t p9)]
dE)))))))
(dBlock 0 (dRange (.t p10) [p11] (dOps (dV p4 (oMv (.t p11))
dE)) (dBlock 1 (dDraw (sN p12 ⟨(some p12), (.v (.ld1 (.t p3))), none⟩
(sN p13 ⟨(some p13), (.v (.mv (.t p4))), none⟩
(sN p14 ⟨(some p14), (.v (.nchk (.t p13))), none⟩
(sN p15 ⟨(some p15), (.v (.fa 0 (.t p14))), none⟩
(sN p16 ⟨(some p16), (.v (.ld1 (.t p15))), none⟩
(sN p17 ⟨(some p17), (.v (.build [.nilp] [(0, 1, (.t p16))])), none⟩
(sA 6 p18 (.buildS 67 1 [.nilp] [(0, 1, (.t p17))])
(sE [6] [] ⟨(some p19), (.v (.app 67 1 (.t p12) (.t p18))), none⟩
(sE [6] [] ⟨none, (.v (.st 1 (.t p3) (.t p19))), none⟩
sEnd))))))))))))))
(dSeq (dOps (dV p20 (oLd1 (.t p3))
(dV p2 (oMv (.t p20))
dE)))
dRet)))), [(.t p2)]⟩
def af92 : AF := ⟨(dSeq (dOps (dV p2 (oBox 128 (.t p0))
(dV p4 (oNew [.nilp] 67)
dE)))
(dSeq (dOps (dV p5 (oNew [.nilp] 136)
dE))
(dSeq (dSeq (dOps (dV p8 (oFa 0 (.t p2))
(dV p9 (oLd1 (.t p8))
(dV p10 (oNchk (.t p9))
(dV p11 (oFa 4 (.t p10))
(dV p12 (oLd1 (.t p11))
(dC (some p13) p116 [(.t p12)]
(dC (some p14) p118 [(.t p13)]
(dV p15 (oMv (.t p1))
(dV p16 (oSl 1 (.t p14) none (some (.t p15)) none)
(dC (some p17) p117 [(.t p16)]
dE)))))))))))
(dBlock 0 (dRange (.t p17) [p18, p19] (dOps (dV p7 (oMv (.t p19))
dE)) (dBlock 1 (dDraw (sN p20 ⟨(some p20), (.v (.ld1 (.t p5))), none⟩
(sN p21 ⟨(some p21), (.v (.mv (.t p7))), none⟩
(sN p22 ⟨(some p22), (.v (.nchk (.t p21))), none⟩
(sN p23 ⟨(some p23), (.v (.fa 0 (.t p22))), none⟩
(sN p24 ⟨(some p24), (.v (.ld1 (.t p23))), none⟩
(sN p25 ⟨(some p25), (.v (.mv (.t p7))), none⟩
(sN p26 ⟨(some p26), (.v (.nchk (.t p25))), none⟩
(sN p27 ⟨(some p27), (.v (.fa 1 (.t p26))), none⟩
(sN p28 ⟨(some p28), (.v (.ld1 (.t p27))), none⟩
(sE [] [] ⟨(some p29), (.call p119 [(.t p20), (.t p24), (.t p28)]), none⟩
(sE [] [] ⟨none, (.v (.st 1 (.t p5) (.t p29))), none⟩
sEnd))))))))))))))))
(dSeq (dDraw (sN p30 ⟨(some p30), (.v (.fa 0 (.t p2))), none⟩
(sN p31 ⟨(some p31), (.v (.ld1 (.t p30))), none⟩
(sN p32 ⟨(some p32), (.v (.nchk (.t p31))), none⟩
(sN p33 ⟨(some p33), (.v (.fa 0 (.t p32))), none⟩
(sN p34 ⟨(some p34), (.v (.ldN 4 (.t p33))), none⟩
(sN p35 ⟨(some p35), (.v (.ld1 (.t p5))), none⟩
(sN p36 ⟨(some p36), (.v (.build [.nilp, (.int .i64 (.ofNat 0)), .nilp, .nilp, .nilp, .nilp, .nilp, .nilp, (.int .i64 (.ofNat 0))] [(0, 4, (.t p34)), (4, 1, (.t p35))])), none⟩
(sA 7 p37 (.box 201 (.t p36))
(sN p38 ⟨(some p38), (.v (.build [.nilp] [(0, 1, (.t p37))])), none⟩
(sE [7] [] ⟨(some p39), (.call p120 [(.t p38)]), none⟩
(sE [7] [] ⟨none, (.v (.st 1 (.t p4) (.t p39))), none⟩
sEnd))))))))))))
dRet)))), [(.cN p4 1)]⟩
def af93 : AF := ⟨(dSeq (dOps (dV p2 (oBox 56 (.t p0))
(dV p3 (oBox 67 (.t p1))
(dV p4 (oMv (.c (.int .i64 (.ofNat 0))))
dE))))
(dSeq (dSeq (dOps (dV p5 (oFa 0 (.t p3))
(dV p6 (oLd1 (.t p5))
(dV p7 (oNchk (.t p6))
(dV p8 (oFa 13 (.t p7))
(dV p9 (oLd1 (.t p8))
(dV p10 (oAr .eql (.t p9) (.c (.int .i64 (.ofNat 0))))
dE)))))))
(dCond (.t p10) (dSeq (dOps (dV p11 (oFa 0 (.t p2))
(dV p12 (oLd1 (.t p11))
(dV p13 (oNchk (.t p12))
(dV p14 (oFa 4 (.t p13))
(dV p15 (oLd1 (.t p14))
(dV p16 (oAr .add (.t p15) (.c (.int .i64 (.ofNat 1))))
(dV p17 (oNchk (.t p12))
(dV p18 (oFa 4 (.t p17))
(dU (oSt 1 (.t p18) (.t p16))
dE))))))))))
(dDraw (sN p19 ⟨(some p19), (.v (.fa 0 (.t p3))), none⟩
(sN p20 ⟨(some p20), (.v (.ld1 (.t p19))), none⟩
(sN p21 ⟨(some p21), (.v (.fa 0 (.t p2))), none⟩
(sN p22 ⟨(some p22), (.v (.ld1 (.t p21))), none⟩
(sN p23 ⟨(some p23), (.v (.nchk (.t p22))), none⟩
(sN p24 ⟨(some p24), (.v (.fa 4 (.t p23))), none⟩
(sN p25 ⟨(some p25), (.v (.ld1 (.t p24))), none⟩
(sN p26 ⟨(some p26), (.v (.nchk (.t p20))), none⟩
(sN p27 ⟨(some p27), (.v (.fa 13 (.t p26))), none⟩
(sE [] [] ⟨none, (.v (.st 1 (.t p27) (.t p25))), none⟩
sEnd)))))))))))) dSkip))
(dSeq (dOps (dV p28 (oFa 0 (.t p3))
(dV p29 (oLd1 (.t p28))
(dV p30 (oNchk (.t p29))
(dV p31 (oFa 13 (.t p30))
(dV p32 (oLd1 (.t p31))
(dV p4 (oMv (.t p32))
dE)))))))
dRet))), [(.t p4)]⟩
def af94 : AF := ⟨(dSeq (dOps (dV p4 (oMv (.c .nilp))
dE))
(dSeq (dSeq (dOps (dV p5 (oMv (.t p1))
(dV p6 (oNchk (.t p5))
(dV p7 (oFa 7 (.t p6))
(dV p8 (oLd1 (.t p7))
(dV p9 (oEq .p false (.t p8) (.c .nilp))
dE))))))
(dCond (.t p9) (dOps (dV p10 (oMv (.t p0))
(dV p11 (oMv (.t p1))
(dV p12 (oBuild [(.int .i64 (.ofNat 0)), (.int .i64 (.ofNat 0))] [])
(dC (some p13) p121 [(.t p10), (.t p11), (.t p12)]
dE))))) dSkip))
(dSeq (dBlock 0 (dLoop (dSeq (dSeq (dOps (dV p14 (oMv (.t p0))
(dV p15 (oNchk (.t p14))
(dV p16 (oFa 7 (.t p15))
(dV p17 (oLd1 (.t p16))
(dV p18 (oLen (.t p17))
(dV p19 (oAr .gtr (.t p18) (.c (.int .i64 (.ofNat 0))))
dE)))))))
(dCond (.t p19) dSkip (dExit 0)))
(dBlock 1 (dSeq (dBlock 2 (dLoop (dSeq (dSeq (dOps (dV p20 (oMv (.t p0))
(dC (some p21) p122 [(.t p20)]
dE)))
(dCond (.t p21) dSkip (dExit 2)))
(dBlock 3 dSkip))))
(dDraw (sN p22 ⟨(some p22), (.v (.mv (.t p0))), none⟩
(sN p23 ⟨(some p23), (.v (.mv (.t p0))), none⟩
(sN p24 ⟨(some p24), (.v (.nchk (.t p23))), none⟩
(sN p25 ⟨(some p25), (.v (.fa 8 (.t p24))), none⟩
(sN p26 ⟨(some p26), (.v (.fa 0 (.t p25))), none⟩
(sN p27 ⟨(some p27), (.v (.ldN 4 (.t p26))), none⟩
(sN p28 ⟨(some p28), (.v (.mv (.t p0))), none⟩
(sN p29 ⟨(some p29), (.v (.nchk (.t p28))), none⟩
(sN p30 ⟨(some p30), (.v (.fa 8 (.t p29))), none⟩
(sN p31 ⟨(some p31), (.v (.fa 4 (.t p30))), none⟩
(sN p32 ⟨(some p32), (.v (.ld1 (.t p31))), none⟩
(sN p33 ⟨(some p33), (.v (.build [.nilp, (.int .i64 (.ofNat 0)), .nilp, .nilp, .nilp, .nilp, .nilp, .nilp, (.int .i64 (.ofNat 0))] [(0, 4, (.t p27)), (4, 1, (.t p32))])), none⟩
(sE [] [] ⟨(some p34), (.call p123 [(.t p22), (.t p33)]), none⟩
sEnd)))))))))))))))))))
(dSeq (dOps (dV p35 (oMv (.t p0))
(dV p36 (oMv (.t p1))
(dV p37 (oNchk (.t p36))
(dV p38 (oFa 8 (.t p37))
(dV p39 (oLdN 4 (.t p38))
(dC (some p40) p124 [(.t p35), (.t p39)]
dE)))))))
(dSeq (dOps (dV p41 (oMv (.t p1))
(dV p42 (oNchk (.t p41))
(dV p43 (oFa 7 (.t p42))
(dV p44 (oLd1 (.t p43))
(dV p4 (oMv (.t p44))
dE))))))
dRet))))), [(.t p4)]⟩
def af95 : AF := ⟨(dSeq (dOps (dV p1 (oBox 130 (.t p0))
(dV p2 (oMv (.c .nils))
(dV p3 (oMv (.c (.bool false)))
dE))))
(dSeq (dOps (dV p5 (oMkf 125 [] [(.t p1)])
(dV p4 (oMv (.t p5))
dE)))
(dSeq (dDraw (sN p6 ⟨(some p6), (.v (.mv (.t p4))), none⟩
(sN p7 ⟨(some p7), (.v (.fa 0 (.t p1))), none⟩
(sN p8 ⟨(some p8), (.v (.ldN 1 (.t p7))), none⟩
(sN p10 ⟨(some p10), (.v (.mv (.t p4))), none⟩
(sN p11 ⟨(some p11), (.v (.fa 1 (.t p1))), none⟩
(sN p12 ⟨(some p12), (.v (.ldN 1 (.t p11))), none⟩
(sN p14 ⟨(some p14), (.v (.fa 2 (.t p1))), none⟩
(sN p15 ⟨(some p15), (.v (.ld1 (.t p14))), none⟩
(sN p16 ⟨(some p16), (.v (.ar .add (.t p15) (.c (.int .i64 (.ofNat 1))))), none⟩
(sE [] [(p12, ⟨(some p12), (.v (.ldN 1 (.t p11))), none⟩), (p15, ⟨(some p15), (.v (.ld1 (.t p14))), none⟩)] ⟨(some p9), (.callv (.t p6) [(.t p8)]), none⟩
(sE [] [(p15, ⟨(some p15), (.v (.ld1 (.t p14))), none⟩)] ⟨(some p13), (.callv (.t p10) [(.t p12)]), none⟩
(sN p17 ⟨(some p17), (.v (.build [.nilp, .nilp, (.int .i64 (.ofNat 0))] [(0, 1, (.t p9)), (1, 1, (.t p13)), (2, 1, (.t p16))])), none⟩
(sA 12 p18 (.buildS 97 1 [.nilp, .nilp, (.int .i64 (.ofNat 0))] [(0, 3, (.t p17))])
(sN p2 ⟨(some p2), (.v (.mv (.t p18))), none⟩
(sN p3 ⟨(some p3), (.v (.mv (.c (.bool true)))), none⟩
sEnd))))))))))))))))
dRet))), [(.t p2), (.t p3)]⟩
def af96 : AF := ⟨(dSeq (dOps (dV p1 (oBox 130 (.t p0))
(dV p2 (oMv (.c .nils))
(dV p3 (oMv (.c (.bool false)))
dE))))
(dSeq (dOps (dV p7 (oMkf 127 [] [(.t p1)])
(dV p4 (oMv (.t p7))
dE)))
(dSeq (dDraw (sN p8 ⟨(some p8), (.v (.mv (.t p4))), none⟩
(sN p9 ⟨(some p9), (.v (.fa 0 (.t p1))), none⟩
(sN p10 ⟨(some p10), (.v (.ldN 1 (.t p9))), none⟩
(sN p12 ⟨(some p12), (.v (.mv (.t p4))), none⟩
(sN p13 ⟨(some p13), (.v (.fa 1 (.t p1))), none⟩
(sN p14 ⟨(some p14), (.v (.ldN 1 (.t p13))), none⟩
(sN p16 ⟨(some p16), (.v (.fa 2 (.t p1))), none⟩
(sN p17 ⟨(some p17), (.v (.ld1 (.t p16))), none⟩
(sA 11 p5 (.new [.nilp, .nilp, (.int .i64 (.ofNat 0))] 97)
(sE [] [(p14, ⟨(some p14), (.v (.ldN 1 (.t p13))), none⟩), (p17, ⟨(some p17), (.v (.ld1 (.t p16))), none⟩)] ⟨(some p11), (.callv (.t p8) [(.t p10), (.c (.int .i64 (.ofNat 8)))]), none⟩
(sE [] [(p17, ⟨(some p17), (.v (.ld1 (.t p16))), none⟩)] ⟨(some p15), (.callv (.t p12) [(.t p14), (.c (.int .i64 (.ofNat 8)))]), none⟩
(sN p18 ⟨(some p18), (.v (.build [.nilp, .nilp, (.int .i64 (.ofNat 0))] [(0, 1, (.t p11)), (1, 1, (.t p15)), (2, 1, (.t p17))])), none⟩
(sE [11] [] ⟨none, (.v (.st 3 (.t p5) (.t p18))), none⟩
sEnd))))))))))))))
(dSeq (dDraw (sN p19 ⟨(some p19), (.v (.mv (.t p4))), none⟩
(sN p20 ⟨(some p20), (.v (.fa 0 (.t p1))), none⟩
(sN p21 ⟨(some p21), (.v (.ldN 1 (.t p20))), none⟩
(sN p23 ⟨(some p23), (.v (.mv (.t p4))), none⟩
(sN p24 ⟨(some p24), (.v (.fa 1 (.t p1))), none⟩
(sN p25 ⟨(some p25), (.v (.ldN 1 (.t p24))), none⟩
(sN p27 ⟨(some p27), (.v (.fa 2 (.t p1))), none⟩
(sN p28 ⟨(some p28), (.v (.ld1 (.t p27))), none⟩
(sA 11 p6 (.new [.nilp, .nilp, (.int .i64 (.ofNat 0))] 97)
(sE [] [(p25, ⟨(some p25), (.v (.ldN 1 (.t p24))), none⟩), (p28, ⟨(some p28), (.v (.ld1 (.t p27))), none⟩)] ⟨(some p22), (.callv (.t p19) [(.t p21), (.c (.int .i64 (.ofNat 9)))]), none⟩
(sE [] [(p28, ⟨(some p28), (.v (.ld1 (.t p27))), none⟩)] ⟨(some p26), (.callv (.t p23) [(.t p25), (.c (.int .i64 (.ofNat 9)))]), none⟩
(sN p29 ⟨(some p29), (.v (.build [.nilp, .nilp, (.int .i64 (.ofNat 0))] [(0, 1, (.t p22)), (1, 1, (.t p26)), (2, 1, (.t p28))])), none⟩
(sE [11] [] ⟨none, (.v (.st 3 (.t p6) (.t p29))), none⟩
sEnd))))))))))))))
(dSeq (dOps (dV p30 (oLdN 3 (.t p5))
(dV p31 (oLdN 3 (.t p6))
(dV p32 (oBuildS 97 2 [.nilp, .nilp, (.int .i64 (.ofNat 0)), .nilp, .nilp, (.int .i64 (.ofNat 0))] [(0, 3, (.t p30)), (3, 3, (.t p31))])
(dV p2 (oMv (.t p32))
(dV p3 (oMv (.c (.bool true)))
dE))))))
dRet))))), [(.t p2), (.t p3)]⟩
def af97 : AF := ⟨(dSeq (dOps (dV p1 (oBox 130 (.t p0))
(dV p2 (oMv (.c .nils))
(dV p3 (oMv (.c (.bool false)))
dE))))
(dSeq (dOps (dV p2 (oMv (.c .nils))
(dV p3 (oMv (.c (.bool false)))
dE)))
dRet)), [(.t p2), (.t p3)]⟩
def af98 : AF := ⟨(dSeq (dOps (dV p1 (oBox 104 (.t p0))
(dV p2 (oNew [(.int .i64 (.ofNat 0)), (.int .i64 (.ofNat 0)), (.int .i64 (.ofNat 0)), (.int .i64 (.ofNat 0))] 140)
dE)))
(dSeq (dDraw (sN p9 ⟨(some p9), (.v (.fa 2 (.t p1))), none⟩
(sN p10 ⟨(some p10), (.v (.ld1 (.t p9))), none⟩
(sN p11 ⟨(some p11), (.v (.nchk (.t p10))), none⟩
(sN p12 ⟨(some p12), (.v (.fa 7 (.t p11))), none⟩
(sN p13 ⟨(some p13), (.v (.ld1 (.t p12))), none⟩
(sN p14 ⟨(some p14), (.v (.fa 2 (.t p1))), none⟩
(sN p15 ⟨(some p15), (.v (.ld1 (.t p14))), none⟩
(sN p16 ⟨(some p16), (.v (.nchk (.t p15))), none⟩
(sN p17 ⟨(some p17), (.v (.fa 8 (.t p16))), none⟩
(sN p18 ⟨(some p18), (.v (.ld1 (.t p17))), none⟩
(sN p19 ⟨(some p19), (.v (.build [(.int .i64 (.ofNat 0)), (.int .i64 (.ofNat 0)), (.int .i64 (.ofNat 0)), (.int .i64 (.ofNat 0))] [(0, 1, (.t p13)), (1, 1, (.t p18))])), none⟩
(sA 11 p3 (.new [(.int .i64 (.ofNat 0)), (.int .i64 (.ofNat 0)), (.int .i64 (.ofNat 0)), (.int .i64 (.ofNat 0))] 140)
(sE [11] [] ⟨none, (.v (.st 4 (.t p3) (.t p19))), none⟩
sEnd))))))))))))))
(dSeq (dOps (dV p20 (oFa 0 (.t p1))
(dV p21 (oFa 0 (.t p20))
(dV p22 (oLd1 (.t p21))
(dV p4 (oMv (.t p22))
(dV p5 (oMv (.c (.int .i64 (.ofNat 0))))
dE))))))
(dSeq (dSeq (dOps (dV p23 (oFa 2 (.t p1))
(dV p24 (oLd1 (.t p23))
(dC (some p25) p129 [(.t p24)]
(dV p26 (oLen (.t p25))
(dV p27 (oMv (.c (.int .i64 (.ofNat 0))))
dE))))))
(dBlock 0 (dLoop (dSeq (dOps (dV p28 (oAr .lss (.t p27) (.t p26))
dE))
(dSeq (dCond (.t p28) dSkip (dExit 0))
(dSeq (dBlock 1 (dSeq (dOps (dV p29 (oIa 4 (.t p25) (.t p27))
(dV p30 (oLdN 4 (.t p29))
(dV p7 (oNew [(.int .i64 (.ofNat 0)), (.int .i64 (.ofNat 0)), (.int .i64 (.ofNat 0)), (.int .i64 (.ofNat 0))] 239)
(dU (oSt 4 (.t p7) (.t p30))
dE)))))
(dSeq (dBlock 2 (dLoop (dSeq (dSeq (dOps (dV p31 (oMv (.t p4))
(dV p32 (oEq .p true (.t p31) (.c .nilp))
(dV p33 (oMv (.t p32))
(dG p33 true (some p34) (dV p34 (oMv (.t p5)))
(dG p33 true (some p35) (dV p35 (oFa 0 (.t p7)))
(dG p33 true (some p36) (dV p36 (oLd1 (.t p35)))
(dG p33 true (some p37) (dV p37 (oAr .lss (.t p34) (.t p36)))
(dV p38 (oPick (.t p33) (.t p37) (.c (.bool false)))
dE)))))))))
(dCond (.t p38) dSkip (dExit 2)))
(dSeq (dBlock 3 (dOps (dV p41 (oMv (.t p4))
(dV p42 (oNchk (.t p41))
(dV p43 (oFa 1 (.t p42))
(dV p44 (oLd1 (.t p43))
(dV p4 (oMv (.t p44))
dE)))))))
(dOps (dV p39 (oMv (.t p5))
(dV p40 (oAr .add (.t p39) (.c (.int .i64 (.ofNat 1))))
(dV p5 (oMv (.t p40))
dE))))))))
(dSeq (dOps (dV p45 (oFa 0 (.t p7))
(dV p46 (oLd1 (.t p45))
(dV p47 (oFa 0 (.t p1))
(dV p48 (oFa 1 (.t p47))
(dV p49 (oLd1 (.t p48))
(dV p50 (oAr .sub (.t p46) (.t p49))
(dV p51 (oBuild [(.int .i64 (.ofNat 0)), (.int .i64 (.ofNat 0)), (.int .i64 (.ofNat 0)), (.int .i64 (.ofNat 0))] [(0, 1, (.c (.int .i64 (.ofNat 1)))), (1, 1, (.c (.int .i64 (.ofNat 1)))), (2, 1, (.t p50)), (3, 1, (.c (.int .i64 (.ofNat 0))))])
(dV p8 (oNew [(.int .i64 (.ofNat 0)), (.int .i64 (.ofNat 0)), (.int .i64 (.ofNat 0)), (.int .i64 (.ofNat 0))] 140)
(dU (oSt 4 (.t p8) (.t p51))
dE))))))))))
(dSeq (dSeq (dOps (dV p52 (oMv (.t p4))
(dV p53 (oEq .p true (.t p52) (.c .nilp))
dE)))
(dCond (.t p53) (dOps (dV p54 (oMv (.t p4))
(dV p55 (oNchk (.t p54))
(dV p56 (oFa 0 (.t p55))
(dV p57 (oLd1 (.t p56))
(dV p58 (oNchk (.t p57))
(dV p59 (oFa 3 (.t p58))
(dV p60 (oLdN 4 (.t p59))
(dU (oSt 4 (.t p8) (.t p60))
dE))))))))) dSkip))
(dSeq (dOps (dV p61 (oFa 0 (.t p3))
(dV p62 (oLd1 (.t p61))
(dV p63 (oFa 1 (.t p7))
(dV p64 (oLd1 (.t p63))
(dV p65 (oFa 0 (.t p8))
(dV p66 (oLd1 (.t p65))
(dV p67 (oAr .sub (.t p66) (.c (.int .i64 (.ofNat 1))))
(dV p68 (oAr .mul (.t p64) (.t p67))
(dV p69 (oAr .add (.t p62) (.t p68))
(dV p70 (oFa 0 (.t p3))
(dU (oSt 1 (.t p70) (.t p69))
dE))))))))))))
(dSeq (dOps (dV p71 (oFa 1 (.t p3))
(dV p72 (oLd1 (.t p71))
(dV p73 (oFa 2 (.t p7))
(dV p74 (oLd1 (.t p73))
(dV p75 (oFa 1 (.t p8))
(dV p76 (oLd1 (.t p75))
(dV p77 (oAr .add (.t p74) (.t p76))
(dV p78 (oMm true [(.t p72), (.t p77)])
(dV p79 (oFa 1 (.t p3))
(dU (oSt 1 (.t p79) (.t p78))
dE)))))))))))
(dSeq (dOps (dV p80 (oFa 2 (.t p3))
(dV p81 (oLd1 (.t p80))
(dV p82 (oFa 3 (.t p7))
(dV p83 (oLd1 (.t p82))
(dV p84 (oFa 2 (.t p8))
(dV p85 (oLd1 (.t p84))
(dV p86 (oAr .add (.t p83) (.t p85))
(dV p87 (oMm true [(.t p81), (.t p86)])
(dV p88 (oFa 2 (.t p3))
(dU (oSt 1 (.t p88) (.t p87))
dE)))))))))))
(dOps (dV p89 (oFa 3 (.t p3))
(dV p90 (oLd1 (.t p89))
(dV p91 (oFa 3 (.t p8))
(dV p92 (oLd1 (.t p91))
(dV p93 (oMm true [(.t p90), (.t p92)])
(dV p94 (oFa 3 (.t p3))
(dU (oSt 1 (.t p94) (.t p93))
dE))))))))))))))))
(dOps (dV p95 (oAr .add (.t p27) (.c (.int .i64 (.ofNat 1))))
(dV p27 (oMv (.t p95))
dE)))))))))
(dSeq (dOps (dV p96 (oLdN 4 (.t p3))
(dU (oSt 4 (.t p2) (.t p96))
dE)))
dRet))))), [(.cN p2 4)]⟩
def af99 : AF := ⟨(dSeq (dOps (dV p1 (oBox 39 (.t p0))
(dV p2 (oMv (.c (.int .i64 (.ofNat 0))))
dE)))
(dSeq (dSeq (dOps (dV p4 (oFa 0 (.t p1))
(dV p5 (oLd1 (.t p4))
(dV p6 (oAr .lss (.t p5) (.c (.int .i64 (.ofNat 1))))
(dV p7 (oMv (.t p6))
(dG p7 false (some p8) (dV p8 (oFa 0 (.t p1)))
(dG p7 false (some p9) (dV p9 (oLd1 (.t p8)))
(dG p7 false (some p10) (dV p10 (oAr .gtr (.t p9) (.c (.int .i64 (.ofNat 3)))))
(dV p11 (oPick (.t p7) (.c (.bool true)) (.t p10))
(dV p12 (oMv (.t p11))
(dG p12 false (some p13) (dV p13 (oFa 1 (.t p1)))
(dG p12 false (some p14) (dV p14 (oLd1 (.t p13)))
(dG p12 false (some p15) (dC (some p15) p130 [(.t p14)])
(dG p12 false (some p16) (dV p16 (oUn .not (.t p15)))
(dV p17 (oPick (.t p12) (.c (.bool true)) (.t p16))
dE)))))))))))))))
(dCond (.t p17) (dSeq (dOps (dV p2 (oMv (.c (.int .i64 (.ofNat 10))))
dE))
dRet) dSkip))
(dSeq (dSeq (dOps (dV p18 (oFa 2 (.t p1))
(dV p19 (oLd1 (.t p18))
(dV p20 (oAr .lss (.t p19) (.c (.int .i64 (.ofNat 0))))
(dV p21 (oMv (.t p20))
(dG p21 false (some p22) (dV p22 (oFa 2 (.t p1)))
(dG p21 false (some p23) (dV p23 (oLd1 (.t p22)))
(dG p21 false (some p24) (dV p24 (oAr .gtr (.t p23) (.c (.int .i64 (.ofNat 8)))))
(dV p25 (oPick (.t p21) (.c (.bool true)) (.t p24))
dE)))))))))
(dCond (.t p25) (dSeq (dOps (dV p2 (oMv (.c (.int .i64 (.ofNat 13))))
dE))
dRet) dSkip))
(dSeq (dSeq (dOps (dV p26 (oFa 3 (.t p1))
(dV p27 (oLdN 6 (.t p26))
(dC (some p28) p18 [(.t p27)]
(dV p3 (oMv (.t p28))
dE)))))
(dSeq (dOps (dV p29 (oMv (.t p3))
(dV p30 (oAr .neq (.t p29) (.c (.int .i64 (.ofNat 0))))
dE)))
(dCond (.t p30) (dSeq (dOps (dV p31 (oMv (.t p3))
(dV p2 (oMv (.t p31))
dE)))
dRet) dSkip)))
(dSeq (dSeq (dOps (dV p32 (oFa 0 (.t p1))
(dV p33 (oLd1 (.t p32))
dE)))
(dBlock 0 (dSeq (dOps (dV p35 (oAr .eql (.t p33) (.c (.int .i64 (.ofNat 2))))
(dV p34 (oMv (.t p35))
dE)))
(dCond (.t p34) (dSeq (dOps (dV p36 (oFa 9 (.t p1))
(dV p37 (oLdN 6 (.t p36))
(dC (some p38) p18 [(.t p37)]
(dV p2 (oMv (.t p38))
dE)))))
dRet) (dSeq (dOps (dV p40 (oAr .eql (.t p33) (.c (.int .i64 (.ofNat 3))))
(dV p39 (oMv (.t p40))
dE)))
(dCond (.t p39) (dSeq (dOps (dV p41 (oLdN 17 (.t p1))
(dC (some p42) p131 [(.t p41)]
(dV p2 (oMv (.t p42))
dE))))
dRet) dSkip))))))
(dSeq (dOps (dV p2 (oMv (.c (.int .i64 (.ofNat 0))))
dE))
dRet)))))), [(.t p2)]⟩
def af100 : AF := ⟨(dSeq (dOps (dV p4 (oMv (.t p0))
(dV p5 (oMv (.t p1))
(dV p6 (oLen (.t p5))
(dC (some p7) p132 [(.t p4), (.t p6)]
dE)))))
(dOps (dV p8 (oMv (.t p1))
(dV p9 (oMv (.t p0))
(dV p10 (oMkf 134 [(.t p9)] [])
(dC (some p11) p133 [(.t p8), (.t p10)]
dE)))))), []⟩
def af101 : AF := ⟨(dSeq (dOps (dV p2 (oMv (.c .nils))
(dV p3 (oMv (.c (.int .i64 (.ofNat 0))))
dE)))
(dSeq (dSeq (dOps (dV p4 (oMv (.t p0))
(dV p5 (oNchk (.t p4))
(dV p6 (oFa 1 (.t p5))
(dV p7 (oLd1 (.t p6))
dE)))))
(dCond (.t p7) (dSeq (dOps (dV p2 (oMv (.c .nils))
(dV p3 (oMv (.c (.int .i64 (.ofNat 2))))
dE)))
dRet) dSkip))
(dSeq (dOps (dV p8 (oMv (.t p0))
(dV p9 (oNchk (.t p8))
(dV p10 (oFa 0 (.t p9))
(dV p11 (oLd1 (.t p10))
(dV p2 (oMv (.t p11))
(dV p3 (oMv (.c (.int .i64 (.ofNat 0))))
dE)))))))
dRet))), [(.t p2), (.t p3)]⟩
def af102 : AF := ⟨(dSeq (dOps (dV p1 (oBox 26 (.t p0))
(dV p2 (oNew [(.int .i64 (.ofNat 0)), (.int .i64 (.ofNat 0)), (.bool false), (.str []), .nils, .nils] 26)
dE)))
(dSeq (dSeq (dOps (dV p8 (oLdN 6 (.t p1))
(dC (some p9) p31 [(.t p8), (.c (.int .i64 (.ofNat 16777216))), (.c (.int .i64 (.ofNat 65536)))]
(dV p7 (oMv (.t p9))
(dV p10 (oExt (.t p7) 0)
(dV p11 (oExt (.t p7) 1)
(dV p3 (oMv (.t p10))
(dV p4 (oMv (.t p11))
dE))))))))
(dSeq (dOps (dV p12 (oMv (.t p4))
(dV p13 (oAr .neq (.t p12) (.c (.int .i64 (.ofNat 0))))
dE)))
(dCond (.t p13) (dSeq (dOps (dV p14 (oBuild [(.int .i64 (.ofNat 0)), (.int .i64 (.ofNat 0)), (.bool false), (.str []), .nils, .nils] [])
(dU (oSt 6 (.t p2) (.t p14))
dE)))
dRet) dSkip)))
(dSeq (dOps (dV p16 (oLdN 6 (.t p1))
(dV p17 (oBuild [(.int .i64 (.ofNat 0)), (.int .i64 (.ofNat 0))] [])
(dC (some p18) p135 [(.t p16), (.t p17), (.c (.fn (.func 136) [] [])), (.c (.fn (.func 137) [] []))]
(dV p15 (oMv (.t p18))
(dV p19 (oExt (.t p15) 0)
(dV p20 (oExt (.t p15) 1)
(dV p5 (oNew [(.int .i64 (.ofNat 0)), (.int .i64 (.ofNat 0)), (.bool false), (.str []), .nils, .nils] 26)
(dU (oSt 6 (.t p5) (.t p19))
(dV p6 (oMv (.t p20))
dE))))))))))
(dSeq (dOps (dV p21 (oLdN 6 (.t p5))
(dU (oSt 6 (.t p2) (.t p21))
dE)))
dRet)))), [(.cN p2 6)]⟩
def af111 : AF := ⟨(dSeq (dOps (dV p1 (oBox 49 (.t p0))
(dV p2 (oNew [(.int .i64 (.ofNat 0)), .nils] 49)
(dV p3 (oMv (.c (.int .i64 (.ofNat 0))))
dE))))
(dSeq (dSeq (dOps (dV p4 (oLdN 2 (.t p1))
(dC (some p5) p143 [(.t p4)]
(dV p6 (oUn .not (.t p5))
dE))))
(dCond (.t p6) (dSeq (dOps (dV p7 (oBuild [(.int .i64 (.ofNat 0)), .nils] [])
(dU (oSt 2 (.t p2) (.t p7))
(dV p3 (oMv (.c (.int .i64 (.ofNat 13))))
dE))))
dRet) dSkip))
(dSeq (dOps (dV p8 (oFa 0 (.t p1))
(dV p9 (oLd1 (.t p8))
(dV p10 (oFa 1 (.t p1))
(dV p11 (oLd1 (.t p10))
(dC (some p12) p144 [(.t p9), (.t p11)]
(dV p13 (oExt (.t p12) 0)
(dV p14 (oExt (.t p12) 1)
(dU (oSt 2 (.t p2) (.t p13))
(dV p3 (oMv (.t p14))
dE))))))))))
dRet))), [(.cN p2 2), (.t p3)]⟩
def af112 : AF := ⟨(dSeq (dOps (dV p2 (oBox 49 (.t p0))
(dV p3 (oBox 49 (.t p1))
(dV p4 (oMv (.c (.bool false)))
dE))))
(dSeq (dOps (dV p5 (oFa 0 (.t p2))
(dV p6 (oLd1 (.t p5))
(dV p7 (oFa 0 (.t p3))
(dV p8 (oLd1 (.t p7))
(dV p9 (oAr .eql (.t p6) (.t p8))
(dV p10 (oMv (.t p9))
(dG p10 true (some p11) (dV p11 (oFa 1 (.t p2)))
(dG p10 true (some p12) (dV p12 (oLd1 (.t p11)))
(dG p10 true (some p13) (dV p13 (oFa 1 (.t p3)))
(dG p10 true (some p14) (dV p14 (oLd1 (.t p13)))
(dG p10 true (some p15) (dC (some p15) p145 [(.t p12), (.t p14)])
(dV p16 (oPick (.t p10) (.t p15) (.c (.bool false)))
(dV p4 (oMv (.t p16))
dE))))))))))))))
dRet)), [(.t p4)]⟩
def af113 : AF := ⟨(dSeq (dOps (dV p4 (oMv (.c (.int .i64 (.ofNat 0))))
dE))
(dSeq (dSeq (dOps (dV p6 (oMv (.t p0))
(dV p7 (oLen (.t p6))
(dV p8 (oMv (.c (.int .i64 (.ofNat 0))))
dE))))
(dBlock 0 (dLoop (dSeq (dOps (dV p9 (oAr .lss (.t p8) (.t p7))
dE))
(dSeq (dCond (.t p9) dSkip (dExit 0))
(dSeq (dBlock 1 (dSeq (dOps (dV p10 (oMv (.t p8))
(dV p5 (oMv (.t p10))
dE)))
(dSeq (dOps (dV p11 (oMv (.t p1))
(dV p12 (oMv (.t p0))
(dV p13 (oMv (.t p5))
(dV p14 (oIa 2 (.t p12) (.t p13))
(dV p15 (oLdN 2 (.t p14))
(dCv (some p16) (.t p11) [(.t p15)]
dE)))))))
(dCond (.t p16) (dSeq (dOps (dV p17 (oMv (.t p5))
(dV p4 (oMv (.t p17))
dE)))
dRet) dSkip))))
(dOps (dV p18 (oAr .add (.t p8) (.c (.int .i64 (.ofNat 1))))
(dV p8 (oMv (.t p18))
dE)))))))))
(dSeq (dOps (dV p4 (oMv (.c (.int .i64 (.negSucc 0))))
dE))
dRet))), [(.t p4)]⟩
def af114 : AF := ⟨(dSeq (dOps (dV p2 (oBox 49 (.t p0))
(dV p3 (oBox 49 (.t p1))
(dV p4 (oNew [(.bool false)] 4)
dE))))
(dSeq (dSeq (dOps (dV p7 (oLdN 2 (.t p2))
(dC (some p8) p143 [(.t p7)]
(dV p9 (oUn .not (.t p8))
(dV p10 (oMv (.t p9))
(dG p10 false (some p11) (dV p11 (oLdN 2 (.t p3)))
(dG p10 false (some p12) (dC (some p12) p143 [(.t p11)])
(dG p10 false (some p13) (dV p13 (oUn .not (.t p12)))
(dV p14 (oPick (.t p10) (.c (.bool true)) (.t p13))
dE)))))))))
(dCond (.t p14) (dSeq (dOps (dU (oSt 1 (.t p4) (.c (.bool false)))
dE))
dRet) dSkip))
(dSeq (dSeq (dOps (dV p15 (oLdN 2 (.t p2))
(dV p16 (oLdN 2 (.t p3))
(dC (some p17) p146 [(.t p15), (.t p16)]
dE))))
(dBlock 0 (dRange (.t p17) [p18, p19] (dSeq (dOps (dV p5 (oMv (.t p18))
dE))
(dOps (dV p6 (oMv (.t p19))
dE))) (dBlock 1 (dSeq (dOps (dV p20 (oMv (.t p5))
(dV p21 (oMv (.t p6))
(dV p22 (oAr .gtr (.t p20) (.t p21))
dE))))
(dCond (.t p22) (dSeq (dOps (dU (oSt 1 (.t p4) (.c (.bool false)))
dE))
dRet) dSkip))))))
(dSeq (dOps (dU (oSt 1 (.t p4) (.c (.bool true)))
dE))
dRet)))), [(.c1 p4)]⟩
def af115 : AF := ⟨(dSeq (dOps (dV p3 (oBox 128 (.t p0))
(dV p6 (oNew [.nilp] 67)
dE)))
(dSeq (dSeq (dOps (dV p7 (oFa 0 (.t p3))
(dV p8 (oLd1 (.t p7))
(dV p9 (oNchk (.t p8))
(dV p10 (oFa 0 (.t p9))
(dV p11 (oFa 0 (.t p10))
(dV p12 (oFa 2 (.t p11))
(dV p13 (oLd1 (.t p12))
(dV p14 (oMv (.t p1))
(dC (some p15) p147 [(.t p13), (.t p14)]
(dV p16 (oMv (.t p15))
(dG p16 true (some p17) (dV p17 (oFa 0 (.t p3)))
(dG p16 true (some p18) (dV p18 (oLd1 (.t p17)))
(dG p16 true (some p19) (dV p19 (oNchk (.t p18)))
(dG p16 true (some p20) (dV p20 (oFa 5 (.t p19)))
(dG p16 true (some p21) (dV p21 (oFa 3 (.t p20)))
(dG p16 true (some p22) (dV p22 (oLd1 (.t p21)))
(dG p16 true (some p23) (dV p23 (oMv (.t p2)))
(dG p16 true (some p24) (dV p24 (oAr .neq (.t p22) (.t p23)))
(dV p25 (oPick (.t p16) (.t p24) (.c (.bool false)))
dE))))))))))))))))))))
(dCond (.t p25) (dDraw (sN p26 ⟨(some p26), (.v (.fa 0 (.t p3))), none⟩
(sN p27 ⟨(some p27), (.v (.ld1 (.t p26))), none⟩
(sN p28 ⟨(some p28), (.v (.mv (.t p1))), none⟩
(sN p29 ⟨(some p29), (.v (.fa 0 (.t p3))), none⟩
(sN p30 ⟨(some p30), (.v (.ld1 (.t p29))), none⟩
(sN p31 ⟨(some p31), (.v (.mv (.t p2))), none⟩
(sN p32 ⟨(some p32), (.v (.nchk (.t p27))), none⟩
(sN p33 ⟨(some p33), (.v (.fa 5 (.t p32))), none⟩
(sN p34 ⟨(some p34), (.v (.fa 0 (.t p33))), none⟩
(sN p35 ⟨(some p35), (.v (.iaA 3 1 (.t p34) (.t p28))), none⟩
(sE [] [(p30, ⟨(some p30), (.v (.ld1 (.t p29))), none⟩)] ⟨none, (.v (.st 1 (.t p35) (.c .nilp))), none⟩
(sN p36 ⟨(some p36), (.v (.nchk (.t p30))), none⟩
(sN p37 ⟨(some p37), (.v (.fa 5 (.t p36))), none⟩
(sN p38 ⟨(some p38), (.v (.fa 3 (.t p37))), none⟩
(sE [] [] ⟨none, (.v (.st 1 (.t p38) (.t p31))), none⟩
sEnd)))))))))))))))) dSkip))
(dSeq (dSeq (dOps (dV p39 (oFa 0 (.t p3))
(dV p40 (oLd1 (.t p39))
(dV p41 (oMv (.t p1))
(dV p42 (oNchk (.t p40))
(dV p43 (oFa 5 (.t p42))
(dV p44 (oFa 0 (.t p43))
(dV p45 (oIaA 3 1 (.t p44) (.t p41))
(dV p46 (oLd1 (.t p45))
(dV p47 (oEq .p false (.t p46) (.c .nilp))
dE))))))))))
(dCond (.t p47) (dDraw (sN p48 ⟨(some p48), (.v (.fa 0 (.t p3))), none⟩
(sN p49 ⟨(some p49), (.v (.ld1 (.t p48))), none⟩
(sN p50 ⟨(some p50), (.v (.mv (.t p1))), none⟩
(sN p51 ⟨(some p51), (.v (.fa 0 (.t p3))), none⟩
(sN p52 ⟨(some p52), (.v (.ld1 (.t p51))), none⟩
(sN p53 ⟨(some p53), (.v (.nchk (.t p52))), none⟩
(sN p54 ⟨(some p54), (.v (.fa 0 (.t p53))), none⟩
(sN p55 ⟨(some p55), (.v (.ldN 4 (.t p54))), none⟩
(sN p56 ⟨(some p56), (.v (.mv (.t p1))), none⟩
(sN p57 ⟨(some p57), (.v (.mv (.t p2))), none⟩
(sN p59 ⟨(some p59), (.v (.nchk (.t p49))), none⟩
(sN p60 ⟨(some p60), (.v (.fa 5 (.t p59))), none⟩
(sN p61 ⟨(some p61), (.v (.fa 0 (.t p60))), none⟩
(sE [] [(p49, ⟨(some p49), (.v (.ld1 (.t p48))), none⟩)] ⟨(some p58), (.call p148 [(.t p55), (.t p56), (.t p57)]), none⟩
(sN p62 ⟨(some p62), (.v (.iaA 3 1 (.t p61) (.t p50))), none⟩
(sE [] [] ⟨none, (.v (.st 1 (.t p62) (.t p58))), none⟩
sEnd))))))))))))))))) dSkip))
(dSeq (dOps (dV p63 (oFa 0 (.t p3))
(dV p64 (oLd1 (.t p63))
(dV p65 (oMv (.t p1))
(dV p66 (oNchk (.t p64))
(dV p67 (oFa 5 (.t p66))
(dV p68 (oFa 0 (.t p67))
(dV p69 (oIaA 3 1 (.t p68) (.t p65))
(dV p70 (oLd1 (.t p69))
(dV p71 (oBuild [.nilp] [(0, 1, (.t p70))])
(dU (oSt 1 (.t p6) (.t p71))
dE)))))))))))
dRet)))), [(.cN p6 1)]⟩
def af116 : AF := ⟨(dSeq (dOps (dV p1 (oBox 136 (.t p0))
(dV p2 (oMv (.c .nilf))
dE)))
(dSeq (dOps (dV p3 (oMkf 149 [] [(.t p1)])
(dV p2 (oMv (.t p3))
dE)))
dRet)), [(.t p2)]⟩
def af117 : AF := ⟨(dSeq (dOps (dV p1 (oBox 228 (.t p0))
(dV p2 (oMv (.c .nilf))
dE)))
(dSeq (dOps (dV p3 (oMkf 150 [] [(.t p1)])
(dV p2 (oMv (.t p3))
dE)))
dRet)), [(.t p2)]⟩
def af118 : AF := ⟨(dSeq (dOps (dV p2 (oMv (.c .nils))
dE))
(dSeq (dOps (dV p3 (oMv (.t p0))
(dC (some p4) p151 [(.c .nils), (.t p3)]
(dV p2 (oMv (.t p4))
dE))))
dRet)), [(.t p2)]⟩
def af119 : AF := ⟨(dSeq (dOps (dV p6 (oMv (.c .nilp))
dE))
(dSeq (dDraw (sN p7 ⟨(some p7), (.v (.mv (.t p1))), none⟩
(sN p8 ⟨(some p8), (.v (.mv (.t p2))), none⟩
(sN p9 ⟨(some p9), (.v (.mv (.t p0))), none⟩
(sN p10 ⟨(some p10), (.v (.mv (.t p1))), none⟩
(sN p11 ⟨(some p11), (.v (.nchk (.t p10))), none⟩
(sN p12 ⟨(some p12), (.v (.fa 3 (.t p11))), none⟩
(sN p13 ⟨(some p13), (.v (.fa 0 (.t p12))), none⟩
(sN p14 ⟨(some p14), (.v (.ld1 (.t p13))), none⟩
(sN p15 ⟨(some p15), (.v (.ar .add (.t p14) (.c (.int .i64 (.ofNat 1))))), none⟩
(sN p16 ⟨(some p16), (.v (.build [(.int .i64 (.ofNat 0)), (.int .i64 (.ofNat 0))] [(0, 1, (.c (.int .i64 (.ofNat 1)))), (1, 1, (.t p15))])), none⟩
(sN p17 ⟨(some p17), (.v (.mv (.t p0))), none⟩
(sE [] [(p14, ⟨(some p14), (.v (.ld1 (.t p13))), none⟩)] ⟨(some p18), (.call p153 [(.t p17)]), none⟩
(sE [] [] ⟨(some p19), (.call p152 [(.t p16), (.t p18)]), none⟩
(sN p20 ⟨(some p20), (.v (.build [.nilp, (.bool false), .nilp, (.int .i64 (.ofNat 0)), (.int .i64 (.ofNat 0))] [(0, 1, (.t p7)), (1, 1, (.t p8)), (2, 1, (.t p9)), (3, 2, (.t p19))])), none⟩
(sA 14 p21 (.box 224 (.t p20))
(sN p6 ⟨(some p6), (.v (.mv (.t p21))), none⟩
sEnd)))))))))))))))))
dRet)), [(.t p6)]⟩
def af120 : AF := ⟨(dSeq (dOps (dV p1 (oBox 128 (.t p0))
(dV p2 (oNew [.nilp] 67)
dE)))
(dSeq (dOps (dV p4 (oLdN 1 (.t p1))
(dC (some p5) p154 [(.t p4)]
(dV p3 (oNew [(.int .i64 (.ofNat 0)), (.int .i64 (.ofNat 0)), (.int .i64 (.ofNat 0)), (.int .i64 (.ofNat 0))] 140)
(dU (oSt 4 (.t p3) (.t p5))
dE)))))
(dSeq (dDraw (sN p6 ⟨(some p6), (.v (.fa 0 (.t p1))), none⟩
(sN p7 ⟨(some p7), (.v (.ld1 (.t p6))), none⟩
(sN p8 ⟨(some p8), (.v (.nchk (.t p7))), none⟩
(sN p9 ⟨(some p9), (.v (.fa 0 (.t p8))), none⟩
(sN p10 ⟨(some p10), (.v (.fa 0 (.t p9))), none⟩
(sN p11 ⟨(some p11), (.v (.ldN 3 (.t p10))), none⟩
(sN p12 ⟨(some p12), (.v (.ldN 4 (.t p3))), none⟩
(sN p13 ⟨(some p13), (.v (.fa 0 (.t p1))), none⟩
(sN p14 ⟨(some p14), (.v (.ld1 (.t p13))), none⟩
(sN p15 ⟨(some p15), (.v (.ldN 4 (.t p3))), none⟩
(sN p16 ⟨(some p16), (.v (.build [.nilp, (.int .i64 (.ofNat 0)), .nilp, (.int .i64 (.ofNat 0)), (.int .i64 (.ofNat 0)), (.int .i64 (.ofNat 0)), (.int .i64 (.ofNat 0)), .nilp, (.int .i64 (.ofNat 0)), (.int .i64 (.ofNat 0)), (.int .i64 (.ofNat 0)), (.int .i64 (.ofNat 0)), .nilp, (.int .i64 (.ofNat 0))] [(0, 3, (.t p11)), (3, 4, (.t p12)), (7, 1, (.t p14)), (8, 4, (.t p15))])), none⟩
(sA 11 p17 (.box 194 (.t p16))
(sN p18 ⟨(some p18), (.v (.build [.nilp] [(0, 1, (.t p17))])), none⟩
(sE [11] [] ⟨none, (.v (.st 1 (.t p2) (.t p18))), none⟩
sEnd)))))))))))))))
dRet))), [(.cN p2 1)]⟩
def af121 : AF := ⟨(dSeq (dOps (dV p5 (oBox 138 (.t p2))
dE))
(dSeq (dOps (dV p7 (oMv (.t p0))
(dV p8 (oMv (.t p1))
(dV p9 (oMv (.t p0))
(dV p10 (oNchk (.t p9))
(dV p11 (oFa 8 (.t p10))
(dV p12 (oLdN 11 (.t p11))
(dV p13 (oBuild [.nilp, .nilp, .nilp, (.int .i64 (.ofNat 0)), .nilp, .nilp, .nilp, (.int .i64 (.ofNat 0)), (.int .i64 (.ofNat 0)), (.int .i64 (.ofNat 0)), (.int .i64 (.ofNat 0)), (.int .i64 (.ofNat 0)), (.int .i64 (.ofNat 0))] [(0, 1, (.t p7)), (1, 1, (.t p8)), (2, 11, (.t p12))])
(dV p6 (oNew [.nilp, .nilp, .nilp, (.int .i64 (.ofNat 0)), .nilp, .nilp, .nilp, (.int .i64 (.ofNat 0)), (.int .i64 (.ofNat 0)), (.int .i64 (.ofNat 0)), (.int .i64 (.ofNat 0)), (.int .i64 (.ofNat 0)), (.int .i64 (.ofNat 0))] 264)
(dU (oSt 13 (.t p6) (.t p13))
dE))))))))))
(dSeq (dDraw (sN p14 ⟨(some p14), (.v (.mv (.t p0))), none⟩
(sN p15 ⟨(some p15), (.v (.mv (.t p0))), none⟩
(sN p16 ⟨(some p16), (.v (.nchk (.t p15))), none⟩
(sN p17 ⟨(some p17), (.v (.fa 7 (.t p16))), none⟩
(sN p18 ⟨(some p18), (.v (.ld1 (.t p17))), none⟩
(sN p19 ⟨(some p19), (.v (.ldN 13 (.t p6))), none⟩
(sN p20 ⟨(some p20), (.v (.mkf 155 [(.t p19)] [])), none⟩
(sA 7 p21 (.buildS 233 1 [.nilf] [(0, 1, (.t p20))])
(sE [7] [] ⟨(some p22), (.v (.app 233 1 (.t p18) (.t p21))), none⟩
(sN p23 ⟨(some p23), (.v (.nchk (.t p14))), none⟩
(sN p24 ⟨(some p24), (.v (.fa 7 (.t p23))), none⟩
(sE [7] [] ⟨none, (.v (.st 1 (.t p24) (.t p22))), none⟩
sEnd)))))))))))))
(dDraw (sN p25 ⟨(some p25), (.v (.mv (.t p0))), none⟩
(sN p26 ⟨(some p26), (.v (.mv (.t p1))), none⟩
(sN p27 ⟨(some p27), (.v (.nchk (.t p26))), none⟩
(sN p28 ⟨(some p28), (.v (.fa 0 (.t p27))), none⟩
(sN p29 ⟨(some p29), (.v (.ldN 3 (.t p28))), none⟩
(sN p30 ⟨(some p30), (.v (.build [.nilp, (.int .i64 (.ofNat 0)), .nilp, .nilp] [(0, 3, (.t p29))])), none⟩
(sN p31 ⟨(some p31), (.v (.ldN 2 (.t p5))), none⟩
(sN p32 ⟨(some p32), (.v (.mv (.t p1))), none⟩
(sN p33 ⟨(some p33), (.v (.nchk (.t p32))), none⟩
(sN p34 ⟨(some p34), (.v (.fa 3 (.t p33))), none⟩
(sN p35 ⟨(some p35), (.v (.ldN 4 (.t p34))), none⟩
(sN p36 ⟨(some p36), (.v (.build [.nilp, (.int .i64 (.ofNat 0)), .nilp, .nilp, .nilp, (.int .i64 (.ofNat 0)), (.int .i64 (.ofNat 0)), (.int .i64 (.ofNat 0)), (.int .i64 (.ofNat 0)), (.int .i64 (.ofNat 0)), (.int .i64 (.ofNat 0))] [(0, 4, (.t p30)), (5, 2, (.t p31)), (7, 4, (.t p35))])), none⟩
(sN p37 ⟨(some p37), (.v (.nchk (.t p25))), none⟩
(sN p38 ⟨(some p38), (.v (.fa 8 (.t p37))), none⟩
(sE [] [] ⟨none, (.v (.st 11 (.t p38) (.t p36))), none⟩
sEnd))))))))))))))))))), []⟩
def af122 : AF := ⟨(dSeq (dOps (dV p2 (oMv (.c (.bool false)))
dE))
(dSeq (dOps (dV p3 (oMv (.c (.int .i64 (.ofNat 1))))
dE))
(dSeq (dSeq (dOps (dV p4 (oMv (.t p0))
(dV p5 (oNchk (.t p4))
(dV p6 (oFa 8 (.t p5))
(dV p7 (oFa 0 (.t p6))
(dV p8 (oFa 0 (.t p7))
(dV p9 (oFa 2 (.t p8))
(dV p10 (oLd1 (.t p9))
(dV p11 (oNchk (.t p10))
(dV p12 (oFa 0 (.t p11))
(dV p13 (oFa 0 (.t p12))
(dV p14 (oLd1 (.t p13))
dE))))))))))))
(dBlock 0 (dSeq (dBlock 6 (dSeq (dBlock 5 (dSeq (dBlock 4 (dSeq (dBlock 3 (dSeq (dBlock 2 (dSeq (dBlock 1 (dSeq (dSeq (dSeq (dOps (dV p16 (oAr .eql (.t p14) (.c (.int .i64 (.ofNat 5))))
(dV p15 (oMv (.t p16))
dE)))
(dCond (.t p15) (dExit 1) dSkip))
(dSeq (dSeq (dOps (dV p18 (oAr .eql (.t p14) (.c (.int .i64 (.ofNat 1))))
(dV p17 (oMv (.t p18))
dE)))
(dCond (.t p17) (dExit 2) dSkip))
(dSeq (dSeq (dOps (dV p20 (oAr .eql (.t p14) (.c (.int .i64 (.ofNat 4))))
(dV p19 (oMv (.t p20))
dE)))
(dCond (.t p19) (dExit 3) dSkip))
(dSeq (dSeq (dOps (dV p22 (oAr .eql (.t p14) (.c (.int .i64 (.ofNat 10))))
(dV p21 (oMv (.t p22))
dE)))
(dCond (.t p21) (dExit 4) dSkip))
(dSeq (dSeq (dOps (dV p24 (oAr .eql (.t p14) (.c (.int .i64 (.ofNat 9))))
(dV p23 (oMv (.t p24))
dE)))
(dCond (.t p23) (dExit 5) dSkip))
(dSeq (dOps (dV p26 (oAr .eql (.t p14) (.c (.int .i64 (.ofNat 8))))
(dV p25 (oMv (.t p26))
dE)))
(dCond (.t p25) (dExit 6) dSkip)))))))
(dExit 0)))
(dSeq (dSeq (dDraw (sN p27 ⟨(some p27), (.v (.mv (.t p0))), none⟩
(sN p28 ⟨(some p28), (.v (.mv (.t p0))), none⟩
(sN p29 ⟨(some p29), (.v (.nchk (.t p28))), none⟩
(sN p30 ⟨(some p30), (.v (.fa 8 (.t p29))), none⟩
(sN p31 ⟨(some p31), (.v (.fa 4 (.t p30))), none⟩
(sN p32 ⟨(some p32), (.v (.ld1 (.t p31))), none⟩
(sN p33 ⟨(some p33), (.v (.mv (.t p0))), none⟩
(sN p34 ⟨(some p34), (.v (.nchk (.t p33))), none⟩
(sN p35 ⟨(some p35), (.v (.fa 8 (.t p34))), none⟩
(sN p36 ⟨(some p36), (.v (.fa 0 (.t p35))), none⟩
(sN p37 ⟨(some p37), (.v (.fa 0 (.t p36))), none⟩
(sN p38 ⟨(some p38), (.v (.ldN 3 (.t p37))), none⟩
(sN p40 ⟨(some p40), (.v (.mv (.t p0))), none⟩
(sN p41 ⟨(some p41), (.v (.nchk (.t p40))), none⟩
(sN p42 ⟨(some p42), (.v (.fa 8 (.t p41))), none⟩
(sN p43 ⟨(some p43), (.v (.fa 0 (.t p42))), none⟩
(sN p44 ⟨(some p44), (.v (.fa 0 (.t p43))), none⟩
(sN p45 ⟨(some p45), (.v (.fa 2 (.t p44))), none⟩
(sN p46 ⟨(some p46), (.v (.ld1 (.t p45))), none⟩
(sN p47 ⟨(some p47), (.v (.nchk (.t p46))), none⟩
(sN p48 ⟨(some p48), (.v (.fa 0 (.t p47))), none⟩
(sN p49 ⟨(some p49), (.v (.fa 2 (.t p48))), none⟩
(sN p50 ⟨(some p50), (.v (.ld1 (.t p49))), none⟩
(sE [] [(p32, ⟨(some p32), (.v (.ld1 (.t p31))), none⟩), (p46, ⟨(some p46), (.v (.ld1 (.t p45))), none⟩), (p50, ⟨(some p50), (.v (.ld1 (.t p49))), none⟩)] ⟨(some p39), (.call p156 [(.t p38), (.c (.int .i64 (.ofNat 1)))]), none⟩
(sE [] [] ⟨(some p51), (.call p119 [(.t p32), (.t p39), (.t p50)]), none⟩
(sN p52 ⟨(some p52), (.v (.nchk (.t p27))), none⟩
(sN p53 ⟨(some p53), (.v (.fa 8 (.t p52))), none⟩
(sN p54 ⟨(some p54), (.v (.fa 4 (.t p53))), none⟩
(sE [] [] ⟨none, (.v (.st 1 (.t p54) (.t p51))), none⟩
sEnd))))))))))))))))))))))))))))))
(dSeq (dOps (dV p55 (oMv (.t p0))
(dV p56 (oMv (.t p0))
(dV p57 (oNchk (.t p56))
(dV p58 (oFa 8 (.t p57))
(dV p59 (oFa 0 (.t p58))
(dV p60 (oFa 0 (.t p59))
(dV p61 (oFa 2 (.t p60))
(dV p62 (oLd1 (.t p61))
(dV p63 (oNchk (.t p62))
(dV p64 (oFa 6 (.t p63))
(dV p65 (oLd1 (.t p64))
(dV p66 (oIa 1 (.t p65) (.c (.int .i64 (.ofNat 0))))
(dV p67 (oLd1 (.t p66))
(dV p68 (oNchk (.t p55))
(dV p69 (oFa 8 (.t p68))
(dV p70 (oFa 0 (.t p69))
(dV p71 (oFa 0 (.t p70))
(dV p72 (oFa 2 (.t p71))
(dU (oSt 1 (.t p72) (.t p67))
dE))))))))))))))))))))
(dSeq (dOps (dV p2 (oMv (.c (.bool true)))
dE))
dRet)))
(dExit 0))))
(dSeq (dSeq (dOps (dV p73 (oMv (.t p0))
(dC (some p74) p157 [(.t p73)]
(dV p2 (oMv (.t p74))
dE))))
dRet)
(dExit 0))))
(dSeq (dSeq (dOps (dV p75 (oMv (.t p0))
(dC (some p76) p158 [(.t p75)]
(dV p2 (oMv (.t p76))
dE))))
dRet)
(dExit 0))))
(dSeq (dSeq (dOps (dV p77 (oMv (.t p0))
(dC (some p78) p159 [(.t p77)]
(dV p79 (oMv (.t p78))
(dG p79 false (some p80) (dV p80 (oMv (.t p0)))
(dG p79 false (some p81) (dC (some p81) p160 [(.t p80)])
(dV p82 (oPick (.t p79) (.c (.bool true)) (.t p81))
(dV p2 (oMv (.t p82))
dE))))))))
dRet)
(dExit 0))))
(dOps (dV p83 (oMv (.t p3))
(dV p84 (oAr .add (.t p83) (.c (.int .i64 (.ofNat 1))))
(dV p3 (oMv (.t p84))
dE))))))
(dSeq (dSeq (dOps (dV p85 (oMv (.t p0))
(dV p86 (oMv (.t p3))
(dC (some p87) p161 [(.t p85), (.t p86)]
(dV p2 (oMv (.t p87))
dE)))))
dRet)
(dExit 0)))))
(dSeq (dOps (dV p2 (oMv (.c (.bool false)))
dE))
dRet)))), [(.t p2)]⟩
def af123 : AF := ⟨(dSeq (dOps (dV p3 (oBox 201 (.t p1))
dE))
(dSeq (dOps (dV p6 (oMv (.t p0))
(dV p7 (oNchk (.t p6))
(dV p8 (oFa 7 (.t p7))
(dV p9 (oLd1 (.t p8))
(dV p10 (oLen (.t p9))
(dV p11 (oAr .sub (.t p10) (.c (.int .i64 (.ofNat 1))))
(dV p4 (oMv (.t p11))
dE))))))))
(dSeq (dOps (dV p12 (oMv (.t p0))
(dV p13 (oNchk (.t p12))
(dV p14 (oFa 7 (.t p13))
(dV p15 (oLd1 (.t p14))
(dV p16 (oMv (.t p4))
(dV p17 (oIa 1 (.t p15) (.t p16))
(dV p18 (oLd1 (.t p17))
(dV p5 (oMv (.t p18))
dE)))))))))
(dSeq (dOps (dV p19 (oMv (.t p0))
(dV p20 (oNchk (.t p19))
(dV p21 (oFa 7 (.t p20))
(dV p22 (oLd1 (.t p21))
(dV p23 (oMv (.t p4))
(dV p24 (oIa 1 (.t p22) (.t p23))
(dU (oSt 1 (.t p24) (.c .nilf))
dE))))))))
(dSeq (dOps (dV p25 (oMv (.t p0))
(dV p26 (oMv (.t p0))
(dV p27 (oNchk (.t p26))
(dV p28 (oFa 7 (.t p27))
(dV p29 (oLd1 (.t p28))
(dV p30 (oMv (.t p4))
(dV p31 (oSl 1 (.t p29) none (some (.t p30)) none)
(dV p32 (oNchk (.t p25))
(dV p33 (oFa 7 (.t p32))
(dU (oSt 1 (.t p33) (.t p31))
dE)))))))))))
(dOps (dV p34 (oMv (.t p5))
(dV p35 (oLdN 9 (.t p3))
(dCv (some p36) (.t p34) [(.t p35)]
dE))))))))), []⟩
def af124 : AF := ⟨(dSeq (dOps (dV p3 (oBox 140 (.t p1))
dE))
(dSeq (dDraw (sN p4 ⟨(some p4), (.v (.fa 0 (.t p3))), none⟩
(sN p5 ⟨(some p5), (.v (.ld1 (.t p4))), none⟩
(sN p6 ⟨(some p6), (.v (.ar .gtr (.t p5) (.c (.int .i64 (.ofNat 20000))))), none⟩
(sN p7 ⟨(some p7), (.v (.mv (.t p6))), none⟩
(sN p8 ⟨(some p8), (.v (.fa 1 (.t p3))), (some (p7, false))⟩
(sN p9 ⟨(some p9), (.v (.ld1 (.t p8))), (some (p7, false))⟩
(sN p10 ⟨(some p10), (.v (.ar .gtr (.t p9) (.c (.int .i64 (.ofNat 500))))), (some (p7, false))⟩
(sN p11 ⟨(some p11), (.v (.pick (.t p7) (.c (.bool true)) (.t p10))), none⟩
(sN p12 ⟨(some p12), (.v (.mv (.t p11))), none⟩
(sN p13 ⟨(some p13), (.v (.fa 2 (.t p3))), (some (p12, false))⟩
(sN p14 ⟨(some p14), (.v (.ld1 (.t p13))), (some (p12, false))⟩
(sN p15 ⟨(some p15), (.v (.mv (.t p0))), (some (p12, false))⟩
(sN p16 ⟨(some p16), (.v (.nchk (.t p15))), (some (p12, false))⟩
(sN p17 ⟨(some p17), (.v (.fa 3 (.t p16))), (some (p12, false))⟩
(sN p18 ⟨(some p18), (.v (.ld1 (.t p17))), (some (p12, false))⟩
(sN p19 ⟨(some p19), (.v (.ar .add (.t p14) (.t p18))), (some (p12, false))⟩
(sN p20 ⟨(some p20), (.v (.ar .gtr (.t p19) (.c (.int .i64 (.ofNat 1073741824))))), (some (p12, false))⟩
(sN p21 ⟨(some p21), (.v (.pick (.t p12) (.c (.bool true)) (.t p20))), none⟩
sEnd)))))))))))))))))))
(dCond (.t p21) (dOps (dC (some p22) p162 [(.c (.int .i64 (.ofNat 2)))]
dE)) dSkip))), []⟩
def af125 : AF := ⟨(dSeq (dOps (dV p2 (oBox 128 (.t p0))
(dV p3 (oNew [.nilp] 67)
dE)))
(dSeq (dSeq (dOps (dV p4 (oLdN 1 (.t p2))
(dC (some p5) p65 [(.t p4)]
(dV p6 (oAr .eql (.t p5) (.c (.int .i64 (.ofNat 4))))
dE))))
(dCond (.t p6) (dSeq (dOps (dV p7 (oLdN 1 (.t p2))
(dV p8 (oFa 2 (.t p1))
(dV p9 (oLd1 (.t p8))
(dC (some p10) p115 [(.t p7), (.c (.int .i64 (.ofNat 1))), (.t p9)]
(dU (oSt 1 (.t p3) (.t p10))
dE))))))
dRet) dSkip))
(dSeq (dOps (dV p11 (oLdN 1 (.t p2))
(dV p12 (oFa 2 (.t p1))
(dV p13 (oLd1 (.t p12))
(dC (some p14) p126 [(.t p11), (.t p13)]
(dU (oSt 1 (.t p3) (.t p14))
dE))))))
dRet))), [(.cN p3 1)]⟩
def af126 : AF := ⟨(dSeq (dOps (dV p2 (oBox 128 (.t p0))
(dV p4 (oNew [.nilp] 67)
dE)))
(dSeq (dOps (dV p6 (oBuild [(.int .i64 (.ofNat 0)), (.int .i64 (.ofNat 0)), (.bool false), (.str []), .nils, .nils] [(0, 1, (.c (.int .i64 (.ofNat 1)))), (1, 1, (.c (.int .i64 (.ofNat 1))))])
(dV p7 (oBuild [(.int .i64 (.ofNat 0)), (.int .i64 (.ofNat 0)), (.bool false), (.str []), .nils, .nils] [(0, 1, (.c (.int .i64 (.ofNat 1)))), (1, 1, (.c (.int .i64 (.ofNat 0))))])
(dV p8 (oBuildS 26 2 [(.int .i64 (.ofNat 0)), (.int .i64 (.ofNat 0)), (.bool false), (.str []), .nils, .nils, (.int .i64 (.ofNat 0)), (.int .i64 (.ofNat 0)), (.bool false), (.str []), .nils, .nils] [(0, 6, (.t p6)), (6, 6, (.t p7))])
(dV p9 (oBuild [(.int .i64 (.ofNat 0)), (.int .i64 (.ofNat 0)), (.bool false), (.str []), .nils, .nils] [(0, 1, (.c (.int .i64 (.ofNat 5)))), (5, 1, (.t p8))])
(dV p5 (oNew [(.int .i64 (.ofNat 0)), (.int .i64 (.ofNat 0)), (.bool false), (.str []), .nils, .nils] 26)
(dU (oSt 6 (.t p5) (.t p9))
dE)))))))
(dSeq (dDraw (sN p10 ⟨(some p10), (.v (.build [.nilp, (.int .i64 (.ofNat 0))] [])), none⟩
(sN p11 ⟨(some p11), (.v (.ldN 1 (.t p2))), none⟩
(sN p15 ⟨(some p15), (.v (.mv (.t p1))), none⟩
(sN p18 ⟨(some p18), (.v (.ldN 6 (.t p5))), none⟩
(sE [] [(p18, ⟨(some p18), (.v (.ldN 6 (.t p5))), none⟩)] ⟨(some p12), (.call p120 [(.t p11)]), none⟩
(sN p13 ⟨(some p13), (.v (.fld1 0 (.t p12))), none⟩
(sE [] [(p18, ⟨(some p18), (.v (.ldN 6 (.t p5))), none⟩)] ⟨(some p14), (.call p163 [(.t p10), (.t p13)]), none⟩
(sE [] [(p18, ⟨(some p18), (.v (.ldN 6 (.t p5))), none⟩)] ⟨(some p16), (.call p164 [(.t p15)]), none⟩
(sE [] [(p18, ⟨(some p18), (.v (.ldN 6 (.t p5))), none⟩)] ⟨(some p17), (.call p163 [(.t p14), (.t p16)]), none⟩
(sE [] [] ⟨(some p19), (.call p43 [(.t p18)]), none⟩
(sN p20 ⟨(some p20), (.v (.build [.nilp, (.int .i64 (.ofNat 0)), .nilp] [(0, 2, (.t p17)), (2, 1, (.t p19))])), none⟩
(sE [] [] ⟨(some p21), (.call p68 [(.t p20)]), none⟩
(sN p22 ⟨(some p22), (.v (.build [.nilp] [(0, 1, (.t p21))])), none⟩
(sE [] [] ⟨none, (.v (.st 1 (.t p4) (.t p22))), none⟩
sEnd)))))))))))))))
dRet))), [(.cN p4 1)]⟩
def af127 : AF := ⟨(dSeq (dOps (dV p3 (oBox 128 (.t p0))
(dV p5 (oNew [.nilp] 67)
dE)))
(dSeq (dSeq (dOps (dV p6 (oLdN 1 (.t p3))
(dC (some p7) p65 [(.t p6)]
(dV p8 (oAr .eql (.t p7) (.c (.int .i64 (.ofNat 7))))
dE))))
(dCond (.t p8) (dSeq (dOps (dV p9 (oLdN 1 (.t p3))
(dV p10 (oMv (.t p1))
(dV p11 (oAr .add (.c (.int .i64 (.ofNat 1))) (.t p10))
(dV p12 (oAr .sub (.t p11) (.c (.int .i64 (.ofNat 8))))
(dV p13 (oFa 2 (.t p2))
(dV p14 (oLd1 (.t p13))
(dC (some p15) p115 [(.t p9), (.t p12), (.t p14)]
(dU (oSt 1 (.t p5) (.t p15))
dE)))))))))
dRet) dSkip))
(dSeq (dOps (dV p16 (oLdN 1 (.t p3))
(dV p17 (oMv (.t p1))
(dC (some p18) p128 [(.t p16), (.t p17)]
(dU (oSt 1 (.t p5) (.t p18))
dE)))))
dRet))), [(.cN p5 1)]⟩
def af128 : AF := ⟨(dSeq (dOps (dV p2 (oBox 128 (.t p0))
(dV p4 (oNew [.nilp] 67)
dE)))
(dSeq (dOps (dV p5 (oLdN 1 (.t p2))
(dC (some p6) p120 [(.t p5)]
(dV p7 (oMv (.t p1))
(dC (some p8) p165 [(.t p6), (.t p7)]
(dU (oSt 1 (.t p4) (.t p8))
dE))))))
dRet)), [(.cN p4 1)]⟩
def af129 : AF := ⟨(dSeq (dOps (dV p2 (oMv (.c .nils))
dE))
(dSeq (dSeq (dOps (dV p3 (oMv (.t p0))
(dV p4 (oNchk (.t p3))
(dV p5 (oFa 10 (.t p4))
(dV p6 (oLd1 (.t p5))
(dV p7 (oEq .s false (.t p6) (.c .nils))
(dV p8 (oMv (.t p7))
(dG p8 true (some p9) (dV p9 (oMv (.t p0)))
(dG p8 true (some p10) (dV p10 (oNchk (.t p9)))
(dG p8 true (some p11) (dV p11 (oFa 9 (.t p10)))
(dG p8 true (some p12) (dV p12 (oLd1 (.t p11)))
(dG p8 true (some p13) (dV p13 (oAr .gtr (.t p12) (.c (.int .i64 (.ofNat 0)))))
(dV p14 (oPick (.t p8) (.t p13) (.c (.bool false)))
dE)))))))))))))
(dCond (.t p14) (dOps (dV p15 (oMv (.t p0))
(dV p16 (oMv (.t p0))
(dC (some p17) p166 [(.t p16)]
(dV p18 (oNchk (.t p15))
(dV p19 (oFa 10 (.t p18))
(dU (oSt 1 (.t p19) (.t p17))
dE))))))) dSkip))
(dSeq (dOps (dV p20 (oMv (.t p0))
(dV p21 (oNchk (.t p20))
(dV p22 (oFa 10 (.t p21))
(dV p23 (oLd1 (.t p22))
(dV p2 (oMv (.t p23))
dE))))))
dRet))), [(.t p2)]⟩
def af130 : AF := ⟨(dSeq (dOps (dV p2 (oMv (.c (.bool false)))
dE))
(dSeq (dOps (dV p3 (oMv (.t p0))
(dV p4 (oAr .neq (.t p3) (.c (.str [])))
(dV p5 (oMv (.t p4))
(dG p5 true (some p6) (dV p6 (oMv (.t p0)))
(dG p5 true (some p7) (dV p7 (oLenS (.t p6)))
(dG p5 true (some p8) (dV p8 (oAr .leq (.t p7) (.c (.int .i64 (.ofNat 60)))))
(dV p9 (oPick (.t p5) (.t p8) (.c (.bool false)))
(dV p2 (oMv (.t p9))
dE)))))))))
dRet)), [(.t p2)]⟩
def af131 : AF := ⟨(dSeq (dOps (dV p1 (oBox 39 (.t p0))
(dV p2 (oMv (.c (.int .i64 (.ofNat 0))))
dE)))
(dSeq (dSeq (dOps (dV p6 (oFa 15 (.t p1))
(dV p7 (oLd1 (.t p6))
(dV p8 (oAr .lss (.t p7) (.c (.int .i64 (.ofNat 0))))
(dV p9 (oMv (.t p8))
(dG p9 false (some p10) (dV p10 (oFa 15 (.t p1)))
(dG p9 false (some p11) (dV p11 (oLd1 (.t p10)))
(dG p9 false (some p12) (dV p12 (oAr .gtr (.t p11) (.c (.int .i64 (.ofNat 60)))))
(dV p13 (oPick (.t p9) (.c (.bool true)) (.t p12))
(dV p14 (oMv (.t p13))
(dG p14 false (some p15) (dV p15 (oFa 16 (.t p1)))
(dG p14 false (some p16) (dV p16 (oLd1 (.t p15)))
(dG p14 false (some p17) (dV p17 (oLen (.t p16)))
(dG p14 false (some p18) (dV p18 (oAr .gtr (.t p17) (.c (.int .i64 (.ofNat 40)))))
(dV p19 (oPick (.t p14) (.c (.bool true)) (.t p18))
dE)))))))))))))))
(dCond (.t p19) (dSeq (dOps (dV p2 (oMv (.c (.int .i64 (.ofNat 2))))
dE))
dRet) dSkip))
(dSeq (dSeq (dOps (dV p20 (oFa 16 (.t p1))
(dV p21 (oLd1 (.t p20))
(dV p22 (oLen (.t p21))
(dV p23 (oMv (.c (.int .i64 (.ofNat 0))))
dE)))))
(dBlock 0 (dLoop (dSeq (dOps (dV p24 (oAr .lss (.t p23) (.t p22))
dE))
(dSeq (dCond (.t p24) dSkip (dExit 0))
(dSeq (dBlock 1 (dSeq (dOps (dV p25 (oIa 7 (.t p21) (.t p23))
(dV p26 (oLdN 7 (.t p25))
(dV p4 (oNew [(.str []), (.int .i64 (.ofNat 0)), (.int .i64 (.ofNat 0)), (.bool false), (.str []), .nils, .nils] 108)
(dU (oSt 7 (.t p4) (.t p26))
dE)))))
(dSeq (dSeq (dOps (dV p27 (oFa 0 (.t p4))
(dV p28 (oLd1 (.t p27))
(dC (some p29) p130 [(.t p28)]
(dV p30 (oUn .not (.t p29))
dE)))))
(dCond (.t p30) (dSeq (dOps (dV p2 (oMv (.c (.int .i64 (.ofNat 10))))
dE))
dRet) dSkip))
(dSeq (dOps (dV p31 (oFa 1 (.t p4))
(dV p32 (oLdN 6 (.t p31))
(dC (some p33) p18 [(.t p32)]
(dV p5 (oMv (.t p33))
dE)))))
(dSeq (dOps (dV p34 (oMv (.t p5))
(dV p35 (oAr .neq (.t p34) (.c (.int .i64 (.ofNat 0))))
dE)))
(dCond (.t p35) (dSeq (dOps (dV p36 (oMv (.t p5))
(dV p2 (oMv (.t p36))
dE)))
dRet) dSkip))))))
(dOps (dV p37 (oAr .add (.t p23) (.c (.int .i64 (.ofNat 1))))
(dV p23 (oMv (.t p37))
dE)))))))))
(dSeq (dOps (dV p2 (oMv (.c (.int .i64 (.ofNat 0))))
dE))
dRet)))), [(.t p2)]⟩
def af132 : AF := ⟨(dSeq (dOps (dV p5 (oMv (.t p1))
(dV p6 (oCvI .u64 (.t p5))
(dV p4 (oMv (.t p6))
dE))))
(dSeq (dBlock 0 (dLoop (dSeq (dSeq (dOps (dV p7 (oMv (.t p4))
(dV p8 (oAr .gtr (.t p7) (.c (.int .u64 (.ofNat 127))))
dE)))
(dCond (.t p8) dSkip (dExit 0)))
(dSeq (dBlock 1 (dOps (dV p11 (oMv (.t p0))
(dV p12 (oMv (.t p4))
(dV p13 (oCvI .u8 (.t p12))
(dV p14 (oAr .or (.t p13) (.c (.int .u8 (.ofNat 128))))
(dV p15 (oBuildS 5 1 [(.int .u8 (.ofNat 0))] [(0, 1, (.t p14))])
(dC (some p16) p167 [(.t p11), (.t p15)]
dE))))))))
(dOps (dV p9 (oMv (.t p4))
(dV p10 (oAr .shr (.t p9) (.c (.int .u64 (.ofNat 7))))
(dV p4 (oMv (.t p10))
dE))))))))
(dOps (dV p17 (oMv (.t p0))
(dV p18 (oMv (.t p4))
(dV p19 (oCvI .u8 (.t p18))
(dV p20 (oBuildS 5 1 [(.int .u8 (.ofNat 0))] [(0, 1, (.t p19))])
(dC (some p21) p167 [(.t p17), (.t p20)]
dE)))))))), []⟩
def af133 : AF := ⟨(dSeq (dOps (dV p6 (oMv (.t p0))
(dV p7 (oLen (.t p6))
(dV p8 (oMv (.c (.int .i64 (.ofNat 0))))
dE))))
(dBlock 0 (dLoop (dSeq (dOps (dV p9 (oAr .lss (.t p8) (.t p7))
dE))
(dSeq (dCond (.t p9) dSkip (dExit 0))
(dSeq (dBlock 1 (dSeq (dOps (dV p10 (oIa 17 (.t p6) (.t p8))
(dV p11 (oLdN 17 (.t p10))
(dV p5 (oNew [(.int .i64 (.ofNat 0)), (.str []), (.int .i64 (.ofNat 0)), (.int .i64 (.ofNat 0)), (.int .i64 (.ofNat 0)), (.bool false), (.str []), .nils, .nils, (.int .i64 (.ofNat 0)), (.int .i64 (.ofNat 0)), (.bool false), (.str []), .nils, .nils, (.int .i64 (.ofNat 0)), .nils] 39)
(dU (oSt 17 (.t p5) (.t p11))
dE)))))
(dOps (dV p12 (oMv (.t p1))
(dV p13 (oLdN 17 (.t p5))
(dCv (some p14) (.t p12) [(.t p13)]
dE))))))
(dOps (dV p15 (oAr .add (.t p8) (.c (.int .i64 (.ofNat 1))))
(dV p8 (oMv (.t p15))
dE))))))))), []⟩
def af134 : AF := ⟨(dSeq (dOps (dV p3 (oBox 39 (.t p1))
dE))
(dSeq (dOps (dV p4 (oMv (.t p0))
(dV p5 (oFa 0 (.t p3))
(dV p6 (oLd1 (.t p5))
(dC (some p7) p132 [(.t p4), (.t p6)]
dE)))))
(dSeq (dOps (dV p8 (oMv (.t p0))
(dV p9 (oFa 1 (.t p3))
(dV p10 (oLd1 (.t p9))
(dC (some p11) p168 [(.t p8), (.t p10)]
dE)))))
(dSeq (dOps (dV p12 (oMv (.t p0))
(dV p13 (oFa 2 (.t p3))
(dV p14 (oLd1 (.t p13))
(dC (some p15) p132 [(.t p12), (.t p14)]
dE)))))
(dSeq (dOps (dV p16 (oMv (.t p0))
(dV p17 (oFa 3 (.t p3))
(dV p18 (oLdN 6 (.t p17))
(dC (some p19) p169 [(.t p16), (.t p18)]
dE)))))
(dSeq (dOps (dV p20 (oFa 0 (.t p3))
(dV p21 (oLd1 (.t p20))
dE)))
(dBlock 0 (dSeq (dOps (dV p23 (oAr .eql (.t p21) (.c (.int .i64 (.ofNat 2))))
(dV p22 (oMv (.t p23))
dE)))
(dCond (.t p22) (dOps (dV p24 (oMv (.t p0))
(dV p25 (oFa 9 (.t p3))
(dV p26 (oLdN 6 (.t p25))
(dC (some p27) p169 [(.t p24), (.t p26)]
dE))))) (dSeq (dOps (dV p29 (oAr .eql (.t p21) (.c (.int .i64 (.ofNat 3))))
(dV p28 (oMv (.t p29))
dE)))
(dCond (.t p28) (dSeq (dOps (dV p30 (oMv (.t p0))
(dV p31 (oFa 15 (.t p3))
(dV p32 (oLd1 (.t p31))
(dC (some p33) p132 [(.t p30), (.t p32)]
dE)))))
(dSeq (dOps (dV p34 (oMv (.t p0))
(dV p35 (oFa 16 (.t p3))
(dV p36 (oLd1 (.t p35))
(dV p37 (oLen (.t p36))
(dC (some p38) p132 [(.t p34), (.t p37)]
dE))))))
(dOps (dV p39 (oFa 16 (.t p3))
(dV p40 (oLd1 (.t p39))
(dV p41 (oMv (.t p0))
(dV p42 (oMkf 171 [(.t p41)] [])
(dC (some p43) p170 [(.t p40), (.t p42)]
dE)))))))) dSkip))))))))))), []⟩
def af135 : AF := ⟨(dSeq (dOps (dV p4 (oBox 26 (.t p0))
(dV p5 (oBox 80 (.t p1))
(dV p8 (oNew [(.int .i64 (.ofNat 0)), (.int .i64 (.ofNat 0)), (.bool false), (.str []), .nils, .nils] 26)
(dV p9 (oMv (.c (.int .i64 (.ofNat 0))))
dE)))))
(dSeq (dOps (dV p20 (oMv (.t p2))
(dV p21 (oLdN 6 (.t p4))
(dV p22 (oLdN 2 (.t p5))
(dCv (some p23) (.t p20) [(.t p21), (.t p22)]
(dV p19 (oMv (.t p23))
(dV p24 (oExt (.t p19) 0)
(dV p25 (oExt (.t p19) 1)
(dV p10 (oNew [(.int .i64 (.ofNat 0)), (.int .i64 (.ofNat 0)), (.bool false), (.str []), .nils, .nils] 26)
(dU (oSt 6 (.t p10) (.t p24))
(dV p11 (oMv (.t p25))
dE)))))))))))
(dSeq (dSeq (dOps (dV p26 (oMv (.t p11))
(dV p27 (oAr .neq (.t p26) (.c (.int .i64 (.ofNat 0))))
dE)))
(dCond (.t p27) (dSeq (dOps (dV p28 (oLdN 6 (.t p10))
(dV p29 (oMv (.t p11))
(dU (oSt 6 (.t p8) (.t p28))
(dV p9 (oMv (.t p29))
dE)))))
dRet) dSkip))
(dSeq (dSeq (dOps (dV p30 (oLdN 6 (.t p4))
(dC (some p31) p52 [(.t p30)]
(dV p32 (oMv (.c (.int .i64 (.ofNat 0))))
dE))))
(dBlock 0 (dLoop (dSeq (dOps (dV p33 (oAr .lss (.t p32) (.c (.int .i64 (.ofNat 2))))
dE))
(dSeq (dCond (.t p33) dSkip (dExit 0))
(dSeq (dBlock 1 (dSeq (dOps (dV p34 (oMv (.t p32))
(dV p35 (oIx1 2 (.t p31) (.t p32))
(dV p12 (oMv (.t p34))
(dV p13 (oMv (.t p35))
dE)))))
(dSeq (dOps (dV p36 (oFa 0 (.t p5))
(dV p37 (oLd1 (.t p36))
(dV p38 (oMv (.t p12))
(dV p39 (oAr .add (.t p37) (.t p38))
(dV p40 (oFa 1 (.t p5))
(dV p41 (oLd1 (.t p40))
(dV p42 (oAr .add (.t p41) (.c (.int .i64 (.ofNat 1))))
(dV p43 (oBuild [(.int .i64 (.ofNat 0)), (.int .i64 (.ofNat 0))] [(0, 1, (.t p39)), (1, 1, (.t p42))])
(dV p14 (oNew [(.int .i64 (.ofNat 0)), (.int .i64 (.ofNat 0))] 80)
(dU (oSt 2 (.t p14) (.t p43))
dE)))))))))))
(dSeq (dOps (dV p44 (oMv (.t p13))
(dV p45 (oLen (.t p44))
(dV p46 (oMv (.c (.int .i64 (.ofNat 0))))
dE))))
(dBlock 2 (dLoop (dSeq (dOps (dV p47 (oAr .lss (.t p46) (.t p45))
dE))
(dSeq (dCond (.t p47) dSkip (dExit 2))
(dSeq (dBlock 3 (dSeq (dOps (dV p48 (oIa 6 (.t p44) (.t p46))
(dV p49 (oLdN 6 (.t p48))
(dV p16 (oNew [(.int .i64 (.ofNat 0)), (.int .i64 (.ofNat 0)), (.bool false), (.str []), .nils, .nils] 26)
(dU (oSt 6 (.t p16) (.t p49))
dE)))))
(dSeq (dOps (dV p51 (oLdN 6 (.t p16))
(dV p52 (oLdN 2 (.t p14))
(dV p53 (oMv (.t p2))
(dV p54 (oMv (.t p3))
(dC (some p55) p135 [(.t p51), (.t p52), (.t p53), (.t p54)]
(dV p50 (oMv (.t p55))
(dV p56 (oExt (.t p50) 0)
(dV p57 (oExt (.t p50) 1)
(dV p17 (oNew [(.int .i64 (.ofNat 0)), (.int .i64 (.ofNat 0)), (.bool false), (.str []), .nils, .nils] 26)
(dU (oSt 6 (.t p17) (.t p56))
(dV p18 (oMv (.t p57))
dE))))))))))))
(dSeq (dSeq (dOps (dV p58 (oMv (.t p18))
(dV p59 (oAr .neq (.t p58) (.c (.int .i64 (.ofNat 0))))
dE)))
(dCond (.t p59) (dSeq (dOps (dV p60 (oLdN 6 (.t p10))
(dV p61 (oMv (.t p18))
(dU (oSt 6 (.t p8) (.t p60))
(dV p9 (oMv (.t p61))
dE)))))
dRet) dSkip))
(dOps (dV p62 (oMv (.t p3))
(dV p63 (oLdN 6 (.t p10))
(dV p64 (oLdN 6 (.t p17))
(dCv (some p65) (.t p62) [(.t p63), (.t p64)]
(dU (oSt 6 (.t p10) (.t p65))
dE))))))))))
(dOps (dV p66 (oAr .add (.t p46) (.c (.int .i64 (.ofNat 1))))
(dV p46 (oMv (.t p66))
dE))))))))))))
(dOps (dV p67 (oAr .add (.t p32) (.c (.int .i64 (.ofNat 1))))
(dV p32 (oMv (.t p67))
dE)))))))))
(dSeq (dOps (dV p68 (oLdN 6 (.t p10))
(dU (oSt 6 (.t p8) (.t p68))
(dV p9 (oMv (.c (.int .i64 (.ofNat 0))))
dE))))
dRet))))), [(.cN p8 6), (.t p9)]⟩
def af136 : AF := ⟨(dSeq (dOps (dV p2 (oBox 26 (.t p0))
(dV p3 (oBox 80 (.t p1))
(dV p4 (oNew [(.int .i64 (.ofNat 0)), (.int .i64 (.ofNat 0)), (.bool false), (.str []), .nils, .nils] 26)
(dV p5 (oMv (.c (.int .i64 (.ofNat 0))))
dE)))))
(dSeq (dOps (dV p6 (oLdN 6 (.t p2))
(dC (some p7) p172 [(.t p6)]
(dU (oSt 6 (.t p4) (.t p7))
(dV p5 (oMv (.c (.int .i64 (.ofNat 0))))
dE)))))
dRet)), [(.cN p4 6), (.t p5)]⟩
def af137 : AF := ⟨(dSeq (dOps (dV p2 (oBox 26 (.t p0))
(dV p3 (oBox 26 (.t p1))
(dV p4 (oNew [(.int .i64 (.ofNat 0)), (.int .i64 (.ofNat 0)), (.bool false), (.str []), .nils, .nils] 26)
dE))))
(dSeq (dOps (dV p5 (oFa 5 (.t p2))
(dV p6 (oLd1 (.t p5))
(dV p7 (oLdN 6 (.t p3))
(dV p8 (oBuildS 26 1 [(.int .i64 (.ofNat 0)), (.int .i64 (.ofNat 0)), (.bool false), (.str []), .nils, .nils] [(0, 6, (.t p7))])
(dV p9 (oApp 26 6 (.t p6) (.t p8))
(dV p10 (oFa 5 (.t p2))
(dU (oSt 1 (.t p10) (.t p9))
dE))))))))
(dSeq (dOps (dV p11 (oLdN 6 (.t p2))
(dU (oSt 6 (.t p4) (.t p11))
dE)))
dRet))), [(.cN p4 6)]⟩
def af143 : AF := ⟨(dSeq (dOps (dV p1 (oBox 49 (.t p0))
(dV p2 (oMv (.c (.bool false)))
dE)))
(dSeq (dSeq (dOps (dV p5 (oFa 1 (.t p1))
(dV p6 (oLd1 (.t p5))
(dV p7 (oLen (.t p6))
(dV p8 (oAr .gtr (.t p7) (.c (.int .i64 (.ofNat 64))))
(dV p9 (oMv (.t p8))
(dG p9 false (some p10) (dV p10 (oFa 0 (.t p1)))
(dG p9 false (some p11) (dV p11 (oLd1 (.t p10)))
(dG p9 false (some p12) (dC (some p12) p175 [(.t p11)])
(dG p9 false (some p13) (dV p13 (oUn .not (.t p12)))
(dV p14 (oPick (.t p9) (.c (.bool true)) (.t p13))
dE)))))))))))
(dCond (.t p14) (dSeq (dOps (dV p2 (oMv (.c (.bool false)))
dE))
dRet) dSkip))
(dSeq (dSeq (dOps (dV p15 (oFa 1 (.t p1))
(dV p16 (oLd1 (.t p15))
(dV p17 (oLen (.t p16))
(dV p18 (oMv (.c (.int .i64 (.ofNat 0))))
dE)))))
(dBlock 0 (dLoop (dSeq (dOps (dV p19 (oAr .lss (.t p18) (.t p17))
dE))
(dSeq (dCond (.t p19) dSkip (dExit 0))
(dSeq (dBlock 1 (dSeq (dOps (dV p20 (oIa 2 (.t p16) (.t p18))
(dV p21 (oLdN 2 (.t p20))
(dV p4 (oNew [(.int .i64 (.ofNat 0)), (.int .i64 (.ofNat 0))] 253)
(dU (oSt 2 (.t p4) (.t p21))
dE)))))
(dSeq (dOps (dV p22 (oFa 0 (.t p4))
(dV p23 (oLd1 (.t p22))
(dC (some p24) p175 [(.t p23)]
(dV p25 (oUn .not (.t p24))
(dV p26 (oMv (.t p25))
(dG p26 false (some p27) (dV p27 (oFa 1 (.t p4)))
(dG p26 false (some p28) (dV p28 (oLd1 (.t p27)))
(dG p26 false (some p29) (dC (some p29) p175 [(.t p28)])
(dG p26 false (some p30) (dV p30 (oUn .not (.t p29)))
(dV p31 (oPick (.t p26) (.c (.bool true)) (.t p30))
dE)))))))))))
(dCond (.t p31) (dSeq (dOps (dV p2 (oMv (.c (.bool false)))
dE))
dRet) dSkip))))
(dOps (dV p32 (oAr .add (.t p18) (.c (.int .i64 (.ofNat 1))))
(dV p18 (oMv (.t p32))
dE)))))))))
(dSeq (dOps (dV p2 (oMv (.c (.bool true)))
dE))
dRet)))), [(.t p2)]⟩
def af144 : AF := ⟨(dSeq (dOps (dV p4 (oNew [(.int .i64 (.ofNat 0)), .nils] 49)
(dV p5 (oMv (.c (.int .i64 (.ofNat 0))))
dE)))
(dSeq (dOps (dV p9 (oMv (.t p0))
(dV p10 (oMv (.t p1))
(dC (some p11) p176 [(.t p10), (.c (.fn (.func 177) [] []))]
(dV p12 (oBuild [(.int .i64 (.ofNat 0)), .nils] [(0, 1, (.t p9)), (1, 1, (.t p11))])
(dV p6 (oNew [(.int .i64 (.ofNat 0)), .nils] 49)
(dU (oSt 2 (.t p6) (.t p12))
dE)))))))
(dSeq (dSeq (dOps (dV p13 (oFa 1 (.t p6))
(dV p14 (oLd1 (.t p13))
(dV p15 (oLen (.t p14))
(dV p16 (oMv (.c (.int .i64 (.ofNat 0))))
dE)))))
(dBlock 0 (dLoop (dSeq (dOps (dV p17 (oAr .lss (.t p16) (.t p15))
dE))
(dSeq (dCond (.t p17) dSkip (dExit 0))
(dSeq (dBlock 1 (dSeq (dOps (dV p18 (oIa 2 (.t p14) (.t p16))
(dV p19 (oLdN 2 (.t p18))
(dV p8 (oNew [(.int .i64 (.ofNat 0)), (.int .i64 (.ofNat 0))] 253)
(dU (oSt 2 (.t p8) (.t p19))
dE)))))
(dSeq (dOps (dV p20 (oFa 1 (.t p8))
(dV p21 (oLd1 (.t p20))
(dV p22 (oMv (.t p0))
(dV p23 (oAr .geq (.t p21) (.t p22))
dE)))))
(dCond (.t p23) (dOps (dV p24 (oFa 0 (.t p6))
(dU (oSt 1 (.t p24) (.c (.int .i64 (.ofNat 0))))
dE))) dSkip))))
(dOps (dV p25 (oAr .add (.t p16) (.c (.int .i64 (.ofNat 1))))
(dV p16 (oMv (.t p25))
dE)))))))))
(dSeq (dSeq (dOps (dV p26 (oLdN 2 (.t p6))
(dC (some p27) p143 [(.t p26)]
(dV p28 (oUn .not (.t p27))
dE))))
(dCond (.t p28) (dSeq (dOps (dV p29 (oBuild [(.int .i64 (.ofNat 0)), .nils] [])
(dU (oSt 2 (.t p4) (.t p29))
(dV p5 (oMv (.c (.int .i64 (.ofNat 13))))
dE))))
dRet) dSkip))
(dSeq (dOps (dV p30 (oLdN 2 (.t p6))
(dU (oSt 2 (.t p4) (.t p30))
(dV p5 (oMv (.c (.int .i64 (.ofNat 0))))
dE))))
dRet))))), [(.cN p4 2), (.t p5)]⟩
def af145 : AF := ⟨(dSeq (dOps (dV p4 (oMv (.c (.bool false)))
dE))
(dSeq (dSeq (dOps (dV p6 (oMv (.t p0))
(dV p7 (oLen (.t p6))
(dV p8 (oMv (.t p1))
(dV p9 (oLen (.t p8))
(dV p10 (oAr .neq (.t p7) (.t p9))
dE))))))
(dCond (.t p10) (dSeq (dOps (dV p4 (oMv (.c (.bool false)))
dE))
dRet) dSkip))
(dSeq (dSeq (dOps (dV p11 (oMv (.t p0))
(dV p12 (oLen (.t p11))
(dV p13 (oMv (.c (.int .i64 (.ofNat 0))))
dE))))
(dBlock 0 (dLoop (dSeq (dOps (dV p14 (oAr .lss (.t p13) (.t p12))
dE))
(dSeq (dCond (.t p14) dSkip (dExit 0))
(dSeq (dBlock 1 (dSeq (dOps (dV p15 (oMv (.t p13))
(dV p5 (oMv (.t p15))
dE)))
(dSeq (dDraw (sN p16 ⟨(some p16), (.v (.mv (.t p0))), none⟩
(sN p17 ⟨(some p17), (.v (.mv (.t p5))), none⟩
(sN p18 ⟨(some p18), (.v (.ia 2 (.t p16) (.t p17))), none⟩
(sN p19 ⟨(some p19), (.v (.ldN 2 (.t p18))), none⟩
(sN p20 ⟨(some p20), (.v (.mv (.t p1))), none⟩
(sN p21 ⟨(some p21), (.v (.mv (.t p5))), none⟩
(sN p22 ⟨(some p22), (.v (.ia 2 (.t p20) (.t p21))), none⟩
(sN p23 ⟨(some p23), (.v (.ldN 2 (.t p22))), none⟩
(sN p24 ⟨(some p24), (.v (.ar .neq (.t p19) (.t p23))), none⟩
sEnd))))))))))
(dCond (.t p24) (dSeq (dOps (dV p4 (oMv (.c (.bool false)))
dE))
dRet) dSkip))))
(dOps (dV p25 (oAr .add (.t p13) (.c (.int .i64 (.ofNat 1))))
(dV p13 (oMv (.t p25))
dE)))))))))
(dSeq (dOps (dV p4 (oMv (.c (.bool true)))
dE))
dRet)))), [(.t p4)]⟩
def af146 : AF := ⟨(dSeq (dOps (dV p2 (oBox 49 (.t p0))
(dV p3 (oBox 49 (.t p1))
(dV p4 (oMv (.c .nilf))
dE))))
(dSeq (dOps (dV p5 (oMkf 178 [] [(.t p2), (.t p3)])
(dV p4 (oMv (.t p5))
dE)))
dRet)), [(.t p4)]⟩
def af147 : AF := ⟨(dSeq (dOps (dV p4 (oMv (.c (.bool false)))
dE))
(dSeq (dSeq (dOps (dV p6 (oMv (.t p0))
(dV p7 (oNchk (.t p6))
(dV p8 (oFa 0 (.t p7))
(dV p9 (oFa 0 (.t p8))
(dV p10 (oLd1 (.t p9))
(dV p11 (oMv (.t p1))
(dC (some p12) p66 [(.t p10), (.t p11)]
(dV p13 (oAr .eql (.t p12) (.c (.int .i64 (.ofNat 0))))
dE)))))))))
(dCond (.t p13) (dSeq (dOps (dV p4 (oMv (.c (.bool false)))
dE))
dRet) dSkip))
(dSeq (dOps (dV p14 (oMv (.t p0))
(dV p15 (oNchk (.t p14))
(dV p16 (oFa 6 (.t p15))
(dV p17 (oLd1 (.t p16))
(dV p18 (oMv (.t p1))
(dV p19 (oIa 1 (.t p17) (.t p18))
(dV p20 (oLd1 (.t p19))
(dC (some p21) p129 [(.t p20)]
(dV p5 (oMv (.t p21))
dE))))))))))
(dSeq (dOps (dV p22 (oMv (.t p5))
(dV p23 (oLen (.t p22))
(dV p24 (oAr .gtr (.t p23) (.c (.int .i64 (.ofNat 0))))
(dV p25 (oMv (.t p24))
(dG p25 true (some p26) (dV p26 (oMv (.t p5)))
(dG p25 true (some p27) (dV p27 (oIa 4 (.t p26) (.c (.int .i64 (.ofNat 0)))))
(dG p25 true (some p28) (dV p28 (oFa 0 (.t p27)))
(dG p25 true (some p29) (dV p29 (oLd1 (.t p28)))
(dG p25 true (some p30) (dV p30 (oAr .eql (.t p29) (.c (.int .i64 (.ofNat 0)))))
(dV p31 (oPick (.t p25) (.t p30) (.c (.bool false)))
(dV p4 (oMv (.t p31))
dE))))))))))))
dRet)))), [(.t p4)]⟩
def af148 : AF := ⟨(dSeq (dOps (dV p3 (oBox 135 (.t p0))
(dV p6 (oMv (.c .nilp))
dE)))
(dSeq (dSeq (dOps (dV p7 (oFa 3 (.t p3))
(dV p8 (oLd1 (.t p7))
(dV p9 (oEq .p true (.t p8) (.c .nilp))
dE))))
(dCond (.t p9) (dSeq (dOps (dV p10 (oFa 3 (.t p3))
(dV p11 (oLd1 (.t p10))
(dV p6 (oMv (.t p11))
dE))))
dRet) dSkip))
(dSeq (dSeq (dOps (dV p12 (oFa 0 (.t p3))
(dV p13 (oFa 2 (.t p12))
(dV p14 (oLd1 (.t p13))
(dV p15 (oNchk (.t p14))
(dV p16 (oFa 0 (.t p15))
(dV p17 (oFa 0 (.t p16))
(dV p18 (oLd1 (.t p17))
(dV p19 (oMv (.t p1))
(dC (some p20) p66 [(.t p18), (.t p19)]
(dV p21 (oAr .eql (.t p20) (.c (.int .i64 (.ofNat 0))))
dE)))))))))))
(dCond (.t p21) (dSeq (dOps (dV p22 (oFa 0 (.t p3))
(dV p23 (oLdN 3 (.t p22))
(dV p24 (oMv (.t p1))
(dC (some p25) p156 [(.t p23), (.t p24)]
(dV p6 (oMv (.t p25))
dE))))))
dRet) dSkip))
(dSeq (dDraw (sN p26 ⟨(some p26), (.v (.fa 0 (.t p3))), none⟩
(sN p27 ⟨(some p27), (.v (.fa 0 (.t p26))), none⟩
(sN p28 ⟨(some p28), (.v (.ldN 2 (.t p27))), none⟩
(sN p29 ⟨(some p29), (.v (.mv (.t p2))), none⟩
(sN p32 ⟨(some p32), (.v (.fa 0 (.t p3))), none⟩
(sN p33 ⟨(some p33), (.v (.fa 2 (.t p32))), none⟩
(sN p34 ⟨(some p34), (.v (.ld1 (.t p33))), none⟩
(sN p36 ⟨(some p36), (.v (.mv (.t p1))), none⟩
(sE [] [(p28, ⟨(some p28), (.v (.ldN 2 (.t p27))), none⟩), (p34, ⟨(some p34), (.v (.ld1 (.t p33))), none⟩)] ⟨(some p30), (.call p164 [(.t p29)]), none⟩
(sE [] [(p34, ⟨(some p34), (.v (.ld1 (.t p33))), none⟩)] ⟨(some p31), (.call p163 [(.t p28), (.t p30)]), none⟩
(sN p35 ⟨(some p35), (.v (.build [.nilp, (.int .i64 (.ofNat 0)), .nilp] [(0, 2, (.t p31)), (2, 1, (.t p34))])), none⟩
(sE [] [] ⟨(some p37), (.call p156 [(.t p35), (.t p36)]), none⟩
(sN p6 ⟨(some p6), (.v (.mv (.t p37))), none⟩
sEnd))))))))))))))
dRet)))), [(.t p6)]⟩
def af149 : AF := ⟨(dBlock 0 (dLoop (dSeq (dSeq (dOps (dV p3 (oLd1 (.t p1))
(dV p4 (oEq .p true (.t p3) (.c .nilp))
(dV p5 (oMv (.t p4))
(dG p5 true (some p6) (dV p6 (oMv (.t p0)))
(dG p5 true (some p7) (dV p7 (oLd1 (.t p1)))
(dG p5 true (some p8) (dCv (some p8) (.t p6) [(.t p7)])
(dV p9 (oPick (.t p5) (.t p8) (.c (.bool false)))
dE))))))))
(dCond (.t p9) dSkip (dExit 0)))
(dSeq (dBlock 1 dSkip)
(dOps (dV p10 (oLd1 (.t p1))
(dV p11 (oNchk (.t p10))
(dV p12 (oFa 2 (.t p11))
(dV p13 (oLd1 (.t p12))
(dU (oSt 1 (.t p1) (.t p13))
dE)))))))))), []⟩
def af150 : AF := ⟨(dSeq (dOps (dV p4 (oLd1 (.t p1))
(dV p5 (oLen (.t p4))
(dV p6 (oAr .sub (.t p5) (.c (.int .i64 (.ofNat 1))))
(dV p3 (oMv (.t p6))
dE)))))
(dBlock 0 (dLoop (dSeq (dSeq (dOps (dV p7 (oMv (.t p3))
(dV p8 (oAr .geq (.t p7) (.c (.int .i64 (.ofNat 0))))
dE)))
(dCond (.t p8) dSkip (dExit 0)))
(dSeq (dBlock 1 (dSeq (dOps (dV p11 (oMv (.t p0))
(dV p12 (oMv (.t p3))
(dV p13 (oLd1 (.t p1))
(dV p14 (oMv (.t p3))
(dV p15 (oIa 1 (.t p13) (.t p14))
(dV p16 (oLd1 (.t p15))
(dCv (some p17) (.t p11) [(.t p12), (.t p16)]
(dV p18 (oUn .not (.t p17))
dE)))))))))
(dCond (.t p18) dRet dSkip)))
(dOps (dV p9 (oMv (.t p3))
(dV p10 (oAr .sub (.t p9) (.c (.int .i64 (.ofNat 1))))
(dV p3 (oMv (.t p10))
dE))))))))), []⟩
def af151 : AF := ⟨(dSeq (dOps (dV p2 (oBox 228 (.t p0))
(dV p4 (oMv (.c .nils))
dE)))
(dSeq (dSeq (dOps (dV p6 (oMv (.t p1))
dE))
(dBlock 0 (dRange (.t p6) [p7] (dOps (dV p5 (oMv (.t p7))
dE)) (dBlock 1 (dOps (dV p8 (oLd1 (.t p2))
(dV p9 (oMv (.t p5))
(dV p10 (oBuildS 136 1 [.nilp] [(0, 1, (.t p9))])
(dV p11 (oApp 136 1 (.t p8) (.t p10))
(dU (oSt 1 (.t p2) (.t p11))
dE))))))))))
(dSeq (dOps (dV p12 (oLd1 (.t p2))
(dV p4 (oMv (.t p12))
dE)))
dRet))), [(.t p4)]⟩
def af152 : AF := ⟨(dSeq (dOps (dV p2 (oBox 138 (.t p0))
(dV p3 (oBox 138 (.t p1))
(dV p4 (oNew [(.int .i64 (.ofNat 0)), (.int .i64 (.ofNat 0))] 138)
dE))))
(dSeq (dOps (dV p5 (oFa 0 (.t p2))
(dV p6 (oLd1 (.t p5))
(dV p7 (oFa 0 (.t p3))
(dV p8 (oLd1 (.t p7))
(dV p9 (oAr .add (.t p6) (.t p8))
(dV p10 (oFa 1 (.t p2))
(dV p11 (oLd1 (.t p10))
(dV p12 (oFa 1 (.t p3))
(dV p13 (oLd1 (.t p12))
(dV p14 (oAr .add (.t p11) (.t p13))
(dV p15 (oBuild [(.int .i64 (.ofNat 0)), (.int .i64 (.ofNat 0))] [(0, 1, (.t p9)), (1, 1, (.t p14))])
(dU (oSt 2 (.t p4) (.t p15))
dE)))))))))))))
dRet)), [(.cN p4 2)]⟩
def af153 : AF := ⟨(dSeq (dOps (dV p2 (oNew [(.int .i64 (.ofNat 0)), (.int .i64 (.ofNat 0))] 138)
dE))
(dSeq (dSeq (dOps (dV p3 (oMv (.t p0))
(dV p4 (oEq .p false (.t p3) (.c .nilp))
dE)))
(dCond (.t p4) (dSeq (dOps (dV p5 (oBuild [(.int .i64 (.ofNat 0)), (.int .i64 (.ofNat 0))] [])
(dU (oSt 2 (.t p2) (.t p5))
dE)))
dRet) dSkip))
(dSeq (dOps (dV p6 (oMv (.t p0))
(dV p7 (oNchk (.t p6))
(dV p8 (oFa 3 (.t p7))
(dV p9 (oLdN 2 (.t p8))
(dU (oSt 2 (.t p2) (.t p9))
dE))))))
dRet))), [(.cN p2 2)]⟩
def af154 : AF := ⟨(dSeq (dOps (dV p1 (oBox 128 (.t p0))
(dV p2 (oNew [(.int .i64 (.ofNat 0)), (.int .i64 (.ofNat 0)), (.int .i64 (.ofNat 0)), (.int .i64 (.ofNat 0))] 140)
dE)))
(dSeq (dOps (dV p5 (oFa 0 (.t p1))
(dV p6 (oLd1 (.t p5))
(dV p7 (oNchk (.t p6))
(dV p8 (oFa 0 (.t p7))
(dV p9 (oFa 0 (.t p8))
(dV p10 (oLdN 3 (.t p9))
(dC (some p11) p98 [(.t p10)]
(dV p3 (oNew [(.int .i64 (.ofNat 0)), (.int .i64 (.ofNat 0)), (.int .i64 (.ofNat 0)), (.int .i64 (.ofNat 0))] 140)
(dU (oSt 4 (.t p3) (.t p11))
dE))))))))))
(dSeq (dSeq (dOps (dV p12 (oFa 0 (.t p1))
(dV p13 (oLd1 (.t p12))
(dV p14 (oNchk (.t p13))
(dV p15 (oFa 4 (.t p14))
(dV p16 (oLd1 (.t p15))
(dC (some p17) p116 [(.t p16)]
dE)))))))
(dBlock 0 (dRange (.t p17) [p18] (dOps (dV p4 (oMv (.t p18))
dE)) (dBlock 1 (dDraw (sN p19 ⟨(some p19), (.v (.fa 0 (.t p3))), none⟩
(sN p20 ⟨(some p20), (.v (.ld1 (.t p19))), none⟩
(sN p21 ⟨(some p21), (.v (.ar .add (.t p20) (.c (.int .i64 (.ofNat 1))))), none⟩
(sN p22 ⟨(some p22), (.v (.mv (.t p4))), none⟩
(sN p23 ⟨(some p23), (.v (.nchk (.t p22))), none⟩
(sN p24 ⟨(some p24), (.v (.fa 0 (.t p23))), none⟩
(sN p25 ⟨(some p25), (.v (.ld1 (.t p24))), none⟩
(sN p26 ⟨(some p26), (.v (.nchk (.t p25))), none⟩
(sN p27 ⟨(some p27), (.v (.fa 3 (.t p26))), none⟩
(sN p28 ⟨(some p28), (.v (.fa 0 (.t p27))), none⟩
(sN p29 ⟨(some p29), (.v (.ld1 (.t p28))), none⟩
(sN p30 ⟨(some p30), (.v (.ar .add (.t p21) (.t p29))), none⟩
(sN p31 ⟨(some p31), (.v (.fa 1 (.t p3))), none⟩
(sN p32 ⟨(some p32), (.v (.ld1 (.t p31))), none⟩
(sN p33 ⟨(some p33), (.v (.mv (.t p4))), none⟩
(sN p34 ⟨(some p34), (.v (.nchk (.t p33))), none⟩
(sN p35 ⟨(some p35), (.v (.fa 0 (.t p34))), none⟩
(sN p36 ⟨(some p36), (.v (.ld1 (.t p35))), none⟩
(sN p37 ⟨(some p37), (.v (.nchk (.t p36))), none⟩
(sN p38 ⟨(some p38), (.v (.fa 3 (.t p37))), none⟩
(sN p39 ⟨(some p39), (.v (.fa 1 (.t p38))), none⟩
(sN p40 ⟨(some p40), (.v (.ld1 (.t p39))), none⟩
(sN p41 ⟨(some p41), (.v (.mm true [(.t p32), (.t p40)])), none⟩
(sN p42 ⟨(some p42), (.v (.ar .add (.t p41) (.c (.int .i64 (.ofNat 1))))), none⟩
(sN p43 ⟨(some p43), (.v (.fa 2 (.t p3))), none⟩
(sN p44 ⟨(some p44), (.v (.ld1 (.t p43))), none⟩
(sN p45 ⟨(some p45), (.v (.mv (.t p4))), none⟩
(sN p46 ⟨(some p46), (.v (.nchk (.t p45))), none⟩
(sN p47 ⟨(some p47), (.v (.fa 0 (.t p46))), none⟩
(sN p48 ⟨(some p48), (.v (.ld1 (.t p47))), none⟩
(sN p49 ⟨(some p49), (.v (.nchk (.t p48))), none⟩
(sN p50 ⟨(some p50), (.v (.fa 3 (.t p49))), none⟩
(sN p51 ⟨(some p51), (.v (.fa 2 (.t p50))), none⟩
(sN p52 ⟨(some p52), (.v (.ld1 (.t p51))), none⟩
(sN p53 ⟨(some p53), (.v (.mm true [(.t p44), (.t p52)])), none⟩
(sN p54 ⟨(some p54), (.v (.fa 3 (.t p3))), none⟩
(sN p55 ⟨(some p55), (.v (.ld1 (.t p54))), none⟩
(sN p56 ⟨(some p56), (.v (.mv (.t p4))), none⟩
(sN p57 ⟨(some p57), (.v (.nchk (.t p56))), none⟩
(sN p58 ⟨(some p58), (.v (.fa 0 (.t p57))), none⟩
(sN p59 ⟨(some p59), (.v (.ld1 (.t p58))), none⟩
(sN p60 ⟨(some p60), (.v (.nchk (.t p59))), none⟩
(sN p61 ⟨(some p61), (.v (.fa 3 (.t p60))), none⟩
(sN p62 ⟨(some p62), (.v (.fa 3 (.t p61))), none⟩
(sN p63 ⟨(some p63), (.v (.ld1 (.t p62))), none⟩
(sN p64 ⟨(some p64), (.v (.mm true [(.t p55), (.t p63)])), none⟩
(sN p65 ⟨(some p65), (.v (.build [(.int .i64 (.ofNat 0)), (.int .i64 (.ofNat 0)), (.int .i64 (.ofNat 0)), (.int .i64 (.ofNat 0))] [(0, 1, (.t p30)), (1, 1, (.t p42)), (2, 1, (.t p53)), (3, 1, (.t p64))])), none⟩
(sE [] [] ⟨none, (.v (.st 4 (.t p3) (.t p65))), none⟩
sEnd)))))))))))))))))))))))))))))))))))))))))))))))))))))
(dSeq (dOps (dV p66 (oLdN 4 (.t p3))
(dU (oSt 4 (.t p2) (.t p66))
dE)))
dRet)))), [(.cN p2 4)]⟩
def af155 : AF := ⟨(dSeq (dOps (dV p2 (oBox 264 (.t p0))
(dV p3 (oBox 201 (.t p1))
dE)))
(dSeq (dDraw (sN p4 ⟨(some p4), (.v (.fa 1 (.t p2))), none⟩
(sN p5 ⟨(some p5), (.v (.ld1 (.t p4))), none⟩
(sN p6 ⟨(some p6), (.v (.fa 1 (.t p2))), none⟩
(sN p7 ⟨(some p7), (.v (.ld1 (.t p6))), none⟩
(sN p8 ⟨(some p8), (.v (.fa 0 (.t p2))), none⟩
(sN p9 ⟨(some p9), (.v (.ld1 (.t p8))), none⟩
(sN p10 ⟨(some p10), (.v (.nchk (.t p9))), none⟩
(sN p11 ⟨(some p11), (.v (.fa 8 (.t p10))), none⟩
(sN p12 ⟨(some p12), (.v (.fa 7 (.t p11))), none⟩
(sN p13 ⟨(some p13), (.v (.ldN 4 (.t p12))), none⟩
(sN p14 ⟨(some p14), (.v (.nchk (.t p5))), none⟩
(sN p15 ⟨(some p15), (.v (.fa 7 (.t p14))), none⟩
(sE [] [(p7, ⟨(some p7), (.v (.ld1 (.t p6))), none⟩)] ⟨none, (.v (.st 1 (.t p15) (.t p3))), none⟩
(sN p16 ⟨(some p16), (.v (.nchk (.t p7))), none⟩
(sN p17 ⟨(some p17), (.v (.fa 8 (.t p16))), none⟩
(sE [] [] ⟨none, (.v (.st 4 (.t p17) (.t p13))), none⟩
sEnd)))))))))))))))))
(dOps (dV p18 (oFa 0 (.t p2))
(dV p19 (oLd1 (.t p18))
(dV p20 (oFa 2 (.t p2))
(dV p21 (oLdN 11 (.t p20))
(dV p22 (oNchk (.t p19))
(dV p23 (oFa 8 (.t p22))
(dU (oSt 11 (.t p23) (.t p21))
dE)))))))))), []⟩
def af156 : AF := ⟨(dSeq (dOps (dV p2 (oBox 104 (.t p0))
(dV p4 (oMv (.c .nilp))
dE)))
(dSeq (dDraw (sN p5 ⟨(some p5), (.v (.fa 0 (.t p2))), none⟩
(sN p6 ⟨(some p6), (.v (.ldN 2 (.t p5))), none⟩
(sN p7 ⟨(some p7), (.v (.fa 2 (.t p2))), none⟩
(sN p8 ⟨(some p8), (.v (.ld1 (.t p7))), none⟩
(sN p9 ⟨(some p9), (.v (.nchk (.t p8))), none⟩
(sN p10 ⟨(some p10), (.v (.fa 6 (.t p9))), none⟩
(sN p11 ⟨(some p11), (.v (.ld1 (.t p10))), none⟩
(sN p12 ⟨(some p12), (.v (.mv (.t p1))), none⟩
(sN p13 ⟨(some p13), (.v (.ia 1 (.t p11) (.t p12))), none⟩
(sN p14 ⟨(some p14), (.v (.ld1 (.t p13))), none⟩
(sN p15 ⟨(some p15), (.v (.build [.nilp, (.int .i64 (.ofNat 0)), .nilp] [(0, 2, (.t p6)), (2, 1, (.t p14))])), none⟩
(sE [] [] ⟨(some p16), (.call p44 [(.t p15)]), none⟩
(sN p4 ⟨(some p4), (.v (.mv (.t p16))), none⟩
sEnd))))))))))))))
dRet)), [(.t p4)]⟩
def af157 : AF := ⟨(dSeq (dOps (dV p2 (oMv (.c (.bool false)))
dE))
(dSeq (dDraw (sN p4 ⟨(some p4), (.v (.mv (.t p0))), none⟩
(sN p5 ⟨(some p5), (.v (.nchk (.t p4))), none⟩
(sN p6 ⟨(some p6), (.v (.fa 8 (.t p5))), none⟩
(sN p7 ⟨(some p7), (.v (.fa 0 (.t p6))), none⟩
(sN p8 ⟨(some p8), (.v (.fa 0 (.t p7))), none⟩
(sN p9 ⟨(some p9), (.v (.fa 0 (.t p8))), none⟩
(sN p10 ⟨(some p10), (.v (.ldN 2 (.t p9))), none⟩
(sN p11 ⟨(some p11), (.v (.mv (.t p0))), none⟩
(sN p12 ⟨(some p12), (.v (.nchk (.t p11))), none⟩
(sN p13 ⟨(some p13), (.v (.fa 8 (.t p12))), none⟩
(sN p14 ⟨(some p14), (.v (.fa 0 (.t p13))), none⟩
(sN p15 ⟨(some p15), (.v (.fa 0 (.t p14))), none⟩
(sN p16 ⟨(some p16), (.v (.fa 2 (.t p15))), none⟩
(sN p17 ⟨(some p17), (.v (.ld1 (.t p16))), none⟩
(sN p18 ⟨(some p18), (.v (.nchk (.t p17))), none⟩
(sN p19 ⟨(some p19), (.v (.fa 0 (.t p18))), none⟩
(sN p20 ⟨(some p20), (.v (.fa 1 (.t p19))), none⟩
(sN p21 ⟨(some p21), (.v (.ld1 (.t p20))), none⟩
(sE [] [] ⟨(some p22), (.call p67 [(.t p10), (.t p21)]), none⟩
(sN p3 ⟨(some p3), (.v (.mv (.t p22))), none⟩
sEnd)))))))))))))))))))))
(dSeq (dSeq (dOps (dV p23 (oMv (.t p3))
(dV p24 (oEq .p false (.t p23) (.c .nilp))
dE)))
(dCond (.t p24) (dSeq (dOps (dV p2 (oMv (.c (.bool false)))
dE))
dRet) dSkip))
(dSeq (dSeq (dOps (dV p25 (oMv (.t p3))
(dV p26 (oNchk (.t p25))
(dV p27 (oFa 7 (.t p26))
(dV p28 (oLd1 (.t p27))
(dV p29 (oEq .p false (.t p28) (.c .nilp))
dE))))))
(dCond (.t p29) (dSeq (dDraw (sN p30 ⟨(some p30), (.v (.mv (.t p0))), none⟩
(sN p31 ⟨(some p31), (.v (.mv (.t p3))), none⟩
(sN p32 ⟨(some p32), (.v (.mv (.t p0))), none⟩
(sN p33 ⟨(some p33), (.v (.nchk (.t p32))), none⟩
(sN p34 ⟨(some p34), (.v (.fa 8 (.t p33))), none⟩
(sN p35 ⟨(some p35), (.v (.fa 4 (.t p34))), none⟩
(sN p36 ⟨(some p36), (.v (.ld1 (.t p35))), none⟩
(sN p38 ⟨(some p38), (.v (.mv (.t p0))), none⟩
(sN p39 ⟨(some p39), (.v (.nchk (.t p38))), none⟩
(sN p40 ⟨(some p40), (.v (.fa 8 (.t p39))), none⟩
(sN p41 ⟨(some p41), (.v (.fa 5 (.t p40))), none⟩
(sN p42 ⟨(some p42), (.v (.ldN 2 (.t p41))), none⟩
(sE [] [(p42, ⟨(some p42), (.v (.ldN 2 (.t p41))), none⟩)] ⟨(some p37), (.call p153 [(.t p36)]), none⟩
(sE [] [] ⟨(some p43), (.call p152 [(.t p37), (.t p42)]), none⟩
(sE [] [] ⟨(some p44), (.call p121 [(.t p30), (.t p31), (.t p43)]), none⟩
sEnd))))))))))))))))
(dSeq (dOps (dV p2 (oMv (.c (.bool true)))
dE))
dRet)) dSkip))
(dSeq (dOps (dV p45 (oMv (.t p0))
(dV p46 (oMv (.t p3))
(dV p47 (oNchk (.t p46))
(dV p48 (oFa 8 (.t p47))
(dV p49 (oLdN 4 (.t p48))
(dC (some p50) p181 [(.t p45), (.t p49)]
dE)))))))
(dSeq (dDraw (sN p51 ⟨(some p51), (.v (.mv (.t p0))), none⟩
(sN p52 ⟨(some p52), (.v (.mv (.t p0))), none⟩
(sN p53 ⟨(some p53), (.v (.mv (.t p3))), none⟩
(sN p54 ⟨(some p54), (.v (.nchk (.t p53))), none⟩
(sN p55 ⟨(some p55), (.v (.fa 7 (.t p54))), none⟩
(sN p56 ⟨(some p56), (.v (.ld1 (.t p55))), none⟩
(sN p57 ⟨(some p57), (.v (.nchk (.t p56))), none⟩
(sN p58 ⟨(some p58), (.v (.fa 0 (.t p57))), none⟩
(sN p59 ⟨(some p59), (.v (.ldN 4 (.t p58))), none⟩
(sN p60 ⟨(some p60), (.v (.mv (.t p3))), none⟩
(sN p61 ⟨(some p61), (.v (.nchk (.t p60))), none⟩
(sN p62 ⟨(some p62), (.v (.fa 7 (.t p61))), none⟩
(sN p63 ⟨(some p63), (.v (.ld1 (.t p62))), none⟩
(sN p64 ⟨(some p64), (.v (.nchk (.t p63))), none⟩
(sN p65 ⟨(some p65), (.v (.fa 4 (.t p64))), none⟩
(sN p66 ⟨(some p66), (.v (.ld1 (.t p65))), none⟩
(sN p67 ⟨(some p67), (.v (.mv (.t p0))), none⟩
(sN p68 ⟨(some p68), (.v (.nchk (.t p67))), none⟩
(sN p69 ⟨(some p69), (.v (.fa 8 (.t p68))), none⟩
(sN p70 ⟨(some p70), (.v (.fa 4 (.t p69))), none⟩
(sN p71 ⟨(some p71), (.v (.ld1 (.t p70))), none⟩
(sE [] [(p56, ⟨(some p56), (.v (.ld1 (.t p55))), none⟩), (p59, ⟨(some p59), (.v (.ldN 4 (.t p58))), none⟩)] ⟨(some p72), (.call p182 [(.t p66), (.t p71)]), none⟩
(sN p73 ⟨(some p73), (.v (.nchk (.t p51))), none⟩
(sN p74 ⟨(some p74), (.v (.fa 8 (.t p73))), none⟩
(sN p75 ⟨(some p75), (.v (.fa 0 (.t p74))), none⟩
(sE [] [] ⟨none, (.v (.st 4 (.t p75) (.t p59))), none⟩
(sN p76 ⟨(some p76), (.v (.nchk (.t p52))), none⟩
(sN p77 ⟨(some p77), (.v (.fa 8 (.t p76))), none⟩
(sN p78 ⟨(some p78), (.v (.fa 4 (.t p77))), none⟩
(sE [] [] ⟨none, (.v (.st 1 (.t p78) (.t p72))), none⟩
sEnd)))))))))))))))))))))))))))))))
(dSeq (dOps (dV p2 (oMv (.c (.bool true)))
dE))
dRet))))))), [(.t p2)]⟩
def af158 : AF := ⟨(dSeq (dOps (dV p2 (oMv (.c (.bool false)))
dE))
(dSeq (dSeq (dOps (dV p3 (oMv (.t p0))
(dV p4 (oNchk (.t p3))
(dV p5 (oFa 8 (.t p4))
(dV p6 (oFa 4 (.t p5))
(dV p7 (oLd1 (.t p6))
(dV p8 (oEq .p false (.t p7) (.c .nilp))
dE)))))))
(dCond (.t p8) (dSeq (dOps (dV p2 (oMv (.c (.bool false)))
dE))
dRet) dSkip))
(dSeq (dOps (dV p9 (oMv (.t p0))
(dC (some p10) p183 [(.t p9)]
dE)))
(dSeq (dDraw (sN p11 ⟨(some p11), (.v (.mv (.t p0))), none⟩
(sN p12 ⟨(some p12), (.v (.mv (.t p0))), none⟩
(sN p13 ⟨(some p13), (.v (.nchk (.t p12))), none⟩
(sN p14 ⟨(some p14), (.v (.fa 8 (.t p13))), none⟩
(sN p15 ⟨(some p15), (.v (.fa 0 (.t p14))), none⟩
(sN p16 ⟨(some p16), (.v (.fa 0 (.t p15))), none⟩
(sN p17 ⟨(some p17), (.v (.fa 0 (.t p16))), none⟩
(sN p18 ⟨(some p18), (.v (.ldN 2 (.t p17))), none⟩
(sN p19 ⟨(some p19), (.v (.mv (.t p0))), none⟩
(sN p20 ⟨(some p20), (.v (.nchk (.t p19))), none⟩
(sN p21 ⟨(some p21), (.v (.fa 8 (.t p20))), none⟩
(sN p22 ⟨(some p22), (.v (.fa 4 (.t p21))), none⟩
(sN p23 ⟨(some p23), (.v (.ld1 (.t p22))), none⟩
(sN p24 ⟨(some p24), (.v (.nchk (.t p23))), none⟩
(sN p25 ⟨(some p25), (.v (.fa 0 (.t p24))), none⟩
(sN p26 ⟨(some p26), (.v (.ld1 (.t p25))), none⟩
(sN p28 ⟨(some p28), (.v (.mv (.t p0))), none⟩
(sN p29 ⟨(some p29), (.v (.nchk (.t p28))), none⟩
(sN p30 ⟨(some p30), (.v (.fa 8 (.t p29))), none⟩
(sN p31 ⟨(some p31), (.v (.fa 0 (.t p30))), none⟩
(sN p32 ⟨(some p32), (.v (.fa 0 (.t p31))), none⟩
(sN p33 ⟨(some p33), (.v (.fa 2 (.t p32))), none⟩
(sN p34 ⟨(some p34), (.v (.ld1 (.t p33))), none⟩
(sN p35 ⟨(some p35), (.v (.nchk (.t p34))), none⟩
(sN p36 ⟨(some p36), (.v (.fa 6 (.t p35))), none⟩
(sN p37 ⟨(some p37), (.v (.ld1 (.t p36))), none⟩
(sN p38 ⟨(some p38), (.v (.ia 1 (.t p37) (.c (.int .i64 (.ofNat 1))))), none⟩
(sN p39 ⟨(some p39), (.v (.ld1 (.t p38))), none⟩
(sN p41 ⟨(some p41), (.v (.mv (.t p0))), none⟩
(sN p42 ⟨(some p42), (.v (.nchk (.t p41))), none⟩
(sN p43 ⟨(some p43), (.v (.fa 8 (.t p42))), none⟩
(sN p44 ⟨(some p44), (.v (.fa 4 (.t p43))), none⟩
(sN p45 ⟨(some p45), (.v (.ld1 (.t p44))), none⟩
(sN p46 ⟨(some p46), (.v (.nchk (.t p45))), none⟩
(sN p47 ⟨(some p47), (.v (.fa 2 (.t p46))), none⟩
(sN p48 ⟨(some p48), (.v (.ld1 (.t p47))), none⟩
(sE [] [(p34, ⟨(some p34), (.v (.ld1 (.t p33))), none⟩), (p37, ⟨(some p37), (.v (.ld1 (.t p36))), none⟩), (p39, ⟨(some p39), (.v (.ld1 (.t p38))), none⟩), (p45, ⟨(some p45), (.v (.ld1 (.t p44))), none⟩), (p48, ⟨(some p48), (.v (.ld1 (.t p47))), none⟩)] ⟨(some p27), (.call p163 [(.t p18), (.t p26)]), none⟩
(sN p40 ⟨(some p40), (.v (.build [.nilp, (.int .i64 (.ofNat 0)), .nilp] [(0, 2, (.t p27)), (2, 1, (.t p39))])), none⟩
(sE [] [] ⟨(some p49), (.call p184 [(.t p11), (.t p40), (.t p48)]), none⟩
sEnd))))))))))))))))))))))))))))))))))))))))
(dSeq (dOps (dV p2 (oMv (.c (.bool true)))
dE))
dRet))))), [(.t p2)]⟩
def af159 : AF := ⟨(dSeq (dOps (dV p2 (oMv (.c (.bool false)))
dE))
(dSeq (dOps (dV p4 (oMv (.t p0))
(dV p5 (oMv (.t p0))
(dV p6 (oNchk (.t p5))
(dV p7 (oFa 8 (.t p6))
(dV p8 (oFa 0 (.t p7))
(dV p9 (oFa 0 (.t p8))
(dV p10 (oFa 2 (.t p9))
(dV p11 (oLd1 (.t p10))
(dC (some p12) p185 [(.t p4), (.t p11)]
(dV p3 (oMv (.t p12))
dE)))))))))))
(dSeq (dSeq (dOps (dV p13 (oMv (.t p3))
(dC (some p14) p186 [(.t p13)]
(dV p15 (oUn .not (.t p14))
dE))))
(dCond (.t p15) (dSeq (dOps (dV p2 (oMv (.c (.bool false)))
dE))
dRet) dSkip))
(dSeq (dOps (dV p16 (oMv (.t p0))
(dC (some p17) p183 [(.t p16)]
dE)))
(dSeq (dDraw (sN p18 ⟨(some p18), (.v (.mv (.t p0))), none⟩
(sN p19 ⟨(some p19), (.v (.mv (.t p3))), none⟩
(sN p22 ⟨(some p22), (.v (.mv (.t p0))), none⟩
(sN p23 ⟨(some p23), (.v (.nchk (.t p22))), none⟩
(sN p24 ⟨(some p24), (.v (.fa 8 (.t p23))), none⟩
(sN p25 ⟨(some p25), (.v (.fa 4 (.t p24))), none⟩
(sN p26 ⟨(some p26), (.v (.ld1 (.t p25))), none⟩
(sE [] [(p26, ⟨(some p26), (.v (.ld1 (.t p25))), none⟩)] ⟨(some p20), (.call p187 [(.t p19)]), none⟩
(sN p21 ⟨(some p21), (.v (.build [.nilp, (.int .i64 (.ofNat 0)), .nilp] [(2, 1, (.t p20))])), none⟩
(sE [] [] ⟨(some p27), (.call p184 [(.t p18), (.t p21), (.t p26)]), none⟩
sEnd)))))))))))
(dSeq (dOps (dV p2 (oMv (.c (.bool true)))
dE))
dRet)))))), [(.t p2)]⟩
def af160 : AF := ⟨(dSeq (dOps (dV p2 (oMv (.c (.bool false)))
dE))
(dSeq (dOps (dV p7 (oMv (.t p0))
(dV p8 (oMv (.t p0))
(dV p9 (oNchk (.t p8))
(dV p10 (oFa 8 (.t p9))
(dV p11 (oFa 0 (.t p10))
(dV p12 (oFa 0 (.t p11))
(dV p13 (oFa 2 (.t p12))
(dV p14 (oLd1 (.t p13))
(dC (some p15) p185 [(.t p7), (.t p14)]
(dV p3 (oMv (.t p15))
dE)))))))))))
(dSeq (dSeq (dOps (dV p16 (oMv (.t p3))
(dC (some p17) p188 [(.t p16)]
(dV p18 (oUn .not (.t p17))
dE))))
(dCond (.t p18) (dSeq (dOps (dV p2 (oMv (.c (.bool false)))
dE))
dRet) dSkip))
(dSeq (dDraw (sN p19 ⟨(some p19), (.v (.mv (.t p0))), none⟩
(sN p20 ⟨(some p20), (.v (.nchk (.t p19))), none⟩
(sN p21 ⟨(some p21), (.v (.fa 8 (.t p20))), none⟩
(sN p22 ⟨(some p22), (.v (.fa 4 (.t p21))), none⟩
(sN p23 ⟨(some p23), (.v (.ld1 (.t p22))), none⟩
(sN p24 ⟨(some p24), (.v (.mv (.t p3))), none⟩
(sN p25 ⟨(some p25), (.v (.nchk (.t p24))), none⟩
(sN p26 ⟨(some p26), (.v (.fa 24 (.t p25))), none⟩
(sN p27 ⟨(some p27), (.v (.ld1 (.t p26))), none⟩
(sE [] [(p23, ⟨(some p23), (.v (.ld1 (.t p22))), none⟩)] ⟨(some p28), (.call p190 [(.t p27)]), none⟩
(sE [] [] ⟨(some p29), (.call p189 [(.t p23), (.t p28)]), none⟩
(sN p4 ⟨(some p4), (.v (.mv (.t p29))), none⟩
sEnd)))))))))))))
(dSeq (dSeq (dOps (dV p30 (oMv (.t p4))
(dV p31 (oEq .p false (.t p30) (.c .nilp))
dE)))
(dCond (.t p31) (dSeq (dOps (dV p2 (oMv (.c (.bool false)))
dE))
dRet) dSkip))
(dSeq (dSeq (dOps (dV p32 (oMv (.t p0))
(dV p33 (oMv (.t p4))
(dV p34 (oNchk (.t p33))
(dV p35 (oFa 0 (.t p34))
(dV p36 (oLd1 (.t p35))
(dC (some p37) p191 [(.t p32), (.t p36)]
dE)))))))
(dCond (.t p37) (dSeq (dOps (dV p2 (oMv (.c (.bool true)))
dE))
dRet) dSkip))
(dSeq (dDraw (sN p39 ⟨(some p39), (.v (.mv (.t p0))), none⟩
(sN p40 ⟨(some p40), (.v (.mv (.t p4))), none⟩
(sN p41 ⟨(some p41), (.v (.nchk (.t p40))), none⟩
(sN p42 ⟨(some p42), (.v (.fa 0 (.t p41))), none⟩
(sN p43 ⟨(some p43), (.v (.ld1 (.t p42))), none⟩
(sN p44 ⟨(some p44), (.v (.nchk (.t p43))), none⟩
(sN p45 ⟨(some p45), (.v (.fa 7 (.t p44))), none⟩
(sN p46 ⟨(some p46), (.v (.ld1 (.t p45))), none⟩
(sN p47 ⟨(some p47), (.v (.mv (.t p3))), none⟩
(sN p48 ⟨(some p48), (.v (.nchk (.t p47))), none⟩
(sN p49 ⟨(some p49), (.v (.fa 24 (.t p48))), none⟩
(sN p50 ⟨(some p50), (.v (.ld1 (.t p49))), none⟩
(sE [] [] ⟨(some p51), (.call p192 [(.t p39), (.t p46), (.t p50)]), none⟩
(sN p38 ⟨(some p38), (.v (.mv (.t p51))), none⟩
(sN p52 ⟨(some p52), (.v (.ext (.t p38) 0)), none⟩
(sN p53 ⟨(some p53), (.v (.ext (.t p38) 1)), none⟩
(sN p5 ⟨(some p5), (.v (.mv (.t p52))), none⟩
(sN p6 ⟨(some p6), (.v (.mv (.t p53))), none⟩
sEnd)))))))))))))))))))
(dSeq (dSeq (dOps (dV p54 (oMv (.t p6))
(dV p55 (oUn .not (.t p54))
dE)))
(dCond (.t p55) (dSeq (dOps (dV p2 (oMv (.c (.bool false)))
dE))
dRet) dSkip))
(dSeq (dOps (dV p56 (oMv (.t p0))
(dC (some p57) p183 [(.t p56)]
dE)))
(dSeq (dDraw (sN p58 ⟨(some p58), (.v (.mv (.t p0))), none⟩
(sN p59 ⟨(some p59), (.v (.mv (.t p3))), none⟩
(sN p60 ⟨(some p60), (.v (.nchk (.t p59))), none⟩
(sN p61 ⟨(some p61), (.v (.fa 24 (.t p60))), none⟩
(sN p62 ⟨(some p62), (.v (.ld1 (.t p61))), none⟩
(sN p63 ⟨(some p63), (.v (.mv (.t p0))), none⟩
(sN p64 ⟨(some p64), (.v (.nchk (.t p63))), none⟩
(sN p65 ⟨(some p65), (.v (.fa 8 (.t p64))), none⟩
(sN p66 ⟨(some p66), (.v (.fa 4 (.t p65))), none⟩
(sN p67 ⟨(some p67), (.v (.ld1 (.t p66))), none⟩
(sN p68 ⟨(some p68), (.v (.mv (.t p4))), none⟩
(sN p69 ⟨(some p69), (.v (.nchk (.t p68))), none⟩
(sN p70 ⟨(some p70), (.v (.fa 0 (.t p69))), none⟩
(sN p71 ⟨(some p71), (.v (.ld1 (.t p70))), none⟩
(sN p72 ⟨(some p72), (.v (.nchk (.t p71))), none⟩
(sN p73 ⟨(some p73), (.v (.fa 7 (.t p72))), none⟩
(sN p74 ⟨(some p74), (.v (.ld1 (.t p73))), none⟩
(sN p75 ⟨(some p75), (.v (.nchk (.t p74))), none⟩
(sN p76 ⟨(some p76), (.v (.fa 4 (.t p75))), none⟩
(sN p77 ⟨(some p77), (.v (.ld1 (.t p76))), none⟩
(sN p79 ⟨(some p79), (.v (.mv (.t p3))), none⟩
(sN p80 ⟨(some p80), (.v (.mv (.t p5))), none⟩
(sN p83 ⟨(some p83), (.v (.mv (.t p4))), none⟩
(sN p84 ⟨(some p84), (.v (.nchk (.t p83))), none⟩
(sN p85 ⟨(some p85), (.v (.fa 2 (.t p84))), none⟩
(sN p86 ⟨(some p86), (.v (.ld1 (.t p85))), none⟩
(sE [] [(p86, ⟨(some p86), (.v (.ld1 (.t p85))), none⟩)] ⟨(some p78), (.call p193 [(.t p62), (.t p67), (.t p77)]), none⟩
(sE [] [(p86, ⟨(some p86), (.v (.ld1 (.t p85))), none⟩)] ⟨(some p81), (.call p194 [(.t p79), (.t p80)]), none⟩
(sN p82 ⟨(some p82), (.v (.build [.nilp, (.int .i64 (.ofNat 0)), .nilp] [(0, 2, (.t p78)), (2, 1, (.t p81))])), none⟩
(sE [] [] ⟨(some p87), (.call p184 [(.t p58), (.t p82), (.t p86)]), none⟩
sEnd)))))))))))))))))))))))))))))))
(dSeq (dOps (dV p2 (oMv (.c (.bool true)))
dE))
dRet))))))))))), [(.t p2)]⟩
def af161 : AF := ⟨(dSeq (dOps (dV p4 (oMv (.c (.bool false)))
dE))
(dSeq (dSeq (dOps (dV p6 (oMv (.t p0))
(dV p7 (oNchk (.t p6))
(dV p8 (oFa 8 (.t p7))
(dV p9 (oFa 0 (.t p8))
(dV p10 (oFa 3 (.t p9))
(dV p11 (oLd1 (.t p10))
(dV p12 (oEq .p false (.t p11) (.c .nilp))
dE))))))))
(dCond (.t p12) (dOps (dV p13 (oMv (.t p0))
(dV p14 (oMv (.t p0))
(dV p15 (oNchk (.t p14))
(dV p16 (oFa 8 (.t p15))
(dV p17 (oFa 0 (.t p16))
(dV p18 (oFa 0 (.t p17))
(dV p19 (oLdN 3 (.t p18))
(dC (some p20) p156 [(.t p19), (.c (.int .i64 (.ofNat 0)))]
(dV p21 (oNchk (.t p13))
(dV p22 (oFa 8 (.t p21))
(dV p23 (oFa 0 (.t p22))
(dV p24 (oFa 3 (.t p23))
(dU (oSt 1 (.t p24) (.t p20))
dE)))))))))))))) dSkip))
(dSeq (dSeq (dOps (dV p25 (oMv (.t p0))
(dV p26 (oMv (.t p0))
(dV p27 (oNchk (.t p26))
(dV p28 (oFa 8 (.t p27))
(dV p29 (oFa 0 (.t p28))
(dV p30 (oFa 3 (.t p29))
(dV p31 (oLd1 (.t p30))
(dC (some p32) p191 [(.t p25), (.t p31)]
dE)))))))))
(dCond (.t p32) (dSeq (dOps (dV p4 (oMv (.c (.bool true)))
dE))
dRet) dSkip))
(dSeq (dOps (dV p33 (oMv (.t p0))
(dV p34 (oNchk (.t p33))
(dV p35 (oFa 8 (.t p34))
(dV p36 (oFa 0 (.t p35))
(dV p37 (oFa 3 (.t p36))
(dV p38 (oLd1 (.t p37))
(dV p39 (oNchk (.t p38))
(dV p40 (oFa 7 (.t p39))
(dV p41 (oLd1 (.t p40))
(dV p5 (oMv (.t p41))
dE)))))))))))
(dSeq (dSeq (dOps (dV p42 (oMv (.t p5))
(dV p43 (oNchk (.t p42))
(dV p44 (oFa 0 (.t p43))
(dV p45 (oFa 0 (.t p44))
(dV p46 (oFa 2 (.t p45))
(dV p47 (oLd1 (.t p46))
(dV p48 (oNchk (.t p47))
(dV p49 (oFa 0 (.t p48))
(dV p50 (oFa 0 (.t p49))
(dV p51 (oLd1 (.t p50))
(dV p52 (oAr .neq (.t p51) (.c (.int .i64 (.ofNat 7))))
(dV p53 (oMv (.t p52))
(dG p53 false (some p54) (dV p54 (oMv (.t p5)))
(dG p53 false (some p55) (dV p55 (oNchk (.t p54)))
(dG p53 false (some p56) (dV p56 (oFa 4 (.t p55)))
(dG p53 false (some p57) (dV p57 (oLd1 (.t p56)))
(dG p53 false (some p58) (dV p58 (oEq .p true (.t p57) (.c .nilp)))
(dV p59 (oPick (.t p53) (.c (.bool true)) (.t p58))
dE)))))))))))))))))))
(dCond (.t p59) (dSeq (dOps (dV p4 (oMv (.c (.bool false)))
dE))
dRet) dSkip))
(dSeq (dOps (dV p60 (oMv (.t p0))
(dC (some p61) p183 [(.t p60)]
dE)))
(dSeq (dDraw (sN p62 ⟨(some p62), (.v (.mv (.t p0))), none⟩
(sN p63 ⟨(some p63), (.v (.mv (.t p5))), none⟩
(sN p64 ⟨(some p64), (.v (.nchk (.t p63))), none⟩
(sN p65 ⟨(some p65), (.v (.fa 0 (.t p64))), none⟩
(sN p66 ⟨(some p66), (.v (.fa 0 (.t p65))), none⟩
(sN p67 ⟨(some p67), (.v (.fa 0 (.t p66))), none⟩
(sN p68 ⟨(some p68), (.v (.ldN 2 (.t p67))), none⟩
(sN p69 ⟨(some p69), (.v (.mv (.t p5))), none⟩
(sN p70 ⟨(some p70), (.v (.nchk (.t p69))), none⟩
(sN p71 ⟨(some p71), (.v (.fa 0 (.t p70))), none⟩
(sN p72 ⟨(some p72), (.v (.fa 0 (.t p71))), none⟩
(sN p73 ⟨(some p73), (.v (.fa 2 (.t p72))), none⟩
(sN p74 ⟨(some p74), (.v (.ld1 (.t p73))), none⟩
(sN p75 ⟨(some p75), (.v (.nchk (.t p74))), none⟩
(sN p76 ⟨(some p76), (.v (.fa 6 (.t p75))), none⟩
(sN p77 ⟨(some p77), (.v (.ld1 (.t p76))), none⟩
(sN p78 ⟨(some p78), (.v (.mv (.t p1))), none⟩
(sN p79 ⟨(some p79), (.v (.ia 1 (.t p77) (.t p78))), none⟩
(sN p80 ⟨(some p80), (.v (.ld1 (.t p79))), none⟩
(sN p81 ⟨(some p81), (.v (.build [.nilp, (.int .i64 (.ofNat 0)), .nilp] [(0, 2, (.t p68)), (2, 1, (.t p80))])), none⟩
(sN p82 ⟨(some p82), (.v (.mv (.t p0))), none⟩
(sN p83 ⟨(some p83), (.v (.nchk (.t p82))), none⟩
(sN p84 ⟨(some p84), (.v (.fa 8 (.t p83))), none⟩
(sN p85 ⟨(some p85), (.v (.fa 4 (.t p84))), none⟩
(sN p86 ⟨(some p86), (.v (.ld1 (.t p85))), none⟩
(sE [] [] ⟨(some p87), (.call p184 [(.t p62), (.t p81), (.t p86)]), none⟩
sEnd)))))))))))))))))))))))))))
(dSeq (dOps (dV p4 (oMv (.c (.bool true)))
dE))
dRet)))))))), [(.t p4)]⟩
def af163 : AF := ⟨(dSeq (dOps (dV p2 (oBox 60 (.t p0))
(dV p4 (oNew [.nilp, (.int .i64 (.ofNat 0))] 60)
dE)))
(dSeq (dOps (dV p5 (oMv (.t p1))
(dV p6 (oFa 0 (.t p2))
(dV p7 (oLd1 (.t p6))
(dV p8 (oBuild [.nilp, .nilp] [(0, 1, (.t p5)), (1, 1, (.t p7))])
(dV p9 (oBox 203 (.t p8))
(dV p10 (oFa 1 (.t p2))
(dV p11 (oLd1 (.t p10))
(dV p12 (oAr .add (.t p11) (.c (.int .i64 (.ofNat 1))))
(dV p13 (oBuild [.nilp, (.int .i64 (.ofNat 0))] [(0, 1, (.t p9)), (1, 1, (.t p12))])
(dU (oSt 2 (.t p4) (.t p13))
dE)))))))))))
dRet)), [(.cN p4 2)]⟩
def af164 : AF := ⟨(dSeq (dOps (dV p2 (oMv (.c .nilp))
dE))
(dSeq (dOps (dV p5 (oMv (.t p0))
(dV p6 (oAr .sub (.c (.int .i64 (.negSucc 0))) (.t p5))
(dV p7 (oBuild [(.int .i64 (.ofNat 0)), (.int .i64 (.ofNat 0)), (.bool false), (.str []), .nils, .nils] [(0, 1, (.c (.int .i64 (.ofNat 1)))), (1, 1, (.t p6))])
(dC (some p8) p43 [(.t p7)]
(dV p3 (oMv (.t p8))
dE))))))
(dSeq (dOps (dV p9 (oMv (.t p3))
(dV p10 (oBuild [.nilp, (.int .i64 (.ofNat 0)), .nilp] [(2, 1, (.t p9))])
(dC (some p11) p68 [(.t p10)]
(dV p4 (oMv (.t p11))
dE)))))
(dSeq (dOps (dV p12 (oMv (.t p4))
(dV p13 (oMv (.t p0))
(dV p14 (oAr .add (.t p13) (.c (.int .i64 (.ofNat 1))))
(dV p15 (oNchk (.t p12))
(dV p16 (oFa 3 (.t p15))
(dV p17 (oFa 3 (.t p16))
(dU (oSt 1 (.t p17) (.t p14))
dE))))))))
(dSeq (dOps (dV p18 (oMv (.t p4))
(dV p2 (oMv (.t p18))
dE)))
dRet))))), [(.t p2)]⟩
def af165 : AF := ⟨(dSeq (dOps (dV p2 (oBox 67 (.t p0))
(dV p4 (oNew [.nilp] 67)
dE)))
(dSeq (dOps (dV p6 (oMv (.t p1))
(dV p7 (oBuild [(.int .i64 (.ofNat 0)), (.int .i64 (.ofNat 0)), (.bool false), (.str []), .nils, .nils] [(0, 1, (.c (.int .i64 (.ofNat 1)))), (1, 1, (.c (.int .i64 (.ofNat 0))))])
(dV p8 (oBuildS 26 1 [(.int .i64 (.ofNat 0)), (.int .i64 (.ofNat 0)), (.bool false), (.str []), .nils, .nils] [(0, 6, (.t p7))])
(dV p9 (oBuild [(.int .i64 (.ofNat 0)), (.int .i64 (.ofNat 0)), (.bool false), (.str []), .nils, .nils] [(0, 1, (.t p6)), (5, 1, (.t p8))])
(dV p5 (oNew [(.int .i64 (.ofNat 0)), (.int .i64 (.ofNat 0)), (.bool false), (.str []), .nils, .nils] 26)
(dU (oSt 6 (.t p5) (.t p9))
dE)))))))
(dSeq (dDraw (sN p10 ⟨(some p10), (.v (.build [.nilp, (.int .i64 (.ofNat 0))] [])), none⟩
(sN p11 ⟨(some p11), (.v (.fa 0 (.t p2))), none⟩
(sN p12 ⟨(some p12), (.v (.ld1 (.t p11))), none⟩
(sN p14 ⟨(some p14), (.v (.ldN 6 (.t p5))), none⟩
(sE [] [(p14, ⟨(some p14), (.v (.ldN 6 (.t p5))), none⟩)] ⟨(some p13), (.call p163 [(.t p10), (.t p12)]), none⟩
(sE [] [] ⟨(some p15), (.call p43 [(.t p14)]), none⟩
(sN p16 ⟨(some p16), (.v (.build [.nilp, (.int .i64 (.ofNat 0)), .nilp] [(0, 2, (.t p13)), (2, 1, (.t p15))])), none⟩
(sE [] [] ⟨(some p17), (.call p68 [(.t p16)]), none⟩
(sN p18 ⟨(some p18), (.v (.build [.nilp] [(0, 1, (.t p17))])), none⟩
(sE [] [] ⟨none, (.v (.st 1 (.t p4) (.t p18))), none⟩
sEnd)))))))))))
dRet))), [(.cN p4 1)]⟩
def af166 : AF := ⟨(dSeq (dOps (dV p2 (oMv (.c .nils))
dE))
(dSeq (dSeq (dOps (dV p9 (oMv (.t p0))
(dV p10 (oNchk (.t p9))
(dV p11 (oFa 0 (.t p10))
(dV p12 (oFa 0 (.t p11))
(dV p13 (oLd1 (.t p12))
(dV p14 (oAr .eql (.t p13) (.c (.int .i64 (.ofNat 1))))
dE)))))))
(dCond (.t p14) (dSeq (dOps (dV p15 (oMv (.t p0))
(dV p16 (oNchk (.t p15))
(dV p17 (oFa 0 (.t p16))
(dV p18 (oFa 1 (.t p17))
(dV p19 (oLd1 (.t p18))
(dV p20 (oBuild [(.int .i64 (.ofNat 0)), (.int .i64 (.ofNat 0)), (.int .i64 (.ofNat 0)), (.int .i64 (.ofNat 0))] [(0, 1, (.t p19)), (1, 1, (.c (.int .i64 (.ofNat 1))))])
(dV p21 (oBuildS 239 1 [(.int .i64 (.ofNat 0)), (.int .i64 (.ofNat 0)), (.int .i64 (.ofNat 0)), (.int .i64 (.ofNat 0))] [(0, 4, (.t p20))])
(dV p2 (oMv (.t p21))
dE)))))))))
dRet) dSkip))
(dSeq (dOps (dV p3 (oMv (.c .nils))
dE))
(dSeq (dSeq (dOps (dV p22 (oMv (.t p0))
(dV p23 (oNchk (.t p22))
(dV p24 (oFa 6 (.t p23))
(dV p25 (oLd1 (.t p24))
(dV p26 (oLen (.t p25))
(dV p27 (oMv (.c (.int .i64 (.ofNat 0))))
dE)))))))
(dBlock 0 (dLoop (dSeq (dOps (dV p28 (oAr .lss (.t p27) (.t p26))
dE))
(dSeq (dCond (.t p28) dSkip (dExit 0))
(dSeq (dBlock 1 (dSeq (dOps (dV p29 (oMv (.t p27))
(dV p30 (oIa 1 (.t p25) (.t p27))
(dV p31 (oLd1 (.t p30))
(dV p4 (oMv (.t p29))
(dV p5 (oMv (.t p31))
dE))))))
(dSeq (dOps (dV p32 (oMv (.t p0))
(dV p33 (oNchk (.t p32))
(dV p34 (oFa 0 (.t p33))
(dV p35 (oFa 0 (.t p34))
(dV p36 (oLd1 (.t p35))
(dV p37 (oMv (.t p4))
(dC (some p38) p66 [(.t p36), (.t p37)]
(dV p6 (oMv (.t p38))
dE)))))))))
(dSeq (dOps (dV p39 (oMv (.t p5))
(dC (some p40) p129 [(.t p39)]
(dV p41 (oLen (.t p40))
(dV p42 (oMv (.c (.int .i64 (.ofNat 0))))
dE)))))
(dBlock 2 (dLoop (dSeq (dOps (dV p43 (oAr .lss (.t p42) (.t p41))
dE))
(dSeq (dCond (.t p43) dSkip (dExit 2))
(dSeq (dBlock 3 (dSeq (dOps (dV p44 (oIa 4 (.t p40) (.t p42))
(dV p45 (oLdN 4 (.t p44))
(dV p8 (oNew [(.int .i64 (.ofNat 0)), (.int .i64 (.ofNat 0)), (.int .i64 (.ofNat 0)), (.int .i64 (.ofNat 0))] 239)
(dU (oSt 4 (.t p8) (.t p45))
dE)))))
(dSeq (dOps (dV p46 (oFa 0 (.t p8))
(dV p47 (oLd1 (.t p46))
(dV p48 (oMv (.t p6))
(dV p49 (oAr .geq (.t p47) (.t p48))
dE)))))
(dCond (.t p49) (dOps (dV p50 (oMv (.t p3))
(dV p51 (oFa 0 (.t p8))
(dV p52 (oLd1 (.t p51))
(dV p53 (oMv (.t p6))
(dV p54 (oAr .sub (.t p52) (.t p53))
(dV p55 (oFa 1 (.t p8))
(dV p56 (oLd1 (.t p55))
(dV p57 (oFa 2 (.t p8))
(dV p58 (oLd1 (.t p57))
(dV p59 (oAr .add (.t p58) (.c (.int .i64 (.ofNat 1))))
(dV p60 (oFa 3 (.t p8))
(dV p61 (oLd1 (.t p60))
(dV p62 (oMv (.t p6))
(dV p63 (oAr .add (.t p61) (.t p62))
(dV p64 (oBuild [(.int .i64 (.ofNat 0)), (.int .i64 (.ofNat 0)), (.int .i64 (.ofNat 0)), (.int .i64 (.ofNat 0))] [(0, 1, (.t p54)), (1, 1, (.t p56)), (2, 1, (.t p59)), (3, 1, (.t p63))])
(dV p65 (oBuildS 239 1 [(.int .i64 (.ofNat 0)), (.int .i64 (.ofNat 0)), (.int .i64 (.ofNat 0)), (.int .i64 (.ofNat 0))] [(0, 4, (.t p64))])
(dV p66 (oApp 239 4 (.t p50) (.t p65))
(dV p3 (oMv (.t p66))
dE))))))))))))))))))) dSkip))))
(dOps (dV p67 (oAr .add (.t p42) (.c (.int .i64 (.ofNat 1))))
(dV p42 (oMv (.t p67))
dE))))))))))))
(dOps (dV p68 (oAr .add (.t p27) (.c (.int .i64 (.ofNat 1))))
(dV p27 (oMv (.t p68))
dE)))))))))
(dSeq (dOps (dV p69 (oMv (.t p3))
(dC (some p70) p195 [(.t p69)]
(dV p2 (oMv (.t p70))
dE))))
dRet))))), [(.t p2)]⟩
def af167 : AF := ⟨(dSeq (dOps (dV p4 (oMv (.t p0))
(dV p5 (oMv (.t p0))
(dV p6 (oNchk (.t p5))
(dV p7 (oFa 1 (.t p6))
(dV p8 (oLd1 (.t p7))
(dV p9 (oMv (.t p8))
(dG p9 false (some p10) (dV p10 (oMv (.t p0)))
(dG p9 false (some p11) (dV p11 (oNchk (.t p10)))
(dG p9 false (some p12) (dV p12 (oFa 0 (.t p11)))
(dG p9 false (some p13) (dV p13 (oLd1 (.t p12)))
(dG p9 false (some p14) (dV p14 (oLen (.t p13)))
(dG p9 false (some p15) (dV p15 (oMv (.t p1)))
(dG p9 false (some p16) (dV p16 (oLen (.t p15)))
(dG p9 false (some p17) (dV p17 (oAr .add (.t p14) (.t p16)))
(dG p9 false (some p18) (dV p18 (oAr .gtr (.t p17) (.c (.int .i64 (.ofNat 1000000)))))
(dV p19 (oPick (.t p9) (.c (.bool true)) (.t p18))
(dV p20 (oNchk (.t p4))
(dV p21 (oFa 1 (.t p20))
(dU (oSt 1 (.t p21) (.t p19))
dE))))))))))))))))))))
(dSeq (dOps (dV p22 (oMv (.t p0))
(dV p23 (oNchk (.t p22))
(dV p24 (oFa 1 (.t p23))
(dV p25 (oLd1 (.t p24))
(dV p26 (oUn .not (.t p25))
dE))))))
(dCond (.t p26) (dOps (dV p27 (oMv (.t p0))
(dV p28 (oMv (.t p0))
(dV p29 (oNchk (.t p28))
(dV p30 (oFa 0 (.t p29))
(dV p31 (oLd1 (.t p30))
(dV p32 (oMv (.t p1))
(dV p33 (oApp 5 1 (.t p31) (.t p32))
(dV p34 (oNchk (.t p27))
(dV p35 (oFa 0 (.t p34))
(dU (oSt 1 (.t p35) (.t p33))
dE))))))))))) dSkip))), []⟩
def af168 : AF := ⟨(dSeq (dOps (dV p4 (oMv (.t p0))
(dV p5 (oMv (.t p1))
(dV p6 (oLenS (.t p5))
(dC (some p7) p132 [(.t p4), (.t p6)]
dE)))))
(dOps (dV p8 (oMv (.t p0))
(dV p9 (oMv (.t p1))
(dV p10 (oCvB 5 (.t p9))
(dC (some p11) p167 [(.t p8), (.t p10)]
dE)))))), []⟩
def af169 : AF := ⟨(dSeq (dOps (dV p3 (oBox 26 (.t p1))
dE))
(dSeq (dOps (dV p4 (oMv (.t p0))
(dV p5 (oFa 0 (.t p3))
(dV p6 (oLd1 (.t p5))
(dC (some p7) p132 [(.t p4), (.t p6)]
dE)))))
(dSeq (dSeq (dOps (dV p8 (oFa 0 (.t p3))
(dV p9 (oLd1 (.t p8))
dE)))
(dBlock 0 (dSeq (dBlock 4 (dSeq (dBlock 3 (dSeq (dBlock 2 (dSeq (dBlock 1 (dSeq (dSeq (dSeq (dSeq (dOps (dV p11 (oAr .eql (.t p9) (.c (.int .i64 (.ofNat 1))))
(dV p10 (oMv (.t p11))
dE)))
(dCond (.t p10) dSkip (dOps (dV p12 (oAr .eql (.t p9) (.c (.int .i64 (.ofNat 11))))
(dV p10 (oMv (.t p12))
dE)))))
(dCond (.t p10) (dExit 1) dSkip))
(dSeq (dSeq (dSeq (dOps (dV p14 (oAr .eql (.t p9) (.c (.int .i64 (.ofNat 3))))
(dV p13 (oMv (.t p14))
dE)))
(dCond (.t p13) dSkip (dSeq (dOps (dV p15 (oAr .eql (.t p9) (.c (.int .i64 (.ofNat 4))))
(dV p13 (oMv (.t p15))
dE)))
(dCond (.t p13) dSkip (dOps (dV p16 (oAr .eql (.t p9) (.c (.int .i64 (.ofNat 5))))
(dV p13 (oMv (.t p16))
dE)))))))
(dCond (.t p13) (dExit 2) dSkip))
(dSeq (dSeq (dOps (dV p18 (oAr .eql (.t p9) (.c (.int .i64 (.ofNat 10))))
(dV p17 (oMv (.t p18))
dE)))
(dCond (.t p17) (dExit 3) dSkip))
(dSeq (dOps (dV p20 (oAr .eql (.t p9) (.c (.int .i64 (.ofNat 2))))
(dV p19 (oMv (.t p20))
dE)))
(dCond (.t p19) (dExit 4) dSkip)))))
(dExit 0)))
(dSeq (dOps (dV p21 (oMv (.t p0))
(dV p22 (oFa 1 (.t p3))
(dV p23 (oLd1 (.t p22))
(dC (some p24) p132 [(.t p21), (.t p23)]
dE)))))
(dExit 0))))
(dSeq (dOps (dV p25 (oMv (.t p0))
(dV p26 (oFa 2 (.t p3))
(dV p27 (oLd1 (.t p26))
(dC (some p28) p196 [(.t p25), (.t p27)]
dE)))))
(dExit 0))))
(dSeq (dOps (dV p29 (oMv (.t p0))
(dV p30 (oFa 3 (.t p3))
(dV p31 (oLd1 (.t p30))
(dC (some p32) p168 [(.t p29), (.t p31)]
dE)))))
(dOps (dV p33 (oMv (.t p0))
(dV p34 (oFa 4 (.t p3))
(dV p35 (oLd1 (.t p34))
(dV p36 (oLen (.t p35))
(dC (some p37) p132 [(.t p33), (.t p36)]
dE)))))))))
(dSeq (dOps (dV p38 (oFa 4 (.t p3))
(dV p39 (oLd1 (.t p38))
(dV p40 (oMv (.t p0))
(dV p41 (oMkf 198 [(.t p40)] [])
(dC (some p42) p197 [(.t p39), (.t p41)]
dE))))))
(dExit 0)))))
(dOps (dV p43 (oFa 5 (.t p3))
(dV p44 (oLd1 (.t p43))
(dV p45 (oMv (.t p0))
(dV p46 (oMkf 169 [(.t p45)] [])
(dC (some p47) p199 [(.t p44), (.t p46)]
dE))))))))), []⟩
def af170 : AF := ⟨(dSeq (dOps (dV p6 (oMv (.t p0))
(dV p7 (oLen (.t p6))
(dV p8 (oMv (.c (.int .i64 (.ofNat 0))))
dE))))
(dBlock 0 (dLoop (dSeq (dOps (dV p9 (oAr .lss (.t p8) (.t p7))
dE))
(dSeq (dCond (.t p9) dSkip (dExit 0))
(dSeq (dBlock 1 (dSeq (dOps (dV p10 (oIa 7 (.t p6) (.t p8))
(dV p11 (oLdN 7 (.t p10))
(dV p5 (oNew [(.str []), (.int .i64 (.ofNat 0)), (.int .i64 (.ofNat 0)), (.bool false), (.str []), .nils, .nils] 108)
(dU (oSt 7 (.t p5) (.t p11))
dE)))))
(dOps (dV p12 (oMv (.t p1))
(dV p13 (oLdN 7 (.t p5))
(dCv (some p14) (.t p12) [(.t p13)]
dE))))))
(dOps (dV p15 (oAr .add (.t p8) (.c (.int .i64 (.ofNat 1))))
(dV p8 (oMv (.t p15))
dE))))))))), []⟩
def af171 : AF := ⟨(dSeq (dOps (dV p3 (oBox 108 (.t p1))
dE))
(dSeq (dOps (dV p4 (oMv (.t p0))
(dV p5 (oFa 0 (.t p3))
(dV p6 (oLd1 (.t p5))
(dC (some p7) p168 [(.t p4), (.t p6)]
dE)))))
(dOps (dV p8 (oMv (.t p0))
(dV p9 (oFa 1 (.t p3))
(dV p10 (oLdN 6 (.t p9))
(dC (some p11) p169 [(.t p8), (.t p10)]
dE))))))), []⟩
def af172 : AF := ⟨(dSeq (dOps (dV p1 (oBox 26 (.t p0))
(dV p2 (oNew [(.int .i64 (.ofNat 0)), (.int .i64 (.ofNat 0)), (.bool false), (.str []), .nils, .nils] 26)
dE)))
(dSeq (dOps (dV p5 (oFa 0 (.t p1))
(dV p6 (oLd1 (.t p5))
(dV p7 (oBuild [(.int .i64 (.ofNat 0)), (.int .i64 (.ofNat 0)), (.bool false), (.str []), .nils, .nils] [(0, 1, (.t p6))])
(dV p3 (oNew [(.int .i64 (.ofNat 0)), (.int .i64 (.ofNat 0)), (.bool false), (.str []), .nils, .nils] 26)
(dU (oSt 6 (.t p3) (.t p7))
dE))))))
(dSeq (dSeq (dOps (dV p8 (oFa 0 (.t p1))
(dV p9 (oLd1 (.t p8))
dE)))
(dBlock 0 (dSeq (dBlock 4 (dSeq (dBlock 3 (dSeq (dBlock 2 (dSeq (dBlock 1 (dSeq (dSeq (dSeq (dSeq (dOps (dV p11 (oAr .eql (.t p9) (.c (.int .i64 (.ofNat 1))))
(dV p10 (oMv (.t p11))
dE)))
(dCond (.t p10) dSkip (dOps (dV p12 (oAr .eql (.t p9) (.c (.int .i64 (.ofNat 11))))
(dV p10 (oMv (.t p12))
dE)))))
(dCond (.t p10) (dExit 1) dSkip))
(dSeq (dSeq (dSeq (dOps (dV p14 (oAr .eql (.t p9) (.c (.int .i64 (.ofNat 3))))
(dV p13 (oMv (.t p14))
dE)))
(dCond (.t p13) dSkip (dSeq (dOps (dV p15 (oAr .eql (.t p9) (.c (.int .i64 (.ofNat 4))))
(dV p13 (oMv (.t p15))
dE)))
(dCond (.t p13) dSkip (dOps (dV p16 (oAr .eql (.t p9) (.c (.int .i64 (.ofNat 5))))
(dV p13 (oMv (.t p16))
dE)))))))
(dCond (.t p13) (dExit 2) dSkip))
(dSeq (dSeq (dOps (dV p18 (oAr .eql (.t p9) (.c (.int .i64 (.ofNat 10))))
(dV p17 (oMv (.t p18))
dE)))
(dCond (.t p17) (dExit 3) dSkip))
(dSeq (dOps (dV p20 (oAr .eql (.t p9) (.c (.int .i64 (.ofNat 2))))
(dV p19 (oMv (.t p20))
dE)))
(dCond (.t p19) (dExit 4) dSkip)))))
(dExit 0)))
(dSeq (dOps (dV p21 (oFa 1 (.t p1))
(dV p22 (oLd1 (.t p21))
(dV p23 (oFa 1 (.t p3))
(dU (oSt 1 (.t p23) (.t p22))
dE)))))
(dExit 0))))
(dSeq (dOps (dV p24 (oFa 2 (.t p1))
(dV p25 (oLd1 (.t p24))
(dV p26 (oFa 2 (.t p3))
(dU (oSt 1 (.t p26) (.t p25))
dE)))))
(dExit 0))))
(dOps (dV p27 (oFa 3 (.t p1))
(dV p28 (oLd1 (.t p27))
(dV p29 (oFa 3 (.t p3))
(dU (oSt 1 (.t p29) (.t p28))
dE)))))))
(dSeq (dOps (dV p30 (oFa 4 (.t p1))
(dV p31 (oLd1 (.t p30))
(dC (some p32) p200 [(.t p31)]
(dV p33 (oFa 4 (.t p3))
(dU (oSt 1 (.t p33) (.t p32))
dE))))))
(dExit 0)))))
(dSeq (dSeq (dOps (dV p34 (oFa 5 (.t p1))
(dV p35 (oLd1 (.t p34))
(dV p36 (oLen (.t p35))
(dV p4 (oMv (.t p36))
dE)))))
(dSeq (dOps (dV p37 (oMv (.t p4))
(dV p38 (oAr .gtr (.t p37) (.c (.int .i64 (.ofNat 0))))
dE)))
(dCond (.t p38) (dOps (dV p39 (oMv (.t p4))
(dV p40 (oMkS 26 6 [(.int .i64 (.ofNat 0)), (.int .i64 (.ofNat 0)), (.bool false), (.str []), .nils, .nils] (.c (.int .i64 (.ofNat 0))) (.t p39))
(dV p41 (oFa 5 (.t p3))
(dU (oSt 1 (.t p41) (.t p40))
dE))))) dSkip)))
(dSeq (dOps (dV p42 (oLdN 6 (.t p3))
(dU (oSt 6 (.t p2) (.t p42))
dE)))
dRet))))), [(.cN p2 6)]⟩
def af175 : AF := ⟨(dSeq (dOps (dV p2 (oMv (.c (.bool false)))
dE))
(dSeq (dOps (dV p3 (oMv (.t p0))
(dV p4 (oAr .leq (.c (.int .i64 (.ofNat 0))) (.t p3))
(dV p5 (oMv (.t p4))
(dG p5 true (some p6) (dV p6 (oMv (.t p0)))
(dG p5 true (some p7) (dV p7 (oAr .leq (.t p6) (.c (.int .i64 (.ofNat 1000)))))
(dV p8 (oPick (.t p5) (.t p7) (.c (.bool false)))
(dV p2 (oMv (.t p8))
dE))))))))
dRet)), [(.t p2)]⟩
def af176 : AF := ⟨(dSeq (dOps (dV p3 (oBox 274 (.t p1))
(dV p4 (oMv (.c .nils))
dE)))
(dSeq (dOps (dV p6 (oMv (.t p0))
(dV p7 (oApp 253 2 (.c .nils) (.t p6))
(dV p5 (oMv (.t p7))
dE))))
(dSeq (dOps (dV p8 (oMv (.t p5))
(dV p9 (oMkf 203 [] [(.t p3)])
(dC (some p10) p202 [(.t p8), (.t p9)]
dE))))
(dSeq (dOps (dV p11 (oMv (.t p5))
(dV p12 (oMkf 206 [] [(.t p3)])
(dC (some p13) p205 [(.t p11), (.t p12)]
(dV p4 (oMv (.t p13))
dE)))))
dRet)))), [(.t p4)]⟩
def af177 : AF := ⟨(dSeq (dOps (dV p1 (oBox 253 (.t p0))
(dV p2 (oMv (.c (.int .i64 (.ofNat 0))))
(dV p3 (oMv (.c (.int .i64 (.ofNat 0))))
dE))))
(dSeq (dDraw (sN p4 ⟨(some p4), (.v (.fa 0 (.t p1))), none⟩
(sN p5 ⟨(some p5), (.v (.ld1 (.t p4))), none⟩
(sN p6 ⟨(some p6), (.v (.fa 1 (.t p1))), none⟩
(sN p7 ⟨(some p7), (.v (.ld1 (.t p6))), none⟩
(sN p2 ⟨(some p2), (.v (.mv (.t p5))), none⟩
(sN p3 ⟨(some p3), (.v (.mv (.t p7))), none⟩
sEnd)))))))
dRet)), [(.t p2), (.t p3)]⟩
def af178 : AF := ⟨(dSeq (dSeq (dDraw (sN p6 ⟨(some p6), (.v (.mv (.t p0))), none⟩
(sN p7 ⟨(some p7), (.v (.fa 0 (.t p1))), none⟩
(sN p8 ⟨(some p8), (.v (.ld1 (.t p7))), none⟩
(sN p9 ⟨(some p9), (.v (.ldN 2 (.t p2))), none⟩
(sE [] [(p8, ⟨(some p8), (.v (.ld1 (.t p7))), none⟩)] ⟨(some p10), (.call p179 [(.t p9), (.c .nils)]), none⟩
(sE [] [] ⟨(some p11), (.callv (.t p6) [(.t p8), (.t p10)]), none⟩
(sN p12 ⟨(some p12), (.v (.un .not (.t p11))), none⟩
sEnd))))))))
(dCond (.t p12) dRet dSkip))
(dSeq (dOps (dV p13 (oFa 1 (.t p1))
(dV p14 (oLd1 (.t p13))
(dV p15 (oLen (.t p14))
(dV p16 (oMv (.c (.int .i64 (.ofNat 0))))
dE)))))
(dBlock 0 (dLoop (dSeq (dOps (dV p17 (oAr .lss (.t p16) (.t p15))
dE))
(dSeq (dCond (.t p17) dSkip (dExit 0))
(dSeq (dBlock 1 (dSeq (dOps (dV p18 (oIa 2 (.t p14) (.t p16))
(dV p19 (oLdN 2 (.t p18))
(dV p5 (oNew [(.int .i64 (.ofNat 0)), (.int .i64 (.ofNat 0))] 253)
(dU (oSt 2 (.t p5) (.t p19))
dE)))))
(dSeq (dDraw (sN p20 ⟨(some p20), (.v (.mv (.t p0))), none⟩
(sN p21 ⟨(some p21), (.v (.fa 1 (.t p5))), none⟩
(sN p22 ⟨(some p22), (.v (.ld1 (.t p21))), none⟩
(sN p23 ⟨(some p23), (.v (.ldN 2 (.t p2))), none⟩
(sN p24 ⟨(some p24), (.v (.fa 0 (.t p5))), none⟩
(sN p25 ⟨(some p25), (.v (.ld1 (.t p24))), none⟩
(sE [] [(p22, ⟨(some p22), (.v (.ld1 (.t p21))), none⟩)] ⟨(some p26), (.call p180 [(.t p23), (.t p25)]), none⟩
(sE [] [] ⟨(some p27), (.callv (.t p20) [(.t p22), (.t p26)]), none⟩
(sN p28 ⟨(some p28), (.v (.un .not (.t p27))), none⟩
sEnd))))))))))
(dCond (.t p28) dRet dSkip))))
(dOps (dV p29 (oAr .add (.t p16) (.c (.int .i64 (.ofNat 1))))
(dV p16 (oMv (.t p29))
dE)))))))))), []⟩
def af179 : AF := ⟨(dSeq (dOps (dV p2 (oBox 49 (.t p0))
(dV p4 (oMv (.c (.int .i64 (.ofNat 0))))
dE)))
(dSeq (dSeq (dOps (dV p9 (oLdN 2 (.t p2))
(dC (some p10) p143 [(.t p9)]
(dV p11 (oUn .not (.t p10))
dE))))
(dCond (.t p11) (dSeq (dOps (dV p4 (oMv (.c (.int .i64 (.ofNat 0))))
dE))
dRet) dSkip))
(dSeq (dOps (dV p12 (oFa 0 (.t p2))
(dV p13 (oLd1 (.t p12))
(dV p5 (oMv (.t p13))
dE))))
(dSeq (dSeq (dOps (dV p14 (oFa 1 (.t p2))
(dV p15 (oLd1 (.t p14))
(dV p16 (oLen (.t p15))
(dV p17 (oMv (.c (.int .i64 (.ofNat 0))))
dE)))))
(dBlock 0 (dLoop (dSeq (dOps (dV p18 (oAr .lss (.t p17) (.t p16))
dE))
(dSeq (dCond (.t p18) dSkip (dExit 0))
(dSeq (dBlock 1 (dSeq (dOps (dV p19 (oIa 2 (.t p15) (.t p17))
(dV p20 (oLdN 2 (.t p19))
(dV p7 (oNew [(.int .i64 (.ofNat 0)), (.int .i64 (.ofNat 0))] 253)
(dU (oSt 2 (.t p7) (.t p20))
dE)))))
(dSeq (dOps (dV p21 (oFa 1 (.t p7))
(dV p22 (oLd1 (.t p21))
(dC (some p23) p207 [(.t p22)]
(dV p8 (oMv (.t p23))
dE)))))
(dOps (dV p24 (oMv (.t p5))
(dV p25 (oMv (.t p8))
(dV p26 (oMv (.t p1))
(dV p27 (oFa 0 (.t p7))
(dV p28 (oLd1 (.t p27))
(dC (some p29) p208 [(.t p26), (.t p28)]
(dCv (some p30) (.t p25) [(.t p29)]
(dV p31 (oMm true [(.t p24), (.t p30)])
(dV p5 (oMv (.t p31))
dE)))))))))))))
(dOps (dV p32 (oAr .add (.t p17) (.c (.int .i64 (.ofNat 1))))
(dV p17 (oMv (.t p32))
dE)))))))))
(dSeq (dOps (dV p33 (oMv (.t p5))
(dV p4 (oMv (.t p33))
dE)))
dRet))))), [(.t p4)]⟩
def af180 : AF := ⟨(dSeq (dOps (dV p2 (oBox 49 (.t p0))
(dV p4 (oMv (.c (.int .i64 (.ofNat 0))))
dE)))
(dSeq (dOps (dV p5 (oMv (.c (.int .i64 (.negSucc 0))))
dE))
(dSeq (dSeq (dOps (dV p8 (oFa 1 (.t p2))
(dV p9 (oLd1 (.t p8))
(dV p10 (oLen (.t p9))
(dV p11 (oMv (.c (.int .i64 (.ofNat 0))))
dE)))))
(dBlock 0 (dLoop (dSeq (dOps (dV p12 (oAr .lss (.t p11) (.t p10))
dE))
(dSeq (dCond (.t p12) dSkip (dExit 0))
(dSeq (dBlock 1 (dSeq (dOps (dV p13 (oIa 2 (.t p9) (.t p11))
(dV p14 (oLdN 2 (.t p13))
(dV p7 (oNew [(.int .i64 (.ofNat 0)), (.int .i64 (.ofNat 0))] 253)
(dU (oSt 2 (.t p7) (.t p14))
dE)))))
(dSeq (dOps (dV p15 (oFa 0 (.t p7))
(dV p16 (oLd1 (.t p15))
(dV p17 (oMv (.t p1))
(dV p18 (oAr .eql (.t p16) (.t p17))
dE)))))
(dCond (.t p18) (dOps (dV p19 (oMv (.t p5))
(dV p20 (oFa 1 (.t p7))
(dV p21 (oLd1 (.t p20))
(dV p22 (oMm true [(.t p19), (.t p21)])
(dV p5 (oMv (.t p22))
dE)))))) dSkip))))
(dOps (dV p23 (oAr .add (.t p11) (.c (.int .i64 (.ofNat 1))))
(dV p11 (oMv (.t p23))
dE)))))))))
(dSeq (dOps (dV p24 (oMv (.t p5))
(dV p4 (oMv (.t p24))
dE)))
dRet)))), [(.t p4)]⟩
def af181 : AF := ⟨(dSeq (dOps (dV p3 (oBox 140 (.t p1))
dE))
(dSeq (dDraw (sN p5 ⟨(some p5), (.v (.mv (.t p0))), none⟩
(sN p6 ⟨(some p6), (.v (.nchk (.t p5))), none⟩
(sN p7 ⟨(some p7), (.v (.fa 8 (.t p6))), none⟩
(sN p8 ⟨(some p8), (.v (.fa 4 (.t p7))), none⟩
(sN p9 ⟨(some p9), (.v (.ld1 (.t p8))), none⟩
(sN p11 ⟨(some p11), (.v (.ldN 4 (.t p3))), none⟩
(sA 8 p4 (.new [(.int .i64 (.ofNat 0)), (.int .i64 (.ofNat 0)), (.int .i64 (.ofNat 0)), (.int .i64 (.ofNat 0))] 140)
(sE [] [(p11, ⟨(some p11), (.v (.ldN 4 (.t p3))), none⟩)] ⟨(some p10), (.call p153 [(.t p9)]), none⟩
(sE [] [] ⟨(some p12), (.call p209 [(.t p10), (.t p11)]), none⟩
(sE [8] [] ⟨none, (.v (.st 4 (.t p4) (.t p12))), none⟩
sEnd)))))))))))
(dSeq (dDraw (sN p13 ⟨(some p13), (.v (.mv (.t p0))), none⟩
(sN p14 ⟨(some p14), (.v (.mv (.t p0))), none⟩
(sN p15 ⟨(some p15), (.v (.nchk (.t p14))), none⟩
(sN p16 ⟨(some p16), (.v (.fa 8 (.t p15))), none⟩
(sN p17 ⟨(some p17), (.v (.fa 7 (.t p16))), none⟩
(sN p18 ⟨(some p18), (.v (.ldN 4 (.t p17))), none⟩
(sN p19 ⟨(some p19), (.v (.ldN 4 (.t p4))), none⟩
(sE [] [] ⟨(some p20), (.call p210 [(.t p18), (.t p19)]), none⟩
(sN p21 ⟨(some p21), (.v (.nchk (.t p13))), none⟩
(sN p22 ⟨(some p22), (.v (.fa 8 (.t p21))), none⟩
(sN p23 ⟨(some p23), (.v (.fa 7 (.t p22))), none⟩
(sE [] [] ⟨none, (.v (.st 4 (.t p23) (.t p20))), none⟩
sEnd)))))))))))))
(dDraw (sN p24 ⟨(some p24), (.v (.mv (.t p0))), none⟩
(sN p25 ⟨(some p25), (.v (.mv (.t p0))), none⟩
(sN p26 ⟨(some p26), (.v (.nchk (.t p25))), none⟩
(sN p27 ⟨(some p27), (.v (.fa 8 (.t p26))), none⟩
(sN p28 ⟨(some p28), (.v (.fa 5 (.t p27))), none⟩
(sN p29 ⟨(some p29), (.v (.ldN 2 (.t p28))), none⟩
(sN p30 ⟨(some p30), (.v (.ldN 4 (.t p4))), none⟩
(sE [] [] ⟨(some p31), (.call p209 [(.t p29), (.t p30)]), none⟩
(sE [] [] ⟨(some p32), (.call p124 [(.t p24), (.t p31)]), none⟩
sEnd))))))))))))), []⟩
def af182 : AF := ⟨(dSeq (dOps (dV p3 (oBox 136 (.t p1))
(dV p4 (oMv (.c .nilp))
dE)))
(dSeq (dSeq (dOps (dV p7 (oLd1 (.t p3))
(dV p8 (oEq .p false (.t p7) (.c .nilp))
dE)))
(dCond (.t p8) (dSeq (dOps (dV p9 (oMv (.t p0))
(dV p4 (oMv (.t p9))
dE)))
dRet) dSkip))
(dSeq (dSeq (dOps (dV p10 (oMv (.t p0))
(dC (some p11) p116 [(.t p10)]
(dC (some p12) p118 [(.t p11)]
(dC (some p13) p117 [(.t p12)]
dE)))))
(dBlock 0 (dRange (.t p13) [p14, p15] (dOps (dV p6 (oMv (.t p15))
dE)) (dBlock 1 (dDraw (sN p16 ⟨(some p16), (.v (.ld1 (.t p3))), none⟩
(sN p17 ⟨(some p17), (.v (.mv (.t p6))), none⟩
(sN p18 ⟨(some p18), (.v (.nchk (.t p17))), none⟩
(sN p19 ⟨(some p19), (.v (.fa 0 (.t p18))), none⟩
(sN p20 ⟨(some p20), (.v (.ld1 (.t p19))), none⟩
(sN p21 ⟨(some p21), (.v (.mv (.t p6))), none⟩
(sN p22 ⟨(some p22), (.v (.nchk (.t p21))), none⟩
(sN p23 ⟨(some p23), (.v (.fa 1 (.t p22))), none⟩
(sN p24 ⟨(some p24), (.v (.ld1 (.t p23))), none⟩
(sE [] [] ⟨(some p25), (.call p119 [(.t p16), (.t p20), (.t p24)]), none⟩
(sE [] [] ⟨none, (.v (.st 1 (.t p3) (.t p25))), none⟩
sEnd))))))))))))))))
(dSeq (dOps (dV p26 (oLd1 (.t p3))
(dV p4 (oMv (.t p26))
dE)))
dRet)))), [(.t p4)]⟩
def af183 : AF := ⟨(dSeq (dSeq (dOps (dV p2 (oMv (.t p0))
(dV p3 (oNchk (.t p2))
(dV p4 (oFa 1 (.t p3))
(dV p5 (oLd1 (.t p4))
(dV p6 (oAr .leq (.t p5) (.c (.int .i64 (.ofNat 0))))
dE))))))
(dCond (.t p6) (dOps (dC (some p7) p162 [(.c (.int .i64 (.ofNat 3)))]
dE)) dSkip))
(dOps (dV p8 (oMv (.t p0))
(dV p9 (oNchk (.t p8))
(dV p10 (oFa 1 (.t p9))
(dV p11 (oLd1 (.t p10))
(dV p12 (oAr .sub (.t p11) (.c (.int .i64 (.ofNat 1))))
(dV p13 (oNchk (.t p8))
(dV p14 (oFa 1 (.t p13))
(dU (oSt 1 (.t p14) (.t p12))
dE)))))))))), []⟩
def af184 : AF := ⟨(dSeq (dOps (dV p4 (oBox 104 (.t p1))
dE))
(dSeq (dOps (dV p6 (oMv (.t p0))
(dV p7 (oMv (.t p0))
(dV p8 (oLdN 3 (.t p4))
(dV p9 (oBuild [.nilp, (.int .i64 (.ofNat 0)), .nilp, .nilp] [(0, 3, (.t p8))])
(dV p10 (oMv (.t p2))
(dV p11 (oNchk (.t p6))
(dV p12 (oFa 8 (.t p11))
(dV p13 (oFa 0 (.t p12))
(dU (oSt 4 (.t p13) (.t p9))
(dV p14 (oNchk (.t p7))
(dV p15 (oFa 8 (.t p14))
(dV p16 (oFa 4 (.t p15))
(dU (oSt 1 (.t p16) (.t p10))
dE))))))))))))))
(dOps (dV p17 (oMv (.t p0))
(dV p18 (oLdN 3 (.t p4))
(dC (some p19) p98 [(.t p18)]
(dC (some p20) p181 [(.t p17), (.t p19)]
dE))))))), []⟩
def af185 : AF := ⟨(dSeq (dOps (dV p4 (oMv (.c .nilp))
dE))
(dSeq (dSeq (dOps (dV p5 (oMv (.t p1))
(dV p6 (oNchk (.t p5))
(dV p7 (oFa 11 (.t p6))
(dV p8 (oLd1 (.t p7))
(dV p9 (oEq .p false (.t p8) (.c .nilp))
dE))))))
(dCond (.t p9) (dOps (dV p10 (oMv (.t p1))
(dV p11 (oMv (.t p0))
(dV p12 (oMv (.t p1))
(dV p13 (oNchk (.t p12))
(dV p14 (oFa 0 (.t p13))
(dV p15 (oLdN 6 (.t p14))
(dC (some p16) p211 [(.t p11), (.t p15)]
(dV p17 (oNchk (.t p10))
(dV p18 (oFa 11 (.t p17))
(dU (oSt 1 (.t p18) (.t p16))
dE))))))))))) dSkip))
(dSeq (dOps (dV p19 (oMv (.t p1))
(dV p20 (oNchk (.t p19))
(dV p21 (oFa 11 (.t p20))
(dV p22 (oLd1 (.t p21))
(dV p4 (oMv (.t p22))
dE))))))
dRet))), [(.t p4)]⟩
def af186 : AF := ⟨(dSeq (dOps (dV p2 (oMv (.c (.bool false)))
dE))
(dSeq (dOps (dC (some p10) p212 []
(dV p9 (oMv (.t p10))
(dV p11 (oExt (.t p9) 0)
(dV p12 (oExt (.t p9) 1)
(dV p13 (oExt (.t p9) 2)
(dV p14 (oExt (.t p9) 3)
(dV p15 (oExt (.t p9) 4)
(dV p16 (oExt (.t p9) 5)
(dV p3 (oMv (.t p11))
(dV p4 (oMv (.t p12))
(dV p5 (oMv (.t p13))
(dV p6 (oMv (.t p14))
(dV p7 (oMv (.t p15))
(dV p8 (oMv (.t p16))
dE)))))))))))))))
(dSeq (dDraw (sN p17 ⟨(some p17), (.v (.mv (.t p0))), none⟩
(sN p18 ⟨(some p18), (.v (.nchk (.t p17))), none⟩
(sN p19 ⟨(some p19), (.v (.fa 6 (.t p18))), none⟩
(sN p20 ⟨(some p20), (.v (.ld1 (.t p19))), none⟩
(sN p21 ⟨(some p21), (.v (.mv (.t p5))), none⟩
(sN p22 ⟨(some p22), (.v (.ar .eql (.t p20) (.t p21))), none⟩
(sN p23 ⟨(some p23), (.v (.mv (.t p22))), none⟩
(sN p24 ⟨(some p24), (.v (.mv (.t p0))), (some (p23, true))⟩
(sN p25 ⟨(some p25), (.v (.nchk (.t p24))), (some (p23, true))⟩
(sN p26 ⟨(some p26), (.v (.fa 0 (.t p25))), (some (p23, true))⟩
(sN p27 ⟨(some p27), (.v (.fa 4 (.t p26))), (some (p23, true))⟩
(sN p28 ⟨(some p28), (.v (.ld1 (.t p27))), (some (p23, true))⟩
(sN p29 ⟨(some p29), (.v (.len (.t p28))), (some (p23, true))⟩
(sN p30 ⟨(some p30), (.v (.mv (.t p0))), (some (p23, true))⟩
(sN p31 ⟨(some p31), (.v (.nchk (.t p30))), (some (p23, true))⟩
(sN p32 ⟨(some p32), (.v (.fa 7 (.t p31))), (some (p23, true))⟩
(sN p33 ⟨(some p33), (.v (.fa 2 (.t p32))), (some (p23, true))⟩
(sN p34 ⟨(some p34), (.v (.ld1 (.t p33))), (some (p23, true))⟩
(sN p35 ⟨(some p35), (.v (.ar .eql (.t p29) (.t p34))), (some (p23, true))⟩
(sN p36 ⟨(some p36), (.v (.pick (.t p23) (.t p35) (.c (.bool false)))), none⟩
(sN p2 ⟨(some p2), (.v (.mv (.t p36))), none⟩
sEnd))))))))))))))))))))))
dRet))), [(.t p2)]⟩
def af187 : AF := ⟨(dSeq (dOps (dV p2 (oMv (.c .nilp))
dE))
(dSeq (dSeq (dOps (dV p3 (oMv (.t p0))
(dV p4 (oNchk (.t p3))
(dV p5 (oFa 25 (.t p4))
(dV p6 (oLd1 (.t p5))
(dV p7 (oEq .p false (.t p6) (.c .nilp))
dE))))))
(dCond (.t p7) (dDraw (sN p8 ⟨(some p8), (.v (.mv (.t p0))), none⟩
(sN p9 ⟨(some p9), (.v (.mv (.t p0))), none⟩
(sN p10 ⟨(some p10), (.v (.nchk (.t p9))), none⟩
(sN p11 ⟨(some p11), (.v (.fa 7 (.t p10))), none⟩
(sN p12 ⟨(some p12), (.v (.fa 9 (.t p11))), none⟩
(sN p13 ⟨(some p13), (.v (.ldN 6 (.t p12))), none⟩
(sN p14 ⟨(some p14), (.v (.mv (.t p0))), none⟩
(sN p15 ⟨(some p15), (.v (.nchk (.t p14))), none⟩
(sN p16 ⟨(some p16), (.v (.fa 0 (.t p15))), none⟩
(sN p17 ⟨(some p17), (.v (.fa 4 (.t p16))), none⟩
(sN p18 ⟨(some p18), (.v (.ld1 (.t p17))), none⟩
(sE [] [] ⟨(some p19), (.call p213 [(.t p13), (.t p18)]), none⟩
(sE [] [] ⟨(some p20), (.call p43 [(.t p19)]), none⟩
(sN p21 ⟨(some p21), (.v (.nchk (.t p8))), none⟩
(sN p22 ⟨(some p22), (.v (.fa 25 (.t p21))), none⟩
(sE [] [] ⟨none, (.v (.st 1 (.t p22) (.t p20))), none⟩
sEnd))))))))))))))))) dSkip))
(dSeq (dOps (dV p23 (oMv (.t p0))
(dV p24 (oNchk (.t p23))
(dV p25 (oFa 25 (.t p24))
(dV p26 (oLd1 (.t p25))
(dV p2 (oMv (.t p26))
dE))))))
dRet))), [(.t p2)]⟩
def af188 : AF := ⟨(dSeq (dOps (dV p2 (oMv (.c (.bool false)))
dE))
(dSeq (dOps (dC (some p10) p212 []
(dV p9 (oMv (.t p10))
(dV p11 (oExt (.t p9) 0)
(dV p12 (oExt (.t p9) 1)
(dV p13 (oExt (.t p9) 2)
(dV p14 (oExt (.t p9) 3)
(dV p15 (oExt (.t p9) 4)
(dV p16 (oExt (.t p9) 5)
(dV p3 (oMv (.t p11))
(dV p4 (oMv (.t p12))
(dV p5 (oMv (.t p13))
(dV p6 (oMv (.t p14))
(dV p7 (oMv (.t p15))
(dV p8 (oMv (.t p16))
dE)))))))))))))))
(dSeq (dDraw (sN p17 ⟨(some p17), (.v (.mv (.t p0))), none⟩
(sN p18 ⟨(some p18), (.v (.nchk (.t p17))), none⟩
(sN p19 ⟨(some p19), (.v (.fa 6 (.t p18))), none⟩
(sN p20 ⟨(some p20), (.v (.ld1 (.t p19))), none⟩
(sN p21 ⟨(some p21), (.v (.mv (.t p8))), none⟩
(sN p22 ⟨(some p22), (.v (.ar .eql (.t p20) (.t p21))), none⟩
(sN p23 ⟨(some p23), (.v (.mv (.t p22))), none⟩
(sN p24 ⟨(some p24), (.v (.mv (.t p0))), (some (p23, true))⟩
(sN p25 ⟨(some p25), (.v (.nchk (.t p24))), (some (p23, true))⟩
(sN p26 ⟨(some p26), (.v (.fa 0 (.t p25))), (some (p23, true))⟩
(sN p27 ⟨(some p27), (.v (.fa 4 (.t p26))), (some (p23, true))⟩
(sN p28 ⟨(some p28), (.v (.ld1 (.t p27))), (some (p23, true))⟩
(sN p29 ⟨(some p29), (.v (.len (.t p28))), (some (p23, true))⟩
(sN p30 ⟨(some p30), (.v (.mv (.t p0))), (some (p23, true))⟩
(sN p31 ⟨(some p31), (.v (.nchk (.t p30))), (some (p23, true))⟩
(sN p32 ⟨(some p32), (.v (.fa 7 (.t p31))), (some (p23, true))⟩
(sN p33 ⟨(some p33), (.v (.fa 2 (.t p32))), (some (p23, true))⟩
(sN p34 ⟨(some p34), (.v (.ld1 (.t p33))), (some (p23, true))⟩
(sN p35 ⟨(some p35), (.v (.ar .add (.t p34) (.c (.int .i64 (.ofNat 1))))), (some (p23, true))⟩
(sN p36 ⟨(some p36), (.v (.ar .eql (.t p29) (.t p35))), (some (p23, true))⟩
(sN p37 ⟨(some p37), (.v (.pick (.t p23) (.t p36) (.c (.bool false)))), none⟩
(sN p38 ⟨(some p38), (.v (.mv (.t p37))), none⟩
(sN p39 ⟨(some p39), (.v (.mv (.t p0))), (some (p38, true))⟩
(sN p40 ⟨(some p40), (.v (.nchk (.t p39))), (some (p38, true))⟩
(sN p41 ⟨(some p41), (.v (.fa 24 (.t p40))), (some (p38, true))⟩
(sN p42 ⟨(some p42), (.v (.ld1 (.t p41))), (some (p38, true))⟩
(sN p43 ⟨(some p43), (.v (.nchk (.t p42))), (some (p38, true))⟩
(sN p44 ⟨(some p44), (.v (.fa 17 (.t p43))), (some (p38, true))⟩
(sN p45 ⟨(some p45), (.v (.ld1 (.t p44))), (some (p38, true))⟩
(sN p46 ⟨(some p46), (.v (.pick (.t p38) (.t p45) (.c (.bool false)))), none⟩
(sN p47 ⟨(some p47), (.v (.mv (.t p46))), none⟩
(sN p48 ⟨(some p48), (.v (.mv (.t p0))), (some (p47, true))⟩
(sN p49 ⟨(some p49), (.v (.nchk (.t p48))), (some (p47, true))⟩
(sN p50 ⟨(some p50), (.v (.fa 7 (.t p49))), (some (p47, true))⟩
(sN p51 ⟨(some p51), (.v (.fa 16 (.t p50))), (some (p47, true))⟩
(sN p52 ⟨(some p52), (.v (.ld1 (.t p51))), (some (p47, true))⟩
(sN p53 ⟨(some p53), (.v (.len (.t p52))), (some (p47, true))⟩
(sN p54 ⟨(some p54), (.v (.ar .gtr (.t p53) (.c (.int .i64 (.ofNat 0))))), (some (p47, true))⟩
(sN p55 ⟨(some p55), (.v (.pick (.t p47) (.t p54) (.c (.bool false)))), none⟩
(sN p2 ⟨(some p2), (.v (.mv (.t p55))), none⟩
sEnd)))))))))))))))))))))))))))))))))))))))))
dRet))), [(.t p2)]⟩
def af189 : AF := ⟨(dSeq (dOps (dV p4 (oMv (.c .nilp))
dE))
(dSeq (dBlock 0 (dLoop (dSeq (dSeq (dOps (dV p5 (oMv (.t p0))
(dV p6 (oEq .p true (.t p5) (.c .nilp))
(dV p7 (oMv (.t p6))
(dG p7 true (some p8) (dV p8 (oMv (.t p1)))
(dG p7 true (some p9) (dV p9 (oAr .gtr (.t p8) (.c (.int .i64 (.ofNat 0)))))
(dV p10 (oPick (.t p7) (.t p9) (.c (.bool false)))
dE)))))))
(dCond (.t p10) dSkip (dExit 0)))
(dSeq (dBlock 1 (dOps (dV p13 (oMv (.t p0))
(dV p14 (oNchk (.t p13))
(dV p15 (oFa 2 (.t p14))
(dV p16 (oLd1 (.t p15))
(dV p0 (oMv (.t p16))
dE)))))))
(dOps (dV p11 (oMv (.t p1))
(dV p12 (oAr .sub (.t p11) (.c (.int .i64 (.ofNat 1))))
(dV p1 (oMv (.t p12))
dE))))))))
(dSeq (dOps (dV p17 (oMv (.t p0))
(dV p4 (oMv (.t p17))
dE)))
dRet))), [(.t p4)]⟩
def af190 : AF := ⟨(dSeq (dOps (dV p2 (oMv (.c (.int .i64 (.ofNat 0))))
dE))
(dSeq (dDraw (sN p3 ⟨(some p3), (.v (.mv (.t p0))), none⟩
(sN p5 ⟨(some p5), (.v (.mv (.t p0))), none⟩
(sN p6 ⟨(some p6), (.v (.nchk (.t p5))), none⟩
(sN p7 ⟨(some p7), (.v (.fa 19 (.t p6))), none⟩
(sN p8 ⟨(some p8), (.v (.ld1 (.t p7))), none⟩
(sE [] [(p8, ⟨(some p8), (.v (.ld1 (.t p7))), none⟩)] ⟨(some p4), (.call p214 [(.t p3)]), none⟩
(sN p9 ⟨(some p9), (.v (.ar .add (.t p4) (.t p8))), none⟩
(sN p2 ⟨(some p2), (.v (.mv (.t p9))), none⟩
sEnd)))))))))
dRet)), [(.t p2)]⟩
def af191 : AF := ⟨(dSeq (dOps (dV p4 (oMv (.c (.bool false)))
dE))
(dSeq (dSeq (dOps (dV p5 (oMv (.t p1))
(dV p6 (oNchk (.t p5))
(dV p7 (oFa 7 (.t p6))
(dV p8 (oLd1 (.t p7))
(dV p9 (oEq .p false (.t p8) (.c .nilp))
dE))))))
(dCond (.t p9) (dSeq (dOps (dV p10 (oMv (.t p0))
(dV p11 (oMv (.t p1))
(dV p12 (oBuild [(.int .i64 (.ofNat 0)), (.int .i64 (.ofNat 0))] [])
(dC (some p13) p121 [(.t p10), (.t p11), (.t p12)]
dE)))))
(dSeq (dOps (dV p4 (oMv (.c (.bool true)))
dE))
dRet)) dSkip))
(dSeq (dOps (dV p14 (oMv (.t p0))
(dV p15 (oMv (.t p1))
(dV p16 (oNchk (.t p15))
(dV p17 (oFa 8 (.t p16))
(dV p18 (oLdN 4 (.t p17))
(dC (some p19) p124 [(.t p14), (.t p18)]
dE)))))))
(dSeq (dOps (dV p4 (oMv (.c (.bool false)))
dE))
dRet)))), [(.t p4)]⟩
def af192 : AF := ⟨(dSeq (dOps (dV p6 (oMv (.c (.int .i64 (.ofNat 0))))
(dV p7 (oMv (.c (.bool false)))
dE)))
(dSeq (dSeq (dOps (dV p12 (oMv (.t p1))
(dV p13 (oNchk (.t p12))
(dV p14 (oFa 0 (.t p13))
(dV p15 (oFa 0 (.t p14))
(dV p16 (oFa 2 (.t p15))
(dV p17 (oLd1 (.t p16))
(dV p18 (oNchk (.t p17))
(dV p19 (oFa 0 (.t p18))
(dV p20 (oFa 0 (.t p19))
(dV p21 (oLd1 (.t p20))
(dV p22 (oAr .neq (.t p21) (.c (.int .i64 (.ofNat 10))))
dE))))))))))))
(dCond (.t p22) (dSeq (dOps (dV p6 (oMv (.c (.int .i64 (.ofNat 0))))
(dV p7 (oMv (.c (.bool false)))
dE)))
dRet) dSkip))
(dSeq (dOps (dV p23 (oMv (.t p0))
(dV p24 (oMv (.t p1))
(dV p25 (oNchk (.t p24))
(dV p26 (oFa 0 (.t p25))
(dV p27 (oFa 0 (.t p26))
(dV p28 (oFa 2 (.t p27))
(dV p29 (oLd1 (.t p28))
(dC (some p30) p185 [(.t p23), (.t p29)]
(dV p8 (oMv (.t p30))
dE))))))))))
(dSeq (dOps (dV p32 (oMv (.t p8))
(dC (some p33) p215 [(.t p32)]
(dV p31 (oMv (.t p33))
(dV p34 (oExt (.t p31) 0)
(dV p35 (oExt (.t p31) 1)
(dV p9 (oMv (.t p34))
(dV p10 (oMv (.t p35))
dE))))))))
(dSeq (dSeq (dOps (dV p36 (oMv (.t p10))
(dV p37 (oUn .not (.t p36))
(dV p38 (oMv (.t p37))
(dG p38 false (some p39) (dV p39 (oMv (.t p8)))
(dG p38 false (some p40) (dV p40 (oNchk (.t p39)))
(dG p38 false (some p41) (dV p41 (oFa 24 (.t p40)))
(dG p38 false (some p42) (dV p42 (oLd1 (.t p41)))
(dG p38 false (some p43) (dV p43 (oMv (.t p2)))
(dG p38 false (some p44) (dV p44 (oEq .p true (.t p42) (.t p43)))
(dV p45 (oPick (.t p38) (.c (.bool true)) (.t p44))
dE)))))))))))
(dCond (.t p45) (dSeq (dOps (dV p6 (oMv (.c (.int .i64 (.ofNat 0))))
(dV p7 (oMv (.c (.bool false)))
dE)))
dRet) dSkip))
(dSeq (dOps (dV p46 (oMv (.t p2))
(dV p47 (oMv (.t p9))
(dC (some p48) p216 [(.t p46), (.t p47)]
(dV p11 (oMv (.t p48))
dE)))))
(dSeq (dDraw (sN p49 ⟨(some p49), (.v (.mv (.t p9))), none⟩
(sN p50 ⟨(some p50), (.v (.mv (.t p11))), none⟩
(sN p51 ⟨(some p51), (.v (.nchk (.t p50))), none⟩
(sN p52 ⟨(some p52), (.v (.fa 0 (.t p51))), none⟩
(sN p53 ⟨(some p53), (.v (.ld1 (.t p52))), none⟩
(sN p54 ⟨(some p54), (.v (.mv (.t p53))), none⟩
(sN p55 ⟨(some p55), (.v (.mv (.t p11))), (some (p54, true))⟩
(sN p56 ⟨(some p56), (.v (.nchk (.t p55))), (some (p54, true))⟩
(sN p57 ⟨(some p57), (.v (.fa 1 (.t p56))), (some (p54, true))⟩
(sN p58 ⟨(some p58), (.v (.ld1 (.t p57))), (some (p54, true))⟩
(sN p59 ⟨(some p59), (.v (.mv (.t p1))), (some (p54, true))⟩
(sN p60 ⟨(some p60), (.v (.nchk (.t p59))), (some (p54, true))⟩
(sN p61 ⟨(some p61), (.v (.fa 4 (.t p60))), (some (p54, true))⟩
(sN p62 ⟨(some p62), (.v (.ld1 (.t p61))), (some (p54, true))⟩
(sE [] [(p58, ⟨(some p58), (.v (.ld1 (.t p57))), (some (p54, true))⟩)] ⟨(some p63), (.call p153 [(.t p62)]), (some (p54, true))⟩
(sN p64 ⟨(some p64), (.v (.fld1 0 (.t p63))), (some (p54, true))⟩
(sN p65 ⟨(some p65), (.v (.ar .eql (.t p58) (.t p64))), (some (p54, true))⟩
(sN p66 ⟨(some p66), (.v (.pick (.t p54) (.t p65) (.c (.bool false)))), none⟩
(sN p6 ⟨(some p6), (.v (.mv (.t p49))), none⟩
(sN p7 ⟨(some p7), (.v (.mv (.t p66))), none⟩
sEnd)))))))))))))))))))))
dRet))))))), [(.t p6), (.t p7)]⟩
def af193 : AF := ⟨(dSeq (dOps (dV p6 (oNew [.nilp, (.int .i64 (.ofNat 0))] 60)
dE))
(dSeq (dOps (dV p10 (oBuild [.nilp, (.int .i64 (.ofNat 0))] [])
(dV p7 (oNew [.nilp, (.int .i64 (.ofNat 0))] 60)
(dU (oSt 2 (.t p7) (.t p10))
dE))))
(dSeq (dSeq (dOps (dV p8 (oMv (.c (.int .i64 (.ofNat 0))))
dE))
(dBlock 0 (dLoop (dSeq (dSeq (dOps (dV p11 (oMv (.t p8))
(dV p12 (oMv (.t p0))
(dC (some p13) p214 [(.t p12)]
(dV p14 (oAr .lss (.t p11) (.t p13))
dE)))))
(dCond (.t p14) dSkip (dExit 0)))
(dSeq (dBlock 1 (dDraw (sN p21 ⟨(some p21), (.v (.ldN 2 (.t p7))), none⟩
(sN p22 ⟨(some p22), (.v (.mv (.t p1))), none⟩
(sN p23 ⟨(some p23), (.v (.nchk (.t p22))), none⟩
(sN p24 ⟨(some p24), (.v (.fa 0 (.t p23))), none⟩
(sN p25 ⟨(some p25), (.v (.ld1 (.t p24))), none⟩
(sE [] [] ⟨(some p26), (.call p163 [(.t p21), (.t p25)]), none⟩
(sE [] [] ⟨none, (.v (.st 2 (.t p7) (.t p26))), none⟩
sEnd)))))))))
(dDraw (sN p15 ⟨(some p15), (.v (.mv (.t p8))), none⟩
(sN p16 ⟨(some p16), (.v (.ar .add (.t p15) (.c (.int .i64 (.ofNat 1))))), none⟩
(sN p17 ⟨(some p17), (.v (.mv (.t p1))), none⟩
(sN p18 ⟨(some p18), (.v (.nchk (.t p17))), none⟩
(sN p19 ⟨(some p19), (.v (.fa 2 (.t p18))), none⟩
(sN p20 ⟨(some p20), (.v (.ld1 (.t p19))), none⟩
(sE [] [(p20, ⟨(some p20), (.v (.ld1 (.t p19))), none⟩)] ⟨(some p8), (.v (.mv (.t p16))), none⟩
(sE [] [] ⟨(some p1), (.v (.mv (.t p20))), none⟩
sEnd))))))))))))))
(dSeq (dSeq (dOps (dV p27 (oMv (.t p2))
(dV p28 (oMv (.t p0))
(dV p29 (oNchk (.t p28))
(dV p30 (oFa 18 (.t p29))
(dV p31 (oLd1 (.t p30))
(dC (some p32) p189 [(.t p27), (.t p31)]
(dC (some p33) p116 [(.t p32)]
dE))))))))
(dBlock 2 (dRange (.t p33) [p34] (dOps (dV p9 (oMv (.t p34))
dE)) (dBlock 3 (dDraw (sN p35 ⟨(some p35), (.v (.ldN 2 (.t p7))), none⟩
(sN p36 ⟨(some p36), (.v (.mv (.t p9))), none⟩
(sN p37 ⟨(some p37), (.v (.nchk (.t p36))), none⟩
(sN p38 ⟨(some p38), (.v (.fa 0 (.t p37))), none⟩
(sN p39 ⟨(some p39), (.v (.ld1 (.t p38))), none⟩
(sE [] [] ⟨(some p40), (.call p163 [(.t p35), (.t p39)]), none⟩
(sE [] [] ⟨none, (.v (.st 2 (.t p7) (.t p40))), none⟩
sEnd))))))))))))
(dSeq (dOps (dV p41 (oLdN 2 (.t p7))
(dU (oSt 2 (.t p6) (.t p41))
dE)))
dRet))))), [(.cN p6 2)]⟩
def af194 : AF := ⟨(dSeq (dOps (dV p4 (oMv (.c .nilp))
dE))
(dSeq (dSeq (dOps (dV p6 (oMv (.t p0))
(dV p7 (oNchk (.t p6))
(dV p8 (oFa 26 (.t p7))
(dV p9 (oLd1 (.t p8))
(dV p10 (oMv (.t p1))
(dV p11 (oIa 1 (.t p9) (.t p10))
(dV p12 (oLd1 (.t p11))
(dV p13 (oEq .p false (.t p12) (.c .nilp))
dE)))))))))
(dCond (.t p13) (dSeq (dDraw (sN p14 ⟨(some p14), (.v (.mv (.t p0))), none⟩
(sN p15 ⟨(some p15), (.v (.nchk (.t p14))), none⟩
(sN p16 ⟨(some p16), (.v (.fa 0 (.t p15))), none⟩
(sN p17 ⟨(some p17), (.v (.ldN 6 (.t p16))), none⟩
(sN p18 ⟨(some p18), (.v (.mv (.t p0))), none⟩
(sN p19 ⟨(some p19), (.v (.nchk (.t p18))), none⟩
(sN p20 ⟨(some p20), (.v (.fa 24 (.t p19))), none⟩
(sN p21 ⟨(some p21), (.v (.ld1 (.t p20))), none⟩
(sN p22 ⟨(some p22), (.v (.mv (.t p0))), none⟩
(sN p23 ⟨(some p23), (.v (.nchk (.t p22))), none⟩
(sN p24 ⟨(some p24), (.v (.fa 24 (.t p23))), none⟩
(sN p25 ⟨(some p25), (.v (.ld1 (.t p24))), none⟩
(sN p26 ⟨(some p26), (.v (.mv (.t p1))), none⟩
(sA 15 p5 (.new [(.int .i64 (.ofNat 0)), (.int .i64 (.ofNat 0)), (.bool false), (.str []), .nils, .nils, .nilp, .nilp] 320)
(sE [] [(p17, ⟨(some p17), (.v (.ldN 6 (.t p16))), none⟩), (p21, ⟨(some p21), (.v (.ld1 (.t p20))), none⟩)] ⟨(some p27), (.call p216 [(.t p25), (.t p26)]), none⟩
(sN p28 ⟨(some p28), (.v (.build [(.int .i64 (.ofNat 0)), (.int .i64 (.ofNat 0)), (.bool false), (.str []), .nils, .nils, .nilp, .nilp] [(0, 6, (.t p17)), (6, 1, (.t p21)), (7, 1, (.t p27))])), none⟩
(sE [15] [] ⟨none, (.v (.st 8 (.t p5) (.t p28))), none⟩
sEnd))))))))))))))))))
(dDraw (sN p29 ⟨(some p29), (.v (.mv (.t p0))), none⟩
(sN p30 ⟨(some p30), (.v (.nchk (.t p29))), none⟩
(sN p31 ⟨(some p31), (.v (.fa 26 (.t p30))), none⟩
(sN p32 ⟨(some p32), (.v (.ld1 (.t p31))), none⟩
(sN p33 ⟨(some p33), (.v (.mv (.t p1))), none⟩
(sN p34 ⟨(some p34), (.v (.ldN 8 (.t p5))), none⟩
(sN p35 ⟨(some p35), (.v (.mv (.t p1))), none⟩
(sE [] [(p32, ⟨(some p32), (.v (.ld1 (.t p31))), none⟩)] ⟨(some p36), (.call p217 [(.t p34), (.t p35)]), none⟩
(sE [] [(p32, ⟨(some p32), (.v (.ld1 (.t p31))), none⟩)] ⟨(some p37), (.call p43 [(.t p36)]), none⟩
(sN p38 ⟨(some p38), (.v (.ia 1 (.t p32) (.t p33))), none⟩
(sE [] [] ⟨none, (.v (.st 1 (.t p38) (.t p37))), none⟩
sEnd))))))))))))) dSkip))
(dSeq (dOps (dV p39 (oMv (.t p0))
(dV p40 (oNchk (.t p39))
(dV p41 (oFa 26 (.t p40))
(dV p42 (oLd1 (.t p41))
(dV p43 (oMv (.t p1))
(dV p44 (oIa 1 (.t p42) (.t p43))
(dV p45 (oLd1 (.t p44))
(dV p4 (oMv (.t p45))
dE)))))))))
dRet))), [(.t p4)]⟩
def af195 : AF := ⟨(dSeq (dOps (dV p2 (oMv (.c .nils))
dE))
(dSeq (dOps (dV p8 (oMv (.t p0))
(dC (some p9) p218 [(.t p8), (.c (.fn (.func 219) [] []))]
dE)))
(dSeq (dOps (dV p3 (oMv (.c .nils))
dE))
(dSeq (dSeq (dOps (dV p10 (oMv (.t p0))
(dV p11 (oLen (.t p10))
(dV p12 (oMv (.c (.int .i64 (.ofNat 0))))
dE))))
(dBlock 0 (dLoop (dSeq (dOps (dV p13 (oAr .lss (.t p12) (.t p11))
dE))
(dSeq (dCond (.t p13) dSkip (dExit 0))
(dSeq (dBlock 1 (dSeq (dOps (dV p14 (oIa 4 (.t p10) (.t p12))
(dV p15 (oLdN 4 (.t p14))
(dV p5 (oNew [(.int .i64 (.ofNat 0)), (.int .i64 (.ofNat 0)), (.int .i64 (.ofNat 0)), (.int .i64 (.ofNat 0))] 239)
(dU (oSt 4 (.t p5) (.t p15))
dE)))))
(dSeq (dOps (dV p16 (oMv (.t p3))
(dV p17 (oLen (.t p16))
(dV p18 (oAr .sub (.t p17) (.c (.int .i64 (.ofNat 1))))
(dV p6 (oMv (.t p18))
dE)))))
(dSeq (dSeq (dDraw (sN p19 ⟨(some p19), (.v (.mv (.t p6))), none⟩
(sN p20 ⟨(some p20), (.v (.ar .lss (.t p19) (.c (.int .i64 (.ofNat 0))))), none⟩
(sN p21 ⟨(some p21), (.v (.mv (.t p20))), none⟩
(sN p22 ⟨(some p22), (.v (.mv (.t p3))), (some (p21, false))⟩
(sN p23 ⟨(some p23), (.v (.mv (.t p6))), (some (p21, false))⟩
(sN p24 ⟨(some p24), (.v (.ia 4 (.t p22) (.t p23))), (some (p21, false))⟩
(sN p25 ⟨(some p25), (.v (.fa 0 (.t p24))), (some (p21, false))⟩
(sN p26 ⟨(some p26), (.v (.ld1 (.t p25))), (some (p21, false))⟩
(sN p27 ⟨(some p27), (.v (.fa 0 (.t p5))), (some (p21, false))⟩
(sN p28 ⟨(some p28), (.v (.ld1 (.t p27))), (some (p21, false))⟩
(sN p29 ⟨(some p29), (.v (.ar .neq (.t p26) (.t p28))), (some (p21, false))⟩
(sN p30 ⟨(some p30), (.v (.pick (.t p21) (.c (.bool true)) (.t p29))), none⟩
sEnd)))))))))))))
(dCond (.t p30) (dSeq (dOps (dV p31 (oMv (.t p3))
(dV p32 (oLdN 4 (.t p5))
(dV p33 (oBuildS 239 1 [(.int .i64 (.ofNat 0)), (.int .i64 (.ofNat 0)), (.int .i64 (.ofNat 0)), (.int .i64 (.ofNat 0))] [(0, 4, (.t p32))])
(dV p34 (oApp 239 4 (.t p31) (.t p33))
(dV p3 (oMv (.t p34))
dE))))))
(dExit 1)) dSkip))
(dSeq (dOps (dV p35 (oMv (.t p3))
(dV p36 (oMv (.t p6))
(dV p37 (oIa 4 (.t p35) (.t p36))
(dV p38 (oLdN 4 (.t p37))
(dV p7 (oNew [(.int .i64 (.ofNat 0)), (.int .i64 (.ofNat 0)), (.int .i64 (.ofNat 0)), (.int .i64 (.ofNat 0))] 239)
(dU (oSt 4 (.t p7) (.t p38))
dE)))))))
(dOps (dV p39 (oMv (.t p3))
(dV p40 (oMv (.t p6))
(dV p41 (oFa 0 (.t p7))
(dV p42 (oLd1 (.t p41))
(dV p43 (oFa 1 (.t p7))
(dV p44 (oLd1 (.t p43))
(dV p45 (oFa 1 (.t p5))
(dV p46 (oLd1 (.t p45))
(dV p47 (oAr .add (.t p44) (.t p46))
(dV p48 (oFa 2 (.t p7))
(dV p49 (oLd1 (.t p48))
(dV p50 (oFa 2 (.t p5))
(dV p51 (oLd1 (.t p50))
(dV p52 (oMm true [(.t p49), (.t p51)])
(dV p53 (oFa 3 (.t p7))
(dV p54 (oLd1 (.t p53))
(dV p55 (oFa 3 (.t p5))
(dV p56 (oLd1 (.t p55))
(dV p57 (oMm true [(.t p54), (.t p56)])
(dV p58 (oBuild [(.int .i64 (.ofNat 0)), (.int .i64 (.ofNat 0)), (.int .i64 (.ofNat 0)), (.int .i64 (.ofNat 0))] [(0, 1, (.t p42)), (1, 1, (.t p47)), (2, 1, (.t p52)), (3, 1, (.t p57))])
(dV p59 (oIa 4 (.t p39) (.t p40))
(dU (oSt 4 (.t p59) (.t p58))
dE))))))))))))))))))))))))))))
(dOps (dV p60 (oAr .add (.t p12) (.c (.int .i64 (.ofNat 1))))
(dV p12 (oMv (.t p60))
dE)))))))))
(dSeq (dOps (dV p61 (oMv (.t p3))
(dV p2 (oMv (.t p61))
dE)))
dRet))))), [(.t p2)]⟩
def af196 : AF := ⟨(dSeq (dOps (dV p4 (oMv (.t p1))
dE))
(dCond (.t p4) (dOps (dV p5 (oMv (.t p0))
(dV p6 (oBuildS 5 1 [(.int .u8 (.ofNat 0))] [(0, 1, (.c (.int .u8 (.ofNat 1))))])
(dC (some p7) p167 [(.t p5), (.t p6)]
dE)))) (dOps (dV p8 (oMv (.t p0))
(dV p9 (oBuildS 5 1 [(.int .u8 (.ofNat 0))] [(0, 1, (.c (.int .u8 (.ofNat 0))))])
(dC (some p10) p167 [(.t p8), (.t p9)]
dE)))))), []⟩
def af197 : AF := ⟨(dSeq (dOps (dV p6 (oMv (.t p0))
(dV p7 (oLen (.t p6))
(dV p8 (oMv (.c (.int .i64 (.ofNat 0))))
dE))))
(dBlock 0 (dLoop (dSeq (dOps (dV p9 (oAr .lss (.t p8) (.t p7))
dE))
(dSeq (dCond (.t p9) dSkip (dExit 0))
(dSeq (dBlock 1 (dSeq (dOps (dV p10 (oIa 2 (.t p6) (.t p8))
(dV p11 (oLdN 2 (.t p10))
(dV p5 (oNew [(.int .i64 (.ofNat 0)), .nils] 49)
(dU (oSt 2 (.t p5) (.t p11))
dE)))))
(dOps (dV p12 (oMv (.t p1))
(dV p13 (oLdN 2 (.t p5))
(dCv (some p14) (.t p12) [(.t p13)]
dE))))))
(dOps (dV p15 (oAr .add (.t p8) (.c (.int .i64 (.ofNat 1))))
(dV p8 (oMv (.t p15))
dE))))))))), []⟩
def af198 : AF := ⟨(dSeq (dOps (dV p3 (oBox 49 (.t p1))
dE))
(dSeq (dOps (dV p4 (oMv (.t p0))
(dV p5 (oFa 0 (.t p3))
(dV p6 (oLd1 (.t p5))
(dC (some p7) p132 [(.t p4), (.t p6)]
dE)))))
(dSeq (dOps (dV p8 (oMv (.t p0))
(dV p9 (oFa 1 (.t p3))
(dV p10 (oLd1 (.t p9))
(dV p11 (oLen (.t p10))
(dC (some p12) p132 [(.t p8), (.t p11)]
dE))))))
(dOps (dV p13 (oFa 1 (.t p3))
(dV p14 (oLd1 (.t p13))
(dV p15 (oMv (.t p0))
(dV p16 (oMkf 221 [(.t p15)] [])
(dC (some p17) p220 [(.t p14), (.t p16)]
dE))))))))), []⟩
def af199 : AF := ⟨(dSeq (dOps (dV p6 (oMv (.t p0))
(dV p7 (oLen (.t p6))
(dV p8 (oMv (.c (.int .i64 (.ofNat 0))))
dE))))
(dBlock 0 (dLoop (dSeq (dOps (dV p9 (oAr .lss (.t p8) (.t p7))
dE))
(dSeq (dCond (.t p9) dSkip (dExit 0))
(dSeq (dBlock 1 (dSeq (dOps (dV p10 (oIa 6 (.t p6) (.t p8))
(dV p11 (oLdN 6 (.t p10))
(dV p5 (oNew [(.int .i64 (.ofNat 0)), (.int .i64 (.ofNat 0)), (.bool false), (.str []), .nils, .nils] 26)
(dU (oSt 6 (.t p5) (.t p11))
dE)))))
(dOps (dV p12 (oMv (.t p1))
(dV p13 (oLdN 6 (.t p5))
(dCv (some p14) (.t p12) [(.t p13)]
dE))))))
(dOps (dV p15 (oAr .add (.t p8) (.c (.int .i64 (.ofNat 1))))
(dV p8 (oMv (.t p15))
dE))))))))), []⟩
def af200 : AF := ⟨(dSeq (dOps (dV p2 (oMv (.c .nils))
dE))
(dSeq (dOps (dV p3 (oMv (.c .nils))
dE))
(dSeq (dSeq (dOps (dV p6 (oMv (.t p0))
(dV p7 (oLen (.t p6))
(dV p8 (oMv (.c (.int .i64 (.ofNat 0))))
dE))))
(dBlock 0 (dLoop (dSeq (dOps (dV p9 (oAr .lss (.t p8) (.t p7))
dE))
(dSeq (dCond (.t p9) dSkip (dExit 0))
(dSeq (dBlock 1 (dSeq (dOps (dV p10 (oIa 2 (.t p6) (.t p8))
(dV p11 (oLdN 2 (.t p10))
(dV p5 (oNew [(.int .i64 (.ofNat 0)), .nils] 49)
(dU (oSt 2 (.t p5) (.t p11))
dE)))))
(dDraw (sN p12 ⟨(some p12), (.v (.mv (.t p3))), none⟩
(sN p13 ⟨(some p13), (.v (.fa 0 (.t p5))), none⟩
(sN p14 ⟨(some p14), (.v (.ld1 (.t p13))), none⟩
(sN p15 ⟨(some p15), (.v (.fa 1 (.t p5))), none⟩
(sN p16 ⟨(some p16), (.v (.ld1 (.t p15))), none⟩
(sE [] [(p14, ⟨(some p14), (.v (.ld1 (.t p13))), none⟩)] ⟨(some p17), (.v (.app 253 2 (.c .nils) (.t p16))), none⟩
(sN p18 ⟨(some p18), (.v (.build [(.int .i64 (.ofNat 0)), .nils] [(0, 1, (.t p14)), (1, 1, (.t p17))])), none⟩
(sA 7 p19 (.buildS 49 1 [(.int .i64 (.ofNat 0)), .nils] [(0, 2, (.t p18))])
(sE [7] [] ⟨(some p20), (.v (.app 49 2 (.t p12) (.t p19))), none⟩
(sE [7] [] ⟨(some p3), (.v (.mv (.t p20))), none⟩
sEnd)))))))))))))
(dOps (dV p21 (oAr .add (.t p8) (.c (.int .i64 (.ofNat 1))))
(dV p8 (oMv (.t p21))
dE)))))))))
(dSeq (dOps (dV p22 (oMv (.t p3))
(dV p2 (oMv (.t p22))
dE)))
dRet)))), [(.t p2)]⟩
def af202 : AF := ⟨(dSeq (dOps (dV p5 (oMv (.t p0))
(dV p6 (oLen (.t p5))
(dV p4 (oMv (.t p6))
dE))))
(dOps (dV p7 (oMv (.t p0))
(dV p8 (oMv (.t p4))
(dV p9 (oMv (.t p4))
(dV p10 (oCvI .u64 (.t p9))
(dC (some p11) p225 [(.t p10)]
(dV p12 (oMv (.t p1))
(dC (some p13) p224 [(.t p7), (.c (.int .i64 (.ofNat 0))), (.t p8), (.t p11), (.t p12)]
dE))))))))), []⟩
def af203 : AF := ⟨(dSeq (dOps (dV p3 (oBox 253 (.t p0))
(dV p4 (oBox 253 (.t p1))
(dV p5 (oMv (.c (.int .i64 (.ofNat 0))))
dE))))
(dSeq (dOps (dV p11 (oLd1 (.t p2))
(dV p12 (oLdN 2 (.t p3))
(dCv (some p13) (.t p11) [(.t p12)]
(dV p10 (oMv (.t p13))
(dV p14 (oExt (.t p10) 0)
(dV p15 (oExt (.t p10) 1)
(dV p6 (oMv (.t p14))
(dV p7 (oMv (.t p15))
dE)))))))))
(dSeq (dOps (dV p17 (oLd1 (.t p2))
(dV p18 (oLdN 2 (.t p4))
(dCv (some p19) (.t p17) [(.t p18)]
(dV p16 (oMv (.t p19))
(dV p20 (oExt (.t p16) 0)
(dV p21 (oExt (.t p16) 1)
(dV p8 (oMv (.t p20))
(dV p9 (oMv (.t p21))
dE)))))))))
(dSeq (dSeq (dOps (dV p22 (oMv (.t p6))
(dV p23 (oMv (.t p8))
(dV p24 (oAr .neq (.t p22) (.t p23))
dE))))
(dCond (.t p24) (dSeq (dOps (dV p25 (oMv (.t p6))
(dV p26 (oMv (.t p8))
(dC (some p27) p204 [(.t p25), (.t p26)]
(dV p5 (oMv (.t p27))
dE)))))
dRet) dSkip))
(dSeq (dOps (dV p28 (oMv (.t p9))
(dV p29 (oMv (.t p7))
(dC (some p30) p204 [(.t p28), (.t p29)]
(dV p5 (oMv (.t p30))
dE)))))
dRet))))), [(.t p5)]⟩
def af204 : AF := ⟨(dSeq (dOps (dV p4 (oMv (.c (.int .i64 (.ofNat 0))))
dE))
(dSeq (dOps (dV p7 (oMv (.t p0))
(dC (some p8) p226 [(.t p7)]
(dV p5 (oMv (.t p8))
dE))))
(dSeq (dOps (dV p9 (oMv (.t p1))
(dC (some p10) p226 [(.t p9)]
(dV p6 (oMv (.t p10))
dE))))
(dSeq (dSeq (dOps (dV p11 (oMv (.t p5))
dE))
(dCond (.t p11) (dSeq (dSeq (dOps (dV p12 (oMv (.t p6))
dE))
(dCond (.t p12) (dSeq (dOps (dV p4 (oMv (.c (.int .i64 (.ofNat 0))))
dE))
dRet) dSkip))
(dSeq (dOps (dV p4 (oMv (.c (.int .i64 (.negSucc 0))))
dE))
dRet)) dSkip))
(dSeq (dSeq (dOps (dV p13 (oMv (.t p6))
dE))
(dCond (.t p13) (dSeq (dOps (dV p4 (oMv (.c (.int .i64 (.ofNat 1))))
dE))
dRet) dSkip))
(dSeq (dSeq (dOps (dV p14 (oMv (.t p0))
(dV p15 (oMv (.t p1))
(dV p16 (oAr .lss (.t p14) (.t p15))
dE))))
(dCond (.t p16) (dSeq (dOps (dV p4 (oMv (.c (.int .i64 (.negSucc 0))))
dE))
dRet) dSkip))
(dSeq (dSeq (dOps (dV p17 (oMv (.t p0))
(dV p18 (oMv (.t p1))
(dV p19 (oAr .gtr (.t p17) (.t p18))
dE))))
(dCond (.t p19) (dSeq (dOps (dV p4 (oMv (.c (.int .i64 (.ofNat 1))))
dE))
dRet) dSkip))
(dSeq (dOps (dV p4 (oMv (.c (.int .i64 (.ofNat 0))))
dE))
dRet)))))))), [(.t p4)]⟩
def af205 : AF := ⟨(dSeq (dOps (dV p4 (oMv (.c .nils))
dE))
(dSeq (dSeq (dOps (dV p8 (oMv (.t p0))
(dV p9 (oLen (.t p8))
(dV p10 (oAr .lss (.t p9) (.c (.int .i64 (.ofNat 2))))
dE))))
(dCond (.t p10) (dSeq (dOps (dV p11 (oMv (.t p0))
(dV p4 (oMv (.t p11))
dE)))
dRet) dSkip))
(dSeq (dSeq (dOps (dV p5 (oMv (.c (.int .i64 (.ofNat 1))))
dE))
(dBlock 0 (dLoop (dSeq (dSeq (dOps (dV p12 (oMv (.t p5))
(dV p13 (oMv (.t p0))
(dV p14 (oLen (.t p13))
(dV p15 (oAr .lss (.t p12) (.t p14))
dE)))))
(dCond (.t p15) dSkip (dExit 0)))
(dSeq (dBlock 1 (dSeq (dDraw (sN p18 ⟨(some p18), (.v (.mv (.t p1))), none⟩
(sN p19 ⟨(some p19), (.v (.mv (.t p0))), none⟩
(sN p20 ⟨(some p20), (.v (.mv (.t p5))), none⟩
(sN p21 ⟨(some p21), (.v (.ia 2 (.t p19) (.t p20))), none⟩
(sN p22 ⟨(some p22), (.v (.ldN 2 (.t p21))), none⟩
(sN p23 ⟨(some p23), (.v (.mv (.t p0))), none⟩
(sN p24 ⟨(some p24), (.v (.mv (.t p5))), none⟩
(sN p25 ⟨(some p25), (.v (.ar .sub (.t p24) (.c (.int .i64 (.ofNat 1))))), none⟩
(sN p26 ⟨(some p26), (.v (.ia 2 (.t p23) (.t p25))), none⟩
(sN p27 ⟨(some p27), (.v (.ldN 2 (.t p26))), none⟩
(sE [] [] ⟨(some p28), (.callv (.t p18) [(.t p22), (.t p27)]), none⟩
sEnd))))))))))))
(dCond (.t p28) (dSeq (dOps (dV p29 (oMv (.t p0))
(dV p30 (oMv (.t p5))
(dV p31 (oSl 2 (.t p29) (some (.t p30)) none none)
(dV p6 (oMv (.t p31))
dE)))))
(dSeq (dSeq (dOps (dV p7 (oMv (.c (.int .i64 (.ofNat 1))))
dE))
(dBlock 2 (dLoop (dSeq (dSeq (dOps (dV p32 (oMv (.t p7))
(dV p33 (oMv (.t p6))
(dV p34 (oLen (.t p33))
(dV p35 (oAr .lss (.t p32) (.t p34))
dE)))))
(dCond (.t p35) dSkip (dExit 2)))
(dSeq (dBlock 3 (dSeq (dDraw (sN p38 ⟨(some p38), (.v (.mv (.t p1))), none⟩
(sN p39 ⟨(some p39), (.v (.mv (.t p6))), none⟩
(sN p40 ⟨(some p40), (.v (.mv (.t p7))), none⟩
(sN p41 ⟨(some p41), (.v (.ia 2 (.t p39) (.t p40))), none⟩
(sN p42 ⟨(some p42), (.v (.ldN 2 (.t p41))), none⟩
(sN p43 ⟨(some p43), (.v (.mv (.t p6))), none⟩
(sN p44 ⟨(some p44), (.v (.mv (.t p7))), none⟩
(sN p45 ⟨(some p45), (.v (.ar .sub (.t p44) (.c (.int .i64 (.ofNat 1))))), none⟩
(sN p46 ⟨(some p46), (.v (.ia 2 (.t p43) (.t p45))), none⟩
(sN p47 ⟨(some p47), (.v (.ldN 2 (.t p46))), none⟩
(sE [] [] ⟨(some p48), (.callv (.t p38) [(.t p42), (.t p47)]), none⟩
(sN p49 ⟨(some p49), (.v (.un .not (.t p48))), none⟩
sEnd)))))))))))))
(dCond (.t p49) (dSeq (dOps (dV p50 (oMv (.t p0))
(dV p51 (oMv (.t p5))
(dV p52 (oMv (.t p6))
(dV p53 (oMv (.t p7))
(dV p54 (oIa 2 (.t p52) (.t p53))
(dV p55 (oLdN 2 (.t p54))
(dV p56 (oIa 2 (.t p50) (.t p51))
(dU (oSt 2 (.t p56) (.t p55))
dE)))))))))
(dOps (dV p57 (oMv (.t p5))
(dV p58 (oAr .add (.t p57) (.c (.int .i64 (.ofNat 1))))
(dV p5 (oMv (.t p58))
dE))))) dSkip)))
(dOps (dV p36 (oMv (.t p7))
(dV p37 (oAr .add (.t p36) (.c (.int .i64 (.ofNat 1))))
(dV p7 (oMv (.t p37))
dE)))))))))
(dSeq (dOps (dV p59 (oMv (.t p0))
(dV p60 (oMv (.t p5))
(dV p61 (oSl 2 (.t p59) (some (.t p60)) none none)
(dU (oClr [(.int .i64 (.ofNat 0)), (.int .i64 (.ofNat 0))] (.t p61))
dE)))))
(dSeq (dOps (dV p62 (oMv (.t p0))
(dV p63 (oMv (.t p5))
(dV p64 (oSl 2 (.t p62) none (some (.t p63)) none)
(dV p4 (oMv (.t p64))
dE)))))
dRet)))) dSkip)))
(dOps (dV p16 (oMv (.t p5))
(dV p17 (oAr .add (.t p16) (.c (.int .i64 (.ofNat 1))))
(dV p5 (oMv (.t p17))
dE)))))))))
(dSeq (dOps (dV p65 (oMv (.t p0))
(dV p4 (oMv (.t p65))
dE)))
dRet)))), [(.t p4)]⟩
def af206 : AF := ⟨(dSeq (dOps (dV p3 (oBox 253 (.t p0))
(dV p4 (oBox 253 (.t p1))
(dV p5 (oMv (.c (.bool false)))
dE))))
(dSeq (dOps (dV p11 (oLd1 (.t p2))
(dV p12 (oLdN 2 (.t p3))
(dCv (some p13) (.t p11) [(.t p12)]
(dV p10 (oMv (.t p13))
(dV p14 (oExt (.t p10) 0)
(dV p15 (oExt (.t p10) 1)
(dV p6 (oMv (.t p14))
(dV p7 (oMv (.t p15))
dE)))))))))
(dSeq (dOps (dV p17 (oLd1 (.t p2))
(dV p18 (oLdN 2 (.t p4))
(dCv (some p19) (.t p17) [(.t p18)]
(dV p16 (oMv (.t p19))
(dV p20 (oExt (.t p16) 0)
(dV p21 (oExt (.t p16) 1)
(dV p8 (oMv (.t p20))
(dV p9 (oMv (.t p21))
dE)))))))))
(dSeq (dOps (dV p22 (oMv (.t p6))
(dV p23 (oMv (.t p8))
(dV p24 (oAr .eql (.t p22) (.t p23))
(dV p5 (oMv (.t p24))
dE)))))
dRet)))), [(.t p5)]⟩
def af207 : AF := ⟨(dSeq (dOps (dV p1 (oBox 3 (.t p0))
(dV p2 (oMv (.c .nilf))
dE)))
(dSeq (dOps (dV p3 (oLd1 (.t p1))
(dV p4 (oMm false [(.t p3), (.c (.int .i64 (.ofNat 1001)))])
(dU (oSt 1 (.t p1) (.t p4))
dE))))
(dSeq (dOps (dV p5 (oMkf 227 [] [(.t p1)])
(dV p2 (oMv (.t p5))
dE)))
dRet))), [(.t p2)]⟩
def af208 : AF := ⟨(dSeq (dOps (dV p4 (oMv (.c (.int .i64 (.ofNat 0))))
dE))
(dSeq (dSeq (dOps (dV p5 (oMv (.t p1))
(dV p6 (oMv (.t p0))
(dV p7 (oLen (.t p6))
(dV p8 (oAr .geq (.t p5) (.t p7))
dE)))))
(dCond (.t p8) (dSeq (dOps (dV p4 (oMv (.c (.int .i64 (.ofNat 0))))
dE))
dRet) dSkip))
(dSeq (dOps (dV p9 (oMv (.t p0))
(dV p10 (oMv (.t p1))
(dV p11 (oIa 1 (.t p9) (.t p10))
(dV p12 (oLd1 (.t p11))
(dV p13 (oMm true [(.t p12), (.c (.int .i64 (.ofNat 0)))])
(dV p14 (oMm false [(.t p13), (.c (.int .i64 (.ofNat 4611686018427387904)))])
(dV p4 (oMv (.t p14))
dE))))))))
dRet))), [(.t p4)]⟩
def af209 : AF := ⟨(dSeq (dOps (dV p2 (oBox 138 (.t p0))
(dV p3 (oBox 140 (.t p1))
(dV p4 (oNew [(.int .i64 (.ofNat 0)), (.int .i64 (.ofNat 0)), (.int .i64 (.ofNat 0)), (.int .i64 (.ofNat 0))] 140)
dE))))
(dSeq (dOps (dV p5 (oFa 0 (.t p3))
(dV p6 (oLd1 (.t p5))
(dV p7 (oFa 1 (.t p2))
(dV p8 (oLd1 (.t p7))
(dV p9 (oAr .add (.t p6) (.t p8))
(dV p10 (oFa 1 (.t p3))
(dV p11 (oLd1 (.t p10))
(dV p12 (oFa 0 (.t p2))
(dV p13 (oLd1 (.t p12))
(dV p14 (oAr .add (.t p11) (.t p13))
(dV p15 (oFa 2 (.t p3))
(dV p16 (oLd1 (.t p15))
(dV p17 (oFa 3 (.t p3))
(dV p18 (oLd1 (.t p17))
(dV p19 (oBuild [(.int .i64 (.ofNat 0)), (.int .i64 (.ofNat 0)), (.int .i64 (.ofNat 0)), (.int .i64 (.ofNat 0))] [(0, 1, (.t p9)), (1, 1, (.t p14)), (2, 1, (.t p16)), (3, 1, (.t p18))])
(dU (oSt 4 (.t p4) (.t p19))
dE)))))))))))))))))
dRet)), [(.cN p4 4)]⟩
def af210 : AF := ⟨(dSeq (dOps (dV p2 (oBox 140 (.t p0))
(dV p3 (oBox 140 (.t p1))
(dV p4 (oNew [(.int .i64 (.ofNat 0)), (.int .i64 (.ofNat 0)), (.int .i64 (.ofNat 0)), (.int .i64 (.ofNat 0))] 140)
dE))))
(dSeq (dOps (dV p5 (oFa 0 (.t p2))
(dV p6 (oLd1 (.t p5))
(dV p7 (oFa 0 (.t p3))
(dV p8 (oLd1 (.t p7))
(dV p9 (oMm true [(.t p6), (.t p8)])
(dV p10 (oFa 1 (.t p2))
(dV p11 (oLd1 (.t p10))
(dV p12 (oFa 1 (.t p3))
(dV p13 (oLd1 (.t p12))
(dV p14 (oMm true [(.t p11), (.t p13)])
(dV p15 (oFa 2 (.t p2))
(dV p16 (oLd1 (.t p15))
(dV p17 (oFa 2 (.t p3))
(dV p18 (oLd1 (.t p17))
(dV p19 (oMm true [(.t p16), (.t p18)])
(dV p20 (oFa 3 (.t p2))
(dV p21 (oLd1 (.t p20))
(dV p22 (oFa 3 (.t p3))
(dV p23 (oLd1 (.t p22))
(dV p24 (oMm true [(.t p21), (.t p23)])
(dV p25 (oBuild [(.int .i64 (.ofNat 0)), (.int .i64 (.ofNat 0)), (.int .i64 (.ofNat 0)), (.int .i64 (.ofNat 0))] [(0, 1, (.t p9)), (1, 1, (.t p14)), (2, 1, (.t p19)), (3, 1, (.t p24))])
(dU (oSt 4 (.t p4) (.t p25))
dE)))))))))))))))))))))))
dRet)), [(.cN p4 4)]⟩
def af211 : AF := ⟨(dSeq (dOps (dV p3 (oBox 26 (.t p1))
(dV p4 (oMv (.c .nilp))
dE)))
(dSeq (dOps (dV p8 (oLdN 6 (.t p3))
(dC (some p9) p228 [(.t p8)]
(dV p7 (oMv (.t p9))
(dV p10 (oExt (.t p7) 0)
(dV p11 (oExt (.t p7) 1)
(dV p5 (oMv (.t p10))
(dV p6 (oMv (.t p11))
dE))))))))
(dSeq (dSeq (dOps (dV p12 (oMv (.t p6))
(dV p13 (oAr .neq (.t p12) (.c (.int .i64 (.ofNat 0))))
dE)))
(dCond (.t p13) (dSeq (dOps (dV p14 (oMv (.t p0))
(dV p15 (oLdN 6 (.t p3))
(dC (some p16) p229 [(.t p14), (.t p15)]
(dV p4 (oMv (.t p16))
dE)))))
dRet) dSkip))
(dSeq (dSeq (dDraw (sN p17 ⟨(some p17), (.v (.mv (.t p0))), none⟩
(sN p18 ⟨(some p18), (.v (.nchk (.t p17))), none⟩
(sN p19 ⟨(some p19), (.v (.fa 5 (.t p18))), none⟩
(sN p20 ⟨(some p20), (.v (.ld1 (.t p19))), none⟩
(sN p21 ⟨(some p21), (.v (.mv (.t p5))), none⟩
(sN p22 ⟨(some p22), (.v (.cvT (.t p21))), none⟩
(sN p23 ⟨(some p23), (.v (.lk .nilp false (.t p20) (.t p22))), none⟩
(sN p24 ⟨(some p24), (.v (.eq .p false (.t p23) (.c .nilp))), none⟩
sEnd)))))))))
(dCond (.t p24) (dDraw (sN p25 ⟨(some p25), (.v (.mv (.t p0))), none⟩
(sN p26 ⟨(some p26), (.v (.nchk (.t p25))), none⟩
(sN p27 ⟨(some p27), (.v (.fa 5 (.t p26))), none⟩
(sN p28 ⟨(some p28), (.v (.ld1 (.t p27))), none⟩
(sN p29 ⟨(some p29), (.v (.mv (.t p5))), none⟩
(sN p30 ⟨(some p30), (.v (.cvT (.t p29))), none⟩
(sN p31 ⟨(some p31), (.v (.mv (.t p0))), none⟩
(sN p32 ⟨(some p32), (.v (.ldN 6 (.t p3))), none⟩
(sE [] [(p28, ⟨(some p28), (.v (.ld1 (.t p27))), none⟩), (p30, ⟨(some p30), (.v (.cvT (.t p29))), none⟩)] ⟨(some p33), (.call p229 [(.t p31), (.t p32)]), none⟩
(sE [] [] ⟨none, (.v (.up (.t p28) (.t p30) (.t p33))), none⟩
sEnd))))))))))) dSkip))
(dSeq (dDraw (sN p34 ⟨(some p34), (.v (.mv (.t p0))), none⟩
(sN p35 ⟨(some p35), (.v (.nchk (.t p34))), none⟩
(sN p36 ⟨(some p36), (.v (.fa 5 (.t p35))), none⟩
(sN p37 ⟨(some p37), (.v (.ld1 (.t p36))), none⟩
(sN p38 ⟨(some p38), (.v (.mv (.t p5))), none⟩
(sN p39 ⟨(some p39), (.v (.cvT (.t p38))), none⟩
(sN p40 ⟨(some p40), (.v (.lk .nilp false (.t p37) (.t p39))), none⟩
(sN p4 ⟨(some p4), (.v (.mv (.t p40))), none⟩
sEnd)))))))))
dRet))))), [(.t p4)]⟩
def af212 : AF := ⟨(dSeq (dOps (dV p0 (oMv (.c (.int .i64 (.ofNat 0))))
(dV p1 (oMv (.c (.int .i64 (.ofNat 0))))
(dV p2 (oMv (.c (.int .i64 (.ofNat 0))))
(dV p3 (oMv (.c (.int .i64 (.ofNat 0))))
(dV p4 (oMv (.c (.int .i64 (.ofNat 0))))
(dV p5 (oMv (.c (.int .i64 (.ofNat 0))))
dE)))))))
(dSeq (dOps (dV p0 (oMv (.c (.int .i64 (.ofNat 0))))
(dV p1 (oMv (.c (.int .i64 (.ofNat 1))))
(dV p2 (oMv (.c (.int .i64 (.ofNat 2))))
(dV p3 (oMv (.c (.int .i64 (.ofNat 3))))
(dV p4 (oMv (.c (.int .i64 (.ofNat 4))))
(dV p5 (oMv (.c (.int .i64 (.ofNat 5))))
dE)))))))
dRet)), [(.t p0), (.t p1), (.t p2), (.t p3), (.t p4), (.t p5)]⟩
def af213 : AF := ⟨(dSeq (dOps (dV p2 (oBox 26 (.t p0))
(dV p4 (oNew [(.int .i64 (.ofNat 0)), (.int .i64 (.ofNat 0)), (.bool false), (.str []), .nils, .nils] 26)
dE)))
(dSeq (dOps (dV p8 (oLdN 6 (.t p2))
(dV p9 (oMv (.t p1))
(dC (some p10) p230 [(.t p8), (.t p9)]
(dV p7 (oMv (.t p10))
(dV p11 (oExt (.t p7) 0)
(dV p12 (oExt (.t p7) 1)
(dV p5 (oNew [(.int .i64 (.ofNat 0)), (.int .i64 (.ofNat 0)), (.bool false), (.str []), .nils, .nils] 26)
(dU (oSt 6 (.t p5) (.t p11))
(dV p6 (oMv (.t p12))
dE))))))))))
(dSeq (dSeq (dOps (dV p13 (oMv (.t p6))
(dV p14 (oAr .eql (.t p13) (.c (.int .i64 (.ofNat 0))))
dE)))
(dCond (.t p14) (dSeq (dOps (dV p15 (oLdN 6 (.t p5))
(dU (oSt 6 (.t p4) (.t p15))
dE)))
dRet) dSkip))
(dSeq (dSeq (dDraw (sN p17 ⟨(some p17), (.v (.ldN 6 (.t p2))), none⟩
(sN p18 ⟨(some p18), (.v (.mv (.t p1))), none⟩
(sN p19 ⟨(some p19), (.v (.len (.t p18))), none⟩
(sE [] [(p17, ⟨(some p17), (.v (.ldN 6 (.t p2))), none⟩)] ⟨(some p20), (.v (.mkS 49 2 [(.int .i64 (.ofNat 0)), .nils] (.t p19) (.t p19))), none⟩
(sE [] [] ⟨(some p21), (.call p230 [(.t p17), (.t p20)]), none⟩
(sN p16 ⟨(some p16), (.v (.mv (.t p21))), none⟩
(sN p22 ⟨(some p22), (.v (.ext (.t p16) 0)), none⟩
(sN p23 ⟨(some p23), (.v (.ext (.t p16) 1)), none⟩
(sN p6 ⟨(some p6), (.v (.mv (.t p23))), none⟩
sEnd))))))))))
(dSeq (dOps (dV p24 (oMv (.t p6))
(dV p25 (oAr .eql (.t p24) (.c (.int .i64 (.ofNat 0))))
dE)))
(dCond (.t p25) (dOps (dV p6 (oMv (.c (.int .i64 (.ofNat 2))))
dE)) dSkip)))
(dSeq (dOps (dV p26 (oMv (.t p6))
(dC (some p27) p162 [(.t p26)]
dE)))
(dSeq (dOps (dV p28 (oBuild [(.int .i64 (.ofNat 0)), (.int .i64 (.ofNat 0)), (.bool false), (.str []), .nils, .nils] [])
(dU (oSt 6 (.t p4) (.t p28))
dE)))
dRet)))))), [(.cN p4 6)]⟩
def af214 : AF := ⟨(dSeq (dOps (dV p2 (oMv (.c (.int .i64 (.ofNat 0))))
dE))
(dSeq (dDraw (sN p3 ⟨(some p3), (.v (.mv (.t p0))), none⟩
(sN p4 ⟨(some p4), (.v (.nchk (.t p3))), none⟩
(sN p5 ⟨(some p5), (.v (.fa 18 (.t p4))), none⟩
(sN p6 ⟨(some p6), (.v (.ld1 (.t p5))), none⟩
(sN p7 ⟨(some p7), (.v (.ar .add (.t p6) (.c (.int .i64 (.ofNat 1))))), none⟩
(sN p8 ⟨(some p8), (.v (.mv (.t p0))), none⟩
(sN p9 ⟨(some p9), (.v (.nchk (.t p8))), none⟩
(sN p10 ⟨(some p10), (.v (.fa 20 (.t p9))), none⟩
(sN p11 ⟨(some p11), (.v (.ld1 (.t p10))), none⟩
(sN p12 ⟨(some p12), (.v (.len (.t p11))), none⟩
(sN p13 ⟨(some p13), (.v (.ar .add (.t p7) (.t p12))), none⟩
(sN p2 ⟨(some p2), (.v (.mv (.t p13))), none⟩
sEnd)))))))))))))
dRet)), [(.t p2)]⟩
def af215 : AF := ⟨(dSeq (dOps (dV p2 (oMv (.c (.int .i64 (.ofNat 0))))
(dV p3 (oMv (.c (.bool false)))
dE)))
(dSeq (dOps (dC (some p11) p212 []
(dV p10 (oMv (.t p11))
(dV p12 (oExt (.t p10) 0)
(dV p13 (oExt (.t p10) 1)
(dV p14 (oExt (.t p10) 2)
(dV p15 (oExt (.t p10) 3)
(dV p16 (oExt (.t p10) 4)
(dV p17 (oExt (.t p10) 5)
(dV p4 (oMv (.t p12))
(dV p5 (oMv (.t p13))
(dV p6 (oMv (.t p14))
(dV p7 (oMv (.t p15))
(dV p8 (oMv (.t p16))
(dV p9 (oMv (.t p17))
dE)))))))))))))))
(dSeq (dDraw (sN p18 ⟨(some p18), (.v (.mv (.t p0))), none⟩
(sN p19 ⟨(some p19), (.v (.nchk (.t p18))), none⟩
(sN p20 ⟨(some p20), (.v (.fa 6 (.t p19))), none⟩
(sN p21 ⟨(some p21), (.v (.ld1 (.t p20))), none⟩
(sN p22 ⟨(some p22), (.v (.mv (.t p8))), none⟩
(sN p23 ⟨(some p23), (.v (.ar .sub (.t p21) (.t p22))), none⟩
(sN p24 ⟨(some p24), (.v (.ar .quo (.t p23) (.c (.int .i64 (.ofNat 2))))), none⟩
(sN p25 ⟨(some p25), (.v (.mv (.t p0))), none⟩
(sN p26 ⟨(some p26), (.v (.nchk (.t p25))), none⟩
(sN p27 ⟨(some p27), (.v (.fa 6 (.t p26))), none⟩
(sN p28 ⟨(some p28), (.v (.ld1 (.t p27))), none⟩
(sN p29 ⟨(some p29), (.v (.mv (.t p8))), none⟩
(sN p30 ⟨(some p30), (.v (.ar .geq (.t p28) (.t p29))), none⟩
(sN p31 ⟨(some p31), (.v (.mv (.t p30))), none⟩
(sN p32 ⟨(some p32), (.v (.mv (.t p0))), (some (p31, true))⟩
(sN p33 ⟨(some p33), (.v (.nchk (.t p32))), (some (p31, true))⟩
(sN p34 ⟨(some p34), (.v (.fa 6 (.t p33))), (some (p31, true))⟩
(sN p35 ⟨(some p35), (.v (.ld1 (.t p34))), (some (p31, true))⟩
(sN p36 ⟨(some p36), (.v (.mv (.t p9))), (some (p31, true))⟩
(sN p37 ⟨(some p37), (.v (.ar .neq (.t p35) (.t p36))), (some (p31, true))⟩
(sN p38 ⟨(some p38), (.v (.pick (.t p31) (.t p37) (.c (.bool false)))), none⟩
(sN p2 ⟨(some p2), (.v (.mv (.t p24))), none⟩
(sN p3 ⟨(some p3), (.v (.mv (.t p38))), none⟩
sEnd))))))))))))))))))))))))
dRet))), [(.t p2), (.t p3)]⟩
def af216 : AF := ⟨(dSeq (dOps (dV p4 (oMv (.c .nilp))
dE))
(dSeq (dSeq (dOps (dV p9 (oMv (.t p0))
(dV p10 (oNchk (.t p9))
(dV p11 (oFa 20 (.t p10))
(dV p12 (oLd1 (.t p11))
(dV p13 (oMv (.t p1))
(dV p14 (oIa 1 (.t p12) (.t p13))
(dV p15 (oLd1 (.t p14))
(dV p16 (oEq .p false (.t p15) (.c .nilp))
dE)))))))))
(dCond (.t p16) (dSeq (dOps (dV p18 (oMv (.t p0))
(dV p19 (oNchk (.t p18))
(dV p20 (oFa 0 (.t p19))
(dV p21 (oLdN 17 (.t p20))
(dV p22 (oMv (.t p1))
(dC (some p23) p231 [(.t p21), (.t p22)]
(dV p17 (oMv (.t p23))
(dV p24 (oExt (.t p17) 0)
(dV p25 (oExt (.t p17) 1)
(dV p26 (oExt (.t p17) 2)
(dV p27 (oExt (.t p17) 3)
(dV p5 (oMv (.t p24))
(dV p6 (oMv (.t p25))
(dV p7 (oMv (.t p26))
(dV p8 (oMv (.t p27))
dE))))))))))))))))
(dDraw (sN p28 ⟨(some p28), (.v (.mv (.t p0))), none⟩
(sN p29 ⟨(some p29), (.v (.nchk (.t p28))), none⟩
(sN p30 ⟨(some p30), (.v (.fa 20 (.t p29))), none⟩
(sN p31 ⟨(some p31), (.v (.ld1 (.t p30))), none⟩
(sN p32 ⟨(some p32), (.v (.mv (.t p1))), none⟩
(sN p33 ⟨(some p33), (.v (.mv (.t p8))), none⟩
(sN p34 ⟨(some p34), (.v (.ar .eql (.t p33) (.c (.int .i64 (.ofNat 0))))), none⟩
(sN p35 ⟨(some p35), (.v (.mv (.t p0))), none⟩
(sN p36 ⟨(some p36), (.v (.nchk (.t p35))), none⟩
(sN p37 ⟨(some p37), (.v (.fa 18 (.t p36))), none⟩
(sN p38 ⟨(some p38), (.v (.ld1 (.t p37))), none⟩
(sN p39 ⟨(some p39), (.v (.mv (.t p5))), none⟩
(sN p40 ⟨(some p40), (.v (.len (.t p39))), none⟩
(sN p41 ⟨(some p41), (.v (.ar .add (.t p38) (.t p40))), none⟩
(sN p42 ⟨(some p42), (.v (.mv (.t p5))), none⟩
(sN p43 ⟨(some p43), (.v (.mv (.t p6))), none⟩
(sN p44 ⟨(some p44), (.v (.build [(.bool false), (.int .i64 (.ofNat 0)), .nils, .nils] [(0, 1, (.t p34)), (1, 1, (.t p41)), (2, 1, (.t p42)), (3, 1, (.t p43))])), none⟩
(sA 17 p45 (.box 318 (.t p44))
(sN p46 ⟨(some p46), (.v (.ia 1 (.t p31) (.t p32))), none⟩
(sE [17] [] ⟨none, (.v (.st 1 (.t p46) (.t p45))), none⟩
sEnd)))))))))))))))))))))) dSkip))
(dSeq (dOps (dV p47 (oMv (.t p0))
(dV p48 (oNchk (.t p47))
(dV p49 (oFa 20 (.t p48))
(dV p50 (oLd1 (.t p49))
(dV p51 (oMv (.t p1))
(dV p52 (oIa 1 (.t p50) (.t p51))
(dV p53 (oLd1 (.t p52))
(dV p4 (oMv (.t p53))
dE)))))))))
dRet))), [(.t p4)]⟩
theorem ok3 : FunSem Tryz.prog 3 af3 := .of mixed (by kernel_rfl)
theorem ok5 : FunSem Tryz.prog 5 af5 := .of mixed (by kernel_rfl)
theorem ok6 : FunSem Tryz.prog 6 af6 := .of mixed (by kernel_rfl)
theorem ok7 : FunSem Tryz.prog 7 af7 := .of mixed (by kernel_rfl)
theorem ok8 : FunSem Tryz.prog 8 af8 := .of mixed (by kernel_rfl)
theorem ok9 : FunSem Tryz.prog 9 af9 := .of mixed (by kernel_rfl)
theorem ok10 : FunSem Tryz.prog 10 af10 := .of mixed (by kernel_rfl)
theorem ok11 : FunSem Tryz.prog 11 af11 := .of mixed (by kernel_rfl)
theorem ok12 : FunSem Tryz.prog 12 af12 := .of mixed (by kernel_rfl)
theorem ok13 : FunSem Tryz.prog 13 af13 := .of mixed (by kernel_rfl)
theorem ok17 : FunSem Tryz.prog 17 af17 := .of mixed (by kernel_rfl)
theorem ok18 : FunSem Tryz.prog 18 af18 := .of mixed (by kernel_rfl)
theorem ok19 : FunSem Tryz.prog 19 af19 := .of mixed (by kernel_rfl)
theorem ok20 : FunSem Tryz.prog 20 af20 := .of mixed (by kernel_rfl)
theorem ok22 : FunSem Tryz.prog 22 af22 := .of mixed (by kernel_rfl)
theorem ok23 : FunSem Tryz.prog 23 af23 := .of mixed (by kernel_rfl)
theorem ok24 : FunSem Tryz.prog 24 af24 := .of mixed (by kernel_rfl)
theorem ok26 : FunSem Tryz.prog 26 af26 := .of mixed (by kernel_rfl)
theorem ok30 : FunSem Tryz.prog 30 af30 := .of mixed (by kernel_rfl)
theorem ok31 : FunSem Tryz.prog 31 af31 := .of mixed (by kernel_rfl)
theorem ok32 : FunSem Tryz.prog 32 af32 := .of mixed (by kernel_rfl)
theorem ok33 : FunSem Tryz.prog 33 af33 := .of mixed (by kernel_rfl)
theorem ok34 : FunSem Tryz.prog 34 af34 := .of mixed (by kernel_rfl)
theorem ok35 : FunSem Tryz.prog 35 af35 := .of mixed (by kernel_rfl)
theorem ok36 : FunSem Tryz.prog 36 af36 := .of mixed (by kernel_rfl)
theorem ok39 : FunSem Tryz.prog 39 af39 := .of mixed (by kernel_rfl)
theorem ok40 : FunSem Tryz.prog 40 af40 := .of mixed (by kernel_rfl)
theorem ok41 : FunSem Tryz.prog 41 af41 := .of mixed (by kernel_rfl)
theorem ok42 : FunSem Tryz.prog 42 af42 := .of mixed (by kernel_rfl)
theorem ok43 : FunSem Tryz.prog 43 af43 := .of mixed (by kernel_rfl)
theorem ok44 : FunSem Tryz.prog 44 af44 := .of mixed (by kernel_rfl)
theorem ok46 : FunSem Tryz.prog 46 af46 := .of mixed (by kernel_rfl)
theorem ok51 : FunSem Tryz.prog 51 af51 := .of mixed (by kernel_rfl)
theorem ok52 : FunSem Tryz.prog 52 af52 := .of mixed (by kernel_rfl)
theorem ok53 : FunSem Tryz.prog 53 af53 := .of mixed (by kernel_rfl)
theorem ok54 : FunSem Tryz.prog 54 af54 := .of mixed (by kernel_rfl)
theorem ok55 : FunSem Tryz.prog 55 af55 := .of mixed (by kernel_rfl)
theorem ok56 : FunSem Tryz.prog 56 af56 := .of mixed (by kernel_rfl)
theorem ok57 : FunSem Tryz.prog 57 af57 := .of mixed (by kernel_rfl)
theorem ok58 : FunSem Tryz.prog 58 af58 := .of mixed (by kernel_rfl)
theorem ok59 : FunSem Tryz.prog 59 af59 := .of mixed (by kernel_rfl)
theorem ok60 : FunSem Tryz.prog 60 af60 := .of mixed (by kernel_rfl)
theorem ok61 : FunSem Tryz.prog 61 af61 := .of mixed (by kernel_rfl)
theorem ok62 : FunSem Tryz.prog 62 af62 := .of mixed (by kernel_rfl)
theorem ok63 : FunSem Tryz.prog 63 af63 := .of mixed (by kernel_rfl)
theorem ok64 : FunSem Tryz.prog 64 af64 := .of mixed (by kernel_rfl)
theorem ok65 : FunSem Tryz.prog 65 af65 := .of mixed (by kernel_rfl)
theorem ok66 : FunSem Tryz.prog 66 af66 := .of mixed (by kernel_rfl)
theorem ok67 : FunSem Tryz.prog 67 af67 := .of mixed (by kernel_rfl)
theorem ok68 : FunSem Tryz.prog 68 af68 := .of mixed (by kernel_rfl)
theorem ok70 : FunSem Tryz.prog 70 af70 := .of mixed (by kernel_rfl)
theorem ok71 : FunSem Tryz.prog 71 af71 := .of mixed (by kernel_rfl)
theorem ok84 : FunSem Tryz.prog 84 af84 := .of mixed (by kernel_rfl)
theorem ok85 : FunSem Tryz.prog 85 af85 := .of mixed (by kernel_rfl)
theorem ok86 : FunSem Tryz.prog 86 af86 := .of mixed (by kernel_rfl)
theorem ok87 : FunSem Tryz.prog 87 af87 := .of mixed (by kernel_rfl)
theorem ok88 : FunSem Tryz.prog 88 af88 := .of mixed (by kernel_rfl)
theorem ok89 : FunSem Tryz.prog 89 af89 := .of mixed (by kernel_rfl)
theorem ok90 : FunSem Tryz.prog 90 af90 := .of mixed (by kernel_rfl)
theorem ok91 : FunSem Tryz.prog 91 af91 := .of mixed (by kernel_rfl)
theorem ok92 : FunSem Tryz.prog 92 af92 := .of mixed (by kernel_rfl)
theorem ok93 : FunSem Tryz.prog 93 af93 := .of mixed (by kernel_rfl)
theorem ok94 : FunSem Tryz.prog 94 af94 := .of mixed (by kernel_rfl)
theorem ok95 : FunSem Tryz.prog 95 af95 := .of mixed (by kernel_rfl)
theorem ok96 : FunSem Tryz.prog 96 af96 := .of mixed (by kernel_rfl)
theorem ok97 : FunSem Tryz.prog 97 af97 := .of mixed (by kernel_rfl)
theorem ok98 : FunSem Tryz.prog 98 af98 := .of mixed (by kernel_rfl)
theorem ok99 : FunSem Tryz.prog 99 af99 := .of mixed (by kernel_rfl)
theorem ok100 : FunSem Tryz.prog 100 af100 := .of mixed (by kernel_rfl)
theorem ok101 : FunSem Tryz.prog 101 af101 := .of mixed (by kernel_rfl)
theorem ok102 : FunSem Tryz.prog 102 af102 := .of mixed (by kernel_rfl)
theorem ok111 : FunSem Tryz.prog 111 af111 := .of mixed (by kernel_rfl)
theorem ok112 : FunSem Tryz.prog 112 af112 := .of mixed (by kernel_rfl)
theorem ok113 : FunSem Tryz.prog 113 af113 := .of mixed (by kernel_rfl)
theorem ok114 : FunSem Tryz.prog 114 af114 := .of mixed (by kernel_rfl)
theorem ok115 : FunSem Tryz.prog 115 af115 := .of mixed (by kernel_rfl)
theorem ok116 : FunSem Tryz.prog 116 af116 := .of mixed (by kernel_rfl)
theorem ok117 : FunSem Tryz.prog 117 af117 := .of mixed (by kernel_rfl)
theorem ok118 : FunSem Tryz.prog 118 af118 := .of mixed (by kernel_rfl)
theorem ok119 : FunSem Tryz.prog 119 af119 := .of mixed (by kernel_rfl)
theorem ok120 : FunSem Tryz.prog 120 af120 := .of mixed (by kernel_rfl)
theorem ok121 : FunSem Tryz.prog 121 af121 := .of mixed (by kernel_rfl)
theorem ok122 : FunSem Tryz.prog 122 af122 := .of mixed (by kernel_rfl)
theorem ok123 : FunSem Tryz.prog 123 af123 := .of mixed (by kernel_rfl)
theorem ok124 : FunSem Tryz.prog 124 af124 := .of mixed (by kernel_rfl)
theorem ok125 : FunSem Tryz.prog 125 af125 := .of mixed (by kernel_rfl)
theorem ok126 : FunSem Tryz.prog 126 af126 := .of mixed (by kernel_rfl)
theorem ok127 : FunSem Tryz.prog 127 af127 := .of mixed (by kernel_rfl)
theorem ok128 : FunSem Tryz.prog 128 af128 := .of mixed (by kernel_rfl)
theorem ok129 : FunSem Tryz.prog 129 af129 := .of mixed (by kernel_rfl)
theorem ok130 : FunSem Tryz.prog 130 af130 := .of mixed (by kernel_rfl)
theorem ok131 : FunSem Tryz.prog 131 af131 := .of mixed (by kernel_rfl)
theorem ok132 : FunSem Tryz.prog 132 af132 := .of mixed (by kernel_rfl)
theorem ok133 : FunSem Tryz.prog 133 af133 := .of mixed (by kernel_rfl)
theorem ok134 : FunSem Tryz.prog 134 af134 := .of mixed (by kernel_rfl)
theorem ok135 : FunSem Tryz.prog 135 af135 := .of mixed (by kernel_rfl)
theorem ok136 : FunSem Tryz.prog 136 af136 := .of mixed (by kernel_rfl)
theorem ok137 : FunSem Tryz.prog 137 af137 := .of mixed (by kernel_rfl)
theorem ok143 : FunSem Tryz.prog 143 af143 := .of mixed (by kernel_rfl)
theorem ok144 : FunSem Tryz.prog 144 af144 := .of mixed (by kernel_rfl)
theorem ok145 : FunSem Tryz.prog 145 af145 := .of mixed (by kernel_rfl)
theorem ok146 : FunSem Tryz.prog 146 af146 := .of mixed (by kernel_rfl)
theorem ok147 : FunSem Tryz.prog 147 af147 := .of mixed (by kernel_rfl)
theorem ok148 : FunSem Tryz.prog 148 af148 := .of mixed (by kernel_rfl)
theorem ok149 : FunSem Tryz.prog 149 af149 := .of mixed (by kernel_rfl)
theorem ok150 : FunSem Tryz.prog 150 af150 := .of mixed (by kernel_rfl)
theorem ok151 : FunSem Tryz.prog 151 af151 := .of mixed (by kernel_rfl)
theorem ok152 : FunSem Tryz.prog 152 af152 := .of mixed (by kernel_rfl)
theorem ok153 : FunSem Tryz.prog 153 af153 := .of mixed (by kernel_rfl)
theorem ok154 : FunSem Tryz.prog 154 af154 := .of mixed (by kernel_rfl)
theorem ok155 : FunSem Tryz.prog 155 af155 := .of mixed (by kernel_rfl)
theorem ok156 : FunSem Tryz.prog 156 af156 := .of mixed (by kernel_rfl)
theorem ok157 : FunSem Tryz.prog 157 af157 := .of mixed (by kernel_rfl)
theorem ok158 : FunSem Tryz.prog 158 af158 := .of mixed (by kernel_rfl)
theorem ok159 : FunSem Tryz.prog 159 af159 := .of mixed (by kernel_rfl)
theorem ok160 : FunSem Tryz.prog 160 af160 := .of mixed (by kernel_rfl)
theorem ok161 : FunSem Tryz.prog 161 af161 := .of mixed (by kernel_rfl)
theorem ok163 : FunSem Tryz.prog 163 af163 := .of mixed (by kernel_rfl)
theorem ok164 : FunSem Tryz.prog 164 af164 := .of mixed (by kernel_rfl)
theorem ok165 : FunSem Tryz.prog 165 af165 := .of mixed (by kernel_rfl)
theorem ok166 : FunSem Tryz.prog 166 af166 := .of mixed (by kernel_rfl)
theorem ok167 : FunSem Tryz.prog 167 af167 := .of mixed (by kernel_rfl)
theorem ok168 : FunSem Tryz.prog 168 af168 := .of mixed (by kernel_rfl)
theorem ok169 : FunSem Tryz.prog 169 af169 := .of mixed (by kernel_rfl)
theorem ok170 : FunSem Tryz.prog 170 af170 := .of mixed (by kernel_rfl)
theorem ok171 : FunSem Tryz.prog 171 af171 := .of mixed (by kernel_rfl)
theorem ok172 : FunSem Tryz.prog 172 af172 := .of mixed (by kernel_rfl)
theorem ok175 : FunSem Tryz.prog 175 af175 := .of mixed (by kernel_rfl)
theorem ok176 : FunSem Tryz.prog 176 af176 := .of mixed (by kernel_rfl)
theorem ok177 : FunSem Tryz.prog 177 af177 := .of mixed (by kernel_rfl)
theorem ok178 : FunSem Tryz.prog 178 af178 := .of mixed (by kernel_rfl)
theorem ok179 : FunSem Tryz.prog 179 af179 := .of mixed (by kernel_rfl)
theorem ok180 : FunSem Tryz.prog 180 af180 := .of mixed (by kernel_rfl)
theorem ok181 : FunSem Tryz.prog 181 af181 := .of mixed (by kernel_rfl)
theorem ok182 : FunSem Tryz.prog 182 af182 := .of mixed (by kernel_rfl)
theorem ok183 : FunSem Tryz.prog 183 af183 := .of mixed (by kernel_rfl)
theorem ok184 : FunSem Tryz.prog 184 af184 := .of mixed (by kernel_rfl)
theorem ok185 : FunSem Tryz.prog 185 af185 := .of mixed (by kernel_rfl)
theorem ok186 : FunSem Tryz.prog 186 af186 := .of mixed (by kernel_rfl)
theorem ok187 : FunSem Tryz.prog 187 af187 := .of mixed (by kernel_rfl)
theorem ok188 : FunSem Tryz.prog 188 af188 := .of mixed (by kernel_rfl)
theorem ok189 : FunSem Tryz.prog 189 af189 := .of mixed (by kernel_rfl)
theorem ok190 : FunSem Tryz.prog 190 af190 := .of mixed (by kernel_rfl)
theorem ok191 : FunSem Tryz.prog 191 af191 := .of mixed (by kernel_rfl)
theorem ok192 : FunSem Tryz.prog 192 af192 := .of mixed (by kernel_rfl)
theorem ok193 : FunSem Tryz.prog 193 af193 := .of mixed (by kernel_rfl)
theorem ok194 : FunSem Tryz.prog 194 af194 := .of mixed (by kernel_rfl)
theorem ok195 : FunSem Tryz.prog 195 af195 := .of mixed (by kernel_rfl)
theorem ok196 : FunSem Tryz.prog 196 af196 := .of mixed (by kernel_rfl)
theorem ok197 : FunSem Tryz.prog 197 af197 := .of mixed (by kernel_rfl)
theorem ok198 : FunSem Tryz.prog 198 af198 := .of mixed (by kernel_rfl)
theorem ok199 : FunSem Tryz.prog 199 af199 := .of mixed (by kernel_rfl)
theorem ok200 : FunSem Tryz.prog 200 af200 := .of mixed (by kernel_rfl)
theorem ok202 : FunSem Tryz.prog 202 af202 := .of mixed (by kernel_rfl)
theorem ok203 : FunSem Tryz.prog 203 af203 := .of mixed (by kernel_rfl)
theorem ok204 : FunSem Tryz.prog 204 af204 := .of mixed (by kernel_rfl)
theorem ok205 : FunSem Tryz.prog 205 af205 := .of mixed (by kernel_rfl)
theorem ok206 : FunSem Tryz.prog 206 af206 := .of mixed (by kernel_rfl)
theorem ok207 : FunSem Tryz.prog 207 af207 := .of mixed (by kernel_rfl)
theorem ok208 : FunSem Tryz.prog 208 af208 := .of mixed (by kernel_rfl)
theorem ok209 : FunSem Tryz.prog 209 af209 := .of mixed (by kernel_rfl)
theorem ok210 : FunSem Tryz.prog 210 af210 := .of mixed (by kernel_rfl)
theorem ok211 : FunSem Tryz.prog 211 af211 := .of mixed (by kernel_rfl)
theorem ok212 : FunSem Tryz.prog 212 af212 := .of mixed (by kernel_rfl)
theorem ok213 : FunSem Tryz.prog 213 af213 := .of mixed (by kernel_rfl)
theorem ok214 : FunSem Tryz.prog 214 af214 := .of mixed (by kernel_rfl)
theorem ok215 : FunSem Tryz.prog 215 af215 := .of mixed (by kernel_rfl)
theorem ok216 : FunSem Tryz.prog 216 af216 := .of mixed (by kernel_rfl)
end Go.Proofs.YtlejihhbliodoaaGreat.X
