/- Functions of the program, as the executor runs them, and that they are the program's. -/
import Derived.Test.YtkcpnbfhoamlfaaGreatDoorXQB
import Derived.Test.YtkcpnbfhoamlfaaGreatDoorProg
set_option maxRecDepth 100000
namespace Go.Proofs.YtkcpnbfhoamlfaaGreatDoor.X
open Go.RowKit
def p0 : Pt := .e
def p1 : Pt := (.z .e)
def p2 : Pt := (.o .e)
def p3 : Pt := (.z (.z .e))
def p4 : Pt := (.o (.z .e))
def p5 : Pt := (.z (.o .e))
def p6 : Pt := (.o (.o .e))
def p7 : Pt := (.z (.z (.z .e)))
def p8 : Pt := (.o (.z (.z .e)))
def p9 : Pt := (.z (.o (.z .e)))
def p10 : Pt := (.o (.o (.z .e)))
def p11 : Pt := (.z (.z (.o .e)))
def p12 : Pt := (.o (.z (.o .e)))
def p13 : Pt := (.z (.o (.o .e)))
def p14 : Pt := (.o (.o (.o .e)))
def p15 : Pt := (.z (.z (.z (.z .e))))
def p16 : Pt := (.o (.z (.z (.z .e))))
def p17 : Pt := (.z (.o (.z (.z .e))))
def p18 : Pt := (.o (.o (.z (.z .e))))
def p19 : Pt := (.z (.z (.o (.z .e))))
def p20 : Pt := (.o (.z (.o (.z .e))))
def p21 : Pt := (.z (.o (.o (.z .e))))
def p22 : Pt := (.o (.o (.o (.z .e))))
def p23 : Pt := (.z (.z (.z (.o .e))))
def p24 : Pt := (.o (.z (.z (.o .e))))
def p25 : Pt := (.z (.o (.z (.o .e))))
def p26 : Pt := (.o (.o (.z (.o .e))))
def p27 : Pt := (.z (.z (.o (.o .e))))
def p28 : Pt := (.o (.z (.o (.o .e))))
def p29 : Pt := (.z (.o (.o (.o .e))))
def p30 : Pt := (.o (.o (.o (.o .e))))
def p31 : Pt := (.z (.z (.z (.z (.z .e)))))
def p32 : Pt := (.o (.z (.z (.z (.z .e)))))
def p33 : Pt := (.z (.o (.z (.z (.z .e)))))
def p34 : Pt := (.o (.o (.z (.z (.z .e)))))
def p35 : Pt := (.z (.z (.o (.z (.z .e)))))
def p36 : Pt := (.o (.z (.o (.z (.z .e)))))
def p37 : Pt := (.z (.o (.o (.z (.z .e)))))
def p38 : Pt := (.o (.o (.o (.z (.z .e)))))
def p39 : Pt := (.z (.z (.z (.o (.z .e)))))
def p40 : Pt := (.o (.z (.z (.o (.z .e)))))
def p41 : Pt := (.z (.o (.z (.o (.z .e)))))
def p42 : Pt := (.o (.o (.z (.o (.z .e)))))
def p43 : Pt := (.z (.z (.o (.o (.z .e)))))
def p44 : Pt := (.o (.z (.o (.o (.z .e)))))
def p45 : Pt := (.z (.o (.o (.o (.z .e)))))
def p46 : Pt := (.o (.o (.o (.o (.z .e)))))
def p47 : Pt := (.z (.z (.z (.z (.o .e)))))
def p48 : Pt := (.o (.z (.z (.z (.o .e)))))
def p49 : Pt := (.z (.o (.z (.z (.o .e)))))
def p50 : Pt := (.o (.o (.z (.z (.o .e)))))
def p51 : Pt := (.z (.z (.o (.z (.o .e)))))
def p52 : Pt := (.o (.z (.o (.z (.o .e)))))
def p53 : Pt := (.z (.o (.o (.z (.o .e)))))
def p54 : Pt := (.o (.o (.o (.z (.o .e)))))
def p55 : Pt := (.z (.z (.z (.o (.o .e)))))
def p56 : Pt := (.o (.z (.z (.o (.o .e)))))
def p57 : Pt := (.z (.o (.z (.o (.o .e)))))
def p58 : Pt := (.o (.o (.z (.o (.o .e)))))
def p59 : Pt := (.z (.z (.o (.o (.o .e)))))
def p60 : Pt := (.o (.z (.o (.o (.o .e)))))
def p61 : Pt := (.z (.o (.o (.o (.o .e)))))
def p62 : Pt := (.o (.o (.o (.o (.o .e)))))
def p63 : Pt := (.z (.z (.z (.z (.z (.z .e))))))
def p64 : Pt := (.o (.z (.z (.z (.z (.z .e))))))
def p65 : Pt := (.z (.o (.z (.z (.z (.z .e))))))
def p66 : Pt := (.o (.o (.z (.z (.z (.z .e))))))
def p67 : Pt := (.z (.z (.o (.z (.z (.z .e))))))
def p68 : Pt := (.o (.z (.o (.z (.z (.z .e))))))
def p69 : Pt := (.z (.o (.o (.z (.z (.z .e))))))
def p70 : Pt := (.o (.o (.o (.z (.z (.z .e))))))
def p71 : Pt := (.z (.z (.z (.o (.z (.z .e))))))
def p72 : Pt := (.o (.z (.z (.o (.z (.z .e))))))
def p73 : Pt := (.z (.o (.z (.o (.z (.z .e))))))
def p74 : Pt := (.o (.o (.z (.o (.z (.z .e))))))
def p75 : Pt := (.z (.z (.o (.o (.z (.z .e))))))
def p76 : Pt := (.o (.z (.o (.o (.z (.z .e))))))
def p77 : Pt := (.z (.o (.o (.o (.z (.z .e))))))
def p78 : Pt := (.o (.o (.o (.o (.z (.z .e))))))
def p79 : Pt := (.z (.z (.z (.z (.o (.z .e))))))
def p80 : Pt := (.o (.z (.z (.z (.o (.z .e))))))
def p81 : Pt := (.z (.o (.z (.z (.o (.z .e))))))
def p82 : Pt := (.o (.o (.z (.z (.o (.z .e))))))
def p83 : Pt := (.z (.z (.o (.z (.o (.z .e))))))
def p84 : Pt := (.o (.z (.o (.z (.o (.z .e))))))
def p85 : Pt := (.z (.o (.o (.z (.o (.z .e))))))
def p86 : Pt := (.o (.o (.o (.z (.o (.z .e))))))
def p87 : Pt := (.z (.z (.z (.o (.o (.z .e))))))
def p88 : Pt := (.o (.z (.z (.o (.o (.z .e))))))
def p89 : Pt := (.z (.o (.z (.o (.o (.z .e))))))
def p90 : Pt := (.o (.o (.z (.o (.o (.z .e))))))
def p91 : Pt := (.z (.z (.o (.o (.o (.z .e))))))
def p92 : Pt := (.o (.z (.o (.o (.o (.z .e))))))
def p93 : Pt := (.z (.o (.o (.o (.o (.z .e))))))
def p94 : Pt := (.o (.o (.o (.o (.o (.z .e))))))
def p95 : Pt := (.z (.z (.z (.z (.z (.o .e))))))
def p96 : Pt := (.o (.z (.z (.z (.z (.o .e))))))
def p97 : Pt := (.z (.o (.z (.z (.z (.o .e))))))
def p98 : Pt := (.o (.o (.z (.z (.z (.o .e))))))
def p99 : Pt := (.z (.z (.o (.z (.z (.o .e))))))
def p100 : Pt := (.o (.z (.o (.z (.z (.o .e))))))
def p101 : Pt := (.z (.o (.o (.z (.z (.o .e))))))
def p102 : Pt := (.o (.o (.o (.z (.z (.o .e))))))
def p103 : Pt := (.z (.z (.z (.o (.z (.o .e))))))
def p104 : Pt := (.o (.z (.z (.o (.z (.o .e))))))
def p105 : Pt := (.z (.o (.z (.o (.z (.o .e))))))
def p106 : Pt := (.o (.o (.z (.o (.z (.o .e))))))
def p107 : Pt := (.z (.z (.o (.o (.z (.o .e))))))
def p108 : Pt := (.o (.z (.o (.o (.z (.o .e))))))
def p109 : Pt := (.z (.o (.o (.o (.z (.o .e))))))
def p110 : Pt := (.o (.o (.o (.o (.z (.o .e))))))
def p111 : Pt := (.z (.z (.z (.z (.o (.o .e))))))
def p112 : Pt := (.o (.z (.z (.z (.o (.o .e))))))
def p113 : Pt := (.z (.o (.z (.z (.o (.o .e))))))
def p114 : Pt := (.o (.o (.z (.z (.o (.o .e))))))
def p115 : Pt := (.z (.z (.o (.z (.o (.o .e))))))
def p116 : Pt := (.o (.z (.o (.z (.o (.o .e))))))
def p117 : Pt := (.z (.o (.o (.z (.o (.o .e))))))
def p118 : Pt := (.o (.o (.o (.z (.o (.o .e))))))
def p119 : Pt := (.z (.z (.z (.o (.o (.o .e))))))
def p120 : Pt := (.o (.z (.z (.o (.o (.o .e))))))
def p121 : Pt := (.z (.o (.z (.o (.o (.o .e))))))
def p122 : Pt := (.o (.o (.z (.o (.o (.o .e))))))
def p123 : Pt := (.z (.z (.o (.o (.o (.o .e))))))
def p124 : Pt := (.o (.z (.o (.o (.o (.o .e))))))
def p125 : Pt := (.z (.o (.o (.o (.o (.o .e))))))
def p126 : Pt := (.o (.o (.o (.o (.o (.o .e))))))
def p127 : Pt := (.z (.z (.z (.z (.z (.z (.z .e)))))))
def p128 : Pt := (.o (.z (.z (.z (.z (.z (.z .e)))))))
def p129 : Pt := (.z (.o (.z (.z (.z (.z (.z .e)))))))
def p130 : Pt := (.o (.o (.z (.z (.z (.z (.z .e)))))))
def p131 : Pt := (.z (.z (.o (.z (.z (.z (.z .e)))))))
def p132 : Pt := (.o (.z (.o (.z (.z (.z (.z .e)))))))
def p133 : Pt := (.z (.o (.o (.z (.z (.z (.z .e)))))))
def p134 : Pt := (.o (.o (.o (.z (.z (.z (.z .e)))))))
def p135 : Pt := (.z (.z (.z (.o (.z (.z (.z .e)))))))
def p136 : Pt := (.o (.z (.z (.o (.z (.z (.z .e)))))))
def p137 : Pt := (.z (.o (.z (.o (.z (.z (.z .e)))))))
def p138 : Pt := (.o (.o (.z (.o (.z (.z (.z .e)))))))
def p139 : Pt := (.z (.z (.o (.o (.z (.z (.z .e)))))))
def p140 : Pt := (.o (.z (.o (.o (.z (.z (.z .e)))))))
def p141 : Pt := (.z (.o (.o (.o (.z (.z (.z .e)))))))
def p142 : Pt := (.o (.o (.o (.o (.z (.z (.z .e)))))))
def p143 : Pt := (.z (.z (.z (.z (.o (.z (.z .e)))))))
def p144 : Pt := (.o (.z (.z (.z (.o (.z (.z .e)))))))
def p145 : Pt := (.z (.o (.z (.z (.o (.z (.z .e)))))))
def p146 : Pt := (.o (.o (.z (.z (.o (.z (.z .e)))))))
def p147 : Pt := (.z (.z (.o (.z (.o (.z (.z .e)))))))
def p148 : Pt := (.o (.z (.o (.z (.o (.z (.z .e)))))))
def p149 : Pt := (.z (.o (.o (.z (.o (.z (.z .e)))))))
def p150 : Pt := (.o (.o (.o (.z (.o (.z (.z .e)))))))
def p151 : Pt := (.z (.z (.z (.o (.o (.z (.z .e)))))))
def p152 : Pt := (.o (.z (.z (.o (.o (.z (.z .e)))))))
def p153 : Pt := (.z (.o (.z (.o (.o (.z (.z .e)))))))
def p154 : Pt := (.o (.o (.z (.o (.o (.z (.z .e)))))))
def p155 : Pt := (.z (.z (.o (.o (.o (.z (.z .e)))))))
def p156 : Pt := (.o (.z (.o (.o (.o (.z (.z .e)))))))
def p157 : Pt := (.z (.o (.o (.o (.o (.z (.z .e)))))))
def p158 : Pt := (.o (.o (.o (.o (.o (.z (.z .e)))))))
def p159 : Pt := (.z (.z (.z (.z (.z (.o (.z .e)))))))
def p160 : Pt := (.o (.z (.z (.z (.z (.o (.z .e)))))))
def p161 : Pt := (.z (.o (.z (.z (.z (.o (.z .e)))))))
def p162 : Pt := (.o (.o (.z (.z (.z (.o (.z .e)))))))
def p163 : Pt := (.z (.z (.o (.z (.z (.o (.z .e)))))))
def p164 : Pt := (.o (.z (.o (.z (.z (.o (.z .e)))))))
def p165 : Pt := (.z (.o (.o (.z (.z (.o (.z .e)))))))
def p166 : Pt := (.o (.o (.o (.z (.z (.o (.z .e)))))))
def p167 : Pt := (.z (.z (.z (.o (.z (.o (.z .e)))))))
def p168 : Pt := (.o (.z (.z (.o (.z (.o (.z .e)))))))
def p169 : Pt := (.z (.o (.z (.o (.z (.o (.z .e)))))))
def p170 : Pt := (.o (.o (.z (.o (.z (.o (.z .e)))))))
def p171 : Pt := (.z (.z (.o (.o (.z (.o (.z .e)))))))
def p172 : Pt := (.o (.z (.o (.o (.z (.o (.z .e)))))))
def p173 : Pt := (.z (.o (.o (.o (.z (.o (.z .e)))))))
def p174 : Pt := (.o (.o (.o (.o (.z (.o (.z .e)))))))
def p175 : Pt := (.z (.z (.z (.z (.o (.o (.z .e)))))))
def p176 : Pt := (.o (.z (.z (.z (.o (.o (.z .e)))))))
def p177 : Pt := (.z (.o (.z (.z (.o (.o (.z .e)))))))
def p179 : Pt := (.z (.z (.o (.z (.o (.o (.z .e)))))))
def p180 : Pt := (.o (.z (.o (.z (.o (.o (.z .e)))))))
def p181 : Pt := (.z (.o (.o (.z (.o (.o (.z .e)))))))
def p182 : Pt := (.o (.o (.o (.z (.o (.o (.z .e)))))))
def p183 : Pt := (.z (.z (.z (.o (.o (.o (.z .e)))))))
def p184 : Pt := (.o (.z (.z (.o (.o (.o (.z .e)))))))
def p185 : Pt := (.z (.o (.z (.o (.o (.o (.z .e)))))))
def p186 : Pt := (.o (.o (.z (.o (.o (.o (.z .e)))))))
def p188 : Pt := (.o (.z (.o (.o (.o (.o (.z .e)))))))
def p189 : Pt := (.z (.o (.o (.o (.o (.o (.z .e)))))))
def p190 : Pt := (.o (.o (.o (.o (.o (.o (.z .e)))))))
def p191 : Pt := (.z (.z (.z (.z (.z (.z (.o .e)))))))
def p192 : Pt := (.o (.z (.z (.z (.z (.z (.o .e)))))))
def p193 : Pt := (.z (.o (.z (.z (.z (.z (.o .e)))))))
def p194 : Pt := (.o (.o (.z (.z (.z (.z (.o .e)))))))
def p195 : Pt := (.z (.z (.o (.z (.z (.z (.o .e)))))))
def p196 : Pt := (.o (.z (.o (.z (.z (.z (.o .e)))))))
def p197 : Pt := (.z (.o (.o (.z (.z (.z (.o .e)))))))
def p198 : Pt := (.o (.o (.o (.z (.z (.z (.o .e)))))))
def p199 : Pt := (.z (.z (.z (.o (.z (.z (.o .e)))))))
def p200 : Pt := (.o (.z (.z (.o (.z (.z (.o .e)))))))
def p201 : Pt := (.z (.o (.z (.o (.z (.z (.o .e)))))))
def p202 : Pt := (.o (.o (.z (.o (.z (.z (.o .e)))))))
def p203 : Pt := (.z (.z (.o (.o (.z (.z (.o .e)))))))
def p204 : Pt := (.o (.z (.o (.o (.z (.z (.o .e)))))))
def p205 : Pt := (.z (.o (.o (.o (.z (.z (.o .e)))))))
def p206 : Pt := (.o (.o (.o (.o (.z (.z (.o .e)))))))
def p207 : Pt := (.z (.z (.z (.z (.o (.z (.o .e)))))))
def p208 : Pt := (.o (.z (.z (.z (.o (.z (.o .e)))))))
def p209 : Pt := (.z (.o (.z (.z (.o (.z (.o .e)))))))
def p210 : Pt := (.o (.o (.z (.z (.o (.z (.o .e)))))))
def p211 : Pt := (.z (.z (.o (.z (.o (.z (.o .e)))))))
def p212 : Pt := (.o (.z (.o (.z (.o (.z (.o .e)))))))
def p213 : Pt := (.z (.o (.o (.z (.o (.z (.o .e)))))))
def p214 : Pt := (.o (.o (.o (.z (.o (.z (.o .e)))))))
def p215 : Pt := (.z (.z (.z (.o (.o (.z (.o .e)))))))
def p216 : Pt := (.o (.z (.z (.o (.o (.z (.o .e)))))))
def p217 : Pt := (.z (.o (.z (.o (.o (.z (.o .e)))))))
def p218 : Pt := (.o (.o (.z (.o (.o (.z (.o .e)))))))
def p219 : Pt := (.z (.z (.o (.o (.o (.z (.o .e)))))))
def p220 : Pt := (.o (.z (.o (.o (.o (.z (.o .e)))))))
def p222 : Pt := (.o (.o (.o (.o (.o (.z (.o .e)))))))
def p226 : Pt := (.o (.o (.z (.z (.z (.o (.o .e)))))))
def p227 : Pt := (.z (.z (.o (.z (.z (.o (.o .e)))))))
def p228 : Pt := (.o (.z (.o (.z (.z (.o (.o .e)))))))
def p229 : Pt := (.z (.o (.o (.z (.z (.o (.o .e)))))))
def p230 : Pt := (.o (.o (.o (.z (.z (.o (.o .e)))))))
def p232 : Pt := (.o (.z (.z (.o (.z (.o (.o .e)))))))
def p233 : Pt := (.z (.o (.z (.o (.z (.o (.o .e)))))))
def p234 : Pt := (.o (.o (.z (.o (.z (.o (.o .e)))))))
def p235 : Pt := (.z (.z (.o (.o (.z (.o (.o .e)))))))
def p236 : Pt := (.o (.z (.o (.o (.z (.o (.o .e)))))))
def p237 : Pt := (.z (.o (.o (.o (.z (.o (.o .e)))))))
def p238 : Pt := (.o (.o (.o (.o (.z (.o (.o .e)))))))
def p239 : Pt := (.z (.z (.z (.z (.o (.o (.o .e)))))))
def p240 : Pt := (.o (.z (.z (.z (.o (.o (.o .e)))))))
def p241 : Pt := (.z (.o (.z (.z (.o (.o (.o .e)))))))
def p242 : Pt := (.o (.o (.z (.z (.o (.o (.o .e)))))))
def p243 : Pt := (.z (.z (.o (.z (.o (.o (.o .e)))))))
def p244 : Pt := (.o (.z (.o (.z (.o (.o (.o .e)))))))
def p245 : Pt := (.z (.o (.o (.z (.o (.o (.o .e)))))))
def p246 : Pt := (.o (.o (.o (.z (.o (.o (.o .e)))))))
def p247 : Pt := (.z (.z (.z (.o (.o (.o (.o .e)))))))
def p248 : Pt := (.o (.z (.z (.o (.o (.o (.o .e)))))))
def p249 : Pt := (.z (.o (.z (.o (.o (.o (.o .e)))))))
def p250 : Pt := (.o (.o (.z (.o (.o (.o (.o .e)))))))
def p251 : Pt := (.z (.z (.o (.o (.o (.o (.o .e)))))))
def p252 : Pt := (.o (.z (.o (.o (.o (.o (.o .e)))))))
def p253 : Pt := (.z (.o (.o (.o (.o (.o (.o .e)))))))
def p254 : Pt := (.o (.o (.o (.o (.o (.o (.o .e)))))))
def p255 : Pt := (.z (.z (.z (.z (.z (.z (.z (.z .e))))))))
def p256 : Pt := (.o (.z (.z (.z (.z (.z (.z (.z .e))))))))
def p257 : Pt := (.z (.o (.z (.z (.z (.z (.z (.z .e))))))))
def p258 : Pt := (.o (.o (.z (.z (.z (.z (.z (.z .e))))))))
def p259 : Pt := (.z (.z (.o (.z (.z (.z (.z (.z .e))))))))
def p260 : Pt := (.o (.z (.o (.z (.z (.z (.z (.z .e))))))))
def p261 : Pt := (.z (.o (.o (.z (.z (.z (.z (.z .e))))))))
def p262 : Pt := (.o (.o (.o (.z (.z (.z (.z (.z .e))))))))
def p263 : Pt := (.z (.z (.z (.o (.z (.z (.z (.z .e))))))))
def p264 : Pt := (.o (.z (.z (.o (.z (.z (.z (.z .e))))))))
def p265 : Pt := (.z (.o (.z (.o (.z (.z (.z (.z .e))))))))
def p266 : Pt := (.o (.o (.z (.o (.z (.z (.z (.z .e))))))))
def p267 : Pt := (.z (.z (.o (.o (.z (.z (.z (.z .e))))))))
def p268 : Pt := (.o (.z (.o (.o (.z (.z (.z (.z .e))))))))
def p269 : Pt := (.z (.o (.o (.o (.z (.z (.z (.z .e))))))))
def p270 : Pt := (.o (.o (.o (.o (.z (.z (.z (.z .e))))))))
def p271 : Pt := (.z (.z (.z (.z (.o (.z (.z (.z .e))))))))
def p272 : Pt := (.o (.z (.z (.z (.o (.z (.z (.z .e))))))))
def p273 : Pt := (.z (.o (.z (.z (.o (.z (.z (.z .e))))))))
def p274 : Pt := (.o (.o (.z (.z (.o (.z (.z (.z .e))))))))
def p275 : Pt := (.z (.z (.o (.z (.o (.z (.z (.z .e))))))))
def p276 : Pt := (.o (.z (.o (.z (.o (.z (.z (.z .e))))))))
def p277 : Pt := (.z (.o (.o (.z (.o (.z (.z (.z .e))))))))
def p278 : Pt := (.o (.o (.o (.z (.o (.z (.z (.z .e))))))))
def p279 : Pt := (.z (.z (.z (.o (.o (.z (.z (.z .e))))))))
def p280 : Pt := (.o (.z (.z (.o (.o (.z (.z (.z .e))))))))
def p281 : Pt := (.z (.o (.z (.o (.o (.z (.z (.z .e))))))))
def p282 : Pt := (.o (.o (.z (.o (.o (.z (.z (.z .e))))))))
def p283 : Pt := (.z (.z (.o (.o (.o (.z (.z (.z .e))))))))
def p284 : Pt := (.o (.z (.o (.o (.o (.z (.z (.z .e))))))))
def p285 : Pt := (.z (.o (.o (.o (.o (.z (.z (.z .e))))))))
def p286 : Pt := (.o (.o (.o (.o (.o (.z (.z (.z .e))))))))
def p287 : Pt := (.z (.z (.z (.z (.z (.o (.z (.z .e))))))))
def p288 : Pt := (.o (.z (.z (.z (.z (.o (.z (.z .e))))))))
def p289 : Pt := (.z (.o (.z (.z (.z (.o (.z (.z .e))))))))
def p290 : Pt := (.o (.o (.z (.z (.z (.o (.z (.z .e))))))))
def p291 : Pt := (.z (.z (.o (.z (.z (.o (.z (.z .e))))))))
def p292 : Pt := (.o (.z (.o (.z (.z (.o (.z (.z .e))))))))
def p293 : Pt := (.z (.o (.o (.z (.z (.o (.z (.z .e))))))))
def p294 : Pt := (.o (.o (.o (.z (.z (.o (.z (.z .e))))))))
def p295 : Pt := (.z (.z (.z (.o (.z (.o (.z (.z .e))))))))
def p296 : Pt := (.o (.z (.z (.o (.z (.o (.z (.z .e))))))))
def p297 : Pt := (.z (.o (.z (.o (.z (.o (.z (.z .e))))))))
def p298 : Pt := (.o (.o (.z (.o (.z (.o (.z (.z .e))))))))
def p299 : Pt := (.z (.z (.o (.o (.z (.o (.z (.z .e))))))))
def p300 : Pt := (.o (.z (.o (.o (.z (.o (.z (.z .e))))))))
def p301 : Pt := (.z (.o (.o (.o (.z (.o (.z (.z .e))))))))
def p302 : Pt := (.o (.o (.o (.o (.z (.o (.z (.z .e))))))))
def p303 : Pt := (.z (.z (.z (.z (.o (.o (.z (.z .e))))))))
def p304 : Pt := (.o (.z (.z (.z (.o (.o (.z (.z .e))))))))
def p305 : Pt := (.z (.o (.z (.z (.o (.o (.z (.z .e))))))))
def p306 : Pt := (.o (.o (.z (.z (.o (.o (.z (.z .e))))))))
def p307 : Pt := (.z (.z (.o (.z (.o (.o (.z (.z .e))))))))
def p308 : Pt := (.o (.z (.o (.z (.o (.o (.z (.z .e))))))))
def p309 : Pt := (.z (.o (.o (.z (.o (.o (.z (.z .e))))))))
def p310 : Pt := (.o (.o (.o (.z (.o (.o (.z (.z .e))))))))
def p311 : Pt := (.z (.z (.z (.o (.o (.o (.z (.z .e))))))))
def p312 : Pt := (.o (.z (.z (.o (.o (.o (.z (.z .e))))))))
def p313 : Pt := (.z (.o (.z (.o (.o (.o (.z (.z .e))))))))
def p314 : Pt := (.o (.o (.z (.o (.o (.o (.z (.z .e))))))))
def p315 : Pt := (.z (.z (.o (.o (.o (.o (.z (.z .e))))))))
def p316 : Pt := (.o (.z (.o (.o (.o (.o (.z (.z .e))))))))
def p317 : Pt := (.z (.o (.o (.o (.o (.o (.z (.z .e))))))))
def p318 : Pt := (.o (.o (.o (.o (.o (.o (.z (.z .e))))))))
def p319 : Pt := (.z (.z (.z (.z (.z (.z (.o (.z .e))))))))
def p320 : Pt := (.o (.z (.z (.z (.z (.z (.o (.z .e))))))))
def p321 : Pt := (.z (.o (.z (.z (.z (.z (.o (.z .e))))))))
def p322 : Pt := (.o (.o (.z (.z (.z (.z (.o (.z .e))))))))
def p323 : Pt := (.z (.z (.o (.z (.z (.z (.o (.z .e))))))))
def p324 : Pt := (.o (.z (.o (.z (.z (.z (.o (.z .e))))))))
def p325 : Pt := (.z (.o (.o (.z (.z (.z (.o (.z .e))))))))
def p326 : Pt := (.o (.o (.o (.z (.z (.z (.o (.z .e))))))))
def p327 : Pt := (.z (.z (.z (.o (.z (.z (.o (.z .e))))))))
def p328 : Pt := (.o (.z (.z (.o (.z (.z (.o (.z .e))))))))
def p329 : Pt := (.z (.o (.z (.o (.z (.z (.o (.z .e))))))))
def p330 : Pt := (.o (.o (.z (.o (.z (.z (.o (.z .e))))))))
def p331 : Pt := (.z (.z (.o (.o (.z (.z (.o (.z .e))))))))
def p332 : Pt := (.o (.z (.o (.o (.z (.z (.o (.z .e))))))))
def p333 : Pt := (.z (.o (.o (.o (.z (.z (.o (.z .e))))))))
def p334 : Pt := (.o (.o (.o (.o (.z (.z (.o (.z .e))))))))
def p335 : Pt := (.z (.z (.z (.z (.o (.z (.o (.z .e))))))))
def p336 : Pt := (.o (.z (.z (.z (.o (.z (.o (.z .e))))))))
def p337 : Pt := (.z (.o (.z (.z (.o (.z (.o (.z .e))))))))
def p338 : Pt := (.o (.o (.z (.z (.o (.z (.o (.z .e))))))))
def p339 : Pt := (.z (.z (.o (.z (.o (.z (.o (.z .e))))))))
def p340 : Pt := (.o (.z (.o (.z (.o (.z (.o (.z .e))))))))
def p341 : Pt := (.z (.o (.o (.z (.o (.z (.o (.z .e))))))))
def p342 : Pt := (.o (.o (.o (.z (.o (.z (.o (.z .e))))))))
def p343 : Pt := (.z (.z (.z (.o (.o (.z (.o (.z .e))))))))
def p344 : Pt := (.o (.z (.z (.o (.o (.z (.o (.z .e))))))))
def p345 : Pt := (.z (.o (.z (.o (.o (.z (.o (.z .e))))))))
def p346 : Pt := (.o (.o (.z (.o (.o (.z (.o (.z .e))))))))
def p347 : Pt := (.z (.z (.o (.o (.o (.z (.o (.z .e))))))))
def p348 : Pt := (.o (.z (.o (.o (.o (.z (.o (.z .e))))))))
def p349 : Pt := (.z (.o (.o (.o (.o (.z (.o (.z .e))))))))
def p350 : Pt := (.o (.o (.o (.o (.o (.z (.o (.z .e))))))))
def p351 : Pt := (.z (.z (.z (.z (.z (.o (.o (.z .e))))))))
def p352 : Pt := (.o (.z (.z (.z (.z (.o (.o (.z .e))))))))
def p353 : Pt := (.z (.o (.z (.z (.z (.o (.o (.z .e))))))))
def p354 : Pt := (.o (.o (.z (.z (.z (.o (.o (.z .e))))))))
def p355 : Pt := (.z (.z (.o (.z (.z (.o (.o (.z .e))))))))
def p356 : Pt := (.o (.z (.o (.z (.z (.o (.o (.z .e))))))))
def p357 : Pt := (.z (.o (.o (.z (.z (.o (.o (.z .e))))))))
def p358 : Pt := (.o (.o (.o (.z (.z (.o (.o (.z .e))))))))
def p359 : Pt := (.z (.z (.z (.o (.z (.o (.o (.z .e))))))))
def p360 : Pt := (.o (.z (.z (.o (.z (.o (.o (.z .e))))))))
def p361 : Pt := (.z (.o (.z (.o (.z (.o (.o (.z .e))))))))
def p362 : Pt := (.o (.o (.z (.o (.z (.o (.o (.z .e))))))))
def p363 : Pt := (.z (.z (.o (.o (.z (.o (.o (.z .e))))))))
def p364 : Pt := (.o (.z (.o (.o (.z (.o (.o (.z .e))))))))
def p365 : Pt := (.z (.o (.o (.o (.z (.o (.o (.z .e))))))))
def p366 : Pt := (.o (.o (.o (.o (.z (.o (.o (.z .e))))))))
def p367 : Pt := (.z (.z (.z (.z (.o (.o (.o (.z .e))))))))
def p368 : Pt := (.o (.z (.z (.z (.o (.o (.o (.z .e))))))))
def p369 : Pt := (.z (.o (.z (.z (.o (.o (.o (.z .e))))))))
def p370 : Pt := (.o (.o (.z (.z (.o (.o (.o (.z .e))))))))
def p371 : Pt := (.z (.z (.o (.z (.o (.o (.o (.z .e))))))))
def p372 : Pt := (.o (.z (.o (.z (.o (.o (.o (.z .e))))))))
def p373 : Pt := (.z (.o (.o (.z (.o (.o (.o (.z .e))))))))
def p374 : Pt := (.o (.o (.o (.z (.o (.o (.o (.z .e))))))))
def p375 : Pt := (.z (.z (.z (.o (.o (.o (.o (.z .e))))))))
def p376 : Pt := (.o (.z (.z (.o (.o (.o (.o (.z .e))))))))
def p377 : Pt := (.z (.o (.z (.o (.o (.o (.o (.z .e))))))))
def p378 : Pt := (.o (.o (.z (.o (.o (.o (.o (.z .e))))))))
def p379 : Pt := (.z (.z (.o (.o (.o (.o (.o (.z .e))))))))
def p380 : Pt := (.o (.z (.o (.o (.o (.o (.o (.z .e))))))))
def p381 : Pt := (.z (.o (.o (.o (.o (.o (.o (.z .e))))))))
def p382 : Pt := (.o (.o (.o (.o (.o (.o (.o (.z .e))))))))
def p383 : Pt := (.z (.z (.z (.z (.z (.z (.z (.o .e))))))))
def p384 : Pt := (.o (.z (.z (.z (.z (.z (.z (.o .e))))))))
def p385 : Pt := (.z (.o (.z (.z (.z (.z (.z (.o .e))))))))
def p386 : Pt := (.o (.o (.z (.z (.z (.z (.z (.o .e))))))))
def p387 : Pt := (.z (.z (.o (.z (.z (.z (.z (.o .e))))))))
def p388 : Pt := (.o (.z (.o (.z (.z (.z (.z (.o .e))))))))
def p389 : Pt := (.z (.o (.o (.z (.z (.z (.z (.o .e))))))))
def p390 : Pt := (.o (.o (.o (.z (.z (.z (.z (.o .e))))))))
def p391 : Pt := (.z (.z (.z (.o (.z (.z (.z (.o .e))))))))
def p392 : Pt := (.o (.z (.z (.o (.z (.z (.z (.o .e))))))))
def p393 : Pt := (.z (.o (.z (.o (.z (.z (.z (.o .e))))))))
def p394 : Pt := (.o (.o (.z (.o (.z (.z (.z (.o .e))))))))
def p395 : Pt := (.z (.z (.o (.o (.z (.z (.z (.o .e))))))))
def p396 : Pt := (.o (.z (.o (.o (.z (.z (.z (.o .e))))))))
def p397 : Pt := (.z (.o (.o (.o (.z (.z (.z (.o .e))))))))
def p398 : Pt := (.o (.o (.o (.o (.z (.z (.z (.o .e))))))))
def p399 : Pt := (.z (.z (.z (.z (.o (.z (.z (.o .e))))))))
def p400 : Pt := (.o (.z (.z (.z (.o (.z (.z (.o .e))))))))
def p401 : Pt := (.z (.o (.z (.z (.o (.z (.z (.o .e))))))))
def p402 : Pt := (.o (.o (.z (.z (.o (.z (.z (.o .e))))))))
def p403 : Pt := (.z (.z (.o (.z (.o (.z (.z (.o .e))))))))
theorem mixed : Tryz.prog.follows .mixedOrders = true := by kernel_rfl
def af3 : AF := ⟨(dSeq (dOps (dV p2 (oMv (.c (.bool false)))
dE))
(dSeq (dOps (dC (some p10) p5 []
(dV p3 (oMv (.t p10))
dE)))
(dSeq (dOps (dC (some p11) p6 [(.c (.str [66, 111, 120])), (.c .nils)]
(dV p4 (oNew [(.int .i64 (.ofNat 0)), (.int .i64 (.ofNat 0)), (.bool false), (.str []), .nils, .nils] 26)
(dU (oSt 6 (.t p4) (.t p11))
dE))))
(dSeq (dOps (dC (some p12) p6 [(.c (.str [78, 97, 116])), (.c .nils)]
(dV p5 (oNew [(.int .i64 (.ofNat 0)), (.int .i64 (.ofNat 0)), (.bool false), (.str []), .nils, .nils] 26)
(dU (oSt 6 (.t p5) (.t p12))
dE))))
(dSeq (dDraw (sN p13 ⟨(some p13), (.v (.ldN 6 (.t p4))), none⟩
(sN p14 ⟨(some p14), (.v (.ldN 6 (.t p5))), none⟩
(sN p15 ⟨(some p15), (.v (.ldN 6 (.t p4))), none⟩
(sN p17 ⟨(some p17), (.v (.ldN 6 (.t p5))), none⟩
(sN p18 ⟨(some p18), (.v (.ldN 6 (.t p5))), none⟩
(sN p19 ⟨(some p19), (.v (.ldN 6 (.t p4))), none⟩
(sN p22 ⟨(some p22), (.v (.ldN 6 (.t p4))), none⟩
(sN p23 ⟨(some p23), (.v (.ldN 6 (.t p5))), none⟩
(sN p25 ⟨(some p25), (.v (.ldN 6 (.t p4))), none⟩
(sN p26 ⟨(some p26), (.v (.ldN 6 (.t p5))), none⟩
(sN p28 ⟨(some p28), (.v (.ldN 6 (.t p4))), none⟩
(sN p30 ⟨(some p30), (.v (.ldN 6 (.t p5))), none⟩
(sN p31 ⟨(some p31), (.v (.ldN 6 (.t p4))), none⟩
(sN p33 ⟨(some p33), (.v (.ldN 6 (.t p4))), none⟩
(sN p35 ⟨(some p35), (.v (.ldN 6 (.t p4))), none⟩
(sN p36 ⟨(some p36), (.v (.ldN 6 (.t p5))), none⟩
(sA 24 p37 (.buildS 26 2 [(.int .i64 (.ofNat 0)), (.int .i64 (.ofNat 0)), (.bool false), (.str []), .nils, .nils, (.int .i64 (.ofNat 0)), (.int .i64 (.ofNat 0)), (.bool false), (.str []), .nils, .nils] [(0, 6, (.t p35)), (6, 6, (.t p36))])
(sN p38 ⟨(some p38), (.v (.build [(.int .i64 (.ofNat 0)), (.int .i64 (.ofNat 0)), (.bool false), (.str []), .nils, .nils] [(0, 1, (.c (.int .i64 (.ofNat 6)))), (5, 1, (.t p37))])), none⟩
(sN p39 ⟨(some p39), (.v (.ldN 6 (.t p5))), none⟩
(sN p40 ⟨(some p40), (.v (.ldN 6 (.t p4))), none⟩
(sA 28 p41 (.buildS 26 2 [(.int .i64 (.ofNat 0)), (.int .i64 (.ofNat 0)), (.bool false), (.str []), .nils, .nils, (.int .i64 (.ofNat 0)), (.int .i64 (.ofNat 0)), (.bool false), (.str []), .nils, .nils] [(0, 6, (.t p39)), (6, 6, (.t p40))])
(sN p42 ⟨(some p42), (.v (.build [(.int .i64 (.ofNat 0)), (.int .i64 (.ofNat 0)), (.bool false), (.str []), .nils, .nils] [(0, 1, (.c (.int .i64 (.ofNat 6)))), (5, 1, (.t p41))])), none⟩
(sN p43 ⟨(some p43), (.v (.ldN 6 (.t p5))), none⟩
(sN p44 ⟨(some p44), (.v (.ldN 6 (.t p5))), none⟩
(sN p45 ⟨(some p45), (.v (.ldN 6 (.t p5))), none⟩
(sE [] [(p13, ⟨(some p13), (.v (.ldN 6 (.t p4))), none⟩), (p17, ⟨(some p17), (.v (.ldN 6 (.t p5))), none⟩), (p18, ⟨(some p18), (.v (.ldN 6 (.t p5))), none⟩), (p19, ⟨(some p19), (.v (.ldN 6 (.t p4))), none⟩), (p22, ⟨(some p22), (.v (.ldN 6 (.t p4))), none⟩), (p23, ⟨(some p23), (.v (.ldN 6 (.t p5))), none⟩), (p25, ⟨(some p25), (.v (.ldN 6 (.t p4))), none⟩), (p26, ⟨(some p26), (.v (.ldN 6 (.t p5))), none⟩), (p28, ⟨(some p28), (.v (.ldN 6 (.t p4))), none⟩), (p30, ⟨(some p30), (.v (.ldN 6 (.t p5))), none⟩), (p31, ⟨(some p31), (.v (.ldN 6 (.t p4))), none⟩), (p33, ⟨(some p33), (.v (.ldN 6 (.t p4))), none⟩), (p35, ⟨(some p35), (.v (.ldN 6 (.t p4))), none⟩), (p36, ⟨(some p36), (.v (.ldN 6 (.t p5))), none⟩), (p39, ⟨(some p39), (.v (.ldN 6 (.t p5))), none⟩), (p40, ⟨(some p40), (.v (.ldN 6 (.t p4))), none⟩), (p43, ⟨(some p43), (.v (.ldN 6 (.t p5))), none⟩), (p44, ⟨(some p44), (.v (.ldN 6 (.t p5))), none⟩), (p45, ⟨(some p45), (.v (.ldN 6 (.t p5))), none⟩)] ⟨(some p16), (.call p7 [(.t p14), (.t p15)]), none⟩
(sE [] [(p13, ⟨(some p13), (.v (.ldN 6 (.t p4))), none⟩), (p17, ⟨(some p17), (.v (.ldN 6 (.t p5))), none⟩), (p22, ⟨(some p22), (.v (.ldN 6 (.t p4))), none⟩), (p23, ⟨(some p23), (.v (.ldN 6 (.t p5))), none⟩), (p25, ⟨(some p25), (.v (.ldN 6 (.t p4))), none⟩), (p26, ⟨(some p26), (.v (.ldN 6 (.t p5))), none⟩), (p28, ⟨(some p28), (.v (.ldN 6 (.t p4))), none⟩), (p30, ⟨(some p30), (.v (.ldN 6 (.t p5))), none⟩), (p31, ⟨(some p31), (.v (.ldN 6 (.t p4))), none⟩), (p33, ⟨(some p33), (.v (.ldN 6 (.t p4))), none⟩), (p35, ⟨(some p35), (.v (.ldN 6 (.t p4))), none⟩), (p36, ⟨(some p36), (.v (.ldN 6 (.t p5))), none⟩), (p39, ⟨(some p39), (.v (.ldN 6 (.t p5))), none⟩), (p40, ⟨(some p40), (.v (.ldN 6 (.t p4))), none⟩), (p43, ⟨(some p43), (.v (.ldN 6 (.t p5))), none⟩), (p44, ⟨(some p44), (.v (.ldN 6 (.t p5))), none⟩), (p45, ⟨(some p45), (.v (.ldN 6 (.t p5))), none⟩)] ⟨(some p20), (.call p7 [(.t p18), (.t p19)]), none⟩
(sE [] [(p13, ⟨(some p13), (.v (.ldN 6 (.t p4))), none⟩), (p22, ⟨(some p22), (.v (.ldN 6 (.t p4))), none⟩), (p23, ⟨(some p23), (.v (.ldN 6 (.t p5))), none⟩), (p25, ⟨(some p25), (.v (.ldN 6 (.t p4))), none⟩), (p26, ⟨(some p26), (.v (.ldN 6 (.t p5))), none⟩), (p28, ⟨(some p28), (.v (.ldN 6 (.t p4))), none⟩), (p30, ⟨(some p30), (.v (.ldN 6 (.t p5))), none⟩), (p31, ⟨(some p31), (.v (.ldN 6 (.t p4))), none⟩), (p33, ⟨(some p33), (.v (.ldN 6 (.t p4))), none⟩), (p35, ⟨(some p35), (.v (.ldN 6 (.t p4))), none⟩), (p36, ⟨(some p36), (.v (.ldN 6 (.t p5))), none⟩), (p39, ⟨(some p39), (.v (.ldN 6 (.t p5))), none⟩), (p40, ⟨(some p40), (.v (.ldN 6 (.t p4))), none⟩), (p43, ⟨(some p43), (.v (.ldN 6 (.t p5))), none⟩), (p44, ⟨(some p44), (.v (.ldN 6 (.t p5))), none⟩), (p45, ⟨(some p45), (.v (.ldN 6 (.t p5))), none⟩)] ⟨(some p21), (.call p7 [(.t p17), (.t p20)]), none⟩
(sE [] [(p13, ⟨(some p13), (.v (.ldN 6 (.t p4))), none⟩), (p25, ⟨(some p25), (.v (.ldN 6 (.t p4))), none⟩), (p26, ⟨(some p26), (.v (.ldN 6 (.t p5))), none⟩), (p28, ⟨(some p28), (.v (.ldN 6 (.t p4))), none⟩), (p30, ⟨(some p30), (.v (.ldN 6 (.t p5))), none⟩), (p31, ⟨(some p31), (.v (.ldN 6 (.t p4))), none⟩), (p33, ⟨(some p33), (.v (.ldN 6 (.t p4))), none⟩), (p35, ⟨(some p35), (.v (.ldN 6 (.t p4))), none⟩), (p36, ⟨(some p36), (.v (.ldN 6 (.t p5))), none⟩), (p39, ⟨(some p39), (.v (.ldN 6 (.t p5))), none⟩), (p40, ⟨(some p40), (.v (.ldN 6 (.t p4))), none⟩), (p43, ⟨(some p43), (.v (.ldN 6 (.t p5))), none⟩), (p44, ⟨(some p44), (.v (.ldN 6 (.t p5))), none⟩), (p45, ⟨(some p45), (.v (.ldN 6 (.t p5))), none⟩)] ⟨(some p24), (.call p7 [(.t p22), (.t p23)]), none⟩
(sE [] [(p13, ⟨(some p13), (.v (.ldN 6 (.t p4))), none⟩), (p28, ⟨(some p28), (.v (.ldN 6 (.t p4))), none⟩), (p30, ⟨(some p30), (.v (.ldN 6 (.t p5))), none⟩), (p31, ⟨(some p31), (.v (.ldN 6 (.t p4))), none⟩), (p33, ⟨(some p33), (.v (.ldN 6 (.t p4))), none⟩), (p35, ⟨(some p35), (.v (.ldN 6 (.t p4))), none⟩), (p36, ⟨(some p36), (.v (.ldN 6 (.t p5))), none⟩), (p39, ⟨(some p39), (.v (.ldN 6 (.t p5))), none⟩), (p40, ⟨(some p40), (.v (.ldN 6 (.t p4))), none⟩), (p43, ⟨(some p43), (.v (.ldN 6 (.t p5))), none⟩), (p44, ⟨(some p44), (.v (.ldN 6 (.t p5))), none⟩), (p45, ⟨(some p45), (.v (.ldN 6 (.t p5))), none⟩)] ⟨(some p27), (.call p7 [(.t p25), (.t p26)]), none⟩
(sE [] [(p13, ⟨(some p13), (.v (.ldN 6 (.t p4))), none⟩), (p30, ⟨(some p30), (.v (.ldN 6 (.t p5))), none⟩), (p31, ⟨(some p31), (.v (.ldN 6 (.t p4))), none⟩), (p33, ⟨(some p33), (.v (.ldN 6 (.t p4))), none⟩), (p35, ⟨(some p35), (.v (.ldN 6 (.t p4))), none⟩), (p36, ⟨(some p36), (.v (.ldN 6 (.t p5))), none⟩), (p39, ⟨(some p39), (.v (.ldN 6 (.t p5))), none⟩), (p40, ⟨(some p40), (.v (.ldN 6 (.t p4))), none⟩), (p43, ⟨(some p43), (.v (.ldN 6 (.t p5))), none⟩), (p44, ⟨(some p44), (.v (.ldN 6 (.t p5))), none⟩), (p45, ⟨(some p45), (.v (.ldN 6 (.t p5))), none⟩)] ⟨(some p29), (.call p7 [(.t p27), (.t p28)]), none⟩
(sE [] [(p13, ⟨(some p13), (.v (.ldN 6 (.t p4))), none⟩), (p33, ⟨(some p33), (.v (.ldN 6 (.t p4))), none⟩), (p35, ⟨(some p35), (.v (.ldN 6 (.t p4))), none⟩), (p36, ⟨(some p36), (.v (.ldN 6 (.t p5))), none⟩), (p39, ⟨(some p39), (.v (.ldN 6 (.t p5))), none⟩), (p40, ⟨(some p40), (.v (.ldN 6 (.t p4))), none⟩), (p43, ⟨(some p43), (.v (.ldN 6 (.t p5))), none⟩), (p44, ⟨(some p44), (.v (.ldN 6 (.t p5))), none⟩), (p45, ⟨(some p45), (.v (.ldN 6 (.t p5))), none⟩)] ⟨(some p32), (.call p7 [(.t p30), (.t p31)]), none⟩
(sE [] [(p13, ⟨(some p13), (.v (.ldN 6 (.t p4))), none⟩), (p35, ⟨(some p35), (.v (.ldN 6 (.t p4))), none⟩), (p36, ⟨(some p36), (.v (.ldN 6 (.t p5))), none⟩), (p39, ⟨(some p39), (.v (.ldN 6 (.t p5))), none⟩), (p40, ⟨(some p40), (.v (.ldN 6 (.t p4))), none⟩), (p43, ⟨(some p43), (.v (.ldN 6 (.t p5))), none⟩), (p44, ⟨(some p44), (.v (.ldN 6 (.t p5))), none⟩), (p45, ⟨(some p45), (.v (.ldN 6 (.t p5))), none⟩)] ⟨(some p34), (.call p7 [(.t p32), (.t p33)]), none⟩
(sE [] [(p13, ⟨(some p13), (.v (.ldN 6 (.t p4))), none⟩), (p35, ⟨(some p35), (.v (.ldN 6 (.t p4))), none⟩), (p36, ⟨(some p36), (.v (.ldN 6 (.t p5))), none⟩), (p39, ⟨(some p39), (.v (.ldN 6 (.t p5))), none⟩), (p40, ⟨(some p40), (.v (.ldN 6 (.t p4))), none⟩), (p43, ⟨(some p43), (.v (.ldN 6 (.t p5))), none⟩)] ⟨(some p46), (.call p7 [(.t p44), (.t p45)]), none⟩
(sA 34 p47 (.buildS 26 10 [(.int .i64 (.ofNat 0)), (.int .i64 (.ofNat 0)), (.bool false), (.str []), .nils, .nils, (.int .i64 (.ofNat 0)), (.int .i64 (.ofNat 0)), (.bool false), (.str []), .nils, .nils, (.int .i64 (.ofNat 0)), (.int .i64 (.ofNat 0)), (.bool false), (.str []), .nils, .nils, (.int .i64 (.ofNat 0)), (.int .i64 (.ofNat 0)), (.bool false), (.str []), .nils, .nils, (.int .i64 (.ofNat 0)), (.int .i64 (.ofNat 0)), (.bool false), (.str []), .nils, .nils, (.int .i64 (.ofNat 0)), (.int .i64 (.ofNat 0)), (.bool false), (.str []), .nils, .nils, (.int .i64 (.ofNat 0)), (.int .i64 (.ofNat 0)), (.bool false), (.str []), .nils, .nils, (.int .i64 (.ofNat 0)), (.int .i64 (.ofNat 0)), (.bool false), (.str []), .nils, .nils, (.int .i64 (.ofNat 0)), (.int .i64 (.ofNat 0)), (.bool false), (.str []), .nils, .nils, (.int .i64 (.ofNat 0)), (.int .i64 (.ofNat 0)), (.bool false), (.str []), .nils, .nils] [(0, 6, (.t p13)), (6, 6, (.t p16)), (12, 6, (.t p21)), (18, 6, (.t p24)), (24, 6, (.t p29)), (30, 6, (.t p34)), (36, 6, (.t p38)), (42, 6, (.t p42)), (48, 6, (.t p43)), (54, 6, (.t p46))])
(sN p6 ⟨(some p6), (.v (.mv (.t p47))), none⟩
sEnd)))))))))))))))))))))))))))))))))))))
(dSeq (dOps (dV p48 (oBuildS 3 10 [(.int .i64 (.ofNat 0)), (.int .i64 (.ofNat 0)), (.int .i64 (.ofNat 0)), (.int .i64 (.ofNat 0)), (.int .i64 (.ofNat 0)), (.int .i64 (.ofNat 0)), (.int .i64 (.ofNat 0)), (.int .i64 (.ofNat 0)), (.int .i64 (.ofNat 0)), (.int .i64 (.ofNat 0))] [(0, 1, (.c (.int .i64 (.ofNat 0)))), (1, 1, (.c (.int .i64 (.ofNat 0)))), (2, 1, (.c (.int .i64 (.ofNat 0)))), (3, 1, (.c (.int .i64 (.ofNat 22)))), (4, 1, (.c (.int .i64 (.ofNat 22)))), (5, 1, (.c (.int .i64 (.ofNat 22)))), (6, 1, (.c (.int .i64 (.ofNat 22)))), (7, 1, (.c (.int .i64 (.ofNat 22)))), (8, 1, (.c (.int .i64 (.ofNat 0)))), (9, 1, (.c (.int .i64 (.ofNat 0))))])
(dV p7 (oMv (.t p48))
dE)))
(dSeq (dSeq (dOps (dV p49 (oMv (.t p3))
(dV p50 (oUn .not (.t p49))
(dV p51 (oMv (.t p50))
(dG p51 false (some p52) (dV p52 (oMv (.t p0)))
(dG p51 false (some p53) (dV p53 (oAr .lss (.t p52) (.c (.int .i64 (.ofNat 0)))))
(dV p54 (oPick (.t p51) (.c (.bool true)) (.t p53))
(dV p55 (oMv (.t p54))
(dG p55 false (some p56) (dV p56 (oMv (.t p0)))
(dG p55 false (some p57) (dV p57 (oMv (.t p6)))
(dG p55 false (some p58) (dV p58 (oLen (.t p57)))
(dG p55 false (some p59) (dV p59 (oAr .geq (.t p56) (.t p58)))
(dV p60 (oPick (.t p55) (.c (.bool true)) (.t p59))
dE)))))))))))))
(dCond (.t p60) (dSeq (dOps (dV p61 (oMv (.t p3))
(dV p2 (oMv (.t p61))
dE)))
dRet) dSkip))
(dSeq (dOps (dC (some p62) p8 []
(dV p8 (oMv (.t p62))
dE)))
(dSeq (dOps (dV p63 (oMv (.t p8))
(dC (some p64) p10 []
(dC (some p65) p9 [(.t p63), (.t p64)]
dE))))
(dSeq (dOps (dV p66 (oMv (.t p8))
(dV p67 (oMv (.t p6))
(dV p68 (oMv (.t p0))
(dV p69 (oIa 6 (.t p67) (.t p68))
(dV p70 (oLdN 6 (.t p69))
(dC (some p71) p12 [(.t p70), (.c (.int .i64 (.ofNat 0)))]
(dC (some p72) p11 [(.t p66), (.t p71), (.c (.int .i64 (.ofNat 1000)))]
(dV p9 (oMv (.t p72))
dE)))))))))
(dSeq (dDraw (sN p73 ⟨(some p73), (.v (.mv (.t p9))), none⟩
(sN p75 ⟨(some p75), (.v (.mv (.t p7))), none⟩
(sN p76 ⟨(some p76), (.v (.mv (.t p0))), none⟩
(sN p77 ⟨(some p77), (.v (.ia 1 (.t p75) (.t p76))), none⟩
(sN p78 ⟨(some p78), (.v (.ld1 (.t p77))), none⟩
(sE [] [(p78, ⟨(some p78), (.v (.ld1 (.t p77))), none⟩)] ⟨(some p74), (.call p13 [(.t p73)]), none⟩
(sN p79 ⟨(some p79), (.v (.ar .eql (.t p74) (.t p78))), none⟩
(sN p2 ⟨(some p2), (.v (.mv (.t p79))), none⟩
sEnd)))))))))
dRet))))))))))), [(.t p2)]⟩
def af4 : AF := ⟨(dSeq (dOps (dV p2 (oMv (.c (.bool false)))
dE))
(dSeq (dOps (dC (some p10) p5 []
(dV p3 (oMv (.t p10))
dE)))
(dSeq (dOps (dC (some p11) p6 [(.c (.str [78, 97, 116])), (.c .nils)]
(dV p4 (oNew [(.int .i64 (.ofNat 0)), (.int .i64 (.ofNat 0)), (.bool false), (.str []), .nils, .nils] 26)
(dU (oSt 6 (.t p4) (.t p11))
dE))))
(dSeq (dOps (dC (some p12) p14 [(.c (.int .i64 (.ofNat 0)))]
(dV p5 (oNew [(.int .i64 (.ofNat 0)), (.int .i64 (.ofNat 0)), (.bool false), (.str []), .nils, .nils] 26)
(dU (oSt 6 (.t p5) (.t p12))
dE))))
(dSeq (dDraw (sN p13 ⟨(some p13), (.v (.ldN 6 (.t p4))), none⟩
(sN p14 ⟨(some p14), (.v (.build [(.int .i64 (.ofNat 0)), (.str []), (.int .i64 (.ofNat 0)), (.int .i64 (.ofNat 0)), (.int .i64 (.ofNat 0)), (.bool false), (.str []), .nils, .nils, (.int .i64 (.ofNat 0)), (.int .i64 (.ofNat 0)), (.bool false), (.str []), .nils, .nils, (.int .i64 (.ofNat 0)), .nils] [(0, 1, (.c (.int .i64 (.ofNat 1)))), (1, 1, (.c (.str [97]))), (3, 6, (.t p13))])), none⟩
(sN p17 ⟨(some p17), (.v (.ldN 6 (.t p4))), none⟩
(sN p18 ⟨(some p18), (.v (.build [(.int .i64 (.ofNat 0)), (.str []), (.int .i64 (.ofNat 0)), (.int .i64 (.ofNat 0)), (.int .i64 (.ofNat 0)), (.bool false), (.str []), .nils, .nils, (.int .i64 (.ofNat 0)), (.int .i64 (.ofNat 0)), (.bool false), (.str []), .nils, .nils, (.int .i64 (.ofNat 0)), .nils] [(0, 1, (.c (.int .i64 (.ofNat 1)))), (1, 1, (.c (.str [78, 97, 116]))), (3, 6, (.t p17))])), none⟩
(sN p19 ⟨(some p19), (.v (.ldN 6 (.t p4))), none⟩
(sN p20 ⟨(some p20), (.v (.build [(.int .i64 (.ofNat 0)), (.str []), (.int .i64 (.ofNat 0)), (.int .i64 (.ofNat 0)), (.int .i64 (.ofNat 0)), (.bool false), (.str []), .nils, .nils, (.int .i64 (.ofNat 0)), (.int .i64 (.ofNat 0)), (.bool false), (.str []), .nils, .nils, (.int .i64 (.ofNat 0)), .nils] [(0, 1, (.c (.int .i64 (.ofNat 1)))), (1, 1, (.c (.str []))), (3, 6, (.t p19))])), none⟩
(sN p21 ⟨(some p21), (.v (.ldN 6 (.t p4))), none⟩
(sN p22 ⟨(some p22), (.v (.build [(.int .i64 (.ofNat 0)), (.str []), (.int .i64 (.ofNat 0)), (.int .i64 (.ofNat 0)), (.int .i64 (.ofNat 0)), (.bool false), (.str []), .nils, .nils, (.int .i64 (.ofNat 0)), (.int .i64 (.ofNat 0)), (.bool false), (.str []), .nils, .nils, (.int .i64 (.ofNat 0)), .nils] [(0, 1, (.c (.int .i64 (.ofNat 4)))), (1, 1, (.c (.str [97]))), (3, 6, (.t p21))])), none⟩
(sN p25 ⟨(some p25), (.v (.ldN 6 (.t p4))), none⟩
(sN p28 ⟨(some p28), (.v (.ldN 6 (.t p4))), none⟩
(sN p29 ⟨(some p29), (.v (.ldN 6 (.t p4))), none⟩
(sN p30 ⟨(some p30), (.v (.build [(.int .i64 (.ofNat 0)), (.str []), (.int .i64 (.ofNat 0)), (.int .i64 (.ofNat 0)), (.int .i64 (.ofNat 0)), (.bool false), (.str []), .nils, .nils, (.int .i64 (.ofNat 0)), (.int .i64 (.ofNat 0)), (.bool false), (.str []), .nils, .nils, (.int .i64 (.ofNat 0)), .nils] [(0, 1, (.c (.int .i64 (.ofNat 2)))), (1, 1, (.c (.str [97]))), (3, 6, (.t p28)), (9, 6, (.t p29))])), none⟩
(sN p31 ⟨(some p31), (.v (.ldN 6 (.t p4))), none⟩
(sN p34 ⟨(some p34), (.v (.ldN 6 (.t p4))), none⟩
(sN p37 ⟨(some p37), (.v (.ldN 6 (.t p4))), none⟩
(sN p38 ⟨(some p38), (.v (.build [(.int .i64 (.ofNat 0)), (.str []), (.int .i64 (.ofNat 0)), (.int .i64 (.ofNat 0)), (.int .i64 (.ofNat 0)), (.bool false), (.str []), .nils, .nils, (.int .i64 (.ofNat 0)), (.int .i64 (.ofNat 0)), (.bool false), (.str []), .nils, .nils, (.int .i64 (.ofNat 0)), .nils] [(0, 1, (.c (.int .i64 (.ofNat 3)))), (1, 1, (.c (.str [68]))), (3, 6, (.t p37))])), none⟩
(sN p39 ⟨(some p39), (.v (.ldN 6 (.t p4))), none⟩
(sN p40 ⟨(some p40), (.v (.ldN 6 (.t p5))), none⟩
(sN p43 ⟨(some p43), (.v (.ldN 6 (.t p5))), none⟩
(sN p44 ⟨(some p44), (.v (.ldN 6 (.t p4))), none⟩
(sN p45 ⟨(some p45), (.v (.build [(.str []), (.int .i64 (.ofNat 0)), (.int .i64 (.ofNat 0)), (.bool false), (.str []), .nils, .nils] [(0, 1, (.c (.str [100]))), (1, 6, (.t p44))])), none⟩
(sA 33 p46 (.buildS 44 1 [(.str []), (.int .i64 (.ofNat 0)), (.int .i64 (.ofNat 0)), (.bool false), (.str []), .nils, .nils] [(0, 7, (.t p45))])
(sN p47 ⟨(some p47), (.v (.build [(.int .i64 (.ofNat 0)), (.str []), (.int .i64 (.ofNat 0)), (.int .i64 (.ofNat 0)), (.int .i64 (.ofNat 0)), (.bool false), (.str []), .nils, .nils, (.int .i64 (.ofNat 0)), (.int .i64 (.ofNat 0)), (.bool false), (.str []), .nils, .nils, (.int .i64 (.ofNat 0)), .nils] [(0, 1, (.c (.int .i64 (.ofNat 3)))), (1, 1, (.c (.str [68]))), (3, 6, (.t p43)), (16, 1, (.t p46))])), none⟩
(sN p48 ⟨(some p48), (.v (.ldN 6 (.t p5))), none⟩
(sN p55 ⟨(some p55), (.v (.ldN 6 (.t p5))), none⟩
(sN p60 ⟨(some p60), (.v (.build [(.int .i64 (.ofNat 0)), (.int .i64 (.ofNat 0))] [(0, 1, (.c (.int .i64 (.ofNat 0))))])), none⟩
(sA 48 p61 (.buildS 46 1 [(.int .i64 (.ofNat 0)), (.int .i64 (.ofNat 0))] [(0, 2, (.t p60))])
(sN p62 ⟨(some p62), (.v (.build [(.int .i64 (.ofNat 0)), .nils] [(1, 1, (.t p61))])), none⟩
(sA 50 p63 (.buildS 49 1 [(.int .i64 (.ofNat 0)), .nils] [(0, 2, (.t p62))])
(sN p64 ⟨(some p64), (.v (.build [(.int .i64 (.ofNat 0)), (.int .i64 (.ofNat 0)), (.bool false), (.str []), .nils, .nils] [(0, 1, (.c (.int .i64 (.ofNat 2)))), (4, 1, (.t p63))])), none⟩
(sN p65 ⟨(some p65), (.v (.build [(.int .i64 (.ofNat 0)), (.str []), (.int .i64 (.ofNat 0)), (.int .i64 (.ofNat 0)), (.int .i64 (.ofNat 0)), (.bool false), (.str []), .nils, .nils, (.int .i64 (.ofNat 0)), (.int .i64 (.ofNat 0)), (.bool false), (.str []), .nils, .nils, (.int .i64 (.ofNat 0)), .nils] [(0, 1, (.c (.int .i64 (.ofNat 1)))), (1, 1, (.c (.str [97]))), (3, 6, (.t p64))])), none⟩
(sN p66 ⟨(some p66), (.v (.build [(.int .i64 (.ofNat 0)), (.int .i64 (.ofNat 0))] [(0, 1, (.c (.int .i64 (.ofNat 0))))])), none⟩
(sA 54 p67 (.buildS 46 1 [(.int .i64 (.ofNat 0)), (.int .i64 (.ofNat 0))] [(0, 2, (.t p66))])
(sN p68 ⟨(some p68), (.v (.build [(.int .i64 (.ofNat 0)), .nils] [(1, 1, (.t p67))])), none⟩
(sA 56 p69 (.buildS 49 1 [(.int .i64 (.ofNat 0)), .nils] [(0, 2, (.t p68))])
(sN p70 ⟨(some p70), (.v (.build [(.int .i64 (.ofNat 0)), (.int .i64 (.ofNat 0)), (.bool false), (.str []), .nils, .nils] [(0, 1, (.c (.int .i64 (.ofNat 2)))), (4, 1, (.t p69))])), none⟩
(sN p71 ⟨(some p71), (.v (.build [(.int .i64 (.ofNat 0)), (.str []), (.int .i64 (.ofNat 0)), (.int .i64 (.ofNat 0)), (.int .i64 (.ofNat 0)), (.bool false), (.str []), .nils, .nils, (.int .i64 (.ofNat 0)), (.int .i64 (.ofNat 0)), (.bool false), (.str []), .nils, .nils, (.int .i64 (.ofNat 0)), .nils] [(0, 1, (.c (.int .i64 (.ofNat 1)))), (1, 1, (.c (.str [97]))), (2, 1, (.c (.int .i64 (.ofNat 1)))), (3, 6, (.t p70))])), none⟩
(sN p72 ⟨(some p72), (.v (.ldN 6 (.t p4))), none⟩
(sN p73 ⟨(some p73), (.v (.build [(.int .i64 (.ofNat 0)), (.str []), (.int .i64 (.ofNat 0)), (.int .i64 (.ofNat 0)), (.int .i64 (.ofNat 0)), (.bool false), (.str []), .nils, .nils, (.int .i64 (.ofNat 0)), (.int .i64 (.ofNat 0)), (.bool false), (.str []), .nils, .nils, (.int .i64 (.ofNat 0)), .nils] [(0, 1, (.c (.int .i64 (.ofNat 1)))), (1, 1, (.c (.str [97]))), (2, 1, (.c (.int .i64 (.ofNat 9)))), (3, 6, (.t p72))])), none⟩
(sN p74 ⟨(some p74), (.v (.build [(.int .i64 (.ofNat 0)), (.int .i64 (.ofNat 0)), (.bool false), (.str []), .nils, .nils] [(0, 1, (.c (.int .i64 (.ofNat 11))))])), none⟩
(sN p75 ⟨(some p75), (.v (.build [(.int .i64 (.ofNat 0)), (.str []), (.int .i64 (.ofNat 0)), (.int .i64 (.ofNat 0)), (.int .i64 (.ofNat 0)), (.bool false), (.str []), .nils, .nils, (.int .i64 (.ofNat 0)), (.int .i64 (.ofNat 0)), (.bool false), (.str []), .nils, .nils, (.int .i64 (.ofNat 0)), .nils] [(0, 1, (.c (.int .i64 (.ofNat 1)))), (1, 1, (.c (.str [97]))), (3, 6, (.t p74))])), none⟩
(sN p76 ⟨(some p76), (.v (.ldN 6 (.t p4))), none⟩
(sN p77 ⟨(some p77), (.v (.build [(.int .i64 (.ofNat 0)), (.str []), (.int .i64 (.ofNat 0)), (.int .i64 (.ofNat 0)), (.int .i64 (.ofNat 0)), (.bool false), (.str []), .nils, .nils, (.int .i64 (.ofNat 0)), (.int .i64 (.ofNat 0)), (.bool false), (.str []), .nils, .nils, (.int .i64 (.ofNat 0)), .nils] [(0, 1, (.c (.int .i64 (.ofNat 1)))), (1, 1, (.c (.str [68, 46, 101, 108, 105, 109]))), (3, 6, (.t p76))])), none⟩
(sN p78 ⟨(some p78), (.v (.ldN 6 (.t p5))), none⟩
(sN p79 ⟨(some p79), (.v (.build [(.int .i64 (.ofNat 0)), (.str []), (.int .i64 (.ofNat 0)), (.int .i64 (.ofNat 0)), (.int .i64 (.ofNat 0)), (.bool false), (.str []), .nils, .nils, (.int .i64 (.ofNat 0)), (.int .i64 (.ofNat 0)), (.bool false), (.str []), .nils, .nils, (.int .i64 (.ofNat 0)), .nils] [(0, 1, (.c (.int .i64 (.ofNat 3)))), (1, 1, (.c (.str [78, 97, 116]))), (3, 6, (.t p78))])), none⟩
(sE [] [(p13, ⟨(some p13), (.v (.ldN 6 (.t p4))), none⟩), (p17, ⟨(some p17), (.v (.ldN 6 (.t p4))), none⟩), (p19, ⟨(some p19), (.v (.ldN 6 (.t p4))), none⟩), (p21, ⟨(some p21), (.v (.ldN 6 (.t p4))), none⟩), (p25, ⟨(some p25), (.v (.ldN 6 (.t p4))), none⟩), (p28, ⟨(some p28), (.v (.ldN 6 (.t p4))), none⟩), (p29, ⟨(some p29), (.v (.ldN 6 (.t p4))), none⟩), (p31, ⟨(some p31), (.v (.ldN 6 (.t p4))), none⟩), (p34, ⟨(some p34), (.v (.ldN 6 (.t p4))), none⟩), (p37, ⟨(some p37), (.v (.ldN 6 (.t p4))), none⟩), (p39, ⟨(some p39), (.v (.ldN 6 (.t p4))), none⟩), (p40, ⟨(some p40), (.v (.ldN 6 (.t p5))), none⟩), (p43, ⟨(some p43), (.v (.ldN 6 (.t p5))), none⟩), (p44, ⟨(some p44), (.v (.ldN 6 (.t p4))), none⟩), (p48, ⟨(some p48), (.v (.ldN 6 (.t p5))), none⟩), (p55, ⟨(some p55), (.v (.ldN 6 (.t p5))), none⟩), (p72, ⟨(some p72), (.v (.ldN 6 (.t p4))), none⟩), (p76, ⟨(some p76), (.v (.ldN 6 (.t p4))), none⟩), (p78, ⟨(some p78), (.v (.ldN 6 (.t p5))), none⟩)] ⟨(some p15), (.call p15 [(.c (.int .i64 (.ofNat 1)))]), none⟩
(sN p16 ⟨(some p16), (.v (.build [(.int .i64 (.ofNat 0)), (.str []), (.int .i64 (.ofNat 0)), (.int .i64 (.ofNat 0)), (.int .i64 (.ofNat 0)), (.bool false), (.str []), .nils, .nils, (.int .i64 (.ofNat 0)), (.int .i64 (.ofNat 0)), (.bool false), (.str []), .nils, .nils, (.int .i64 (.ofNat 0)), .nils] [(0, 1, (.c (.int .i64 (.ofNat 1)))), (1, 1, (.c (.str [97]))), (3, 6, (.t p15))])), none⟩
(sE [] [(p13, ⟨(some p13), (.v (.ldN 6 (.t p4))), none⟩), (p17, ⟨(some p17), (.v (.ldN 6 (.t p4))), none⟩), (p19, ⟨(some p19), (.v (.ldN 6 (.t p4))), none⟩), (p21, ⟨(some p21), (.v (.ldN 6 (.t p4))), none⟩), (p25, ⟨(some p25), (.v (.ldN 6 (.t p4))), none⟩), (p28, ⟨(some p28), (.v (.ldN 6 (.t p4))), none⟩), (p29, ⟨(some p29), (.v (.ldN 6 (.t p4))), none⟩), (p31, ⟨(some p31), (.v (.ldN 6 (.t p4))), none⟩), (p34, ⟨(some p34), (.v (.ldN 6 (.t p4))), none⟩), (p37, ⟨(some p37), (.v (.ldN 6 (.t p4))), none⟩), (p39, ⟨(some p39), (.v (.ldN 6 (.t p4))), none⟩), (p40, ⟨(some p40), (.v (.ldN 6 (.t p5))), none⟩), (p43, ⟨(some p43), (.v (.ldN 6 (.t p5))), none⟩), (p44, ⟨(some p44), (.v (.ldN 6 (.t p4))), none⟩), (p48, ⟨(some p48), (.v (.ldN 6 (.t p5))), none⟩), (p55, ⟨(some p55), (.v (.ldN 6 (.t p5))), none⟩), (p72, ⟨(some p72), (.v (.ldN 6 (.t p4))), none⟩), (p76, ⟨(some p76), (.v (.ldN 6 (.t p4))), none⟩), (p78, ⟨(some p78), (.v (.ldN 6 (.t p5))), none⟩)] ⟨(some p23), (.call p6 [(.c (.str [98])), (.c .nils)]), none⟩
(sN p24 ⟨(some p24), (.v (.build [(.int .i64 (.ofNat 0)), (.str []), (.int .i64 (.ofNat 0)), (.int .i64 (.ofNat 0)), (.int .i64 (.ofNat 0)), (.bool false), (.str []), .nils, .nils, (.int .i64 (.ofNat 0)), (.int .i64 (.ofNat 0)), (.bool false), (.str []), .nils, .nils, (.int .i64 (.ofNat 0)), .nils] [(0, 1, (.c (.int .i64 (.ofNat 1)))), (1, 1, (.c (.str [97]))), (3, 6, (.t p23))])), none⟩
(sE [] [(p13, ⟨(some p13), (.v (.ldN 6 (.t p4))), none⟩), (p17, ⟨(some p17), (.v (.ldN 6 (.t p4))), none⟩), (p19, ⟨(some p19), (.v (.ldN 6 (.t p4))), none⟩), (p21, ⟨(some p21), (.v (.ldN 6 (.t p4))), none⟩), (p25, ⟨(some p25), (.v (.ldN 6 (.t p4))), none⟩), (p28, ⟨(some p28), (.v (.ldN 6 (.t p4))), none⟩), (p29, ⟨(some p29), (.v (.ldN 6 (.t p4))), none⟩), (p31, ⟨(some p31), (.v (.ldN 6 (.t p4))), none⟩), (p34, ⟨(some p34), (.v (.ldN 6 (.t p4))), none⟩), (p37, ⟨(some p37), (.v (.ldN 6 (.t p4))), none⟩), (p39, ⟨(some p39), (.v (.ldN 6 (.t p4))), none⟩), (p40, ⟨(some p40), (.v (.ldN 6 (.t p5))), none⟩), (p43, ⟨(some p43), (.v (.ldN 6 (.t p5))), none⟩), (p44, ⟨(some p44), (.v (.ldN 6 (.t p4))), none⟩), (p48, ⟨(some p48), (.v (.ldN 6 (.t p5))), none⟩), (p55, ⟨(some p55), (.v (.ldN 6 (.t p5))), none⟩), (p72, ⟨(some p72), (.v (.ldN 6 (.t p4))), none⟩), (p76, ⟨(some p76), (.v (.ldN 6 (.t p4))), none⟩), (p78, ⟨(some p78), (.v (.ldN 6 (.t p5))), none⟩)] ⟨(some p26), (.call p15 [(.c (.int .i64 (.ofNat 2)))]), none⟩
(sN p27 ⟨(some p27), (.v (.build [(.int .i64 (.ofNat 0)), (.str []), (.int .i64 (.ofNat 0)), (.int .i64 (.ofNat 0)), (.int .i64 (.ofNat 0)), (.bool false), (.str []), .nils, .nils, (.int .i64 (.ofNat 0)), (.int .i64 (.ofNat 0)), (.bool false), (.str []), .nils, .nils, (.int .i64 (.ofNat 0)), .nils] [(0, 1, (.c (.int .i64 (.ofNat 2)))), (1, 1, (.c (.str [97]))), (3, 6, (.t p25)), (9, 6, (.t p26))])), none⟩
(sE [] [(p13, ⟨(some p13), (.v (.ldN 6 (.t p4))), none⟩), (p17, ⟨(some p17), (.v (.ldN 6 (.t p4))), none⟩), (p19, ⟨(some p19), (.v (.ldN 6 (.t p4))), none⟩), (p21, ⟨(some p21), (.v (.ldN 6 (.t p4))), none⟩), (p25, ⟨(some p25), (.v (.ldN 6 (.t p4))), none⟩), (p28, ⟨(some p28), (.v (.ldN 6 (.t p4))), none⟩), (p29, ⟨(some p29), (.v (.ldN 6 (.t p4))), none⟩), (p31, ⟨(some p31), (.v (.ldN 6 (.t p4))), none⟩), (p34, ⟨(some p34), (.v (.ldN 6 (.t p4))), none⟩), (p37, ⟨(some p37), (.v (.ldN 6 (.t p4))), none⟩), (p39, ⟨(some p39), (.v (.ldN 6 (.t p4))), none⟩), (p40, ⟨(some p40), (.v (.ldN 6 (.t p5))), none⟩), (p43, ⟨(some p43), (.v (.ldN 6 (.t p5))), none⟩), (p44, ⟨(some p44), (.v (.ldN 6 (.t p4))), none⟩), (p48, ⟨(some p48), (.v (.ldN 6 (.t p5))), none⟩), (p55, ⟨(some p55), (.v (.ldN 6 (.t p5))), none⟩), (p72, ⟨(some p72), (.v (.ldN 6 (.t p4))), none⟩), (p76, ⟨(some p76), (.v (.ldN 6 (.t p4))), none⟩), (p78, ⟨(some p78), (.v (.ldN 6 (.t p5))), none⟩)] ⟨(some p32), (.call p16 [(.c (.int .i64 (.ofNat 0)))]), none⟩
(sN p33 ⟨(some p33), (.v (.build [(.int .i64 (.ofNat 0)), (.str []), (.int .i64 (.ofNat 0)), (.int .i64 (.ofNat 0)), (.int .i64 (.ofNat 0)), (.bool false), (.str []), .nils, .nils, (.int .i64 (.ofNat 0)), (.int .i64 (.ofNat 0)), (.bool false), (.str []), .nils, .nils, (.int .i64 (.ofNat 0)), .nils] [(0, 1, (.c (.int .i64 (.ofNat 2)))), (1, 1, (.c (.str [97]))), (3, 6, (.t p31)), (9, 6, (.t p32))])), none⟩
(sE [] [(p13, ⟨(some p13), (.v (.ldN 6 (.t p4))), none⟩), (p17, ⟨(some p17), (.v (.ldN 6 (.t p4))), none⟩), (p19, ⟨(some p19), (.v (.ldN 6 (.t p4))), none⟩), (p21, ⟨(some p21), (.v (.ldN 6 (.t p4))), none⟩), (p25, ⟨(some p25), (.v (.ldN 6 (.t p4))), none⟩), (p28, ⟨(some p28), (.v (.ldN 6 (.t p4))), none⟩), (p29, ⟨(some p29), (.v (.ldN 6 (.t p4))), none⟩), (p31, ⟨(some p31), (.v (.ldN 6 (.t p4))), none⟩), (p34, ⟨(some p34), (.v (.ldN 6 (.t p4))), none⟩), (p37, ⟨(some p37), (.v (.ldN 6 (.t p4))), none⟩), (p39, ⟨(some p39), (.v (.ldN 6 (.t p4))), none⟩), (p40, ⟨(some p40), (.v (.ldN 6 (.t p5))), none⟩), (p43, ⟨(some p43), (.v (.ldN 6 (.t p5))), none⟩), (p44, ⟨(some p44), (.v (.ldN 6 (.t p4))), none⟩), (p48, ⟨(some p48), (.v (.ldN 6 (.t p5))), none⟩), (p55, ⟨(some p55), (.v (.ldN 6 (.t p5))), none⟩), (p72, ⟨(some p72), (.v (.ldN 6 (.t p4))), none⟩), (p76, ⟨(some p76), (.v (.ldN 6 (.t p4))), none⟩), (p78, ⟨(some p78), (.v (.ldN 6 (.t p5))), none⟩)] ⟨(some p35), (.call p6 [(.c (.str [97])), (.c .nils)]), none⟩
(sN p36 ⟨(some p36), (.v (.build [(.int .i64 (.ofNat 0)), (.str []), (.int .i64 (.ofNat 0)), (.int .i64 (.ofNat 0)), (.int .i64 (.ofNat 0)), (.bool false), (.str []), .nils, .nils, (.int .i64 (.ofNat 0)), (.int .i64 (.ofNat 0)), (.bool false), (.str []), .nils, .nils, (.int .i64 (.ofNat 0)), .nils] [(0, 1, (.c (.int .i64 (.ofNat 2)))), (1, 1, (.c (.str [97]))), (3, 6, (.t p34)), (9, 6, (.t p35))])), none⟩
(sE [] [(p13, ⟨(some p13), (.v (.ldN 6 (.t p4))), none⟩), (p17, ⟨(some p17), (.v (.ldN 6 (.t p4))), none⟩), (p19, ⟨(some p19), (.v (.ldN 6 (.t p4))), none⟩), (p21, ⟨(some p21), (.v (.ldN 6 (.t p4))), none⟩), (p25, ⟨(some p25), (.v (.ldN 6 (.t p4))), none⟩), (p28, ⟨(some p28), (.v (.ldN 6 (.t p4))), none⟩), (p29, ⟨(some p29), (.v (.ldN 6 (.t p4))), none⟩), (p31, ⟨(some p31), (.v (.ldN 6 (.t p4))), none⟩), (p34, ⟨(some p34), (.v (.ldN 6 (.t p4))), none⟩), (p37, ⟨(some p37), (.v (.ldN 6 (.t p4))), none⟩), (p43, ⟨(some p43), (.v (.ldN 6 (.t p5))), none⟩), (p44, ⟨(some p44), (.v (.ldN 6 (.t p4))), none⟩), (p48, ⟨(some p48), (.v (.ldN 6 (.t p5))), none⟩), (p55, ⟨(some p55), (.v (.ldN 6 (.t p5))), none⟩), (p72, ⟨(some p72), (.v (.ldN 6 (.t p4))), none⟩), (p76, ⟨(some p76), (.v (.ldN 6 (.t p4))), none⟩), (p78, ⟨(some p78), (.v (.ldN 6 (.t p5))), none⟩)] ⟨(some p41), (.call p7 [(.t p39), (.t p40)]), none⟩
(sN p42 ⟨(some p42), (.v (.build [(.int .i64 (.ofNat 0)), (.str []), (.int .i64 (.ofNat 0)), (.int .i64 (.ofNat 0)), (.int .i64 (.ofNat 0)), (.bool false), (.str []), .nils, .nils, (.int .i64 (.ofNat 0)), (.int .i64 (.ofNat 0)), (.bool false), (.str []), .nils, .nils, (.int .i64 (.ofNat 0)), .nils] [(0, 1, (.c (.int .i64 (.ofNat 3)))), (1, 1, (.c (.str [68]))), (3, 6, (.t p41)), (15, 1, (.c (.int .i64 (.ofNat 2))))])), none⟩
(sE [] [(p13, ⟨(some p13), (.v (.ldN 6 (.t p4))), none⟩), (p17, ⟨(some p17), (.v (.ldN 6 (.t p4))), none⟩), (p19, ⟨(some p19), (.v (.ldN 6 (.t p4))), none⟩), (p21, ⟨(some p21), (.v (.ldN 6 (.t p4))), none⟩), (p25, ⟨(some p25), (.v (.ldN 6 (.t p4))), none⟩), (p28, ⟨(some p28), (.v (.ldN 6 (.t p4))), none⟩), (p29, ⟨(some p29), (.v (.ldN 6 (.t p4))), none⟩), (p31, ⟨(some p31), (.v (.ldN 6 (.t p4))), none⟩), (p34, ⟨(some p34), (.v (.ldN 6 (.t p4))), none⟩), (p37, ⟨(some p37), (.v (.ldN 6 (.t p4))), none⟩), (p43, ⟨(some p43), (.v (.ldN 6 (.t p5))), none⟩), (p44, ⟨(some p44), (.v (.ldN 6 (.t p4))), none⟩), (p48, ⟨(some p48), (.v (.ldN 6 (.t p5))), none⟩), (p55, ⟨(some p55), (.v (.ldN 6 (.t p5))), none⟩), (p72, ⟨(some p72), (.v (.ldN 6 (.t p4))), none⟩), (p76, ⟨(some p76), (.v (.ldN 6 (.t p4))), none⟩), (p78, ⟨(some p78), (.v (.ldN 6 (.t p5))), none⟩)] ⟨(some p49), (.call p6 [(.c (.str [68])), (.c .nils)]), none⟩
(sN p50 ⟨(some p50), (.v (.build [(.str []), (.int .i64 (.ofNat 0)), (.int .i64 (.ofNat 0)), (.bool false), (.str []), .nils, .nils] [(0, 1, (.c (.str [100]))), (1, 6, (.t p49))])), none⟩
(sE [] [(p13, ⟨(some p13), (.v (.ldN 6 (.t p4))), none⟩), (p17, ⟨(some p17), (.v (.ldN 6 (.t p4))), none⟩), (p19, ⟨(some p19), (.v (.ldN 6 (.t p4))), none⟩), (p21, ⟨(some p21), (.v (.ldN 6 (.t p4))), none⟩), (p25, ⟨(some p25), (.v (.ldN 6 (.t p4))), none⟩), (p28, ⟨(some p28), (.v (.ldN 6 (.t p4))), none⟩), (p29, ⟨(some p29), (.v (.ldN 6 (.t p4))), none⟩), (p31, ⟨(some p31), (.v (.ldN 6 (.t p4))), none⟩), (p34, ⟨(some p34), (.v (.ldN 6 (.t p4))), none⟩), (p37, ⟨(some p37), (.v (.ldN 6 (.t p4))), none⟩), (p43, ⟨(some p43), (.v (.ldN 6 (.t p5))), none⟩), (p44, ⟨(some p44), (.v (.ldN 6 (.t p4))), none⟩), (p48, ⟨(some p48), (.v (.ldN 6 (.t p5))), none⟩), (p55, ⟨(some p55), (.v (.ldN 6 (.t p5))), none⟩), (p72, ⟨(some p72), (.v (.ldN 6 (.t p4))), none⟩), (p76, ⟨(some p76), (.v (.ldN 6 (.t p4))), none⟩), (p78, ⟨(some p78), (.v (.ldN 6 (.t p5))), none⟩)] ⟨(some p51), (.call p6 [(.c (.str [68])), (.c .nils)]), none⟩
(sN p52 ⟨(some p52), (.v (.build [(.str []), (.int .i64 (.ofNat 0)), (.int .i64 (.ofNat 0)), (.bool false), (.str []), .nils, .nils] [(0, 1, (.c (.str [100]))), (1, 6, (.t p51))])), none⟩
(sA 40 p53 (.buildS 44 2 [(.str []), (.int .i64 (.ofNat 0)), (.int .i64 (.ofNat 0)), (.bool false), (.str []), .nils, .nils, (.str []), (.int .i64 (.ofNat 0)), (.int .i64 (.ofNat 0)), (.bool false), (.str []), .nils, .nils] [(0, 7, (.t p50)), (7, 7, (.t p52))])
(sN p54 ⟨(some p54), (.v (.build [(.int .i64 (.ofNat 0)), (.str []), (.int .i64 (.ofNat 0)), (.int .i64 (.ofNat 0)), (.int .i64 (.ofNat 0)), (.bool false), (.str []), .nils, .nils, (.int .i64 (.ofNat 0)), (.int .i64 (.ofNat 0)), (.bool false), (.str []), .nils, .nils, (.int .i64 (.ofNat 0)), .nils] [(0, 1, (.c (.int .i64 (.ofNat 3)))), (1, 1, (.c (.str [68]))), (3, 6, (.t p48)), (16, 1, (.t p53))])), none⟩
(sE [] [(p13, ⟨(some p13), (.v (.ldN 6 (.t p4))), none⟩), (p17, ⟨(some p17), (.v (.ldN 6 (.t p4))), none⟩), (p19, ⟨(some p19), (.v (.ldN 6 (.t p4))), none⟩), (p21, ⟨(some p21), (.v (.ldN 6 (.t p4))), none⟩), (p25, ⟨(some p25), (.v (.ldN 6 (.t p4))), none⟩), (p28, ⟨(some p28), (.v (.ldN 6 (.t p4))), none⟩), (p29, ⟨(some p29), (.v (.ldN 6 (.t p4))), none⟩), (p31, ⟨(some p31), (.v (.ldN 6 (.t p4))), none⟩), (p34, ⟨(some p34), (.v (.ldN 6 (.t p4))), none⟩), (p37, ⟨(some p37), (.v (.ldN 6 (.t p4))), none⟩), (p43, ⟨(some p43), (.v (.ldN 6 (.t p5))), none⟩), (p44, ⟨(some p44), (.v (.ldN 6 (.t p4))), none⟩), (p48, ⟨(some p48), (.v (.ldN 6 (.t p5))), none⟩), (p55, ⟨(some p55), (.v (.ldN 6 (.t p5))), none⟩), (p72, ⟨(some p72), (.v (.ldN 6 (.t p4))), none⟩), (p76, ⟨(some p76), (.v (.ldN 6 (.t p4))), none⟩), (p78, ⟨(some p78), (.v (.ldN 6 (.t p5))), none⟩)] ⟨(some p56), (.call p6 [(.c (.str [68])), (.c .nils)]), none⟩
(sN p57 ⟨(some p57), (.v (.build [(.str []), (.int .i64 (.ofNat 0)), (.int .i64 (.ofNat 0)), (.bool false), (.str []), .nils, .nils] [(0, 1, (.c (.str [122, 101, 114, 111]))), (1, 6, (.t p56))])), none⟩
(sA 45 p58 (.buildS 44 1 [(.str []), (.int .i64 (.ofNat 0)), (.int .i64 (.ofNat 0)), (.bool false), (.str []), .nils, .nils] [(0, 7, (.t p57))])
(sN p59 ⟨(some p59), (.v (.build [(.int .i64 (.ofNat 0)), (.str []), (.int .i64 (.ofNat 0)), (.int .i64 (.ofNat 0)), (.int .i64 (.ofNat 0)), (.bool false), (.str []), .nils, .nils, (.int .i64 (.ofNat 0)), (.int .i64 (.ofNat 0)), (.bool false), (.str []), .nils, .nils, (.int .i64 (.ofNat 0)), .nils] [(0, 1, (.c (.int .i64 (.ofNat 3)))), (1, 1, (.c (.str [68]))), (3, 6, (.t p55)), (16, 1, (.t p58))])), none⟩
(sA 67 p80 (.buildS 36 21 [(.int .i64 (.ofNat 0)), (.str []), (.int .i64 (.ofNat 0)), (.int .i64 (.ofNat 0)), (.int .i64 (.ofNat 0)), (.bool false), (.str []), .nils, .nils, (.int .i64 (.ofNat 0)), (.int .i64 (.ofNat 0)), (.bool false), (.str []), .nils, .nils, (.int .i64 (.ofNat 0)), .nils, (.int .i64 (.ofNat 0)), (.str []), (.int .i64 (.ofNat 0)), (.int .i64 (.ofNat 0)), (.int .i64 (.ofNat 0)), (.bool false), (.str []), .nils, .nils, (.int .i64 (.ofNat 0)), (.int .i64 (.ofNat 0)), (.bool false), (.str []), .nils, .nils, (.int .i64 (.ofNat 0)), .nils, (.int .i64 (.ofNat 0)), (.str []), (.int .i64 (.ofNat 0)), (.int .i64 (.ofNat 0)), (.int .i64 (.ofNat 0)), (.bool false), (.str []), .nils, .nils, (.int .i64 (.ofNat 0)), (.int .i64 (.ofNat 0)), (.bool false), (.str []), .nils, .nils, (.int .i64 (.ofNat 0)), .nils, (.int .i64 (.ofNat 0)), (.str []), (.int .i64 (.ofNat 0)), (.int .i64 (.ofNat 0)), (.int .i64 (.ofNat 0)), (.bool false), (.str []), .nils, .nils, (.int .i64 (.ofNat 0)), (.int .i64 (.ofNat 0)), (.bool false), (.str []), .nils, .nils, (.int .i64 (.ofNat 0)), .nils, (.int .i64 (.ofNat 0)), (.str []), (.int .i64 (.ofNat 0)), (.int .i64 (.ofNat 0)), (.int .i64 (.ofNat 0)), (.bool false), (.str []), .nils, .nils, (.int .i64 (.ofNat 0)), (.int .i64 (.ofNat 0)), (.bool false), (.str []), .nils, .nils, (.int .i64 (.ofNat 0)), .nils, (.int .i64 (.ofNat 0)), (.str []), (.int .i64 (.ofNat 0)), (.int .i64 (.ofNat 0)), (.int .i64 (.ofNat 0)), (.bool false), (.str []), .nils, .nils, (.int .i64 (.ofNat 0)), (.int .i64 (.ofNat 0)), (.bool false), (.str []), .nils, .nils, (.int .i64 (.ofNat 0)), .nils, (.int .i64 (.ofNat 0)), (.str []), (.int .i64 (.ofNat 0)), (.int .i64 (.ofNat 0)), (.int .i64 (.ofNat 0)), (.bool false), (.str []), .nils, .nils, (.int .i64 (.ofNat 0)), (.int .i64 (.ofNat 0)), (.bool false), (.str []), .nils, .nils, (.int .i64 (.ofNat 0)), .nils, (.int .i64 (.ofNat 0)), (.str []), (.int .i64 (.ofNat 0)), (.int .i64 (.ofNat 0)), (.int .i64 (.ofNat 0)), (.bool false), (.str []), .nils, .nils, (.int .i64 (.ofNat 0)), (.int .i64 (.ofNat 0)), (.bool false), (.str []), .nils, .nils, (.int .i64 (.ofNat 0)), .nils, (.int .i64 (.ofNat 0)), (.str []), (.int .i64 (.ofNat 0)), (.int .i64 (.ofNat 0)), (.int .i64 (.ofNat 0)), (.bool false), (.str []), .nils, .nils, (.int .i64 (.ofNat 0)), (.int .i64 (.ofNat 0)), (.bool false), (.str []), .nils, .nils, (.int .i64 (.ofNat 0)), .nils, (.int .i64 (.ofNat 0)), (.str []), (.int .i64 (.ofNat 0)), (.int .i64 (.ofNat 0)), (.int .i64 (.ofNat 0)), (.bool false), (.str []), .nils, .nils, (.int .i64 (.ofNat 0)), (.int .i64 (.ofNat 0)), (.bool false), (.str []), .nils, .nils, (.int .i64 (.ofNat 0)), .nils, (.int .i64 (.ofNat 0)), (.str []), (.int .i64 (.ofNat 0)), (.int .i64 (.ofNat 0)), (.int .i64 (.ofNat 0)), (.bool false), (.str []), .nils, .nils, (.int .i64 (.ofNat 0)), (.int .i64 (.ofNat 0)), (.bool false), (.str []), .nils, .nils, (.int .i64 (.ofNat 0)), .nils, (.int .i64 (.ofNat 0)), (.str []), (.int .i64 (.ofNat 0)), (.int .i64 (.ofNat 0)), (.int .i64 (.ofNat 0)), (.bool false), (.str []), .nils, .nils, (.int .i64 (.ofNat 0)), (.int .i64 (.ofNat 0)), (.bool false), (.str []), .nils, .nils, (.int .i64 (.ofNat 0)), .nils, (.int .i64 (.ofNat 0)), (.str []), (.int .i64 (.ofNat 0)), (.int .i64 (.ofNat 0)), (.int .i64 (.ofNat 0)), (.bool false), (.str []), .nils, .nils, (.int .i64 (.ofNat 0)), (.int .i64 (.ofNat 0)), (.bool false), (.str []), .nils, .nils, (.int .i64 (.ofNat 0)), .nils, (.int .i64 (.ofNat 0)), (.str []), (.int .i64 (.ofNat 0)), (.int .i64 (.ofNat 0)), (.int .i64 (.ofNat 0)), (.bool false), (.str []), .nils, .nils, (.int .i64 (.ofNat 0)), (.int .i64 (.ofNat 0)), (.bool false), (.str []), .nils, .nils, (.int .i64 (.ofNat 0)), .nils, (.int .i64 (.ofNat 0)), (.str []), (.int .i64 (.ofNat 0)), (.int .i64 (.ofNat 0)), (.int .i64 (.ofNat 0)), (.bool false), (.str []), .nils, .nils, (.int .i64 (.ofNat 0)), (.int .i64 (.ofNat 0)), (.bool false), (.str []), .nils, .nils, (.int .i64 (.ofNat 0)), .nils, (.int .i64 (.ofNat 0)), (.str []), (.int .i64 (.ofNat 0)), (.int .i64 (.ofNat 0)), (.int .i64 (.ofNat 0)), (.bool false), (.str []), .nils, .nils, (.int .i64 (.ofNat 0)), (.int .i64 (.ofNat 0)), (.bool false), (.str []), .nils, .nils, (.int .i64 (.ofNat 0)), .nils, (.int .i64 (.ofNat 0)), (.str []), (.int .i64 (.ofNat 0)), (.int .i64 (.ofNat 0)), (.int .i64 (.ofNat 0)), (.bool false), (.str []), .nils, .nils, (.int .i64 (.ofNat 0)), (.int .i64 (.ofNat 0)), (.bool false), (.str []), .nils, .nils, (.int .i64 (.ofNat 0)), .nils, (.int .i64 (.ofNat 0)), (.str []), (.int .i64 (.ofNat 0)), (.int .i64 (.ofNat 0)), (.int .i64 (.ofNat 0)), (.bool false), (.str []), .nils, .nils, (.int .i64 (.ofNat 0)), (.int .i64 (.ofNat 0)), (.bool false), (.str []), .nils, .nils, (.int .i64 (.ofNat 0)), .nils, (.int .i64 (.ofNat 0)), (.str []), (.int .i64 (.ofNat 0)), (.int .i64 (.ofNat 0)), (.int .i64 (.ofNat 0)), (.bool false), (.str []), .nils, .nils, (.int .i64 (.ofNat 0)), (.int .i64 (.ofNat 0)), (.bool false), (.str []), .nils, .nils, (.int .i64 (.ofNat 0)), .nils, (.int .i64 (.ofNat 0)), (.str []), (.int .i64 (.ofNat 0)), (.int .i64 (.ofNat 0)), (.int .i64 (.ofNat 0)), (.bool false), (.str []), .nils, .nils, (.int .i64 (.ofNat 0)), (.int .i64 (.ofNat 0)), (.bool false), (.str []), .nils, .nils, (.int .i64 (.ofNat 0)), .nils, (.int .i64 (.ofNat 0)), (.str []), (.int .i64 (.ofNat 0)), (.int .i64 (.ofNat 0)), (.int .i64 (.ofNat 0)), (.bool false), (.str []), .nils, .nils, (.int .i64 (.ofNat 0)), (.int .i64 (.ofNat 0)), (.bool false), (.str []), .nils, .nils, (.int .i64 (.ofNat 0)), .nils] [(0, 17, (.t p14)), (17, 17, (.t p16)), (34, 17, (.t p18)), (51, 17, (.t p20)), (68, 17, (.t p22)), (85, 17, (.t p24)), (102, 17, (.t p27)), (119, 17, (.t p30)), (136, 17, (.t p33)), (153, 17, (.t p36)), (170, 17, (.t p38)), (187, 17, (.t p42)), (204, 17, (.t p47)), (221, 17, (.t p54)), (238, 17, (.t p59)), (255, 17, (.t p65)), (272, 17, (.t p71)), (289, 17, (.t p73)), (306, 17, (.t p75)), (323, 17, (.t p77)), (340, 17, (.t p79))])
(sN p6 ⟨(some p6), (.v (.mv (.t p80))), none⟩
sEnd))))))))))))))))))))))))))))))))))))))))))))))))))))))))))))))))))))))
(dSeq (dOps (dV p81 (oBuildS 3 21 [(.int .i64 (.ofNat 0)), (.int .i64 (.ofNat 0)), (.int .i64 (.ofNat 0)), (.int .i64 (.ofNat 0)), (.int .i64 (.ofNat 0)), (.int .i64 (.ofNat 0)), (.int .i64 (.ofNat 0)), (.int .i64 (.ofNat 0)), (.int .i64 (.ofNat 0)), (.int .i64 (.ofNat 0)), (.int .i64 (.ofNat 0)), (.int .i64 (.ofNat 0)), (.int .i64 (.ofNat 0)), (.int .i64 (.ofNat 0)), (.int .i64 (.ofNat 0)), (.int .i64 (.ofNat 0)), (.int .i64 (.ofNat 0)), (.int .i64 (.ofNat 0)), (.int .i64 (.ofNat 0)), (.int .i64 (.ofNat 0)), (.int .i64 (.ofNat 0))] [(0, 1, (.c (.int .i64 (.ofNat 0)))), (1, 1, (.c (.int .i64 (.ofNat 16)))), (2, 1, (.c (.int .i64 (.ofNat 20)))), (3, 1, (.c (.int .i64 (.ofNat 10)))), (4, 1, (.c (.int .i64 (.ofNat 10)))), (5, 1, (.c (.int .i64 (.ofNat 12)))), (6, 1, (.c (.int .i64 (.ofNat 0)))), (7, 1, (.c (.int .i64 (.ofNat 17)))), (8, 1, (.c (.int .i64 (.ofNat 11)))), (9, 1, (.c (.int .i64 (.ofNat 12)))), (10, 1, (.c (.int .i64 (.ofNat 21)))), (11, 1, (.c (.int .i64 (.ofNat 21)))), (12, 1, (.c (.int .i64 (.ofNat 21)))), (13, 1, (.c (.int .i64 (.ofNat 20)))), (14, 1, (.c (.int .i64 (.ofNat 20)))), (15, 1, (.c (.int .i64 (.ofNat 13)))), (16, 1, (.c (.int .i64 (.ofNat 0)))), (17, 1, (.c (.int .i64 (.ofNat 13)))), (18, 1, (.c (.int .i64 (.ofNat 10)))), (19, 1, (.c (.int .i64 (.ofNat 0)))), (20, 1, (.c (.int .i64 (.ofNat 20))))])
(dV p7 (oMv (.t p81))
dE)))
(dSeq (dSeq (dOps (dV p82 (oMv (.t p3))
(dV p83 (oUn .not (.t p82))
(dV p84 (oMv (.t p83))
(dG p84 false (some p85) (dV p85 (oMv (.t p0)))
(dG p84 false (some p86) (dV p86 (oAr .lss (.t p85) (.c (.int .i64 (.ofNat 0)))))
(dV p87 (oPick (.t p84) (.c (.bool true)) (.t p86))
(dV p88 (oMv (.t p87))
(dG p88 false (some p89) (dV p89 (oMv (.t p0)))
(dG p88 false (some p90) (dV p90 (oMv (.t p6)))
(dG p88 false (some p91) (dV p91 (oLen (.t p90)))
(dG p88 false (some p92) (dV p92 (oAr .geq (.t p89) (.t p91)))
(dV p93 (oPick (.t p88) (.c (.bool true)) (.t p92))
dE)))))))))))))
(dCond (.t p93) (dSeq (dOps (dV p94 (oMv (.t p3))
(dV p2 (oMv (.t p94))
dE)))
dRet) dSkip))
(dSeq (dOps (dC (some p95) p8 []
(dV p8 (oMv (.t p95))
dE)))
(dSeq (dOps (dV p96 (oMv (.t p8))
(dC (some p97) p10 []
(dC (some p98) p9 [(.t p96), (.t p97)]
dE))))
(dSeq (dOps (dV p99 (oMv (.t p8))
(dV p100 (oMv (.t p6))
(dV p101 (oMv (.t p0))
(dV p102 (oIa 17 (.t p100) (.t p101))
(dV p103 (oLdN 17 (.t p102))
(dC (some p104) p11 [(.t p99), (.t p103), (.c (.int .i64 (.ofNat 1000)))]
(dV p9 (oMv (.t p104))
dE))))))))
(dSeq (dDraw (sN p105 ⟨(some p105), (.v (.mv (.t p9))), none⟩
(sN p107 ⟨(some p107), (.v (.mv (.t p7))), none⟩
(sN p108 ⟨(some p108), (.v (.mv (.t p0))), none⟩
(sN p109 ⟨(some p109), (.v (.ia 1 (.t p107) (.t p108))), none⟩
(sN p110 ⟨(some p110), (.v (.ld1 (.t p109))), none⟩
(sE [] [(p110, ⟨(some p110), (.v (.ld1 (.t p109))), none⟩)] ⟨(some p106), (.call p13 [(.t p105)]), none⟩
(sN p111 ⟨(some p111), (.v (.ar .eql (.t p106) (.t p110))), none⟩
(sN p2 ⟨(some p2), (.v (.mv (.t p111))), none⟩
sEnd)))))))))
dRet))))))))))), [(.t p2)]⟩
def af5 : AF := ⟨(dSeq (dOps (dV p0 (oMv (.c (.bool false)))
dE))
(dSeq (dOps (dC (some p6) p8 []
(dV p1 (oMv (.t p6))
dE)))
(dSeq (dSeq (dOps (dV p7 (oMv (.t p1))
(dV p8 (oEq .p false (.t p7) (.c .nilp))
dE)))
(dCond (.t p8) (dSeq (dOps (dV p0 (oMv (.c (.bool false)))
dE))
dRet) dSkip))
(dSeq (dOps (dV p9 (oMv (.t p1))
(dC (some p10) p10 []
(dC (some p11) p11 [(.t p9), (.t p10), (.c (.int .i64 (.ofNat 1000)))]
(dV p2 (oMv (.t p11))
dE)))))
(dSeq (dOps (dC (some p12) p6 [(.c (.str [66, 111, 120])), (.c .nils)]
(dV p3 (oNew [(.int .i64 (.ofNat 0)), (.int .i64 (.ofNat 0)), (.bool false), (.str []), .nils, .nils] 26)
(dU (oSt 6 (.t p3) (.t p12))
dE))))
(dSeq (dOps (dV p13 (oMv (.t p1))
(dV p14 (oLdN 6 (.t p3))
(dV p15 (oLdN 6 (.t p3))
(dC (some p16) p7 [(.t p14), (.t p15)]
(dC (some p17) p12 [(.t p16), (.c (.int .i64 (.ofNat 0)))]
(dC (some p18) p11 [(.t p13), (.t p17), (.c (.int .i64 (.ofNat 1000)))]
(dV p4 (oMv (.t p18))
dE))))))))
(dSeq (dOps (dV p19 (oMv (.t p1))
(dC (some p20) p14 [(.c (.int .i64 (.ofNat 0)))]
(dC (some p21) p12 [(.t p20), (.c (.int .i64 (.ofNat 0)))]
(dC (some p22) p11 [(.t p19), (.t p21), (.c (.int .i64 (.ofNat 1000)))]
(dV p5 (oMv (.t p22))
dE))))))
(dSeq (dOps (dV p23 (oMv (.t p2))
(dC (some p24) p13 [(.t p23)]
(dV p25 (oAr .eql (.t p24) (.c (.int .i64 (.ofNat 0))))
(dV p26 (oMv (.t p25))
(dG p26 true (some p27) (dV p27 (oMv (.t p4)))
(dG p26 true (some p28) (dC (some p28) p13 [(.t p27)])
(dG p26 true (some p29) (dV p29 (oAr .eql (.t p28) (.c (.int .i64 (.ofNat 22)))))
(dV p30 (oPick (.t p26) (.t p29) (.c (.bool false)))
(dV p31 (oMv (.t p30))
(dG p31 true (some p32) (dV p32 (oMv (.t p5)))
(dG p31 true (some p33) (dC (some p33) p13 [(.t p32)])
(dG p31 true (some p34) (dV p34 (oAr .eql (.t p33) (.c (.int .i64 (.ofNat 23)))))
(dV p35 (oPick (.t p31) (.t p34) (.c (.bool false)))
(dV p0 (oMv (.t p35))
dE)))))))))))))))
dRet)))))))), [(.t p0)]⟩
def af6 : AF := ⟨(dSeq (dOps (dV p4 (oNew [(.int .i64 (.ofNat 0)), (.int .i64 (.ofNat 0)), (.bool false), (.str []), .nils, .nils] 26)
dE))
(dSeq (dOps (dV p5 (oMv (.t p0))
(dV p6 (oMv (.t p1))
(dV p7 (oApp 49 2 (.c .nils) (.t p6))
(dV p8 (oBuild [(.int .i64 (.ofNat 0)), (.int .i64 (.ofNat 0)), (.bool false), (.str []), .nils, .nils] [(0, 1, (.c (.int .i64 (.ofNat 10)))), (3, 1, (.t p5)), (4, 1, (.t p7))])
(dU (oSt 6 (.t p4) (.t p8))
dE))))))
dRet)), [(.cN p4 6)]⟩
def af7 : AF := ⟨(dSeq (dOps (dV p2 (oBox 26 (.t p0))
(dV p3 (oBox 26 (.t p1))
(dV p4 (oNew [(.int .i64 (.ofNat 0)), (.int .i64 (.ofNat 0)), (.bool false), (.str []), .nils, .nils] 26)
dE))))
(dSeq (dOps (dV p5 (oLdN 6 (.t p2))
(dV p6 (oLdN 6 (.t p3))
(dV p7 (oBuildS 26 2 [(.int .i64 (.ofNat 0)), (.int .i64 (.ofNat 0)), (.bool false), (.str []), .nils, .nils, (.int .i64 (.ofNat 0)), (.int .i64 (.ofNat 0)), (.bool false), (.str []), .nils, .nils] [(0, 6, (.t p5)), (6, 6, (.t p6))])
(dV p8 (oBuild [(.int .i64 (.ofNat 0)), (.int .i64 (.ofNat 0)), (.bool false), (.str []), .nils, .nils] [(0, 1, (.c (.int .i64 (.ofNat 3)))), (5, 1, (.t p7))])
(dU (oSt 6 (.t p4) (.t p8))
dE))))))
dRet)), [(.cN p4 6)]⟩
def af8 : AF := ⟨(dSeq (dOps (dV p0 (oMv (.c .nilp))
dE))
(dSeq (dOps (dV p1 (oBuild [.nils, .nilm] [])
(dV p2 (oBox 55 (.t p1))
(dV p0 (oMv (.t p2))
dE))))
dRet)), [(.t p0)]⟩
def af9 : AF := ⟨(dSeq (dOps (dV p3 (oBox 36 (.t p1))
(dV p4 (oMv (.c (.int .i64 (.ofNat 0))))
dE)))
(dSeq (dDraw (sN p9 ⟨(some p9), (.v (.mv (.t p0))), none⟩
(sN p11 ⟨(some p11), (.v (.ldN 17 (.t p3))), none⟩
(sA 8 p5 (.new [(.int .i64 (.ofNat 0)), (.str []), (.int .i64 (.ofNat 0)), (.int .i64 (.ofNat 0)), (.int .i64 (.ofNat 0)), (.bool false), (.str []), .nils, .nils, (.int .i64 (.ofNat 0)), (.int .i64 (.ofNat 0)), (.bool false), (.str []), .nils, .nils, (.int .i64 (.ofNat 0)), .nils] 36)
(sA 9 p6 (.new [.nilm] 53)
(sE [] [(p11, ⟨(some p11), (.v (.ldN 17 (.t p3))), none⟩)] ⟨(some p10), (.call p17 [(.t p9)]), none⟩
(sE [] [] ⟨(some p12), (.call p18 [(.t p10), (.t p11)]), none⟩
(sN p8 ⟨(some p8), (.v (.mv (.t p12))), none⟩
(sN p13 ⟨(some p13), (.v (.ext (.t p8) 0)), none⟩
(sN p14 ⟨(some p14), (.v (.ext (.t p8) 1)), none⟩
(sN p15 ⟨(some p15), (.v (.ext (.t p8) 2)), none⟩
(sE [8, 9] [] ⟨none, (.v (.st 17 (.t p5) (.t p13))), none⟩
(sE [8, 9] [] ⟨none, (.v (.st 1 (.t p6) (.t p14))), none⟩
(sN p7 ⟨(some p7), (.v (.mv (.t p15))), none⟩
sEnd))))))))))))))
(dSeq (dSeq (dOps (dV p16 (oMv (.t p7))
(dV p17 (oAr .eql (.t p16) (.c (.int .i64 (.ofNat 0))))
(dV p18 (oMv (.t p17))
(dG p18 true (some p19) (dV p19 (oMv (.t p0)))
(dG p18 true (some p20) (dV p20 (oEq .p false (.t p19) (.c .nilp)))
(dV p21 (oPick (.t p18) (.t p20) (.c (.bool false)))
dE)))))))
(dCond (.t p21) (dOps (dV p7 (oMv (.c (.int .i64 (.ofNat 1))))
dE)) dSkip))
(dSeq (dSeq (dOps (dV p22 (oMv (.t p7))
(dV p23 (oAr .neq (.t p22) (.c (.int .i64 (.ofNat 0))))
dE)))
(dCond (.t p23) (dSeq (dOps (dV p24 (oMv (.t p7))
(dV p4 (oMv (.t p24))
dE)))
dRet) dSkip))
(dSeq (dDraw (sN p25 ⟨(some p25), (.v (.mv (.t p0))), none⟩
(sN p26 ⟨(some p26), (.v (.mv (.t p0))), none⟩
(sN p27 ⟨(some p27), (.v (.nchk (.t p26))), none⟩
(sN p28 ⟨(some p28), (.v (.fa 0 (.t p27))), none⟩
(sN p29 ⟨(some p29), (.v (.ld1 (.t p28))), none⟩
(sN p30 ⟨(some p30), (.v (.ldN 17 (.t p5))), none⟩
(sA 6 p31 (.buildS 36 1 [(.int .i64 (.ofNat 0)), (.str []), (.int .i64 (.ofNat 0)), (.int .i64 (.ofNat 0)), (.int .i64 (.ofNat 0)), (.bool false), (.str []), .nils, .nils, (.int .i64 (.ofNat 0)), (.int .i64 (.ofNat 0)), (.bool false), (.str []), .nils, .nils, (.int .i64 (.ofNat 0)), .nils] [(0, 17, (.t p30))])
(sE [6] [] ⟨(some p32), (.v (.app 36 17 (.t p29) (.t p31))), none⟩
(sN p33 ⟨(some p33), (.v (.nchk (.t p25))), none⟩
(sN p34 ⟨(some p34), (.v (.fa 0 (.t p33))), none⟩
(sE [6] [] ⟨none, (.v (.st 1 (.t p34) (.t p32))), none⟩
sEnd))))))))))))
(dSeq (dDraw (sN p35 ⟨(some p35), (.v (.mv (.t p0))), none⟩
(sN p36 ⟨(some p36), (.v (.nchk (.t p35))), none⟩
(sN p37 ⟨(some p37), (.v (.fa 1 (.t p36))), none⟩
(sN p38 ⟨(some p38), (.v (.ldN 1 (.t p6))), none⟩
(sE [] [] ⟨(some p39), (.call p19 [(.t p37), (.t p38)]), none⟩
sEnd))))))
(dSeq (dOps (dV p4 (oMv (.c (.int .i64 (.ofNat 0))))
dE))
dRet))))))), [(.t p4)]⟩
def af10 : AF := ⟨(dSeq (dOps (dV p0 (oNew [(.int .i64 (.ofNat 0)), (.str []), (.int .i64 (.ofNat 0)), (.int .i64 (.ofNat 0)), (.int .i64 (.ofNat 0)), (.bool false), (.str []), .nils, .nils, (.int .i64 (.ofNat 0)), (.int .i64 (.ofNat 0)), (.bool false), (.str []), .nils, .nils, (.int .i64 (.ofNat 0)), .nils] 36)
dE))
(dSeq (dOps (dC (some p2) p6 [(.c (.str [78, 97, 116])), (.c .nils)]
(dV p1 (oNew [(.int .i64 (.ofNat 0)), (.int .i64 (.ofNat 0)), (.bool false), (.str []), .nils, .nils] 26)
(dU (oSt 6 (.t p1) (.t p2))
dE))))
(dSeq (dDraw (sN p3 ⟨(some p3), (.v (.build [(.int .i64 (.ofNat 0)), .nils] [])), none⟩
(sA 1 p4 (.buildS 49 1 [(.int .i64 (.ofNat 0)), .nils] [(0, 2, (.t p3))])
(sN p5 ⟨(some p5), (.v (.build [(.int .i64 (.ofNat 0)), (.int .i64 (.ofNat 0)), (.bool false), (.str []), .nils, .nils] [(0, 1, (.c (.int .i64 (.ofNat 2)))), (4, 1, (.t p4))])), none⟩
(sN p6 ⟨(some p6), (.v (.ldN 6 (.t p1))), none⟩
(sN p7 ⟨(some p7), (.v (.build [(.str []), (.int .i64 (.ofNat 0)), (.int .i64 (.ofNat 0)), (.bool false), (.str []), .nils, .nils] [(0, 1, (.c (.str [122, 101, 114, 111]))), (1, 6, (.t p6))])), none⟩
(sN p8 ⟨(some p8), (.v (.ldN 6 (.t p1))), none⟩
(sA 6 p9 (.buildS 26 1 [(.int .i64 (.ofNat 0)), (.int .i64 (.ofNat 0)), (.bool false), (.str []), .nils, .nils] [(0, 6, (.t p8))])
(sN p10 ⟨(some p10), (.v (.ldN 6 (.t p1))), none⟩
(sE [6] [(p6, ⟨(some p6), (.v (.ldN 6 (.t p1))), none⟩)] ⟨(some p11), (.call p20 [(.c (.int .i64 (.ofNat 3))), (.t p9), (.c .nils), (.t p10)]), none⟩
(sN p12 ⟨(some p12), (.v (.build [(.str []), (.int .i64 (.ofNat 0)), (.int .i64 (.ofNat 0)), (.bool false), (.str []), .nils, .nils] [(0, 1, (.c (.str [115, 117, 99]))), (1, 6, (.t p11))])), none⟩
(sA 10 p13 (.buildS 44 2 [(.str []), (.int .i64 (.ofNat 0)), (.int .i64 (.ofNat 0)), (.bool false), (.str []), .nils, .nils, (.str []), (.int .i64 (.ofNat 0)), (.int .i64 (.ofNat 0)), (.bool false), (.str []), .nils, .nils] [(0, 7, (.t p7)), (7, 7, (.t p12))])
(sN p14 ⟨(some p14), (.v (.build [(.int .i64 (.ofNat 0)), (.str []), (.int .i64 (.ofNat 0)), (.int .i64 (.ofNat 0)), (.int .i64 (.ofNat 0)), (.bool false), (.str []), .nils, .nils, (.int .i64 (.ofNat 0)), (.int .i64 (.ofNat 0)), (.bool false), (.str []), .nils, .nils, (.int .i64 (.ofNat 0)), .nils] [(0, 1, (.c (.int .i64 (.ofNat 3)))), (1, 1, (.c (.str [78, 97, 116]))), (3, 6, (.t p5)), (16, 1, (.t p13))])), none⟩
(sE [1, 6, 10] [] ⟨none, (.v (.st 17 (.t p0) (.t p14))), none⟩
sEnd))))))))))))))
dRet))), [(.cN p0 17)]⟩
def af11 : AF := ⟨(dSeq (dOps (dV p4 (oBox 36 (.t p1))
(dV p6 (oMv (.c (.int .i64 (.ofNat 0))))
dE)))
(dSeq (dSeq (dOps (dV p10 (oMv (.t p0))
(dV p11 (oLdN 17 (.t p4))
(dV p12 (oMv (.t p2))
(dC (some p13) p21 [(.t p10), (.t p11), (.t p12)]
(dC (some p14) p22 [(.t p13)]
(dV p15 (oLen (.t p14))
(dV p16 (oMv (.c (.int .i64 (.ofNat 0))))
dE))))))))
(dBlock 0 (dLoop (dSeq (dOps (dV p17 (oAr .lss (.t p16) (.t p15))
dE))
(dSeq (dCond (.t p17) dSkip (dExit 0))
(dSeq (dBlock 1 (dSeq (dOps (dV p18 (oIa 1 (.t p14) (.t p16))
(dV p19 (oLd1 (.t p18))
(dV p8 (oMv (.t p19))
dE))))
(dSeq (dOps (dV p20 (oMv (.t p8))
(dCv (some p21) (.t p20) []
(dV p9 (oMv (.t p21))
dE))))
(dSeq (dOps (dV p22 (oMv (.t p9))
(dV p23 (oAr .neq (.t p22) (.c (.int .i64 (.ofNat 0))))
dE)))
(dCond (.t p23) (dSeq (dOps (dV p24 (oMv (.t p9))
(dV p6 (oMv (.t p24))
dE)))
dRet) dSkip)))))
(dOps (dV p25 (oAr .add (.t p16) (.c (.int .i64 (.ofNat 1))))
(dV p16 (oMv (.t p25))
dE)))))))))
(dSeq (dOps (dV p6 (oMv (.c (.int .i64 (.ofNat 0))))
dE))
dRet))), [(.t p6)]⟩
def af12 : AF := ⟨(dSeq (dOps (dV p2 (oBox 26 (.t p0))
(dV p4 (oNew [(.int .i64 (.ofNat 0)), (.str []), (.int .i64 (.ofNat 0)), (.int .i64 (.ofNat 0)), (.int .i64 (.ofNat 0)), (.bool false), (.str []), .nils, .nils, (.int .i64 (.ofNat 0)), (.int .i64 (.ofNat 0)), (.bool false), (.str []), .nils, .nils, (.int .i64 (.ofNat 0)), .nils] 36)
dE)))
(dSeq (dOps (dC (some p6) p6 [(.c (.str [66, 111, 120])), (.c .nils)]
(dV p5 (oNew [(.int .i64 (.ofNat 0)), (.int .i64 (.ofNat 0)), (.bool false), (.str []), .nils, .nils] 26)
(dU (oSt 6 (.t p5) (.t p6))
dE))))
(dSeq (dDraw (sN p7 ⟨(some p7), (.v (.mv (.t p1))), none⟩
(sN p9 ⟨(some p9), (.v (.ldN 6 (.t p2))), none⟩
(sA 3 p10 (.buildS 26 1 [(.int .i64 (.ofNat 0)), (.int .i64 (.ofNat 0)), (.bool false), (.str []), .nils, .nils] [(0, 6, (.t p9))])
(sN p11 ⟨(some p11), (.v (.ldN 6 (.t p5))), none⟩
(sE [] [(p9, ⟨(some p9), (.v (.ldN 6 (.t p2))), none⟩), (p11, ⟨(some p11), (.v (.ldN 6 (.t p5))), none⟩)] ⟨(some p8), (.call p14 [(.t p7)]), none⟩
(sE [3] [] ⟨(some p12), (.call p20 [(.c (.int .i64 (.ofNat 3))), (.t p10), (.c .nils), (.t p11)]), none⟩
(sN p13 ⟨(some p13), (.v (.build [(.str []), (.int .i64 (.ofNat 0)), (.int .i64 (.ofNat 0)), (.bool false), (.str []), .nils, .nils] [(0, 1, (.c (.str [98, 111, 120]))), (1, 6, (.t p12))])), none⟩
(sA 7 p14 (.buildS 44 1 [(.str []), (.int .i64 (.ofNat 0)), (.int .i64 (.ofNat 0)), (.bool false), (.str []), .nils, .nils] [(0, 7, (.t p13))])
(sN p15 ⟨(some p15), (.v (.build [(.int .i64 (.ofNat 0)), (.str []), (.int .i64 (.ofNat 0)), (.int .i64 (.ofNat 0)), (.int .i64 (.ofNat 0)), (.bool false), (.str []), .nils, .nils, (.int .i64 (.ofNat 0)), (.int .i64 (.ofNat 0)), (.bool false), (.str []), .nils, .nils, (.int .i64 (.ofNat 0)), .nils] [(0, 1, (.c (.int .i64 (.ofNat 3)))), (1, 1, (.c (.str [66, 111, 120]))), (3, 6, (.t p8)), (16, 1, (.t p14))])), none⟩
(sE [3, 7] [] ⟨none, (.v (.st 17 (.t p4) (.t p15))), none⟩
sEnd)))))))))))
dRet))), [(.cN p4 17)]⟩
def af13 : AF := ⟨(dSeq (dOps (dV p2 (oMv (.c (.int .i64 (.ofNat 0))))
dE))
(dSeq (dOps (dV p3 (oMv (.t p0))
(dV p2 (oMv (.t p3))
dE)))
dRet)), [(.t p2)]⟩
def af14 : AF := ⟨(dSeq (dOps (dV p2 (oNew [(.int .i64 (.ofNat 0)), (.int .i64 (.ofNat 0)), (.bool false), (.str []), .nils, .nils] 26)
dE))
(dSeq (dOps (dV p3 (oMv (.t p0))
(dV p4 (oBuild [(.int .i64 (.ofNat 0)), .nils] [(0, 1, (.t p3))])
(dV p5 (oBuildS 49 1 [(.int .i64 (.ofNat 0)), .nils] [(0, 2, (.t p4))])
(dV p6 (oBuild [(.int .i64 (.ofNat 0)), (.int .i64 (.ofNat 0)), (.bool false), (.str []), .nils, .nils] [(0, 1, (.c (.int .i64 (.ofNat 2)))), (4, 1, (.t p5))])
(dU (oSt 6 (.t p2) (.t p6))
dE))))))
dRet)), [(.cN p2 6)]⟩
def af15 : AF := ⟨(dSeq (dOps (dV p2 (oNew [(.int .i64 (.ofNat 0)), (.int .i64 (.ofNat 0)), (.bool false), (.str []), .nils, .nils] 26)
dE))
(dSeq (dOps (dC (some p5) p23 [(.c (.str [122, 101, 114, 111]))]
(dV p3 (oNew [(.int .i64 (.ofNat 0)), (.int .i64 (.ofNat 0)), (.bool false), (.str []), .nils, .nils] 26)
(dU (oSt 6 (.t p3) (.t p5))
dE))))
(dSeq (dSeq (dOps (dV p4 (oMv (.c (.int .i64 (.ofNat 0))))
dE))
(dBlock 0 (dLoop (dSeq (dSeq (dOps (dV p6 (oMv (.t p4))
(dV p7 (oMv (.t p0))
(dV p8 (oAr .lss (.t p6) (.t p7))
dE))))
(dCond (.t p8) dSkip (dExit 0)))
(dSeq (dBlock 1 (dDraw (sN p12 ⟨(some p12), (.v (.ldN 6 (.t p3))), none⟩
(sE [] [(p12, ⟨(some p12), (.v (.ldN 6 (.t p3))), none⟩)] ⟨(some p11), (.call p23 [(.c (.str [115, 117, 99]))]), none⟩
(sE [] [] ⟨(some p13), (.call p24 [(.t p11), (.t p12)]), none⟩
(sE [] [] ⟨none, (.v (.st 6 (.t p3) (.t p13))), none⟩
sEnd))))))
(dOps (dV p9 (oMv (.t p4))
(dV p10 (oAr .add (.t p9) (.c (.int .i64 (.ofNat 1))))
(dV p4 (oMv (.t p10))
dE)))))))))
(dSeq (dOps (dV p14 (oLdN 6 (.t p3))
(dU (oSt 6 (.t p2) (.t p14))
dE)))
dRet)))), [(.cN p2 6)]⟩
def af16 : AF := ⟨(dSeq (dOps (dV p2 (oNew [(.int .i64 (.ofNat 0)), (.int .i64 (.ofNat 0)), (.bool false), (.str []), .nils, .nils] 26)
dE))
(dSeq (dOps (dV p3 (oMv (.t p0))
(dV p4 (oBuild [(.int .i64 (.ofNat 0)), (.int .i64 (.ofNat 0)), (.bool false), (.str []), .nils, .nils] [(0, 1, (.c (.int .i64 (.ofNat 1)))), (1, 1, (.t p3))])
(dU (oSt 6 (.t p2) (.t p4))
dE))))
dRet)), [(.cN p2 6)]⟩
def af17 : AF := ⟨(dSeq (dOps (dV p2 (oMv (.c .nilp))
dE))
(dSeq (dSeq (dOps (dV p3 (oMv (.t p0))
(dV p4 (oEq .p false (.t p3) (.c .nilp))
dE)))
(dCond (.t p4) (dSeq (dOps (dC (some p5) p8 []
(dV p2 (oMv (.t p5))
dE)))
dRet) dSkip))
(dSeq (dOps (dV p6 (oMv (.t p0))
(dV p2 (oMv (.t p6))
dE)))
dRet))), [(.t p2)]⟩
def af18 : AF := ⟨(dSeq (dOps (dV p3 (oBox 36 (.t p1))
(dV p4 (oNew [(.int .i64 (.ofNat 0)), (.str []), (.int .i64 (.ofNat 0)), (.int .i64 (.ofNat 0)), (.int .i64 (.ofNat 0)), (.bool false), (.str []), .nils, .nils, (.int .i64 (.ofNat 0)), (.int .i64 (.ofNat 0)), (.bool false), (.str []), .nils, .nils, (.int .i64 (.ofNat 0)), .nils] 36)
(dV p5 (oNew [.nilm] 53)
(dV p6 (oMv (.c (.int .i64 (.ofNat 0))))
dE)))))
(dSeq (dSeq (dOps (dV p9 (oLdN 17 (.t p3))
(dV p10 (oBuildS 36 1 [(.int .i64 (.ofNat 0)), (.str []), (.int .i64 (.ofNat 0)), (.int .i64 (.ofNat 0)), (.int .i64 (.ofNat 0)), (.bool false), (.str []), .nils, .nils, (.int .i64 (.ofNat 0)), (.int .i64 (.ofNat 0)), (.bool false), (.str []), .nils, .nils, (.int .i64 (.ofNat 0)), .nils] [(0, 17, (.t p9))])
(dC (some p11) p25 [(.t p10)]
(dV p8 (oMv (.t p11))
(dV p12 (oExt (.t p8) 0)
(dV p13 (oExt (.t p8) 1)
(dV p6 (oMv (.t p13))
dE))))))))
(dSeq (dOps (dV p14 (oMv (.t p6))
(dV p15 (oAr .neq (.t p14) (.c (.int .i64 (.ofNat 0))))
dE)))
(dCond (.t p15) (dSeq (dDraw (sN p16 ⟨(some p16), (.v (.ldN 17 (.t p4))), none⟩
(sN p17 ⟨(some p17), (.v (.ldN 1 (.t p5))), none⟩
(sN p18 ⟨(some p18), (.v (.mv (.t p6))), none⟩
(sE [] [(p17, ⟨(some p17), (.v (.ldN 1 (.t p5))), none⟩)] ⟨none, (.v (.st 17 (.t p4) (.t p16))), none⟩
(sE [] [] ⟨none, (.v (.st 1 (.t p5) (.t p17))), none⟩
(sE [] [] ⟨(some p6), (.v (.mv (.t p18))), none⟩
sEnd)))))))
dRet) dSkip)))
(dSeq (dOps (dV p19 (oLdN 17 (.t p3))
(dC (some p20) p26 [(.t p19)]
(dU (oSt 17 (.t p4) (.t p20))
dE))))
(dSeq (dSeq (dOps (dV p21 (oLdN 17 (.t p4))
(dC (some p22) p28 [(.t p21)]
(dC (some p23) p27 [(.t p22), (.c (.fn (.func 29) [] []))]
dE))))
(dCond (.t p23) (dSeq (dDraw (sN p24 ⟨(some p24), (.v (.ldN 17 (.t p4))), none⟩
(sN p25 ⟨(some p25), (.v (.ldN 1 (.t p5))), none⟩
(sE [] [(p25, ⟨(some p25), (.v (.ldN 1 (.t p5))), none⟩)] ⟨none, (.v (.st 17 (.t p4) (.t p24))), none⟩
(sE [] [] ⟨none, (.v (.st 1 (.t p5) (.t p25))), none⟩
(sN p6 ⟨(some p6), (.v (.mv (.c (.int .i64 (.ofNat 11))))), none⟩
sEnd))))))
dRet) dSkip))
(dSeq (dSeq (dOps (dV p26 (oMv (.t p0))
(dV p27 (oNchk (.t p26))
(dV p28 (oFa 0 (.t p27))
(dV p29 (oLd1 (.t p28))
(dV p30 (oLen (.t p29))
(dV p31 (oAr .geq (.t p30) (.c (.int .i64 (.ofNat 500))))
dE)))))))
(dCond (.t p31) (dSeq (dDraw (sN p32 ⟨(some p32), (.v (.ldN 17 (.t p4))), none⟩
(sN p33 ⟨(some p33), (.v (.ldN 1 (.t p5))), none⟩
(sE [] [(p33, ⟨(some p33), (.v (.ldN 1 (.t p5))), none⟩)] ⟨none, (.v (.st 17 (.t p4) (.t p32))), none⟩
(sE [] [] ⟨none, (.v (.st 1 (.t p5) (.t p33))), none⟩
(sN p6 ⟨(some p6), (.v (.mv (.c (.int .i64 (.ofNat 2))))), none⟩
sEnd))))))
dRet) dSkip))
(dSeq (dDraw (sN p35 ⟨(some p35), (.v (.ldN 17 (.t p4))), none⟩
(sN p36 ⟨(some p36), (.v (.mv (.t p0))), none⟩
(sN p37 ⟨(some p37), (.v (.nchk (.t p36))), none⟩
(sN p38 ⟨(some p38), (.v (.fa 0 (.t p37))), none⟩
(sN p39 ⟨(some p39), (.v (.ld1 (.t p38))), none⟩
(sN p40 ⟨(some p40), (.v (.len (.t p39))), none⟩
(sE [] [] ⟨(some p41), (.call p30 [(.t p35), (.t p40)]), none⟩
(sN p34 ⟨(some p34), (.v (.mv (.t p41))), none⟩
(sN p42 ⟨(some p42), (.v (.ext (.t p34) 0)), none⟩
(sN p43 ⟨(some p43), (.v (.ext (.t p34) 1)), none⟩
(sE [] [] ⟨none, (.v (.st 1 (.t p5) (.t p42))), none⟩
(sN p7 ⟨(some p7), (.v (.mv (.t p43))), none⟩
sEnd)))))))))))))
(dSeq (dSeq (dDraw (sN p44 ⟨(some p44), (.v (.mv (.t p7))), none⟩
(sN p45 ⟨(some p45), (.v (.un .not (.t p44))), none⟩
(sN p46 ⟨(some p46), (.v (.mv (.t p45))), none⟩
(sN p47 ⟨(some p47), (.v (.mv (.t p0))), (some (p46, false))⟩
(sN p48 ⟨(some p48), (.v (.nchk (.t p47))), (some (p46, false))⟩
(sN p49 ⟨(some p49), (.v (.fa 1 (.t p48))), (some (p46, false))⟩
(sN p50 ⟨(some p50), (.v (.ldN 1 (.t p5))), (some (p46, false))⟩
(sE [] [] ⟨(some p51), (.call p31 [(.t p49), (.t p50)]), (some (p46, false))⟩
(sN p52 ⟨(some p52), (.v (.pick (.t p46) (.c (.bool true)) (.t p51))), none⟩
sEnd))))))))))
(dCond (.t p52) (dSeq (dDraw (sN p53 ⟨(some p53), (.v (.ldN 17 (.t p4))), none⟩
(sN p54 ⟨(some p54), (.v (.ldN 1 (.t p5))), none⟩
(sE [] [(p54, ⟨(some p54), (.v (.ldN 1 (.t p5))), none⟩)] ⟨none, (.v (.st 17 (.t p4) (.t p53))), none⟩
(sE [] [] ⟨none, (.v (.st 1 (.t p5) (.t p54))), none⟩
(sN p6 ⟨(some p6), (.v (.mv (.c (.int .i64 (.ofNat 20))))), none⟩
sEnd))))))
dRet) dSkip))
(dSeq (dDraw (sN p55 ⟨(some p55), (.v (.ldN 17 (.t p4))), none⟩
(sN p56 ⟨(some p56), (.v (.ldN 1 (.t p5))), none⟩
(sE [] [(p56, ⟨(some p56), (.v (.ldN 1 (.t p5))), none⟩)] ⟨none, (.v (.st 17 (.t p4) (.t p55))), none⟩
(sE [] [] ⟨none, (.v (.st 1 (.t p5) (.t p56))), none⟩
(sN p6 ⟨(some p6), (.v (.mv (.c (.int .i64 (.ofNat 0))))), none⟩
sEnd))))))
dRet)))))))), [(.cN p4 17), (.cN p5 1), (.t p6)]⟩
def af20 : AF := ⟨(dSeq (dOps (dV p7 (oBox 26 (.t p3))
(dV p8 (oNew [(.int .i64 (.ofNat 0)), (.int .i64 (.ofNat 0)), (.bool false), (.str []), .nils, .nils] 26)
dE)))
(dSeq (dSeq (dOps (dV p10 (oMv (.t p1))
(dV p11 (oLen (.t p10))
(dV p12 (oAr .sub (.t p11) (.c (.int .i64 (.ofNat 1))))
(dV p9 (oMv (.t p12))
dE)))))
(dBlock 0 (dLoop (dSeq (dSeq (dOps (dV p13 (oMv (.t p9))
(dV p14 (oAr .geq (.t p13) (.c (.int .i64 (.ofNat 0))))
dE)))
(dCond (.t p14) dSkip (dExit 0)))
(dSeq (dBlock 1 (dDraw (sN p17 ⟨(some p17), (.v (.mv (.t p0))), none⟩
(sN p18 ⟨(some p18), (.v (.mv (.t p2))), none⟩
(sN p19 ⟨(some p19), (.v (.mv (.t p9))), none⟩
(sN p21 ⟨(some p21), (.v (.mv (.t p1))), none⟩
(sN p22 ⟨(some p22), (.v (.mv (.t p9))), none⟩
(sN p23 ⟨(some p23), (.v (.ia 6 (.t p21) (.t p22))), none⟩
(sN p24 ⟨(some p24), (.v (.ldN 6 (.t p23))), none⟩
(sN p25 ⟨(some p25), (.v (.ldN 6 (.t p7))), none⟩
(sA 9 p26 (.buildS 26 2 [(.int .i64 (.ofNat 0)), (.int .i64 (.ofNat 0)), (.bool false), (.str []), .nils, .nils, (.int .i64 (.ofNat 0)), (.int .i64 (.ofNat 0)), (.bool false), (.str []), .nils, .nils] [(0, 6, (.t p24)), (6, 6, (.t p25))])
(sE [] [(p24, ⟨(some p24), (.v (.ldN 6 (.t p23))), none⟩), (p25, ⟨(some p25), (.v (.ldN 6 (.t p7))), none⟩)] ⟨(some p20), (.call p33 [(.t p18), (.t p19)]), none⟩
(sN p27 ⟨(some p27), (.v (.build [(.int .i64 (.ofNat 0)), (.int .i64 (.ofNat 0)), (.bool false), (.str []), .nils, .nils] [(0, 1, (.t p17)), (2, 1, (.t p20)), (5, 1, (.t p26))])), none⟩
(sE [9] [] ⟨none, (.v (.st 6 (.t p7) (.t p27))), none⟩
sEnd))))))))))))))
(dOps (dV p15 (oMv (.t p9))
(dV p16 (oAr .sub (.t p15) (.c (.int .i64 (.ofNat 1))))
(dV p9 (oMv (.t p16))
dE)))))))))
(dSeq (dOps (dV p28 (oLdN 6 (.t p7))
(dU (oSt 6 (.t p8) (.t p28))
dE)))
dRet))), [(.cN p8 6)]⟩
def af21 : AF := ⟨(dSeq (dOps (dV p4 (oBox 36 (.t p1))
(dV p6 (oMv (.c .nilp))
dE)))
(dSeq (dDraw (sN p7 ⟨(some p7), (.v (.mv (.t p0))), none⟩
(sN p8 ⟨(some p8), (.v (.ldN 17 (.t p4))), none⟩
(sN p9 ⟨(some p9), (.v (.mv (.t p0))), none⟩
(sN p10 ⟨(some p10), (.v (.fa 2 (.t p4))), none⟩
(sN p11 ⟨(some p11), (.v (.ld1 (.t p10))), none⟩
(sN p12 ⟨(some p12), (.v (.mv (.t p2))), none⟩
(sE [] [(p8, ⟨(some p8), (.v (.ldN 17 (.t p4))), none⟩)] ⟨(some p13), (.call p34 [(.t p9), (.t p11), (.t p12)]), none⟩
(sN p14 ⟨(some p14), (.v (.build [.nilp, (.int .i64 (.ofNat 0)), (.str []), (.int .i64 (.ofNat 0)), (.int .i64 (.ofNat 0)), (.int .i64 (.ofNat 0)), (.bool false), (.str []), .nils, .nils, (.int .i64 (.ofNat 0)), (.int .i64 (.ofNat 0)), (.bool false), (.str []), .nils, .nils, (.int .i64 (.ofNat 0)), .nils, .nilp, .nilp, (.int .i64 (.ofNat 0)), .nilp, .nils, (.int .i64 (.ofNat 0)), .nils] [(0, 1, (.t p7)), (1, 17, (.t p8)), (18, 4, (.t p13))])), none⟩
(sA 8 p15 (.box 97 (.t p14))
(sN p6 ⟨(some p6), (.v (.mv (.t p15))), none⟩
sEnd)))))))))))
dRet)), [(.t p6)]⟩
def af22 : AF := ⟨(dSeq (dOps (dV p2 (oMv (.c .nils))
dE))
(dSeq (dOps (dV p4 (oMv (.t p0))
(dV p5 (oMkf 35 [(.t p4)] [])
(dV p6 (oMv (.t p0))
(dV p7 (oMkf 36 [(.t p6)] [])
(dV p8 (oBuildS 66 2 [.nilf, .nilf] [(0, 1, (.t p5)), (1, 1, (.t p7))])
(dV p3 (oMv (.t p8))
dE)))))))
(dSeq (dSeq (dOps (dV p9 (oMv (.t p0))
(dV p10 (oNchk (.t p9))
(dV p11 (oFa 1 (.t p10))
(dV p12 (oFa 0 (.t p11))
(dV p13 (oLd1 (.t p12))
dE))))))
(dBlock 0 (dSeq (dOps (dV p15 (oAr .eql (.t p13) (.c (.int .i64 (.ofNat 2))))
(dV p14 (oMv (.t p15))
dE)))
(dCond (.t p14) (dSeq (dOps (dV p16 (oMv (.t p3))
(dV p17 (oMv (.t p0))
(dV p18 (oMkf 37 [(.t p17)] [])
(dV p19 (oBuildS 66 1 [.nilf] [(0, 1, (.t p18))])
(dV p20 (oApp 66 1 (.t p16) (.t p19))
(dV p2 (oMv (.t p20))
dE)))))))
dRet) (dSeq (dOps (dV p22 (oAr .eql (.t p13) (.c (.int .i64 (.ofNat 3))))
(dV p21 (oMv (.t p22))
dE)))
(dCond (.t p21) (dSeq (dOps (dV p23 (oMv (.t p3))
(dV p24 (oMv (.t p0))
(dV p25 (oMkf 38 [(.t p24)] [])
(dV p26 (oMv (.t p0))
(dV p27 (oMkf 39 [(.t p26)] [])
(dV p28 (oMv (.t p0))
(dV p29 (oMkf 40 [(.t p28)] [])
(dV p30 (oBuildS 66 3 [.nilf, .nilf, .nilf] [(0, 1, (.t p25)), (1, 1, (.t p27)), (2, 1, (.t p29))])
(dV p31 (oApp 66 1 (.t p23) (.t p30))
(dV p2 (oMv (.t p31))
dE)))))))))))
dRet) dSkip))))))
(dSeq (dOps (dV p32 (oMv (.t p3))
(dV p2 (oMv (.t p32))
dE)))
dRet)))), [(.t p2)]⟩
def af23 : AF := ⟨(dSeq (dOps (dV p2 (oNew [(.int .i64 (.ofNat 0)), (.int .i64 (.ofNat 0)), (.bool false), (.str []), .nils, .nils] 26)
dE))
(dSeq (dOps (dV p3 (oMv (.t p0))
(dC (some p4) p6 [(.t p3), (.c .nils)]
(dU (oSt 6 (.t p2) (.t p4))
dE))))
dRet)), [(.cN p2 6)]⟩
def af24 : AF := ⟨(dSeq (dOps (dV p2 (oBox 26 (.t p0))
(dV p3 (oBox 26 (.t p1))
(dV p4 (oNew [(.int .i64 (.ofNat 0)), (.int .i64 (.ofNat 0)), (.bool false), (.str []), .nils, .nils] 26)
dE))))
(dSeq (dOps (dV p5 (oLdN 6 (.t p2))
(dV p6 (oLdN 6 (.t p3))
(dV p7 (oBuildS 26 2 [(.int .i64 (.ofNat 0)), (.int .i64 (.ofNat 0)), (.bool false), (.str []), .nils, .nils, (.int .i64 (.ofNat 0)), (.int .i64 (.ofNat 0)), (.bool false), (.str []), .nils, .nils] [(0, 6, (.t p5)), (6, 6, (.t p6))])
(dV p8 (oBuild [(.int .i64 (.ofNat 0)), (.int .i64 (.ofNat 0)), (.bool false), (.str []), .nils, .nils] [(0, 1, (.c (.int .i64 (.ofNat 5)))), (5, 1, (.t p7))])
(dU (oSt 6 (.t p4) (.t p8))
dE))))))
dRet)), [(.cN p4 6)]⟩
def af25 : AF := ⟨(dSeq (dOps (dV p2 (oMv (.c .nils))
(dV p3 (oMv (.c (.int .i64 (.ofNat 0))))
dE)))
(dSeq (dSeq (dOps (dV p8 (oMv (.t p0))
(dV p9 (oLen (.t p8))
(dV p10 (oAr .gtr (.t p9) (.c (.int .i64 (.ofNat 500))))
dE))))
(dCond (.t p10) (dSeq (dOps (dV p2 (oMv (.c .nils))
(dV p3 (oMv (.c (.int .i64 (.ofNat 2))))
dE)))
dRet) dSkip))
(dSeq (dSeq (dOps (dV p11 (oMv (.t p0))
(dV p12 (oLen (.t p11))
(dV p13 (oMv (.c (.int .i64 (.ofNat 0))))
dE))))
(dBlock 0 (dLoop (dSeq (dOps (dV p14 (oAr .lss (.t p13) (.t p12))
dE))
(dSeq (dCond (.t p14) dSkip (dExit 0))
(dSeq (dBlock 1 (dSeq (dOps (dV p15 (oIa 17 (.t p11) (.t p13))
(dV p16 (oLdN 17 (.t p15))
(dV p5 (oNew [(.int .i64 (.ofNat 0)), (.str []), (.int .i64 (.ofNat 0)), (.int .i64 (.ofNat 0)), (.int .i64 (.ofNat 0)), (.bool false), (.str []), .nils, .nils, (.int .i64 (.ofNat 0)), (.int .i64 (.ofNat 0)), (.bool false), (.str []), .nils, .nils, (.int .i64 (.ofNat 0)), .nils] 36)
(dU (oSt 17 (.t p5) (.t p16))
dE)))))
(dSeq (dOps (dV p17 (oLdN 17 (.t p5))
(dC (some p18) p41 [(.t p17)]
(dV p6 (oMv (.t p18))
dE))))
(dSeq (dOps (dV p19 (oMv (.t p6))
(dV p20 (oAr .neq (.t p19) (.c (.int .i64 (.ofNat 0))))
dE)))
(dCond (.t p20) (dSeq (dOps (dV p21 (oMv (.t p6))
(dV p2 (oMv (.c .nils))
(dV p3 (oMv (.t p21))
dE))))
dRet) dSkip)))))
(dOps (dV p22 (oAr .add (.t p13) (.c (.int .i64 (.ofNat 1))))
(dV p13 (oMv (.t p22))
dE)))))))))
(dSeq (dOps (dV p23 (oBuild [.nils, (.bool false)] [])
(dV p7 (oNew [.nils, (.bool false)] 99)
(dU (oSt 2 (.t p7) (.t p23))
dE))))
(dSeq (dOps (dV p24 (oMv (.t p0))
(dC (some p25) p42 [(.t p7), (.t p24)]
dE)))
(dSeq (dOps (dC (some p26) p43 [(.t p7)]
(dV p27 (oExt (.t p26) 0)
(dV p28 (oExt (.t p26) 1)
(dV p2 (oMv (.t p27))
(dV p3 (oMv (.t p28))
dE))))))
dRet)))))), [(.t p2), (.t p3)]⟩
def af26 : AF := ⟨(dSeq (dOps (dV p1 (oBox 36 (.t p0))
(dV p2 (oNew [(.int .i64 (.ofNat 0)), (.str []), (.int .i64 (.ofNat 0)), (.int .i64 (.ofNat 0)), (.int .i64 (.ofNat 0)), (.bool false), (.str []), .nils, .nils, (.int .i64 (.ofNat 0)), (.int .i64 (.ofNat 0)), (.bool false), (.str []), .nils, .nils, (.int .i64 (.ofNat 0)), .nils] 36)
dE)))
(dSeq (dDraw (sN p6 ⟨(some p6), (.v (.fa 0 (.t p1))), none⟩
(sN p7 ⟨(some p7), (.v (.ld1 (.t p6))), none⟩
(sN p8 ⟨(some p8), (.v (.fa 1 (.t p1))), none⟩
(sN p9 ⟨(some p9), (.v (.ld1 (.t p8))), none⟩
(sN p10 ⟨(some p10), (.v (.fa 2 (.t p1))), none⟩
(sN p11 ⟨(some p11), (.v (.ld1 (.t p10))), none⟩
(sN p12 ⟨(some p12), (.v (.fa 3 (.t p1))), none⟩
(sN p13 ⟨(some p13), (.v (.ldN 6 (.t p12))), none⟩
(sA 10 p3 (.new [(.int .i64 (.ofNat 0)), (.str []), (.int .i64 (.ofNat 0)), (.int .i64 (.ofNat 0)), (.int .i64 (.ofNat 0)), (.bool false), (.str []), .nils, .nils, (.int .i64 (.ofNat 0)), (.int .i64 (.ofNat 0)), (.bool false), (.str []), .nils, .nils, (.int .i64 (.ofNat 0)), .nils] 36)
(sE [] [(p7, ⟨(some p7), (.v (.ld1 (.t p6))), none⟩), (p9, ⟨(some p9), (.v (.ld1 (.t p8))), none⟩), (p11, ⟨(some p11), (.v (.ld1 (.t p10))), none⟩)] ⟨(some p14), (.call p44 [(.t p13)]), none⟩
(sN p15 ⟨(some p15), (.v (.build [(.int .i64 (.ofNat 0)), (.str []), (.int .i64 (.ofNat 0)), (.int .i64 (.ofNat 0)), (.int .i64 (.ofNat 0)), (.bool false), (.str []), .nils, .nils, (.int .i64 (.ofNat 0)), (.int .i64 (.ofNat 0)), (.bool false), (.str []), .nils, .nils, (.int .i64 (.ofNat 0)), .nils] [(0, 1, (.t p7)), (1, 1, (.t p9)), (2, 1, (.t p11)), (3, 6, (.t p14))])), none⟩
(sE [10] [] ⟨none, (.v (.st 17 (.t p3) (.t p15))), none⟩
sEnd)))))))))))))
(dSeq (dSeq (dOps (dV p16 (oFa 0 (.t p1))
(dV p17 (oLd1 (.t p16))
dE)))
(dBlock 0 (dSeq (dOps (dV p19 (oAr .eql (.t p17) (.c (.int .i64 (.ofNat 2))))
(dV p18 (oMv (.t p19))
dE)))
(dCond (.t p18) (dOps (dV p20 (oFa 9 (.t p1))
(dV p21 (oLdN 6 (.t p20))
(dC (some p22) p44 [(.t p21)]
(dV p23 (oFa 9 (.t p3))
(dU (oSt 6 (.t p23) (.t p22))
dE)))))) (dSeq (dOps (dV p25 (oAr .eql (.t p17) (.c (.int .i64 (.ofNat 3))))
(dV p24 (oMv (.t p25))
dE)))
(dCond (.t p24) (dSeq (dOps (dV p26 (oFa 15 (.t p1))
(dV p27 (oLd1 (.t p26))
(dV p28 (oFa 15 (.t p3))
(dU (oSt 1 (.t p28) (.t p27))
dE)))))
(dSeq (dOps (dV p29 (oFa 16 (.t p1))
(dV p30 (oLd1 (.t p29))
(dV p31 (oLen (.t p30))
(dV p32 (oMv (.c (.int .i64 (.ofNat 0))))
dE)))))
(dBlock 1 (dLoop (dSeq (dOps (dV p33 (oAr .lss (.t p32) (.t p31))
dE))
(dSeq (dCond (.t p33) dSkip (dExit 1))
(dSeq (dBlock 2 (dSeq (dOps (dV p34 (oIa 7 (.t p30) (.t p32))
(dV p35 (oLdN 7 (.t p34))
(dV p5 (oNew [(.str []), (.int .i64 (.ofNat 0)), (.int .i64 (.ofNat 0)), (.bool false), (.str []), .nils, .nils] 44)
(dU (oSt 7 (.t p5) (.t p35))
dE)))))
(dDraw (sN p36 ⟨(some p36), (.v (.fa 16 (.t p3))), none⟩
(sN p37 ⟨(some p37), (.v (.ld1 (.t p36))), none⟩
(sN p38 ⟨(some p38), (.v (.fa 0 (.t p5))), none⟩
(sN p39 ⟨(some p39), (.v (.ld1 (.t p38))), none⟩
(sN p40 ⟨(some p40), (.v (.fa 1 (.t p5))), none⟩
(sN p41 ⟨(some p41), (.v (.ldN 6 (.t p40))), none⟩
(sE [] [(p37, ⟨(some p37), (.v (.ld1 (.t p36))), none⟩), (p39, ⟨(some p39), (.v (.ld1 (.t p38))), none⟩)] ⟨(some p42), (.call p44 [(.t p41)]), none⟩
(sN p43 ⟨(some p43), (.v (.build [(.str []), (.int .i64 (.ofNat 0)), (.int .i64 (.ofNat 0)), (.bool false), (.str []), .nils, .nils] [(0, 1, (.t p39)), (1, 6, (.t p42))])), none⟩
(sA 8 p44 (.buildS 44 1 [(.str []), (.int .i64 (.ofNat 0)), (.int .i64 (.ofNat 0)), (.bool false), (.str []), .nils, .nils] [(0, 7, (.t p43))])
(sE [8] [] ⟨(some p45), (.v (.app 44 7 (.t p37) (.t p44))), none⟩
(sN p46 ⟨(some p46), (.v (.fa 16 (.t p3))), none⟩
(sE [8] [] ⟨none, (.v (.st 1 (.t p46) (.t p45))), none⟩
sEnd)))))))))))))))
(dOps (dV p47 (oAr .add (.t p32) (.c (.int .i64 (.ofNat 1))))
(dV p32 (oMv (.t p47))
dE)))))))))) dSkip))))))
(dSeq (dOps (dV p48 (oLdN 17 (.t p3))
(dU (oSt 17 (.t p2) (.t p48))
dE)))
dRet)))), [(.cN p2 17)]⟩
def af27 : AF := ⟨(dSeq (dOps (dV p4 (oMv (.c (.bool false)))
dE))
(dSeq (dOps (dV p5 (oMv (.t p0))
(dV p6 (oMv (.t p1))
(dC (some p7) p45 [(.t p5), (.t p6)]
(dV p8 (oAr .geq (.t p7) (.c (.int .i64 (.ofNat 0))))
(dV p4 (oMv (.t p8))
dE))))))
dRet)), [(.t p4)]⟩
def af28 : AF := ⟨(dSeq (dOps (dV p1 (oBox 36 (.t p0))
(dV p2 (oMv (.c .nils))
dE)))
(dSeq (dOps (dV p6 (oFa 3 (.t p1))
(dV p7 (oLdN 6 (.t p6))
(dV p8 (oBuildS 26 1 [(.int .i64 (.ofNat 0)), (.int .i64 (.ofNat 0)), (.bool false), (.str []), .nils, .nils] [(0, 6, (.t p7))])
(dV p3 (oMv (.t p8))
dE)))))
(dSeq (dSeq (dOps (dV p9 (oFa 0 (.t p1))
(dV p10 (oLd1 (.t p9))
(dV p11 (oAr .eql (.t p10) (.c (.int .i64 (.ofNat 2))))
dE))))
(dCond (.t p11) (dOps (dV p12 (oMv (.t p3))
(dV p13 (oFa 9 (.t p1))
(dV p14 (oLdN 6 (.t p13))
(dV p15 (oBuildS 26 1 [(.int .i64 (.ofNat 0)), (.int .i64 (.ofNat 0)), (.bool false), (.str []), .nils, .nils] [(0, 6, (.t p14))])
(dV p16 (oApp 26 6 (.t p12) (.t p15))
(dV p3 (oMv (.t p16))
dE))))))) dSkip))
(dSeq (dSeq (dOps (dV p17 (oFa 16 (.t p1))
(dV p18 (oLd1 (.t p17))
(dV p19 (oLen (.t p18))
(dV p20 (oMv (.c (.int .i64 (.ofNat 0))))
dE)))))
(dBlock 0 (dLoop (dSeq (dOps (dV p21 (oAr .lss (.t p20) (.t p19))
dE))
(dSeq (dCond (.t p21) dSkip (dExit 0))
(dSeq (dBlock 1 (dSeq (dOps (dV p22 (oIa 7 (.t p18) (.t p20))
(dV p23 (oLdN 7 (.t p22))
(dV p5 (oNew [(.str []), (.int .i64 (.ofNat 0)), (.int .i64 (.ofNat 0)), (.bool false), (.str []), .nils, .nils] 44)
(dU (oSt 7 (.t p5) (.t p23))
dE)))))
(dOps (dV p24 (oMv (.t p3))
(dV p25 (oFa 1 (.t p5))
(dV p26 (oLdN 6 (.t p25))
(dV p27 (oBuildS 26 1 [(.int .i64 (.ofNat 0)), (.int .i64 (.ofNat 0)), (.bool false), (.str []), .nils, .nils] [(0, 6, (.t p26))])
(dV p28 (oApp 26 6 (.t p24) (.t p27))
(dV p3 (oMv (.t p28))
dE)))))))))
(dOps (dV p29 (oAr .add (.t p20) (.c (.int .i64 (.ofNat 1))))
(dV p20 (oMv (.t p29))
dE)))))))))
(dSeq (dOps (dV p30 (oMv (.t p3))
(dV p2 (oMv (.t p30))
dE)))
dRet))))), [(.t p2)]⟩
def af29 : AF := ⟨(dSeq (dOps (dV p1 (oBox 26 (.t p0))
(dV p2 (oMv (.c (.bool false)))
dE)))
(dSeq (dOps (dV p3 (oLdN 6 (.t p1))
(dC (some p4) p46 [(.t p3)]
(dV p5 (oAr .gtr (.t p4) (.c (.int .i64 (.ofNat 0))))
(dV p2 (oMv (.t p5))
dE)))))
dRet)), [(.t p2)]⟩
def af30 : AF := ⟨(dSeq (dOps (dV p2 (oBox 36 (.t p0))
(dV p4 (oNew [.nilm] 53)
(dV p5 (oMv (.c (.bool false)))
dE))))
(dSeq (dOps (dV p6 (oNew [.nilm] 53)
dE))
(dSeq (dOps (dV p10 (oFa 1 (.t p2))
(dV p11 (oLd1 (.t p10))
(dV p12 (oMv (.t p1))
(dV p13 (oFa 0 (.t p2))
(dV p14 (oLd1 (.t p13))
(dV p15 (oBuild [(.int .i64 (.ofNat 0)), (.int .i64 (.ofNat 0))] [(0, 1, (.t p12)), (1, 1, (.t p14))])
(dC (some p16) p32 [(.t p6), (.t p11), (.t p15)]
(dV p7 (oMv (.t p16))
dE)))))))))
(dSeq (dSeq (dOps (dV p17 (oFa 0 (.t p2))
(dV p18 (oLd1 (.t p17))
(dV p19 (oAr .eql (.t p18) (.c (.int .i64 (.ofNat 3))))
dE))))
(dCond (.t p19) (dOps (dV p20 (oFa 1 (.t p2))
(dV p21 (oLd1 (.t p20))
(dV p22 (oAr .add (.t p21) (.c (.str [46, 101, 108, 105, 109])))
(dV p23 (oMv (.t p1))
(dV p24 (oBuild [(.int .i64 (.ofNat 0)), (.int .i64 (.ofNat 0))] [(0, 1, (.t p23)), (1, 1, (.c (.int .i64 (.ofNat 5))))])
(dC (some p25) p32 [(.t p6), (.t p22), (.t p24)]
(dV p26 (oMv (.t p25))
(dG p26 true (some p27) (dV p27 (oMv (.t p7)))
(dV p28 (oPick (.t p26) (.t p27) (.c (.bool false)))
(dV p7 (oMv (.t p28))
dE))))))))))) dSkip))
(dSeq (dSeq (dOps (dV p29 (oFa 16 (.t p2))
(dV p30 (oLd1 (.t p29))
(dV p31 (oLen (.t p30))
(dV p32 (oMv (.c (.int .i64 (.ofNat 0))))
dE)))))
(dBlock 0 (dLoop (dSeq (dOps (dV p33 (oAr .lss (.t p32) (.t p31))
dE))
(dSeq (dCond (.t p33) dSkip (dExit 0))
(dSeq (dBlock 1 (dSeq (dOps (dV p34 (oMv (.t p32))
(dV p35 (oIa 7 (.t p30) (.t p32))
(dV p36 (oLdN 7 (.t p35))
(dV p9 (oNew [(.str []), (.int .i64 (.ofNat 0)), (.int .i64 (.ofNat 0)), (.bool false), (.str []), .nils, .nils] 44)
(dV p8 (oMv (.t p34))
(dU (oSt 7 (.t p9) (.t p36))
dE)))))))
(dOps (dV p37 (oFa 0 (.t p9))
(dV p38 (oLd1 (.t p37))
(dV p39 (oMv (.t p1))
(dV p40 (oMv (.t p8))
(dV p41 (oAr .mul (.c (.int .i64 (.ofNat 2))) (.t p40))
(dV p42 (oAr .add (.c (.int .i64 (.ofNat 4))) (.t p41))
(dV p43 (oBuild [(.int .i64 (.ofNat 0)), (.int .i64 (.ofNat 0))] [(0, 1, (.t p39)), (1, 1, (.t p42))])
(dC (some p44) p32 [(.t p6), (.t p38), (.t p43)]
(dV p45 (oMv (.t p44))
(dG p45 true (some p46) (dV p46 (oMv (.t p7)))
(dV p47 (oPick (.t p45) (.t p46) (.c (.bool false)))
(dV p7 (oMv (.t p47))
dE)))))))))))))))
(dOps (dV p48 (oAr .add (.t p32) (.c (.int .i64 (.ofNat 1))))
(dV p32 (oMv (.t p48))
dE)))))))))
(dSeq (dOps (dV p49 (oLdN 1 (.t p6))
(dV p50 (oMv (.t p7))
(dU (oSt 1 (.t p4) (.t p49))
(dV p5 (oMv (.t p50))
dE)))))
dRet)))))), [(.cN p4 1), (.t p5)]⟩
def af32 : AF := ⟨(dSeq (dOps (dV p5 (oBox 60 (.t p2))
(dV p6 (oMv (.c (.bool false)))
dE)))
(dSeq (dSeq (dOps (dV p10 (oMv (.t p0))
(dV p11 (oNchk (.t p10))
(dV p12 (oFa 0 (.t p11))
(dV p13 (oLd1 (.t p12))
(dV p14 (oMv (.t p1))
(dV p15 (oLk (.agg [(.int .i64 (.ofNat 0)), (.int .i64 (.ofNat 0))]) true (.t p13) (.t p14))
(dV p9 (oMv (.t p15))
(dV p16 (oExt (.t p9) 0)
(dV p17 (oExt (.t p9) 1)
(dV p7 (oNew [(.int .i64 (.ofNat 0)), (.int .i64 (.ofNat 0))] 60)
(dU (oSt 2 (.t p7) (.t p16))
(dV p8 (oMv (.t p17))
dE)))))))))))))
(dSeq (dOps (dV p18 (oMv (.t p8))
dE))
(dCond (.t p18) (dSeq (dOps (dV p6 (oMv (.c (.bool false)))
dE))
dRet) dSkip)))
(dSeq (dSeq (dOps (dV p19 (oMv (.t p0))
(dV p20 (oNchk (.t p19))
(dV p21 (oFa 0 (.t p20))
(dV p22 (oLd1 (.t p21))
(dV p23 (oEq .m false (.t p22) (.c .nilm))
dE))))))
(dCond (.t p23) (dOps (dV p24 (oMv (.t p0))
(dV p25 (oMkM)
(dV p26 (oNchk (.t p24))
(dV p27 (oFa 0 (.t p26))
(dU (oSt 1 (.t p27) (.t p25))
dE)))))) dSkip))
(dSeq (dDraw (sN p28 ⟨(some p28), (.v (.mv (.t p0))), none⟩
(sN p29 ⟨(some p29), (.v (.nchk (.t p28))), none⟩
(sN p30 ⟨(some p30), (.v (.fa 0 (.t p29))), none⟩
(sN p31 ⟨(some p31), (.v (.ld1 (.t p30))), none⟩
(sN p32 ⟨(some p32), (.v (.mv (.t p1))), none⟩
(sN p33 ⟨(some p33), (.v (.ldN 2 (.t p5))), none⟩
(sE [] [] ⟨none, (.v (.up (.t p31) (.t p32) (.t p33))), none⟩
sEnd))))))))
(dSeq (dOps (dV p6 (oMv (.c (.bool true)))
dE))
dRet))))), [(.t p6)]⟩
def af33 : AF := ⟨(dSeq (dOps (dV p4 (oMv (.c (.bool false)))
dE))
(dSeq (dOps (dV p5 (oMv (.t p1))
(dV p6 (oMv (.t p0))
(dV p7 (oLen (.t p6))
(dV p8 (oAr .lss (.t p5) (.t p7))
(dV p9 (oMv (.t p8))
(dG p9 true (some p10) (dV p10 (oMv (.t p0)))
(dG p9 true (some p11) (dV p11 (oMv (.t p1)))
(dG p9 true (some p12) (dV p12 (oIa 1 (.t p10) (.t p11)))
(dG p9 true (some p13) (dV p13 (oLd1 (.t p12)))
(dV p14 (oPick (.t p9) (.t p13) (.c (.bool false)))
(dV p4 (oMv (.t p14))
dE))))))))))))
dRet)), [(.t p4)]⟩
def af34 : AF := ⟨(dSeq (dOps (dV p6 (oNew [.nilp, .nilp, (.int .i64 (.ofNat 0)), .nilp] 94)
dE))
(dSeq (dOps (dV p7 (oMv (.t p0))
(dV p8 (oMv (.t p1))
(dV p9 (oMv (.t p2))
(dC (some p10) p47 [(.t p7), (.t p8), (.t p9)]
(dV p11 (oBuild [.nilp, .nilp, (.int .i64 (.ofNat 0)), .nilp] [(0, 1, (.t p10))])
(dU (oSt 4 (.t p6) (.t p11))
dE)))))))
dRet)), [(.cN p6 4)]⟩
def af35 : AF := ⟨(dSeq (dOps (dV p2 (oMv (.c (.int .i64 (.ofNat 0))))
dE))
(dSeq (dDraw (sN p3 ⟨(some p3), (.v (.mv (.t p0))), none⟩
(sN p4 ⟨(some p4), (.v (.nchk (.t p3))), none⟩
(sN p5 ⟨(some p5), (.v (.fa 0 (.t p4))), none⟩
(sN p6 ⟨(some p6), (.v (.ld1 (.t p5))), none⟩
(sN p7 ⟨(some p7), (.v (.mv (.t p0))), none⟩
(sN p8 ⟨(some p8), (.v (.nchk (.t p7))), none⟩
(sN p9 ⟨(some p9), (.v (.fa 1 (.t p8))), none⟩
(sN p10 ⟨(some p10), (.v (.ldN 17 (.t p9))), none⟩
(sE [] [] ⟨(some p11), (.call p48 [(.t p6), (.t p10)]), none⟩
(sN p2 ⟨(some p2), (.v (.mv (.t p11))), none⟩
sEnd)))))))))))
dRet)), [(.t p2)]⟩
def af36 : AF := ⟨(dSeq (dOps (dV p2 (oMv (.c (.int .i64 (.ofNat 0))))
dE))
(dSeq (dDraw (sN p6 ⟨(some p6), (.v (.mv (.t p0))), none⟩
(sN p7 ⟨(some p7), (.v (.nchk (.t p6))), none⟩
(sN p8 ⟨(some p8), (.v (.fa 18 (.t p7))), none⟩
(sN p9 ⟨(some p9), (.v (.ldN 4 (.t p8))), none⟩
(sN p10 ⟨(some p10), (.v (.mv (.t p0))), none⟩
(sN p11 ⟨(some p11), (.v (.nchk (.t p10))), none⟩
(sN p12 ⟨(some p12), (.v (.fa 1 (.t p11))), none⟩
(sN p13 ⟨(some p13), (.v (.fa 3 (.t p12))), none⟩
(sN p14 ⟨(some p14), (.v (.ldN 6 (.t p13))), none⟩
(sA 13 p3 (.new [(.int .i64 (.ofNat 0)), .nils] 49)
(sE [] [] ⟨(some p15), (.call p49 [(.t p9), (.t p14)]), none⟩
(sN p5 ⟨(some p5), (.v (.mv (.t p15))), none⟩
(sN p16 ⟨(some p16), (.v (.ext (.t p5) 0)), none⟩
(sN p17 ⟨(some p17), (.v (.ext (.t p5) 1)), none⟩
(sE [13] [] ⟨none, (.v (.st 2 (.t p3) (.t p16))), none⟩
(sN p4 ⟨(some p4), (.v (.mv (.t p17))), none⟩
sEnd)))))))))))))))))
(dSeq (dOps (dV p18 (oMv (.t p4))
(dV p2 (oMv (.t p18))
dE)))
dRet))), [(.t p2)]⟩
def af37 : AF := ⟨(dSeq (dOps (dV p2 (oMv (.c (.int .i64 (.ofNat 0))))
dE))
(dSeq (dDraw (sN p3 ⟨(some p3), (.v (.mv (.t p0))), none⟩
(sN p4 ⟨(some p4), (.v (.nchk (.t p3))), none⟩
(sN p5 ⟨(some p5), (.v (.fa 18 (.t p4))), none⟩
(sN p6 ⟨(some p6), (.v (.ldN 4 (.t p5))), none⟩
(sN p7 ⟨(some p7), (.v (.mv (.t p0))), none⟩
(sN p8 ⟨(some p8), (.v (.nchk (.t p7))), none⟩
(sN p9 ⟨(some p9), (.v (.fa 1 (.t p8))), none⟩
(sN p10 ⟨(some p10), (.v (.fa 9 (.t p9))), none⟩
(sN p11 ⟨(some p11), (.v (.ldN 6 (.t p10))), none⟩
(sN p12 ⟨(some p12), (.v (.mv (.t p0))), none⟩
(sN p13 ⟨(some p13), (.v (.nchk (.t p12))), none⟩
(sN p14 ⟨(some p14), (.v (.fa 1 (.t p13))), none⟩
(sN p15 ⟨(some p15), (.v (.fa 3 (.t p14))), none⟩
(sN p16 ⟨(some p16), (.v (.ldN 6 (.t p15))), none⟩
(sE [] [] ⟨(some p17), (.call p50 [(.t p6), (.t p11), (.t p16)]), none⟩
(sN p2 ⟨(some p2), (.v (.mv (.t p17))), none⟩
sEnd)))))))))))))))))
dRet)), [(.t p2)]⟩
def af38 : AF := ⟨(dSeq (dOps (dV p2 (oMv (.c (.int .i64 (.ofNat 0))))
dE))
(dSeq (dOps (dV p4 (oMv (.t p0))
(dV p5 (oMv (.t p0))
(dV p6 (oMv (.t p0))
(dC (some p7) p52 [(.t p6), (.c .nils)]
(dC (some p8) p51 [(.t p7)]
(dV p3 (oMv (.t p8))
(dV p9 (oExt (.t p3) 0)
(dV p10 (oExt (.t p3) 1)
(dV p11 (oExt (.t p3) 2)
(dV p12 (oExt (.t p3) 3)
(dV p13 (oNchk (.t p4))
(dV p14 (oFa 22 (.t p13))
(dU (oSt 1 (.t p14) (.t p9))
(dV p15 (oNchk (.t p5))
(dV p16 (oFa 23 (.t p15))
(dU (oSt 2 (.t p16) (.t p11))
(dV p2 (oMv (.t p12))
dE))))))))))))))))))
(dSeq (dOps (dV p17 (oMv (.t p2))
(dV p2 (oMv (.t p17))
dE)))
dRet))), [(.t p2)]⟩
def af39 : AF := ⟨(dSeq (dOps (dV p2 (oMv (.c (.int .i64 (.ofNat 0))))
dE))
(dSeq (dOps (dV p5 (oMv (.t p0))
(dV p6 (oNchk (.t p5))
(dV p7 (oFa 0 (.t p6))
(dV p8 (oLd1 (.t p7))
(dC (some p9) p53 [(.t p8)]
(dV p3 (oMv (.t p9))
dE)))))))
(dSeq (dOps (dV p10 (oMv (.t p3))
(dV p11 (oMv (.t p0))
(dC (some p12) p52 [(.t p11), (.c .nils)]
(dC (some p13) p9 [(.t p10), (.t p12)]
(dV p4 (oMv (.t p13))
dE))))))
(dSeq (dDraw (sN p14 ⟨(some p14), (.v (.mv (.t p0))), none⟩
(sN p15 ⟨(some p15), (.v (.mv (.t p3))), none⟩
(sN p16 ⟨(some p16), (.v (.mv (.t p0))), none⟩
(sN p17 ⟨(some p17), (.v (.nchk (.t p16))), none⟩
(sN p18 ⟨(some p18), (.v (.fa 1 (.t p17))), none⟩
(sN p19 ⟨(some p19), (.v (.fa 2 (.t p18))), none⟩
(sN p20 ⟨(some p20), (.v (.ld1 (.t p19))), none⟩
(sN p21 ⟨(some p21), (.v (.mv (.t p0))), none⟩
(sN p22 ⟨(some p22), (.v (.nchk (.t p21))), none⟩
(sN p23 ⟨(some p23), (.v (.fa 18 (.t p22))), none⟩
(sN p24 ⟨(some p24), (.v (.ldN 4 (.t p23))), none⟩
(sE [] [(p20, ⟨(some p20), (.v (.ld1 (.t p19))), none⟩)] ⟨(some p25), (.call p54 [(.t p24)]), none⟩
(sE [] [] ⟨(some p26), (.call p34 [(.t p15), (.t p20), (.t p25)]), none⟩
(sN p27 ⟨(some p27), (.v (.nchk (.t p14))), none⟩
(sN p28 ⟨(some p28), (.v (.fa 18 (.t p27))), none⟩
(sE [] [] ⟨none, (.v (.st 4 (.t p28) (.t p26))), none⟩
sEnd)))))))))))))))))
(dSeq (dOps (dV p29 (oMv (.t p4))
(dV p2 (oMv (.t p29))
dE)))
dRet))))), [(.t p2)]⟩
def af40 : AF := ⟨(dSeq (dOps (dV p2 (oMv (.c (.int .i64 (.ofNat 0))))
dE))
(dSeq (dOps (dV p3 (oMv (.c (.int .i64 (.ofNat 0))))
dE))
(dSeq dSkip
(dSeq (dSeq (dOps (dV p13 (oMv (.t p0))
(dV p14 (oNchk (.t p13))
(dV p15 (oFa 1 (.t p14))
(dV p16 (oFa 16 (.t p15))
(dV p17 (oLd1 (.t p16))
(dV p18 (oLen (.t p17))
(dV p19 (oMv (.c (.int .i64 (.ofNat 0))))
dE))))))))
(dBlock 0 (dLoop (dSeq (dOps (dV p20 (oAr .lss (.t p19) (.t p18))
dE))
(dSeq (dCond (.t p20) dSkip (dExit 0))
(dSeq (dBlock 1 (dSeq (dOps (dV p21 (oIa 7 (.t p17) (.t p19))
(dV p22 (oLdN 7 (.t p21))
(dV p5 (oNew [(.str []), (.int .i64 (.ofNat 0)), (.int .i64 (.ofNat 0)), (.bool false), (.str []), .nils, .nils] 44)
(dU (oSt 7 (.t p5) (.t p22))
dE)))))
(dSeq (dOps (dV p24 (oMv (.t p0))
(dV p25 (oLdN 7 (.t p5))
(dV p26 (oBuildS 44 1 [(.str []), (.int .i64 (.ofNat 0)), (.int .i64 (.ofNat 0)), (.bool false), (.str []), .nils, .nils] [(0, 7, (.t p25))])
(dC (some p27) p52 [(.t p24), (.t p26)]
(dC (some p28) p55 [(.t p27), (.c (.int .i64 (.ofNat 0)))]
(dV p23 (oMv (.t p28))
(dV p29 (oExt (.t p23) 0)
(dV p30 (oExt (.t p23) 1)
(dV p31 (oExt (.t p23) 2)
(dV p32 (oExt (.t p23) 3)
(dV p6 (oMv (.t p29))
(dV p7 (oMv (.t p30))
(dV p8 (oMv (.t p31))
(dV p9 (oMv (.t p32))
dE)))))))))))))))
(dSeq (dSeq (dOps (dV p33 (oMv (.t p9))
(dV p3 (oMv (.t p33))
dE)))
(dSeq (dOps (dV p34 (oMv (.t p3))
(dV p35 (oAr .neq (.t p34) (.c (.int .i64 (.ofNat 0))))
dE)))
(dCond (.t p35) (dExit 0) dSkip)))
(dSeq (dSeq (dDraw (sN p37 ⟨(some p37), (.v (.mv (.t p0))), none⟩
(sN p38 ⟨(some p38), (.v (.nchk (.t p37))), none⟩
(sN p39 ⟨(some p39), (.v (.fa 18 (.t p38))), none⟩
(sN p40 ⟨(some p40), (.v (.ldN 4 (.t p39))), none⟩
(sN p41 ⟨(some p41), (.v (.fa 1 (.t p5))), none⟩
(sN p42 ⟨(some p42), (.v (.ldN 6 (.t p41))), none⟩
(sE [] [] ⟨(some p43), (.call p49 [(.t p40), (.t p42)]), none⟩
(sN p36 ⟨(some p36), (.v (.mv (.t p43))), none⟩
(sN p44 ⟨(some p44), (.v (.ext (.t p36) 0)), none⟩
(sN p45 ⟨(some p45), (.v (.ext (.t p36) 1)), none⟩
(sN p3 ⟨(some p3), (.v (.mv (.t p45))), none⟩
sEnd))))))))))))
(dSeq (dOps (dV p46 (oMv (.t p3))
(dV p47 (oAr .neq (.t p46) (.c (.int .i64 (.ofNat 0))))
dE)))
(dCond (.t p47) (dExit 0) dSkip)))
(dSeq (dSeq (dOps (dV p48 (oMv (.t p8))
(dV p49 (oMv (.t p0))
(dV p50 (oMkf 56 [(.t p49)] [])
(dC (some p51) p27 [(.t p48), (.t p50)]
dE)))))
(dCond (.t p51) (dSeq (dOps (dV p3 (oMv (.c (.int .i64 (.ofNat 22))))
dE))
(dExit 0)) dSkip))
(dSeq (dOps (dV p52 (oMv (.t p0))
(dC (some p53) p57 [(.t p52)]
(dV p10 (oMv (.t p53))
dE))))
(dSeq (dOps (dV p54 (oMv (.t p6))
(dV p55 (oLen (.t p54))
(dV p56 (oMv (.c (.int .i64 (.ofNat 0))))
dE))))
(dBlock 2 (dLoop (dSeq (dOps (dV p57 (oAr .lss (.t p56) (.t p55))
dE))
(dSeq (dCond (.t p57) dSkip (dExit 2))
(dSeq (dBlock 3 (dSeq (dOps (dV p58 (oMv (.t p56))
(dV p59 (oIa 6 (.t p54) (.t p56))
(dV p60 (oLdN 6 (.t p59))
(dV p12 (oNew [(.int .i64 (.ofNat 0)), (.int .i64 (.ofNat 0)), (.bool false), (.str []), .nils, .nils] 26)
(dV p11 (oMv (.t p58))
(dU (oSt 6 (.t p12) (.t p60))
dE)))))))
(dSeq (dDraw (sN p61 ⟨(some p61), (.v (.mv (.t p10))), none⟩
(sN p62 ⟨(some p62), (.v (.ldN 6 (.t p12))), none⟩
(sN p63 ⟨(some p63), (.v (.mv (.t p7))), none⟩
(sN p64 ⟨(some p64), (.v (.mv (.t p11))), none⟩
(sE [] [(p62, ⟨(some p62), (.v (.ldN 6 (.t p12))), none⟩)] ⟨(some p65), (.call p58 [(.t p63), (.t p64)]), none⟩
(sE [] [] ⟨(some p66), (.callv (.t p61) [(.t p62), (.t p65)]), none⟩
(sN p3 ⟨(some p3), (.v (.mv (.t p66))), none⟩
sEnd))))))))
(dSeq (dOps (dV p67 (oMv (.t p3))
(dV p68 (oAr .neq (.t p67) (.c (.int .i64 (.ofNat 0))))
dE)))
(dCond (.t p68) (dExit 0) dSkip)))))
(dOps (dV p69 (oAr .add (.t p56) (.c (.int .i64 (.ofNat 1))))
(dV p56 (oMv (.t p69))
dE))))))))))))))))
(dOps (dV p70 (oAr .add (.t p19) (.c (.int .i64 (.ofNat 1))))
(dV p19 (oMv (.t p70))
dE)))))))))
(dSeq (dOps (dV p71 (oMv (.t p3))
(dV p2 (oMv (.t p71))
dE)))
dRet))))), [(.t p2)]⟩
def af41 : AF := ⟨(dSeq (dOps (dV p1 (oBox 36 (.t p0))
(dV p2 (oMv (.c (.int .i64 (.ofNat 0))))
dE)))
(dSeq (dSeq (dOps (dV p4 (oFa 0 (.t p1))
(dV p5 (oLd1 (.t p4))
(dV p6 (oAr .lss (.t p5) (.c (.int .i64 (.ofNat 1))))
(dV p7 (oMv (.t p6))
(dG p7 false (some p8) (dV p8 (oFa 0 (.t p1)))
(dG p7 false (some p9) (dV p9 (oLd1 (.t p8)))
(dG p7 false (some p10) (dV p10 (oAr .gtr (.t p9) (.c (.int .i64 (.ofNat 3)))))
(dV p11 (oPick (.t p7) (.c (.bool true)) (.t p10))
(dV p12 (oMv (.t p11))
(dG p12 false (some p13) (dV p13 (oFa 1 (.t p1)))
(dG p12 false (some p14) (dV p14 (oLd1 (.t p13)))
(dG p12 false (some p15) (dC (some p15) p59 [(.t p14)])
(dG p12 false (some p16) (dV p16 (oUn .not (.t p15)))
(dV p17 (oPick (.t p12) (.c (.bool true)) (.t p16))
dE)))))))))))))))
(dCond (.t p17) (dSeq (dOps (dV p2 (oMv (.c (.int .i64 (.ofNat 10))))
dE))
dRet) dSkip))
(dSeq (dSeq (dOps (dV p18 (oFa 2 (.t p1))
(dV p19 (oLd1 (.t p18))
(dV p20 (oAr .lss (.t p19) (.c (.int .i64 (.ofNat 0))))
(dV p21 (oMv (.t p20))
(dG p21 false (some p22) (dV p22 (oFa 2 (.t p1)))
(dG p21 false (some p23) (dV p23 (oLd1 (.t p22)))
(dG p21 false (some p24) (dV p24 (oAr .gtr (.t p23) (.c (.int .i64 (.ofNat 8)))))
(dV p25 (oPick (.t p21) (.c (.bool true)) (.t p24))
dE)))))))))
(dCond (.t p25) (dSeq (dOps (dV p2 (oMv (.c (.int .i64 (.ofNat 13))))
dE))
dRet) dSkip))
(dSeq (dSeq (dOps (dV p26 (oFa 3 (.t p1))
(dV p27 (oLdN 6 (.t p26))
(dC (some p28) p60 [(.t p27)]
(dV p3 (oMv (.t p28))
dE)))))
(dSeq (dOps (dV p29 (oMv (.t p3))
(dV p30 (oAr .neq (.t p29) (.c (.int .i64 (.ofNat 0))))
dE)))
(dCond (.t p30) (dSeq (dOps (dV p31 (oMv (.t p3))
(dV p2 (oMv (.t p31))
dE)))
dRet) dSkip)))
(dSeq (dSeq (dOps (dV p32 (oFa 0 (.t p1))
(dV p33 (oLd1 (.t p32))
dE)))
(dBlock 0 (dSeq (dOps (dV p35 (oAr .eql (.t p33) (.c (.int .i64 (.ofNat 2))))
(dV p34 (oMv (.t p35))
dE)))
(dCond (.t p34) (dSeq (dOps (dV p36 (oFa 9 (.t p1))
(dV p37 (oLdN 6 (.t p36))
(dC (some p38) p60 [(.t p37)]
(dV p2 (oMv (.t p38))
dE)))))
dRet) (dSeq (dOps (dV p40 (oAr .eql (.t p33) (.c (.int .i64 (.ofNat 3))))
(dV p39 (oMv (.t p40))
dE)))
(dCond (.t p39) (dSeq (dOps (dV p41 (oLdN 17 (.t p1))
(dC (some p42) p61 [(.t p41)]
(dV p2 (oMv (.t p42))
dE))))
dRet) dSkip))))))
(dSeq (dOps (dV p2 (oMv (.c (.int .i64 (.ofNat 0))))
dE))
dRet)))))), [(.t p2)]⟩
def af42 : AF := ⟨(dSeq (dOps (dV p4 (oMv (.t p0))
(dV p5 (oMv (.t p1))
(dV p6 (oLen (.t p5))
(dC (some p7) p62 [(.t p4), (.t p6)]
dE)))))
(dOps (dV p8 (oMv (.t p1))
(dV p9 (oMv (.t p0))
(dV p10 (oMkf 64 [(.t p9)] [])
(dC (some p11) p63 [(.t p8), (.t p10)]
dE)))))), []⟩
def af43 : AF := ⟨(dSeq (dOps (dV p2 (oMv (.c .nils))
(dV p3 (oMv (.c (.int .i64 (.ofNat 0))))
dE)))
(dSeq (dSeq (dOps (dV p4 (oMv (.t p0))
(dV p5 (oNchk (.t p4))
(dV p6 (oFa 1 (.t p5))
(dV p7 (oLd1 (.t p6))
dE)))))
(dCond (.t p7) (dSeq (dOps (dV p2 (oMv (.c .nils))
(dV p3 (oMv (.c (.int .i64 (.ofNat 2))))
dE)))
dRet) dSkip))
(dSeq (dOps (dV p8 (oMv (.t p0))
(dV p9 (oNchk (.t p8))
(dV p10 (oFa 0 (.t p9))
(dV p11 (oLd1 (.t p10))
(dV p2 (oMv (.t p11))
(dV p3 (oMv (.c (.int .i64 (.ofNat 0))))
dE)))))))
dRet))), [(.t p2), (.t p3)]⟩
def af44 : AF := ⟨(dSeq (dOps (dV p1 (oBox 26 (.t p0))
(dV p2 (oNew [(.int .i64 (.ofNat 0)), (.int .i64 (.ofNat 0)), (.bool false), (.str []), .nils, .nils] 26)
dE)))
(dSeq (dSeq (dOps (dV p8 (oLdN 6 (.t p1))
(dC (some p9) p65 [(.t p8), (.c (.int .i64 (.ofNat 16777216))), (.c (.int .i64 (.ofNat 65536)))]
(dV p7 (oMv (.t p9))
(dV p10 (oExt (.t p7) 0)
(dV p11 (oExt (.t p7) 1)
(dV p3 (oMv (.t p10))
(dV p4 (oMv (.t p11))
dE))))))))
(dSeq (dOps (dV p12 (oMv (.t p4))
(dV p13 (oAr .neq (.t p12) (.c (.int .i64 (.ofNat 0))))
dE)))
(dCond (.t p13) (dSeq (dOps (dV p14 (oBuild [(.int .i64 (.ofNat 0)), (.int .i64 (.ofNat 0)), (.bool false), (.str []), .nils, .nils] [])
(dU (oSt 6 (.t p2) (.t p14))
dE)))
dRet) dSkip)))
(dSeq (dOps (dV p16 (oLdN 6 (.t p1))
(dV p17 (oBuild [(.int .i64 (.ofNat 0)), (.int .i64 (.ofNat 0))] [])
(dC (some p18) p66 [(.t p16), (.t p17), (.c (.fn (.func 67) [] [])), (.c (.fn (.func 68) [] []))]
(dV p15 (oMv (.t p18))
(dV p19 (oExt (.t p15) 0)
(dV p20 (oExt (.t p15) 1)
(dV p5 (oNew [(.int .i64 (.ofNat 0)), (.int .i64 (.ofNat 0)), (.bool false), (.str []), .nils, .nils] 26)
(dU (oSt 6 (.t p5) (.t p19))
(dV p6 (oMv (.t p20))
dE))))))))))
(dSeq (dOps (dV p21 (oLdN 6 (.t p5))
(dU (oSt 6 (.t p2) (.t p21))
dE)))
dRet)))), [(.cN p2 6)]⟩
def af45 : AF := ⟨(dSeq (dOps (dV p4 (oMv (.c (.int .i64 (.ofNat 0))))
dE))
(dSeq (dSeq (dOps (dV p6 (oMv (.t p0))
(dV p7 (oLen (.t p6))
(dV p8 (oMv (.c (.int .i64 (.ofNat 0))))
dE))))
(dBlock 0 (dLoop (dSeq (dOps (dV p9 (oAr .lss (.t p8) (.t p7))
dE))
(dSeq (dCond (.t p9) dSkip (dExit 0))
(dSeq (dBlock 1 (dSeq (dOps (dV p10 (oMv (.t p8))
(dV p5 (oMv (.t p10))
dE)))
(dSeq (dOps (dV p11 (oMv (.t p1))
(dV p12 (oMv (.t p0))
(dV p13 (oMv (.t p5))
(dV p14 (oIa 6 (.t p12) (.t p13))
(dV p15 (oLdN 6 (.t p14))
(dCv (some p16) (.t p11) [(.t p15)]
dE)))))))
(dCond (.t p16) (dSeq (dOps (dV p17 (oMv (.t p5))
(dV p4 (oMv (.t p17))
dE)))
dRet) dSkip))))
(dOps (dV p18 (oAr .add (.t p8) (.c (.int .i64 (.ofNat 1))))
(dV p8 (oMv (.t p18))
dE)))))))))
(dSeq (dOps (dV p4 (oMv (.c (.int .i64 (.negSucc 0))))
dE))
dRet))), [(.t p4)]⟩
def af46 : AF := ⟨(dSeq (dOps (dV p1 (oBox 26 (.t p0))
(dV p2 (oMv (.c (.int .i64 (.ofNat 0))))
dE)))
(dSeq (dSeq (dOps (dV p5 (oLdN 6 (.t p1))
(dC (some p6) p60 [(.t p5)]
(dV p7 (oAr .neq (.t p6) (.c (.int .i64 (.ofNat 0))))
dE))))
(dCond (.t p7) (dSeq (dOps (dV p2 (oMv (.c (.int .i64 (.ofNat 0))))
dE))
dRet) dSkip))
(dSeq (dOps (dV p9 (oLdN 6 (.t p1))
(dV p10 (oBuild [(.int .i64 (.ofNat 0)), (.int .i64 (.ofNat 0))] [])
(dC (some p11) p69 [(.t p9), (.t p10), (.c (.fn (.func 70) [] [])), (.c (.fn (.func 71) [] []))]
(dV p8 (oMv (.t p11))
(dV p12 (oExt (.t p8) 0)
(dV p13 (oExt (.t p8) 1)
(dV p3 (oMv (.t p12))
(dV p4 (oMv (.t p13))
dE)))))))))
(dSeq (dOps (dV p14 (oMv (.t p3))
(dV p2 (oMv (.t p14))
dE)))
dRet)))), [(.t p2)]⟩
def af47 : AF := ⟨(dSeq (dOps (dV p6 (oMv (.c .nilp))
dE))
(dSeq (dOps (dV p8 (oMv (.t p0))
(dV p9 (oMv (.t p2))
(dC (some p10) p72 [(.t p8), (.t p9)]
(dV p7 (oNew [.nilp] 137)
(dU (oSt 1 (.t p7) (.t p10))
dE))))))
(dSeq (dDraw (sN p11 ⟨(some p11), (.v (.mv (.t p0))), none⟩
(sN p12 ⟨(some p12), (.v (.mv (.t p1))), none⟩
(sN p13 ⟨(some p13), (.v (.ldN 1 (.t p7))), none⟩
(sN p14 ⟨(some p14), (.v (.ldN 1 (.t p7))), none⟩
(sA 5 p16 (.mkM)
(sE [] [(p13, ⟨(some p13), (.v (.ldN 1 (.t p7))), none⟩)] ⟨(some p15), (.call p73 [(.t p14)]), none⟩
(sE [] [(p13, ⟨(some p13), (.v (.ldN 1 (.t p7))), none⟩)] ⟨(some p17), (.call p74 []), none⟩
(sN p18 ⟨(some p18), (.v (.build [.nilp, (.int .i64 (.ofNat 0)), .nilp, .nilp, .nilm, .nilf, .nilf, .nilf, .nilf, .nilf, .nilf, .nilf, .nilf, .nilf, .nilf, .nilf, .nilf] [(0, 1, (.t p11)), (1, 1, (.t p12)), (2, 1, (.t p13)), (3, 1, (.t p15)), (4, 1, (.t p16)), (5, 12, (.t p17))])), none⟩
(sA 8 p19 (.box 147 (.t p18))
(sN p6 ⟨(some p6), (.v (.mv (.t p19))), none⟩
sEnd)))))))))))
dRet))), [(.t p6)]⟩
def af48 : AF := ⟨(dSeq (dOps (dV p3 (oBox 36 (.t p1))
(dV p4 (oMv (.c (.int .i64 (.ofNat 0))))
dE)))
(dSeq (dDraw (sN p9 ⟨(some p9), (.v (.mv (.t p0))), none⟩
(sN p11 ⟨(some p11), (.v (.ldN 17 (.t p3))), none⟩
(sA 8 p5 (.new [(.int .i64 (.ofNat 0)), (.str []), (.int .i64 (.ofNat 0)), (.int .i64 (.ofNat 0)), (.int .i64 (.ofNat 0)), (.bool false), (.str []), .nils, .nils, (.int .i64 (.ofNat 0)), (.int .i64 (.ofNat 0)), (.bool false), (.str []), .nils, .nils, (.int .i64 (.ofNat 0)), .nils] 36)
(sA 9 p6 (.new [.nilm] 53)
(sE [] [(p11, ⟨(some p11), (.v (.ldN 17 (.t p3))), none⟩)] ⟨(some p10), (.call p17 [(.t p9)]), none⟩
(sE [] [] ⟨(some p12), (.call p18 [(.t p10), (.t p11)]), none⟩
(sN p8 ⟨(some p8), (.v (.mv (.t p12))), none⟩
(sN p13 ⟨(some p13), (.v (.ext (.t p8) 0)), none⟩
(sN p14 ⟨(some p14), (.v (.ext (.t p8) 1)), none⟩
(sN p15 ⟨(some p15), (.v (.ext (.t p8) 2)), none⟩
(sE [8, 9] [] ⟨none, (.v (.st 17 (.t p5) (.t p13))), none⟩
(sE [8, 9] [] ⟨none, (.v (.st 1 (.t p6) (.t p14))), none⟩
(sN p7 ⟨(some p7), (.v (.mv (.t p15))), none⟩
sEnd))))))))))))))
(dSeq (dOps (dV p16 (oMv (.t p7))
(dV p4 (oMv (.t p16))
dE)))
dRet))), [(.t p4)]⟩
def af49 : AF := ⟨(dSeq (dOps (dV p2 (oBox 94 (.t p0))
(dV p3 (oBox 26 (.t p1))
(dV p4 (oNew [(.int .i64 (.ofNat 0)), .nils] 49)
(dV p5 (oMv (.c (.int .i64 (.ofNat 0))))
dE)))))
(dSeq (dOps (dV p9 (oLdN 4 (.t p2))
(dV p10 (oLdN 6 (.t p3))
(dC (some p11) p75 [(.t p9), (.t p10)]
(dC (some p12) p76 [(.t p11)]
(dV p8 (oMv (.t p12))
(dV p13 (oExt (.t p8) 0)
(dV p14 (oExt (.t p8) 1)
(dV p6 (oNew [(.int .i64 (.ofNat 0)), .nils] 49)
(dU (oSt 2 (.t p6) (.t p13))
(dV p7 (oMv (.t p14))
dE)))))))))))
(dSeq (dSeq (dOps (dV p15 (oMv (.t p7))
(dV p16 (oEq .i true (.t p15) (.c .nili))
dE)))
(dCond (.t p16) (dSeq (dOps (dV p17 (oBuild [(.int .i64 (.ofNat 0)), .nils] [])
(dV p18 (oMv (.t p7))
(dC (some p19) p77 [(.t p18)]
(dU (oSt 2 (.t p4) (.t p17))
(dV p5 (oMv (.t p19))
dE))))))
dRet) dSkip))
(dSeq (dOps (dV p20 (oLdN 2 (.t p6))
(dC (some p21) p78 [(.t p20)]
(dV p22 (oExt (.t p21) 0)
(dV p23 (oExt (.t p21) 1)
(dU (oSt 2 (.t p4) (.t p22))
(dV p5 (oMv (.t p23))
dE)))))))
dRet)))), [(.cN p4 2), (.t p5)]⟩
def af50 : AF := ⟨(dSeq (dOps (dV p3 (oBox 94 (.t p0))
(dV p4 (oBox 26 (.t p1))
(dV p5 (oBox 26 (.t p2))
(dV p6 (oMv (.c (.int .i64 (.ofNat 0))))
dE)))))
(dSeq (dDraw (sN p7 ⟨(some p7), (.v (.ldN 4 (.t p3))), none⟩
(sN p8 ⟨(some p8), (.v (.ldN 6 (.t p4))), none⟩
(sN p10 ⟨(some p10), (.v (.fa 1 (.t p3))), none⟩
(sN p11 ⟨(some p11), (.v (.fa 0 (.t p10))), none⟩
(sN p12 ⟨(some p12), (.v (.ldN 2 (.t p11))), none⟩
(sN p13 ⟨(some p13), (.v (.ldN 6 (.t p5))), none⟩
(sE [] [(p12, ⟨(some p12), (.v (.ldN 2 (.t p11))), none⟩), (p13, ⟨(some p13), (.v (.ldN 6 (.t p5))), none⟩)] ⟨(some p9), (.call p75 [(.t p7), (.t p8)]), none⟩
(sE [] [] ⟨(some p14), (.call p80 [(.t p12), (.t p13)]), none⟩
(sE [] [] ⟨(some p15), (.call p79 [(.t p9), (.t p14)]), none⟩
(sE [] [] ⟨(some p16), (.call p77 [(.t p15)]), none⟩
(sN p6 ⟨(some p6), (.v (.mv (.t p16))), none⟩
sEnd))))))))))))
dRet)), [(.t p6)]⟩
def af51 : AF := ⟨(dSeq (dOps (dV p1 (oBox 36 (.t p0))
(dV p2 (oMv (.c .nils))
(dV p3 (oMv (.c .nils))
(dV p4 (oNew [(.int .i64 (.ofNat 0)), .nils] 49)
(dV p5 (oMv (.c (.int .i64 (.ofNat 0))))
dE))))))
(dSeq (dOps (dV p8 (oLdN 17 (.t p1))
(dC (some p9) p81 [(.t p8)]
(dV p7 (oMv (.t p9))
(dV p10 (oExt (.t p7) 0)
(dV p11 (oExt (.t p7) 1)
(dV p6 (oNew [(.int .i64 (.ofNat 0)), (.str []), (.int .i64 (.ofNat 0)), (.int .i64 (.ofNat 0)), (.int .i64 (.ofNat 0)), (.bool false), (.str []), .nils, .nils, (.int .i64 (.ofNat 0)), (.int .i64 (.ofNat 0)), (.bool false), (.str []), .nils, .nils, (.int .i64 (.ofNat 0)), .nils, .nils, .nils, (.int .i64 (.ofNat 0)), .nils] 163)
(dU (oSt 21 (.t p6) (.t p10))
(dV p5 (oMv (.t p11))
dE)))))))))
(dSeq (dDraw (sN p12 ⟨(some p12), (.v (.fa 17 (.t p6))), none⟩
(sN p13 ⟨(some p13), (.v (.ld1 (.t p12))), none⟩
(sN p14 ⟨(some p14), (.v (.fa 18 (.t p6))), none⟩
(sN p15 ⟨(some p15), (.v (.ld1 (.t p14))), none⟩
(sN p16 ⟨(some p16), (.v (.fa 19 (.t p6))), none⟩
(sN p17 ⟨(some p17), (.v (.ldN 2 (.t p16))), none⟩
(sN p18 ⟨(some p18), (.v (.mv (.t p5))), none⟩
(sN p2 ⟨(some p2), (.v (.mv (.t p13))), none⟩
(sN p3 ⟨(some p3), (.v (.mv (.t p15))), none⟩
(sE [] [] ⟨none, (.v (.st 2 (.t p4) (.t p17))), none⟩
(sE [] [] ⟨(some p5), (.v (.mv (.t p18))), none⟩
sEnd))))))))))))
dRet))), [(.t p2), (.t p3), (.cN p4 2), (.t p5)]⟩
def af52 : AF := ⟨(dSeq (dOps (dV p4 (oNew [(.int .i64 (.ofNat 0)), (.str []), (.int .i64 (.ofNat 0)), (.int .i64 (.ofNat 0)), (.int .i64 (.ofNat 0)), (.bool false), (.str []), .nils, .nils, (.int .i64 (.ofNat 0)), (.int .i64 (.ofNat 0)), (.bool false), (.str []), .nils, .nils, (.int .i64 (.ofNat 0)), .nils] 36)
dE))
(dSeq (dOps (dV p6 (oMv (.t p0))
(dV p7 (oNchk (.t p6))
(dV p8 (oFa 1 (.t p7))
(dV p9 (oLdN 17 (.t p8))
(dV p5 (oNew [(.int .i64 (.ofNat 0)), (.str []), (.int .i64 (.ofNat 0)), (.int .i64 (.ofNat 0)), (.int .i64 (.ofNat 0)), (.bool false), (.str []), .nils, .nils, (.int .i64 (.ofNat 0)), (.int .i64 (.ofNat 0)), (.bool false), (.str []), .nils, .nils, (.int .i64 (.ofNat 0)), .nils] 36)
(dU (oSt 17 (.t p5) (.t p9))
dE)))))))
(dSeq (dOps (dV p10 (oMv (.t p1))
(dV p11 (oFa 16 (.t p5))
(dU (oSt 1 (.t p11) (.t p10))
dE))))
(dSeq (dOps (dV p12 (oLdN 17 (.t p5))
(dU (oSt 17 (.t p4) (.t p12))
dE)))
dRet)))), [(.cN p4 17)]⟩
def af53 : AF := ⟨(dSeq (dOps (dV p2 (oMv (.c .nilp))
dE))
(dSeq (dOps (dV p3 (oMv (.t p0))
(dC (some p4) p17 [(.t p3)]
(dV p0 (oMv (.t p4))
dE))))
(dSeq (dDraw (sN p5 ⟨(some p5), (.v (.mv (.t p0))), none⟩
(sN p6 ⟨(some p6), (.v (.nchk (.t p5))), none⟩
(sN p7 ⟨(some p7), (.v (.fa 0 (.t p6))), none⟩
(sN p8 ⟨(some p8), (.v (.ld1 (.t p7))), none⟩
(sN p10 ⟨(some p10), (.v (.mv (.t p0))), none⟩
(sN p11 ⟨(some p11), (.v (.nchk (.t p10))), none⟩
(sN p12 ⟨(some p12), (.v (.fa 1 (.t p11))), none⟩
(sE [] [] ⟨(some p9), (.call p82 [(.t p8)]), none⟩
(sE [] [] ⟨(some p13), (.call p83 [(.t p12)]), none⟩
(sN p14 ⟨(some p14), (.v (.build [.nils, .nilm] [(0, 1, (.t p9)), (1, 1, (.t p13))])), none⟩
(sA 10 p15 (.box 55 (.t p14))
(sN p2 ⟨(some p2), (.v (.mv (.t p15))), none⟩
sEnd)))))))))))))
dRet))), [(.t p2)]⟩
def af54 : AF := ⟨(dSeq (dOps (dV p1 (oBox 94 (.t p0))
(dV p2 (oMv (.c (.int .i64 (.ofNat 0))))
dE)))
(dSeq (dOps (dV p3 (oFa 0 (.t p1))
(dV p4 (oLd1 (.t p3))
(dV p5 (oNchk (.t p4))
(dV p6 (oFa 2 (.t p5))
(dV p7 (oLdN 1 (.t p6))
(dC (some p8) p84 [(.t p7)]
(dV p2 (oMv (.t p8))
dE))))))))
dRet)), [(.t p2)]⟩
def af55 : AF := ⟨(dSeq (dOps (dV p2 (oBox 36 (.t p0))
(dV p4 (oMv (.c .nils))
(dV p5 (oMv (.c .nils))
(dV p6 (oMv (.c .nils))
(dV p7 (oMv (.c (.int .i64 (.ofNat 0))))
dE))))))
(dSeq (dOps (dV p13 (oLdN 17 (.t p2))
(dV p14 (oMv (.t p1))
(dC (some p15) p85 [(.t p13), (.t p14)]
(dV p12 (oMv (.t p15))
(dV p16 (oExt (.t p12) 0)
(dV p17 (oExt (.t p12) 1)
(dV p18 (oExt (.t p12) 2)
(dV p8 (oNew [(.int .i64 (.ofNat 0)), (.str []), (.int .i64 (.ofNat 0)), (.int .i64 (.ofNat 0)), (.int .i64 (.ofNat 0)), (.bool false), (.str []), .nils, .nils, (.int .i64 (.ofNat 0)), (.int .i64 (.ofNat 0)), (.bool false), (.str []), .nils, .nils, (.int .i64 (.ofNat 0)), .nils, .nils, .nils, (.int .i64 (.ofNat 0)), .nils] 163)
(dV p9 (oNew [(.str []), .nils, .nils, .nils] 170)
(dU (oSt 21 (.t p8) (.t p16))
(dU (oSt 4 (.t p9) (.t p17))
(dV p7 (oMv (.t p18))
dE)))))))))))))
(dSeq (dSeq (dOps (dV p19 (oFa 2 (.t p9))
(dV p20 (oLd1 (.t p19))
(dV p21 (oLen (.t p20))
(dV p22 (oMv (.c (.int .i64 (.ofNat 0))))
dE)))))
(dBlock 0 (dLoop (dSeq (dOps (dV p23 (oAr .lss (.t p22) (.t p21))
dE))
(dSeq (dCond (.t p23) dSkip (dExit 0))
(dSeq (dBlock 1 (dSeq (dOps (dV p24 (oIa 3 (.t p20) (.t p22))
(dV p25 (oLdN 3 (.t p24))
(dV p11 (oNew [(.int .i64 (.ofNat 0)), .nils, .nils] 174)
(dU (oSt 3 (.t p11) (.t p25))
dE)))))
(dOps (dV p26 (oMv (.t p5))
(dV p27 (oFa 0 (.t p11))
(dV p28 (oLd1 (.t p27))
(dV p29 (oBuildS 3 1 [(.int .i64 (.ofNat 0))] [(0, 1, (.t p28))])
(dV p30 (oApp 3 1 (.t p26) (.t p29))
(dV p5 (oMv (.t p30))
dE)))))))))
(dOps (dV p31 (oAr .add (.t p22) (.c (.int .i64 (.ofNat 1))))
(dV p22 (oMv (.t p31))
dE)))))))))
(dSeq (dDraw (sN p32 ⟨(some p32), (.v (.fa 1 (.t p9))), none⟩
(sN p33 ⟨(some p33), (.v (.ld1 (.t p32))), none⟩
(sN p34 ⟨(some p34), (.v (.mv (.t p5))), none⟩
(sN p35 ⟨(some p35), (.v (.fa 3 (.t p9))), none⟩
(sN p36 ⟨(some p36), (.v (.ld1 (.t p35))), none⟩
(sN p37 ⟨(some p37), (.v (.mv (.t p7))), none⟩
(sN p4 ⟨(some p4), (.v (.mv (.t p33))), none⟩
(sE [] [(p36, ⟨(some p36), (.v (.ld1 (.t p35))), none⟩)] ⟨(some p5), (.v (.mv (.t p34))), none⟩
(sN p6 ⟨(some p6), (.v (.mv (.t p36))), none⟩
(sE [] [] ⟨(some p7), (.v (.mv (.t p37))), none⟩
sEnd)))))))))))
dRet)))), [(.t p4), (.t p5), (.t p6), (.t p7)]⟩
def af56 : AF := ⟨(dSeq (dOps (dV p3 (oBox 26 (.t p1))
(dV p4 (oMv (.c (.bool false)))
dE)))
(dSeq (dDraw (sN p5 ⟨(some p5), (.v (.ldN 6 (.t p3))), none⟩
(sN p6 ⟨(some p6), (.v (.mv (.t p0))), none⟩
(sN p7 ⟨(some p7), (.v (.nchk (.t p6))), none⟩
(sN p8 ⟨(some p8), (.v (.fa 1 (.t p7))), none⟩
(sN p9 ⟨(some p9), (.v (.fa 1 (.t p8))), none⟩
(sN p10 ⟨(some p10), (.v (.ld1 (.t p9))), none⟩
(sE [] [] ⟨(some p11), (.call p86 [(.t p5), (.t p10)]), none⟩
(sN p4 ⟨(some p4), (.v (.mv (.t p11))), none⟩
sEnd)))))))))
dRet)), [(.t p4)]⟩
def af57 : AF := ⟨(dSeq (dOps (dV p1 (oBox 63 (.t p0))
(dV p2 (oMv (.c .nilf))
dE)))
(dSeq (dOps (dV p6 (oLd1 (.t p1))
(dV p7 (oNchk (.t p6))
(dV p8 (oFa 18 (.t p7))
(dV p9 (oLdN 4 (.t p8))
(dV p3 (oNew [.nilp, .nilp, (.int .i64 (.ofNat 0)), .nilp] 94)
(dU (oSt 4 (.t p3) (.t p9))
dE)))))))
(dSeq (dSeq (dOps (dV p10 (oLd1 (.t p1))
(dV p11 (oNchk (.t p10))
(dV p12 (oFa 22 (.t p11))
(dV p13 (oLd1 (.t p12))
(dV p14 (oLen (.t p13))
(dV p15 (oMv (.c (.int .i64 (.ofNat 0))))
dE)))))))
(dBlock 0 (dLoop (dSeq (dOps (dV p16 (oAr .lss (.t p15) (.t p14))
dE))
(dSeq (dCond (.t p16) dSkip (dExit 0))
(dSeq (dBlock 1 (dSeq (dOps (dV p17 (oIa 6 (.t p13) (.t p15))
(dV p18 (oLdN 6 (.t p17))
(dV p5 (oNew [(.int .i64 (.ofNat 0)), (.int .i64 (.ofNat 0)), (.bool false), (.str []), .nils, .nils] 26)
(dU (oSt 6 (.t p5) (.t p18))
dE)))))
(dOps (dV p19 (oLdN 4 (.t p3))
(dV p20 (oLdN 6 (.t p5))
(dC (some p21) p87 [(.t p19), (.t p20)]
(dU (oSt 4 (.t p3) (.t p21))
dE)))))))
(dOps (dV p22 (oAr .add (.t p15) (.c (.int .i64 (.ofNat 1))))
(dV p15 (oMv (.t p22))
dE)))))))))
(dSeq (dOps (dV p23 (oMkf 88 [] [(.t p1), (.t p3)])
(dV p2 (oMv (.t p23))
dE)))
dRet)))), [(.t p2)]⟩
def af58 : AF := ⟨(dSeq (dOps (dV p4 (oMv (.c (.bool false)))
dE))
(dSeq (dOps (dV p5 (oMv (.t p0))
(dV p6 (oMv (.t p1))
(dC (some p7) p91 [(.t p5), (.t p6)]
(dV p8 (oAr .geq (.t p7) (.c (.int .i64 (.ofNat 0))))
(dV p4 (oMv (.t p8))
dE))))))
dRet)), [(.t p4)]⟩
def af59 : AF := ⟨(dSeq (dOps (dV p2 (oMv (.c (.bool false)))
dE))
(dSeq (dOps (dV p3 (oMv (.t p0))
(dV p4 (oAr .neq (.t p3) (.c (.str [])))
(dV p5 (oMv (.t p4))
(dG p5 true (some p6) (dV p6 (oMv (.t p0)))
(dG p5 true (some p7) (dV p7 (oLenS (.t p6)))
(dG p5 true (some p8) (dV p8 (oAr .leq (.t p7) (.c (.int .i64 (.ofNat 60)))))
(dV p9 (oPick (.t p5) (.t p8) (.c (.bool false)))
(dV p2 (oMv (.t p9))
dE)))))))))
dRet)), [(.t p2)]⟩
def af60 : AF := ⟨(dSeq (dOps (dV p1 (oBox 26 (.t p0))
(dV p2 (oMv (.c (.int .i64 (.ofNat 0))))
dE)))
(dSeq (dSeq (dOps (dV p8 (oLdN 6 (.t p1))
(dC (some p9) p65 [(.t p8), (.c (.int .i64 (.ofNat 20000))), (.c (.int .i64 (.ofNat 500)))]
(dV p7 (oMv (.t p9))
(dV p10 (oExt (.t p7) 0)
(dV p11 (oExt (.t p7) 1)
(dV p3 (oMv (.t p10))
(dV p4 (oMv (.t p11))
dE))))))))
(dSeq (dOps (dV p12 (oMv (.t p4))
(dV p13 (oAr .neq (.t p12) (.c (.int .i64 (.ofNat 0))))
dE)))
(dCond (.t p13) (dSeq (dOps (dV p14 (oMv (.t p4))
(dV p2 (oMv (.t p14))
dE)))
dRet) dSkip)))
(dSeq (dOps (dV p16 (oLdN 6 (.t p1))
(dV p17 (oBuild [(.int .i64 (.ofNat 0)), (.int .i64 (.ofNat 0))] [])
(dC (some p18) p69 [(.t p16), (.t p17), (.c (.fn (.func 92) [] [])), (.c (.fn (.func 93) [] []))]
(dV p15 (oMv (.t p18))
(dV p19 (oExt (.t p15) 0)
(dV p20 (oExt (.t p15) 1)
(dV p5 (oMv (.t p19))
(dV p6 (oMv (.t p20))
dE)))))))))
(dSeq (dOps (dV p21 (oMv (.t p6))
(dV p2 (oMv (.t p21))
dE)))
dRet)))), [(.t p2)]⟩
def af61 : AF := ⟨(dSeq (dOps (dV p1 (oBox 36 (.t p0))
(dV p2 (oMv (.c (.int .i64 (.ofNat 0))))
dE)))
(dSeq (dSeq (dOps (dV p6 (oFa 15 (.t p1))
(dV p7 (oLd1 (.t p6))
(dV p8 (oAr .lss (.t p7) (.c (.int .i64 (.ofNat 0))))
(dV p9 (oMv (.t p8))
(dG p9 false (some p10) (dV p10 (oFa 15 (.t p1)))
(dG p9 false (some p11) (dV p11 (oLd1 (.t p10)))
(dG p9 false (some p12) (dV p12 (oAr .gtr (.t p11) (.c (.int .i64 (.ofNat 60)))))
(dV p13 (oPick (.t p9) (.c (.bool true)) (.t p12))
(dV p14 (oMv (.t p13))
(dG p14 false (some p15) (dV p15 (oFa 16 (.t p1)))
(dG p14 false (some p16) (dV p16 (oLd1 (.t p15)))
(dG p14 false (some p17) (dV p17 (oLen (.t p16)))
(dG p14 false (some p18) (dV p18 (oAr .gtr (.t p17) (.c (.int .i64 (.ofNat 40)))))
(dV p19 (oPick (.t p14) (.c (.bool true)) (.t p18))
dE)))))))))))))))
(dCond (.t p19) (dSeq (dOps (dV p2 (oMv (.c (.int .i64 (.ofNat 2))))
dE))
dRet) dSkip))
(dSeq (dSeq (dOps (dV p20 (oFa 16 (.t p1))
(dV p21 (oLd1 (.t p20))
(dV p22 (oLen (.t p21))
(dV p23 (oMv (.c (.int .i64 (.ofNat 0))))
dE)))))
(dBlock 0 (dLoop (dSeq (dOps (dV p24 (oAr .lss (.t p23) (.t p22))
dE))
(dSeq (dCond (.t p24) dSkip (dExit 0))
(dSeq (dBlock 1 (dSeq (dOps (dV p25 (oIa 7 (.t p21) (.t p23))
(dV p26 (oLdN 7 (.t p25))
(dV p4 (oNew [(.str []), (.int .i64 (.ofNat 0)), (.int .i64 (.ofNat 0)), (.bool false), (.str []), .nils, .nils] 44)
(dU (oSt 7 (.t p4) (.t p26))
dE)))))
(dSeq (dSeq (dOps (dV p27 (oFa 0 (.t p4))
(dV p28 (oLd1 (.t p27))
(dC (some p29) p59 [(.t p28)]
(dV p30 (oUn .not (.t p29))
dE)))))
(dCond (.t p30) (dSeq (dOps (dV p2 (oMv (.c (.int .i64 (.ofNat 10))))
dE))
dRet) dSkip))
(dSeq (dOps (dV p31 (oFa 1 (.t p4))
(dV p32 (oLdN 6 (.t p31))
(dC (some p33) p60 [(.t p32)]
(dV p5 (oMv (.t p33))
dE)))))
(dSeq (dOps (dV p34 (oMv (.t p5))
(dV p35 (oAr .neq (.t p34) (.c (.int .i64 (.ofNat 0))))
dE)))
(dCond (.t p35) (dSeq (dOps (dV p36 (oMv (.t p5))
(dV p2 (oMv (.t p36))
dE)))
dRet) dSkip))))))
(dOps (dV p37 (oAr .add (.t p23) (.c (.int .i64 (.ofNat 1))))
(dV p23 (oMv (.t p37))
dE)))))))))
(dSeq (dOps (dV p2 (oMv (.c (.int .i64 (.ofNat 0))))
dE))
dRet)))), [(.t p2)]⟩
def af62 : AF := ⟨(dSeq (dOps (dV p5 (oMv (.t p1))
(dV p6 (oCvI .u64 (.t p5))
(dV p4 (oMv (.t p6))
dE))))
(dSeq (dBlock 0 (dLoop (dSeq (dSeq (dOps (dV p7 (oMv (.t p4))
(dV p8 (oAr .gtr (.t p7) (.c (.int .u64 (.ofNat 127))))
dE)))
(dCond (.t p8) dSkip (dExit 0)))
(dSeq (dBlock 1 (dOps (dV p11 (oMv (.t p0))
(dV p12 (oMv (.t p4))
(dV p13 (oCvI .u8 (.t p12))
(dV p14 (oAr .or (.t p13) (.c (.int .u8 (.ofNat 128))))
(dV p15 (oBuildS 5 1 [(.int .u8 (.ofNat 0))] [(0, 1, (.t p14))])
(dC (some p16) p94 [(.t p11), (.t p15)]
dE))))))))
(dOps (dV p9 (oMv (.t p4))
(dV p10 (oAr .shr (.t p9) (.c (.int .u64 (.ofNat 7))))
(dV p4 (oMv (.t p10))
dE))))))))
(dOps (dV p17 (oMv (.t p0))
(dV p18 (oMv (.t p4))
(dV p19 (oCvI .u8 (.t p18))
(dV p20 (oBuildS 5 1 [(.int .u8 (.ofNat 0))] [(0, 1, (.t p19))])
(dC (some p21) p94 [(.t p17), (.t p20)]
dE)))))))), []⟩
def af63 : AF := ⟨(dSeq (dOps (dV p6 (oMv (.t p0))
(dV p7 (oLen (.t p6))
(dV p8 (oMv (.c (.int .i64 (.ofNat 0))))
dE))))
(dBlock 0 (dLoop (dSeq (dOps (dV p9 (oAr .lss (.t p8) (.t p7))
dE))
(dSeq (dCond (.t p9) dSkip (dExit 0))
(dSeq (dBlock 1 (dSeq (dOps (dV p10 (oIa 17 (.t p6) (.t p8))
(dV p11 (oLdN 17 (.t p10))
(dV p5 (oNew [(.int .i64 (.ofNat 0)), (.str []), (.int .i64 (.ofNat 0)), (.int .i64 (.ofNat 0)), (.int .i64 (.ofNat 0)), (.bool false), (.str []), .nils, .nils, (.int .i64 (.ofNat 0)), (.int .i64 (.ofNat 0)), (.bool false), (.str []), .nils, .nils, (.int .i64 (.ofNat 0)), .nils] 36)
(dU (oSt 17 (.t p5) (.t p11))
dE)))))
(dOps (dV p12 (oMv (.t p1))
(dV p13 (oLdN 17 (.t p5))
(dCv (some p14) (.t p12) [(.t p13)]
dE))))))
(dOps (dV p15 (oAr .add (.t p8) (.c (.int .i64 (.ofNat 1))))
(dV p8 (oMv (.t p15))
dE))))))))), []⟩
def af64 : AF := ⟨(dSeq (dOps (dV p3 (oBox 36 (.t p1))
dE))
(dSeq (dOps (dV p4 (oMv (.t p0))
(dV p5 (oFa 0 (.t p3))
(dV p6 (oLd1 (.t p5))
(dC (some p7) p62 [(.t p4), (.t p6)]
dE)))))
(dSeq (dOps (dV p8 (oMv (.t p0))
(dV p9 (oFa 1 (.t p3))
(dV p10 (oLd1 (.t p9))
(dC (some p11) p95 [(.t p8), (.t p10)]
dE)))))
(dSeq (dOps (dV p12 (oMv (.t p0))
(dV p13 (oFa 2 (.t p3))
(dV p14 (oLd1 (.t p13))
(dC (some p15) p62 [(.t p12), (.t p14)]
dE)))))
(dSeq (dOps (dV p16 (oMv (.t p0))
(dV p17 (oFa 3 (.t p3))
(dV p18 (oLdN 6 (.t p17))
(dC (some p19) p96 [(.t p16), (.t p18)]
dE)))))
(dSeq (dOps (dV p20 (oFa 0 (.t p3))
(dV p21 (oLd1 (.t p20))
dE)))
(dBlock 0 (dSeq (dOps (dV p23 (oAr .eql (.t p21) (.c (.int .i64 (.ofNat 2))))
(dV p22 (oMv (.t p23))
dE)))
(dCond (.t p22) (dOps (dV p24 (oMv (.t p0))
(dV p25 (oFa 9 (.t p3))
(dV p26 (oLdN 6 (.t p25))
(dC (some p27) p96 [(.t p24), (.t p26)]
dE))))) (dSeq (dOps (dV p29 (oAr .eql (.t p21) (.c (.int .i64 (.ofNat 3))))
(dV p28 (oMv (.t p29))
dE)))
(dCond (.t p28) (dSeq (dOps (dV p30 (oMv (.t p0))
(dV p31 (oFa 15 (.t p3))
(dV p32 (oLd1 (.t p31))
(dC (some p33) p62 [(.t p30), (.t p32)]
dE)))))
(dSeq (dOps (dV p34 (oMv (.t p0))
(dV p35 (oFa 16 (.t p3))
(dV p36 (oLd1 (.t p35))
(dV p37 (oLen (.t p36))
(dC (some p38) p62 [(.t p34), (.t p37)]
dE))))))
(dOps (dV p39 (oFa 16 (.t p3))
(dV p40 (oLd1 (.t p39))
(dV p41 (oMv (.t p0))
(dV p42 (oMkf 98 [(.t p41)] [])
(dC (some p43) p97 [(.t p40), (.t p42)]
dE)))))))) dSkip))))))))))), []⟩
def af65 : AF := ⟨(dSeq (dOps (dV p3 (oBox 26 (.t p0))
(dV p6 (oMv (.c (.int .i64 (.ofNat 0))))
(dV p7 (oMv (.c (.int .i64 (.ofNat 0))))
dE))))
(dSeq (dOps (dV p9 (oMv (.t p1))
(dV p10 (oMv (.t p2))
(dV p11 (oBuild [(.int .i64 (.ofNat 0)), (.int .i64 (.ofNat 0))] [(0, 1, (.t p9)), (1, 1, (.t p10))])
(dV p8 (oNew [(.int .i64 (.ofNat 0)), (.int .i64 (.ofNat 0))] 187)
(dU (oSt 2 (.t p8) (.t p11))
dE))))))
(dSeq (dOps (dV p12 (oLdN 6 (.t p3))
(dV p13 (oBuild [(.int .i64 (.ofNat 0)), (.int .i64 (.ofNat 0))] [])
(dV p14 (oMkf 99 [(.t p8)] [])
(dC (some p15) p69 [(.t p12), (.t p13), (.t p14), (.c (.fn (.func 93) [] []))]
(dV p16 (oExt (.t p15) 0)
(dV p17 (oExt (.t p15) 1)
(dV p6 (oMv (.t p16))
(dV p7 (oMv (.t p17))
dE)))))))))
dRet))), [(.t p6), (.t p7)]⟩
def af66 : AF := ⟨(dSeq (dOps (dV p4 (oBox 26 (.t p0))
(dV p5 (oBox 130 (.t p1))
(dV p8 (oNew [(.int .i64 (.ofNat 0)), (.int .i64 (.ofNat 0)), (.bool false), (.str []), .nils, .nils] 26)
(dV p9 (oMv (.c (.int .i64 (.ofNat 0))))
dE)))))
(dSeq (dOps (dV p20 (oMv (.t p2))
(dV p21 (oLdN 6 (.t p4))
(dV p22 (oLdN 2 (.t p5))
(dCv (some p23) (.t p20) [(.t p21), (.t p22)]
(dV p19 (oMv (.t p23))
(dV p24 (oExt (.t p19) 0)
(dV p25 (oExt (.t p19) 1)
(dV p10 (oNew [(.int .i64 (.ofNat 0)), (.int .i64 (.ofNat 0)), (.bool false), (.str []), .nils, .nils] 26)
(dU (oSt 6 (.t p10) (.t p24))
(dV p11 (oMv (.t p25))
dE)))))))))))
(dSeq (dSeq (dOps (dV p26 (oMv (.t p11))
(dV p27 (oAr .neq (.t p26) (.c (.int .i64 (.ofNat 0))))
dE)))
(dCond (.t p27) (dSeq (dOps (dV p28 (oLdN 6 (.t p10))
(dV p29 (oMv (.t p11))
(dU (oSt 6 (.t p8) (.t p28))
(dV p9 (oMv (.t p29))
dE)))))
dRet) dSkip))
(dSeq (dSeq (dOps (dV p30 (oLdN 6 (.t p4))
(dC (some p31) p100 [(.t p30)]
(dV p32 (oMv (.c (.int .i64 (.ofNat 0))))
dE))))
(dBlock 0 (dLoop (dSeq (dOps (dV p33 (oAr .lss (.t p32) (.c (.int .i64 (.ofNat 2))))
dE))
(dSeq (dCond (.t p33) dSkip (dExit 0))
(dSeq (dBlock 1 (dSeq (dOps (dV p34 (oMv (.t p32))
(dV p35 (oIx1 2 (.t p31) (.t p32))
(dV p12 (oMv (.t p34))
(dV p13 (oMv (.t p35))
dE)))))
(dSeq (dOps (dV p36 (oFa 0 (.t p5))
(dV p37 (oLd1 (.t p36))
(dV p38 (oMv (.t p12))
(dV p39 (oAr .add (.t p37) (.t p38))
(dV p40 (oFa 1 (.t p5))
(dV p41 (oLd1 (.t p40))
(dV p42 (oAr .add (.t p41) (.c (.int .i64 (.ofNat 1))))
(dV p43 (oBuild [(.int .i64 (.ofNat 0)), (.int .i64 (.ofNat 0))] [(0, 1, (.t p39)), (1, 1, (.t p42))])
(dV p14 (oNew [(.int .i64 (.ofNat 0)), (.int .i64 (.ofNat 0))] 130)
(dU (oSt 2 (.t p14) (.t p43))
dE)))))))))))
(dSeq (dOps (dV p44 (oMv (.t p13))
(dV p45 (oLen (.t p44))
(dV p46 (oMv (.c (.int .i64 (.ofNat 0))))
dE))))
(dBlock 2 (dLoop (dSeq (dOps (dV p47 (oAr .lss (.t p46) (.t p45))
dE))
(dSeq (dCond (.t p47) dSkip (dExit 2))
(dSeq (dBlock 3 (dSeq (dOps (dV p48 (oIa 6 (.t p44) (.t p46))
(dV p49 (oLdN 6 (.t p48))
(dV p16 (oNew [(.int .i64 (.ofNat 0)), (.int .i64 (.ofNat 0)), (.bool false), (.str []), .nils, .nils] 26)
(dU (oSt 6 (.t p16) (.t p49))
dE)))))
(dSeq (dOps (dV p51 (oLdN 6 (.t p16))
(dV p52 (oLdN 2 (.t p14))
(dV p53 (oMv (.t p2))
(dV p54 (oMv (.t p3))
(dC (some p55) p66 [(.t p51), (.t p52), (.t p53), (.t p54)]
(dV p50 (oMv (.t p55))
(dV p56 (oExt (.t p50) 0)
(dV p57 (oExt (.t p50) 1)
(dV p17 (oNew [(.int .i64 (.ofNat 0)), (.int .i64 (.ofNat 0)), (.bool false), (.str []), .nils, .nils] 26)
(dU (oSt 6 (.t p17) (.t p56))
(dV p18 (oMv (.t p57))
dE))))))))))))
(dSeq (dSeq (dOps (dV p58 (oMv (.t p18))
(dV p59 (oAr .neq (.t p58) (.c (.int .i64 (.ofNat 0))))
dE)))
(dCond (.t p59) (dSeq (dOps (dV p60 (oLdN 6 (.t p10))
(dV p61 (oMv (.t p18))
(dU (oSt 6 (.t p8) (.t p60))
(dV p9 (oMv (.t p61))
dE)))))
dRet) dSkip))
(dOps (dV p62 (oMv (.t p3))
(dV p63 (oLdN 6 (.t p10))
(dV p64 (oLdN 6 (.t p17))
(dCv (some p65) (.t p62) [(.t p63), (.t p64)]
(dU (oSt 6 (.t p10) (.t p65))
dE))))))))))
(dOps (dV p66 (oAr .add (.t p46) (.c (.int .i64 (.ofNat 1))))
(dV p46 (oMv (.t p66))
dE))))))))))))
(dOps (dV p67 (oAr .add (.t p32) (.c (.int .i64 (.ofNat 1))))
(dV p32 (oMv (.t p67))
dE)))))))))
(dSeq (dOps (dV p68 (oLdN 6 (.t p10))
(dU (oSt 6 (.t p8) (.t p68))
(dV p9 (oMv (.c (.int .i64 (.ofNat 0))))
dE))))
dRet))))), [(.cN p8 6), (.t p9)]⟩
def af67 : AF := ⟨(dSeq (dOps (dV p2 (oBox 26 (.t p0))
(dV p3 (oBox 130 (.t p1))
(dV p4 (oNew [(.int .i64 (.ofNat 0)), (.int .i64 (.ofNat 0)), (.bool false), (.str []), .nils, .nils] 26)
(dV p5 (oMv (.c (.int .i64 (.ofNat 0))))
dE)))))
(dSeq (dOps (dV p6 (oLdN 6 (.t p2))
(dC (some p7) p101 [(.t p6)]
(dU (oSt 6 (.t p4) (.t p7))
(dV p5 (oMv (.c (.int .i64 (.ofNat 0))))
dE)))))
dRet)), [(.cN p4 6), (.t p5)]⟩
def af68 : AF := ⟨(dSeq (dOps (dV p2 (oBox 26 (.t p0))
(dV p3 (oBox 26 (.t p1))
(dV p4 (oNew [(.int .i64 (.ofNat 0)), (.int .i64 (.ofNat 0)), (.bool false), (.str []), .nils, .nils] 26)
dE))))
(dSeq (dOps (dV p5 (oFa 5 (.t p2))
(dV p6 (oLd1 (.t p5))
(dV p7 (oLdN 6 (.t p3))
(dV p8 (oBuildS 26 1 [(.int .i64 (.ofNat 0)), (.int .i64 (.ofNat 0)), (.bool false), (.str []), .nils, .nils] [(0, 6, (.t p7))])
(dV p9 (oApp 26 6 (.t p6) (.t p8))
(dV p10 (oFa 5 (.t p2))
(dU (oSt 1 (.t p10) (.t p9))
dE))))))))
(dSeq (dOps (dV p11 (oLdN 6 (.t p2))
(dU (oSt 6 (.t p4) (.t p11))
dE)))
dRet))), [(.cN p4 6)]⟩
def af69 : AF := ⟨(dSeq (dOps (dV p4 (oBox 26 (.t p0))
(dV p5 (oBox 130 (.t p1))
(dV p8 (oMv (.c (.int .i64 (.ofNat 0))))
(dV p9 (oMv (.c (.int .i64 (.ofNat 0))))
dE)))))
(dSeq (dOps (dV p20 (oMv (.t p2))
(dV p21 (oLdN 6 (.t p4))
(dV p22 (oLdN 2 (.t p5))
(dCv (some p23) (.t p20) [(.t p21), (.t p22)]
(dV p19 (oMv (.t p23))
(dV p24 (oExt (.t p19) 0)
(dV p25 (oExt (.t p19) 1)
(dV p10 (oMv (.t p24))
(dV p11 (oMv (.t p25))
dE))))))))))
(dSeq (dSeq (dOps (dV p26 (oMv (.t p11))
(dV p27 (oAr .neq (.t p26) (.c (.int .i64 (.ofNat 0))))
dE)))
(dCond (.t p27) (dSeq (dOps (dV p28 (oMv (.t p10))
(dV p29 (oMv (.t p11))
(dV p8 (oMv (.t p28))
(dV p9 (oMv (.t p29))
dE)))))
dRet) dSkip))
(dSeq (dSeq (dOps (dV p30 (oLdN 6 (.t p4))
(dC (some p31) p100 [(.t p30)]
(dV p32 (oMv (.c (.int .i64 (.ofNat 0))))
dE))))
(dBlock 0 (dLoop (dSeq (dOps (dV p33 (oAr .lss (.t p32) (.c (.int .i64 (.ofNat 2))))
dE))
(dSeq (dCond (.t p33) dSkip (dExit 0))
(dSeq (dBlock 1 (dSeq (dOps (dV p34 (oMv (.t p32))
(dV p35 (oIx1 2 (.t p31) (.t p32))
(dV p12 (oMv (.t p34))
(dV p13 (oMv (.t p35))
dE)))))
(dSeq (dOps (dV p36 (oFa 0 (.t p5))
(dV p37 (oLd1 (.t p36))
(dV p38 (oMv (.t p12))
(dV p39 (oAr .add (.t p37) (.t p38))
(dV p40 (oFa 1 (.t p5))
(dV p41 (oLd1 (.t p40))
(dV p42 (oAr .add (.t p41) (.c (.int .i64 (.ofNat 1))))
(dV p43 (oBuild [(.int .i64 (.ofNat 0)), (.int .i64 (.ofNat 0))] [(0, 1, (.t p39)), (1, 1, (.t p42))])
(dV p14 (oNew [(.int .i64 (.ofNat 0)), (.int .i64 (.ofNat 0))] 130)
(dU (oSt 2 (.t p14) (.t p43))
dE)))))))))))
(dSeq (dOps (dV p44 (oMv (.t p13))
(dV p45 (oLen (.t p44))
(dV p46 (oMv (.c (.int .i64 (.ofNat 0))))
dE))))
(dBlock 2 (dLoop (dSeq (dOps (dV p47 (oAr .lss (.t p46) (.t p45))
dE))
(dSeq (dCond (.t p47) dSkip (dExit 2))
(dSeq (dBlock 3 (dSeq (dOps (dV p48 (oIa 6 (.t p44) (.t p46))
(dV p49 (oLdN 6 (.t p48))
(dV p16 (oNew [(.int .i64 (.ofNat 0)), (.int .i64 (.ofNat 0)), (.bool false), (.str []), .nils, .nils] 26)
(dU (oSt 6 (.t p16) (.t p49))
dE)))))
(dSeq (dOps (dV p51 (oLdN 6 (.t p16))
(dV p52 (oLdN 2 (.t p14))
(dV p53 (oMv (.t p2))
(dV p54 (oMv (.t p3))
(dC (some p55) p69 [(.t p51), (.t p52), (.t p53), (.t p54)]
(dV p50 (oMv (.t p55))
(dV p56 (oExt (.t p50) 0)
(dV p57 (oExt (.t p50) 1)
(dV p17 (oMv (.t p56))
(dV p18 (oMv (.t p57))
dE)))))))))))
(dSeq (dSeq (dOps (dV p58 (oMv (.t p18))
(dV p59 (oAr .neq (.t p58) (.c (.int .i64 (.ofNat 0))))
dE)))
(dCond (.t p59) (dSeq (dOps (dV p60 (oMv (.t p10))
(dV p61 (oMv (.t p18))
(dV p8 (oMv (.t p60))
(dV p9 (oMv (.t p61))
dE)))))
dRet) dSkip))
(dOps (dV p62 (oMv (.t p3))
(dV p63 (oMv (.t p10))
(dV p64 (oMv (.t p17))
(dCv (some p65) (.t p62) [(.t p63), (.t p64)]
(dV p10 (oMv (.t p65))
dE))))))))))
(dOps (dV p66 (oAr .add (.t p46) (.c (.int .i64 (.ofNat 1))))
(dV p46 (oMv (.t p66))
dE))))))))))))
(dOps (dV p67 (oAr .add (.t p32) (.c (.int .i64 (.ofNat 1))))
(dV p32 (oMv (.t p67))
dE)))))))))
(dSeq (dOps (dV p68 (oMv (.t p10))
(dV p8 (oMv (.t p68))
(dV p9 (oMv (.c (.int .i64 (.ofNat 0))))
dE))))
dRet))))), [(.t p8), (.t p9)]⟩
def af70 : AF := ⟨(dSeq (dOps (dV p2 (oBox 26 (.t p0))
(dV p3 (oBox 130 (.t p1))
(dV p4 (oMv (.c (.int .i64 (.ofNat 0))))
(dV p5 (oMv (.c (.int .i64 (.ofNat 0))))
dE)))))
(dSeq (dSeq (dOps (dV p6 (oFa 0 (.t p2))
(dV p7 (oLd1 (.t p6))
(dV p8 (oAr .neq (.t p7) (.c (.int .i64 (.ofNat 1))))
dE))))
(dCond (.t p8) (dSeq (dOps (dV p4 (oMv (.c (.int .i64 (.ofNat 0))))
(dV p5 (oMv (.c (.int .i64 (.ofNat 0))))
dE)))
dRet) dSkip))
(dSeq (dOps (dV p9 (oFa 1 (.t p2))
(dV p10 (oLd1 (.t p9))
(dV p11 (oFa 0 (.t p3))
(dV p12 (oLd1 (.t p11))
(dV p13 (oAr .sub (.t p10) (.t p12))
(dV p14 (oAr .add (.t p13) (.c (.int .i64 (.ofNat 1))))
(dV p15 (oMm true [(.c (.int .i64 (.ofNat 0))), (.t p14)])
(dV p4 (oMv (.t p15))
(dV p5 (oMv (.c (.int .i64 (.ofNat 0))))
dE))))))))))
dRet))), [(.t p4), (.t p5)]⟩
def af71 : AF := ⟨(dSeq (dOps (dV p4 (oMv (.c (.int .i64 (.ofNat 0))))
dE))
(dSeq (dOps (dV p5 (oMv (.t p0))
(dV p6 (oMv (.t p1))
(dV p7 (oMm true [(.t p5), (.t p6)])
(dV p4 (oMv (.t p7))
dE)))))
dRet)), [(.t p4)]⟩
def af72 : AF := ⟨(dSeq (dOps (dV p4 (oNew [.nilp] 137)
dE))
(dSeq (dOps (dV p5 (oMv (.t p0))
(dV p6 (oMv (.t p1))
(dC (some p7) p102 [(.t p5), (.t p6)]
(dV p8 (oBuild [.nilp] [(0, 1, (.t p7))])
(dU (oSt 1 (.t p4) (.t p8))
dE))))))
dRet)), [(.cN p4 1)]⟩
def af73 : AF := ⟨(dSeq (dOps (dV p1 (oBox 137 (.t p0))
(dV p2 (oMv (.c .nilp))
dE)))
(dSeq (dDraw (sN p3 ⟨(some p3), (.v (.ldN 1 (.t p1))), none⟩
(sA 1 p4 (.mkM)
(sE [] [(p3, ⟨(some p3), (.v (.ldN 1 (.t p1))), none⟩)] ⟨(some p5), (.call p103 []), none⟩
(sN p6 ⟨(some p6), (.v (.build [.nilp, .nils, .nilm, .nilf, .nilf, .nilf, .nilf, .nilf, .nilf, .nilf, .nilf, .nilf, .nilf, .nilf, .nilf] [(0, 1, (.t p3)), (2, 1, (.t p4)), (3, 12, (.t p5))])), none⟩
(sA 4 p7 (.box 200 (.t p6))
(sN p2 ⟨(some p2), (.v (.mv (.t p7))), none⟩
sEnd)))))))
dRet)), [(.t p2)]⟩
def af74 : AF := ⟨(dSeq (dOps (dV p0 (oNew [.nilf, .nilf, .nilf, .nilf, .nilf, .nilf, .nilf, .nilf, .nilf, .nilf, .nilf, .nilf] 144)
dE))
(dSeq (dOps (dV p1 (oBuild [.nilf, .nilf, .nilf, .nilf, .nilf, .nilf, .nilf, .nilf, .nilf, .nilf, .nilf, .nilf] [(1, 1, (.c (.fn (.func 104) [] []))), (2, 1, (.c (.fn (.func 105) [] []))), (3, 1, (.c (.fn (.func 106) [] []))), (4, 1, (.c (.fn (.func 107) [] []))), (5, 1, (.c (.fn (.func 108) [] []))), (6, 1, (.c (.fn (.func 106) [] []))), (7, 1, (.c (.fn (.func 109) [] []))), (8, 1, (.c (.fn (.func 110) [] []))), (9, 1, (.c (.fn (.func 111) [] []))), (10, 1, (.c (.fn (.func 112) [] []))), (11, 1, (.c (.fn (.func 113) [] [])))])
(dU (oSt 12 (.t p0) (.t p1))
dE)))
dRet)), [(.cN p0 12)]⟩
def af75 : AF := ⟨(dSeq (dOps (dV p2 (oBox 94 (.t p0))
(dV p3 (oBox 26 (.t p1))
(dV p4 (oNew [.nilp, .nilp, (.int .i64 (.ofNat 0)), .nilp, .nilp] 155)
dE))))
(dSeq (dDraw (sN p5 ⟨(some p5), (.v (.fa 0 (.t p2))), none⟩
(sN p6 ⟨(some p6), (.v (.ld1 (.t p5))), none⟩
(sN p7 ⟨(some p7), (.v (.fa 1 (.t p2))), none⟩
(sN p8 ⟨(some p8), (.v (.ldN 3 (.t p7))), none⟩
(sN p9 ⟨(some p9), (.v (.fa 1 (.t p2))), none⟩
(sN p10 ⟨(some p10), (.v (.fa 0 (.t p9))), none⟩
(sN p11 ⟨(some p11), (.v (.ldN 2 (.t p10))), none⟩
(sN p12 ⟨(some p12), (.v (.ldN 6 (.t p3))), none⟩
(sE [] [(p6, ⟨(some p6), (.v (.ld1 (.t p5))), none⟩), (p8, ⟨(some p8), (.v (.ldN 3 (.t p7))), none⟩)] ⟨(some p13), (.call p80 [(.t p11), (.t p12)]), none⟩
(sN p14 ⟨(some p14), (.v (.build [.nilp, .nilp, (.int .i64 (.ofNat 0)), .nilp, .nilp] [(0, 1, (.t p6)), (1, 3, (.t p8)), (4, 1, (.t p13))])), none⟩
(sE [] [] ⟨none, (.v (.st 5 (.t p4) (.t p14))), none⟩
sEnd))))))))))))
dRet)), [(.cN p4 5)]⟩
def af76 : AF := ⟨(dSeq (dOps (dV p1 (oBox 155 (.t p0))
(dV p2 (oNew [(.int .i64 (.ofNat 0)), .nils] 49)
(dV p3 (oMv (.c .nili))
dE))))
(dSeq (dOps (dV p7 (oLdN 5 (.t p1))
(dC (some p8) p114 [(.t p7), (.c (.int .i64 (.ofNat 2))), (.c (.int .i64 (.ofNat 16)))]
(dV p6 (oMv (.t p8))
(dV p9 (oExt (.t p6) 0)
(dV p10 (oExt (.t p6) 1)
(dV p4 (oNew [.nilp] 204)
(dU (oSt 1 (.t p4) (.t p9))
(dV p5 (oMv (.t p10))
dE)))))))))
(dSeq (dSeq (dOps (dV p11 (oMv (.t p5))
(dV p12 (oEq .i true (.t p11) (.c .nili))
dE)))
(dCond (.t p12) (dSeq (dOps (dV p13 (oBuild [(.int .i64 (.ofNat 0)), .nils] [])
(dV p14 (oMv (.t p5))
(dU (oSt 2 (.t p2) (.t p13))
(dV p3 (oMv (.t p14))
dE)))))
dRet) dSkip))
(dSeq (dOps (dV p15 (oLdN 1 (.t p4))
(dC (some p16) p115 [(.t p15)]
(dV p17 (oFld1 4 (.t p16))
(dV p18 (oIa 2 (.t p17) (.c (.int .i64 (.ofNat 0))))
(dV p19 (oLdN 2 (.t p18))
(dU (oSt 2 (.t p2) (.t p19))
(dV p3 (oMv (.c .nili))
dE))))))))
dRet)))), [(.cN p2 2), (.t p3)]⟩
def af77 : AF := ⟨(dSeq (dOps (dV p2 (oMv (.c (.int .i64 (.ofNat 0))))
dE))
(dSeq (dSeq (dOps (dV p4 (oMv (.t p0))
(dV p5 (oEq .i false (.t p4) (.c .nili))
dE)))
(dCond (.t p5) (dSeq (dOps (dV p2 (oMv (.c (.int .i64 (.ofNat 0))))
dE))
dRet) dSkip))
(dSeq (dOps (dV p6 (oBuild [(.int .i64 (.ofNat 0))] [(0, 1, (.c (.int .i64 (.ofNat 10))))])
(dV p3 (oNew [(.int .i64 (.ofNat 0))] 209)
(dU (oSt 1 (.t p3) (.t p6))
dE))))
(dSeq (dOps (dV p7 (oMv (.t p0))
(dV p8 (oMki 211 (.t p3))
(dC (some p9) p116 [(.t p7), (.t p8)]
dE))))
(dSeq (dOps (dV p10 (oFa 0 (.t p3))
(dV p11 (oLd1 (.t p10))
(dV p2 (oMv (.t p11))
dE))))
dRet))))), [(.t p2)]⟩
def af78 : AF := ⟨(dSeq (dOps (dV p1 (oBox 49 (.t p0))
(dV p2 (oNew [(.int .i64 (.ofNat 0)), .nils] 49)
(dV p3 (oMv (.c (.int .i64 (.ofNat 0))))
dE))))
(dSeq (dSeq (dOps (dV p4 (oLdN 2 (.t p1))
(dC (some p5) p117 [(.t p4)]
(dV p6 (oUn .not (.t p5))
dE))))
(dCond (.t p6) (dSeq (dOps (dV p7 (oBuild [(.int .i64 (.ofNat 0)), .nils] [])
(dU (oSt 2 (.t p2) (.t p7))
(dV p3 (oMv (.c (.int .i64 (.ofNat 13))))
dE))))
dRet) dSkip))
(dSeq (dOps (dV p8 (oFa 0 (.t p1))
(dV p9 (oLd1 (.t p8))
(dV p10 (oFa 1 (.t p1))
(dV p11 (oLd1 (.t p10))
(dC (some p12) p118 [(.t p9), (.t p11)]
(dV p13 (oExt (.t p12) 0)
(dV p14 (oExt (.t p12) 1)
(dU (oSt 2 (.t p2) (.t p13))
(dV p3 (oMv (.t p14))
dE))))))))))
dRet))), [(.cN p2 2), (.t p3)]⟩
def af79 : AF := ⟨(dSeq (dOps (dV p2 (oBox 155 (.t p0))
(dV p3 (oBox 153 (.t p1))
(dV p4 (oMv (.c .nili))
dE))))
(dSeq (dSeq (dOps (dV p10 (oLdN 5 (.t p2))
(dV p11 (oLdN 1 (.t p3))
(dC (some p12) p119 [(.t p10), (.t p11)]
(dV p5 (oMv (.t p12))
dE)))))
(dSeq (dOps (dV p13 (oMv (.t p5))
(dV p14 (oEq .i true (.t p13) (.c .nili))
dE)))
(dCond (.t p14) (dSeq (dOps (dV p15 (oMv (.t p5))
(dV p4 (oMv (.t p15))
dE)))
dRet) dSkip)))
(dSeq (dOps (dV p17 (oLdN 5 (.t p2))
(dC (some p18) p120 [(.t p17)]
(dV p16 (oMv (.t p18))
(dV p19 (oExt (.t p16) 0)
(dV p20 (oExt (.t p16) 1)
(dV p6 (oNew [.nilp] 153)
(dU (oSt 1 (.t p6) (.t p19))
(dV p7 (oMv (.t p20))
dE)))))))))
(dSeq (dSeq (dOps (dV p21 (oMv (.t p7))
(dV p22 (oEq .i true (.t p21) (.c .nili))
dE)))
(dCond (.t p22) (dSeq (dOps (dV p23 (oMv (.t p7))
(dV p4 (oMv (.t p23))
dE)))
dRet) dSkip))
(dSeq (dOps (dV p25 (oMkf 122 [] [(.t p2), (.t p6), (.t p3)])
(dC (some p26) p121 [(.t p25)]
(dV p24 (oMv (.t p26))
(dV p27 (oExt (.t p24) 0)
(dV p28 (oExt (.t p24) 1)
(dV p8 (oMv (.t p27))
(dV p9 (oMv (.t p28))
dE))))))))
(dSeq (dSeq (dOps (dV p29 (oMv (.t p9))
(dV p30 (oAr .eql (.t p29) (.c (.int .i64 (.ofNat 0))))
(dV p31 (oMv (.t p30))
(dG p31 true (some p32) (dV p32 (oMv (.t p8)))
(dG p31 true (some p33) (dV p33 (oUn .not (.t p32)))
(dV p34 (oPick (.t p31) (.t p33) (.c (.bool false)))
dE)))))))
(dCond (.t p34) (dOps (dV p9 (oMv (.c (.int .i64 (.ofNat 17))))
dE)) dSkip))
(dSeq (dOps (dV p35 (oMv (.t p9))
(dC (some p36) p125 [(.t p35)]
(dV p4 (oMv (.t p36))
dE))))
dRet))))))), [(.t p4)]⟩
def af80 : AF := ⟨(dSeq (dOps (dV p2 (oBox 87 (.t p0))
(dV p3 (oBox 26 (.t p1))
(dV p4 (oNew [.nilp] 153)
dE))))
(dSeq (dDraw (sN p5 ⟨(some p5), (.v (.fa 0 (.t p2))), none⟩
(sN p6 ⟨(some p6), (.v (.ldN 2 (.t p5))), none⟩
(sN p7 ⟨(some p7), (.v (.ldN 6 (.t p3))), none⟩
(sE [] [(p6, ⟨(some p6), (.v (.ldN 2 (.t p5))), none⟩)] ⟨(some p8), (.call p126 [(.t p7)]), none⟩
(sN p9 ⟨(some p9), (.v (.build [.nilp, (.int .i64 (.ofNat 0)), .nilp] [(0, 2, (.t p6)), (2, 1, (.t p8))])), none⟩
(sE [] [] ⟨(some p10), (.call p127 [(.t p9)]), none⟩
(sN p11 ⟨(some p11), (.v (.build [.nilp] [(0, 1, (.t p10))])), none⟩
(sE [] [] ⟨none, (.v (.st 1 (.t p4) (.t p11))), none⟩
sEnd)))))))))
dRet)), [(.cN p4 1)]⟩
def af81 : AF := ⟨(dSeq (dOps (dV p1 (oBox 36 (.t p0))
(dV p2 (oNew [(.int .i64 (.ofNat 0)), (.str []), (.int .i64 (.ofNat 0)), (.int .i64 (.ofNat 0)), (.int .i64 (.ofNat 0)), (.bool false), (.str []), .nils, .nils, (.int .i64 (.ofNat 0)), (.int .i64 (.ofNat 0)), (.bool false), (.str []), .nils, .nils, (.int .i64 (.ofNat 0)), .nils, .nils, .nils, (.int .i64 (.ofNat 0)), .nils] 163)
(dV p3 (oMv (.c (.int .i64 (.ofNat 0))))
dE))))
(dSeq (dOps (dV p4 (oMv (.c .nils))
dE))
(dSeq (dOps (dV p5 (oNew [(.int .i64 (.ofNat 0)), (.int .i64 (.ofNat 0)), (.bool false), (.str []), .nils, .nils] 26)
dE))
(dSeq (dSeq (dOps (dV p9 (oLdN 17 (.t p1))
(dV p10 (oBuildS 36 1 [(.int .i64 (.ofNat 0)), (.str []), (.int .i64 (.ofNat 0)), (.int .i64 (.ofNat 0)), (.int .i64 (.ofNat 0)), (.bool false), (.str []), .nils, .nils, (.int .i64 (.ofNat 0)), (.int .i64 (.ofNat 0)), (.bool false), (.str []), .nils, .nils, (.int .i64 (.ofNat 0)), .nils] [(0, 17, (.t p9))])
(dC (some p11) p25 [(.t p10)]
(dV p8 (oMv (.t p11))
(dV p12 (oExt (.t p8) 0)
(dV p13 (oExt (.t p8) 1)
(dV p6 (oMv (.t p12))
(dV p7 (oMv (.t p13))
dE)))))))))
(dSeq (dOps (dV p14 (oMv (.t p7))
(dV p15 (oAr .neq (.t p14) (.c (.int .i64 (.ofNat 0))))
dE)))
(dCond (.t p15) (dSeq (dOps (dV p16 (oBuild [(.int .i64 (.ofNat 0)), (.str []), (.int .i64 (.ofNat 0)), (.int .i64 (.ofNat 0)), (.int .i64 (.ofNat 0)), (.bool false), (.str []), .nils, .nils, (.int .i64 (.ofNat 0)), (.int .i64 (.ofNat 0)), (.bool false), (.str []), .nils, .nils, (.int .i64 (.ofNat 0)), .nils, .nils, .nils, (.int .i64 (.ofNat 0)), .nils] [])
(dV p17 (oMv (.t p7))
(dU (oSt 21 (.t p2) (.t p16))
(dV p3 (oMv (.t p17))
dE)))))
dRet) dSkip)))
(dSeq (dSeq (dOps (dV p18 (oFa 0 (.t p1))
(dV p19 (oLd1 (.t p18))
(dV p20 (oAr .neq (.t p19) (.c (.int .i64 (.ofNat 3))))
dE))))
(dCond (.t p20) dNo dSkip))
(dSeq (dOps (dV p22 (oFa 3 (.t p1))
(dV p23 (oLdN 6 (.t p22))
(dC (some p24) p128 [(.t p23)]
(dV p21 (oMv (.t p24))
(dV p25 (oExt (.t p21) 0)
(dV p26 (oExt (.t p21) 1)
(dV p4 (oMv (.t p25))
(dU (oSt 6 (.t p5) (.t p26))
dE)))))))))
(dSeq (dSeq (dOps (dV p27 (oMv (.t p4))
(dV p28 (oLen (.t p27))
(dV p29 (oFa 15 (.t p1))
(dV p30 (oLd1 (.t p29))
(dV p31 (oAr .lss (.t p28) (.t p30))
(dV p32 (oMv (.t p31))
(dG p32 false (some p33) (dV p33 (oFa 0 (.t p5)))
(dG p32 false (some p34) (dV p34 (oLd1 (.t p33)))
(dG p32 false (some p35) (dV p35 (oAr .neq (.t p34) (.c (.int .i64 (.ofNat 2)))))
(dV p36 (oPick (.t p32) (.c (.bool true)) (.t p35))
dE)))))))))))
(dCond (.t p36) dNo dSkip))
(dSeq (dSeq (dDraw (sN p37 ⟨(some p37), (.v (.ldN 17 (.t p1))), none⟩
(sN p38 ⟨(some p38), (.v (.mv (.t p4))), none⟩
(sN p39 ⟨(some p39), (.v (.fa 15 (.t p1))), none⟩
(sN p40 ⟨(some p40), (.v (.ld1 (.t p39))), none⟩
(sN p41 ⟨(some p41), (.v (.sl 6 (.t p38) none (some (.t p40)) none)), none⟩
(sN p43 ⟨(some p43), (.v (.mv (.t p4))), none⟩
(sN p44 ⟨(some p44), (.v (.fa 15 (.t p1))), none⟩
(sN p45 ⟨(some p45), (.v (.ld1 (.t p44))), none⟩
(sN p46 ⟨(some p46), (.v (.sl 6 (.t p43) (some (.t p45)) none none)), none⟩
(sN p48 ⟨(some p48), (.v (.fa 4 (.t p5))), none⟩
(sN p49 ⟨(some p49), (.v (.ld1 (.t p48))), none⟩
(sN p50 ⟨(some p50), (.v (.ia 2 (.t p49) (.c (.int .i64 (.ofNat 0))))), none⟩
(sN p51 ⟨(some p51), (.v (.ldN 2 (.t p50))), none⟩
(sE [] [(p37, ⟨(some p37), (.v (.ldN 17 (.t p1))), none⟩), (p45, ⟨(some p45), (.v (.ld1 (.t p44))), none⟩), (p49, ⟨(some p49), (.v (.ld1 (.t p48))), none⟩), (p51, ⟨(some p51), (.v (.ldN 2 (.t p50))), none⟩)] ⟨(some p42), (.call p129 [(.t p41)]), none⟩
(sE [] [(p37, ⟨(some p37), (.v (.ldN 17 (.t p1))), none⟩), (p49, ⟨(some p49), (.v (.ld1 (.t p48))), none⟩), (p51, ⟨(some p51), (.v (.ldN 2 (.t p50))), none⟩)] ⟨(some p47), (.call p129 [(.t p46)]), none⟩
(sN p52 ⟨(some p52), (.v (.build [(.int .i64 (.ofNat 0)), (.str []), (.int .i64 (.ofNat 0)), (.int .i64 (.ofNat 0)), (.int .i64 (.ofNat 0)), (.bool false), (.str []), .nils, .nils, (.int .i64 (.ofNat 0)), (.int .i64 (.ofNat 0)), (.bool false), (.str []), .nils, .nils, (.int .i64 (.ofNat 0)), .nils, .nils, .nils, (.int .i64 (.ofNat 0)), .nils] [(0, 17, (.t p37)), (17, 1, (.t p42)), (18, 1, (.t p47)), (19, 2, (.t p51))])), none⟩
(sE [] [] ⟨none, (.v (.st 21 (.t p2) (.t p52))), none⟩
(sN p3 ⟨(some p3), (.v (.mv (.c (.int .i64 (.ofNat 0))))), none⟩
sEnd)))))))))))))))))))
dRet)
(dSeq dSkip
(dSeq (dOps (dV p53 (oBuild [(.int .i64 (.ofNat 0)), (.str []), (.int .i64 (.ofNat 0)), (.int .i64 (.ofNat 0)), (.int .i64 (.ofNat 0)), (.bool false), (.str []), .nils, .nils, (.int .i64 (.ofNat 0)), (.int .i64 (.ofNat 0)), (.bool false), (.str []), .nils, .nils, (.int .i64 (.ofNat 0)), .nils, .nils, .nils, (.int .i64 (.ofNat 0)), .nils] [])
(dU (oSt 21 (.t p2) (.t p53))
(dV p3 (oMv (.c (.int .i64 (.ofNat 21))))
dE))))
dRet)))))))))), [(.cN p2 21), (.t p3)]⟩
def af82 : AF := ⟨(dSeq (dOps (dV p2 (oMv (.c .nils))
dE))
(dSeq (dSeq (dOps (dV p3 (oMv (.t p0))
(dV p4 (oEq .s false (.t p3) (.c .nils))
dE)))
(dCond (.t p4) (dSeq (dOps (dV p2 (oMv (.c .nils))
dE))
dRet) dSkip))
(dSeq (dOps (dV p5 (oBuildS 36 0 [] [])
(dV p6 (oMv (.t p0))
(dV p7 (oApp 36 17 (.t p5) (.t p6))
(dV p2 (oMv (.t p7))
dE)))))
dRet))), [(.t p2)]⟩
def af83 : AF := ⟨(dSeq (dOps (dV p2 (oNew [.nilm] 53)
dE))
(dSeq (dOps (dV p3 (oMv (.t p0))
(dV p4 (oNchk (.t p3))
(dV p5 (oFa 0 (.t p4))
(dV p6 (oLd1 (.t p5))
(dC (some p7) p130 [(.t p6)]
(dV p8 (oBuild [.nilm] [(0, 1, (.t p7))])
(dU (oSt 1 (.t p2) (.t p8))
dE))))))))
dRet)), [(.cN p2 1)]⟩
def af84 : AF := ⟨(dSeq (dOps (dV p1 (oBox 137 (.t p0))
(dV p2 (oMv (.c (.int .i64 (.ofNat 0))))
dE)))
(dSeq (dOps (dV p3 (oFa 0 (.t p1))
(dV p4 (oLd1 (.t p3))
(dV p5 (oNchk (.t p4))
(dV p6 (oFa 1 (.t p5))
(dV p7 (oLd1 (.t p6))
(dV p2 (oMv (.t p7))
dE)))))))
dRet)), [(.t p2)]⟩
def af85 : AF := ⟨(dSeq (dOps (dV p2 (oBox 36 (.t p0))
(dV p4 (oNew [(.int .i64 (.ofNat 0)), (.str []), (.int .i64 (.ofNat 0)), (.int .i64 (.ofNat 0)), (.int .i64 (.ofNat 0)), (.bool false), (.str []), .nils, .nils, (.int .i64 (.ofNat 0)), (.int .i64 (.ofNat 0)), (.bool false), (.str []), .nils, .nils, (.int .i64 (.ofNat 0)), .nils, .nils, .nils, (.int .i64 (.ofNat 0)), .nils] 163)
(dV p5 (oNew [(.str []), .nils, .nils, .nils] 170)
(dV p6 (oMv (.c (.int .i64 (.ofNat 0))))
dE)))))
(dSeq (dOps (dV p11 (oLdN 17 (.t p2))
(dC (some p12) p81 [(.t p11)]
(dV p10 (oMv (.t p12))
(dV p13 (oExt (.t p10) 0)
(dV p14 (oExt (.t p10) 1)
(dV p7 (oNew [(.int .i64 (.ofNat 0)), (.str []), (.int .i64 (.ofNat 0)), (.int .i64 (.ofNat 0)), (.int .i64 (.ofNat 0)), (.bool false), (.str []), .nils, .nils, (.int .i64 (.ofNat 0)), (.int .i64 (.ofNat 0)), (.bool false), (.str []), .nils, .nils, (.int .i64 (.ofNat 0)), .nils, .nils, .nils, (.int .i64 (.ofNat 0)), .nils] 163)
(dU (oSt 21 (.t p7) (.t p13))
(dV p8 (oMv (.t p14))
dE)))))))))
(dSeq (dSeq (dOps (dV p15 (oMv (.t p8))
(dV p16 (oAr .neq (.t p15) (.c (.int .i64 (.ofNat 0))))
dE)))
(dCond (.t p16) (dSeq (dOps (dV p17 (oBuild [(.int .i64 (.ofNat 0)), (.str []), (.int .i64 (.ofNat 0)), (.int .i64 (.ofNat 0)), (.int .i64 (.ofNat 0)), (.bool false), (.str []), .nils, .nils, (.int .i64 (.ofNat 0)), (.int .i64 (.ofNat 0)), (.bool false), (.str []), .nils, .nils, (.int .i64 (.ofNat 0)), .nils, .nils, .nils, (.int .i64 (.ofNat 0)), .nils] [])
(dV p18 (oBuild [(.str []), .nils, .nils, .nils] [])
(dV p19 (oMv (.t p8))
(dU (oSt 21 (.t p4) (.t p17))
(dU (oSt 4 (.t p5) (.t p18))
(dV p6 (oMv (.t p19))
dE)))))))
dRet) dSkip))
(dSeq (dSeq (dOps (dV p20 (oMv (.t p1))
(dV p21 (oAr .lss (.t p20) (.c (.int .i64 (.ofNat 0))))
(dV p22 (oMv (.t p21))
(dG p22 false (some p23) (dV p23 (oMv (.t p1)))
(dG p22 false (some p24) (dV p24 (oFa 16 (.t p2)))
(dG p22 false (some p25) (dV p25 (oLd1 (.t p24)))
(dG p22 false (some p26) (dV p26 (oLen (.t p25)))
(dG p22 false (some p27) (dV p27 (oAr .geq (.t p23) (.t p26)))
(dV p28 (oPick (.t p22) (.c (.bool true)) (.t p27))
dE))))))))))
(dCond (.t p28) (dSeq (dOps (dV p29 (oBuild [(.int .i64 (.ofNat 0)), (.str []), (.int .i64 (.ofNat 0)), (.int .i64 (.ofNat 0)), (.int .i64 (.ofNat 0)), (.bool false), (.str []), .nils, .nils, (.int .i64 (.ofNat 0)), (.int .i64 (.ofNat 0)), (.bool false), (.str []), .nils, .nils, (.int .i64 (.ofNat 0)), .nils, .nils, .nils, (.int .i64 (.ofNat 0)), .nils] [])
(dV p30 (oBuild [(.str []), .nils, .nils, .nils] [])
(dU (oSt 21 (.t p4) (.t p29))
(dU (oSt 4 (.t p5) (.t p30))
(dV p6 (oMv (.c (.int .i64 (.ofNat 1))))
dE))))))
dRet) dSkip))
(dSeq (dDraw (sN p32 ⟨(some p32), (.v (.ldN 21 (.t p7))), none⟩
(sN p33 ⟨(some p33), (.v (.fa 16 (.t p2))), none⟩
(sN p34 ⟨(some p34), (.v (.ld1 (.t p33))), none⟩
(sN p35 ⟨(some p35), (.v (.mv (.t p1))), none⟩
(sN p36 ⟨(some p36), (.v (.ia 7 (.t p34) (.t p35))), none⟩
(sN p37 ⟨(some p37), (.v (.ldN 7 (.t p36))), none⟩
(sA 10 p9 (.new [(.str []), .nils, .nils, .nils] 170)
(sE [] [] ⟨(some p38), (.call p131 [(.t p32), (.t p37)]), none⟩
(sN p31 ⟨(some p31), (.v (.mv (.t p38))), none⟩
(sN p39 ⟨(some p39), (.v (.ext (.t p31) 0)), none⟩
(sN p40 ⟨(some p40), (.v (.ext (.t p31) 1)), none⟩
(sE [10] [] ⟨none, (.v (.st 4 (.t p9) (.t p39))), none⟩
(sN p8 ⟨(some p8), (.v (.mv (.t p40))), none⟩
sEnd))))))))))))))
(dSeq (dDraw (sN p41 ⟨(some p41), (.v (.ldN 21 (.t p7))), none⟩
(sN p42 ⟨(some p42), (.v (.ldN 4 (.t p9))), none⟩
(sN p43 ⟨(some p43), (.v (.mv (.t p8))), none⟩
(sE [] [(p42, ⟨(some p42), (.v (.ldN 4 (.t p9))), none⟩)] ⟨none, (.v (.st 21 (.t p4) (.t p41))), none⟩
(sE [] [] ⟨none, (.v (.st 4 (.t p5) (.t p42))), none⟩
(sN p6 ⟨(some p6), (.v (.mv (.t p43))), none⟩
sEnd)))))))
dRet)))))), [(.cN p4 21), (.cN p5 4), (.t p6)]⟩
def af86 : AF := ⟨(dSeq (dOps (dV p2 (oBox 26 (.t p0))
(dV p4 (oMv (.c (.bool false)))
dE)))
(dSeq (dSeq (dOps (dV p7 (oLdN 6 (.t p2))
(dC (some p8) p60 [(.t p7)]
(dV p9 (oAr .neq (.t p8) (.c (.int .i64 (.ofNat 0))))
dE))))
(dCond (.t p9) (dSeq (dOps (dV p4 (oMv (.c (.bool false)))
dE))
dRet) dSkip))
(dSeq (dOps (dV p11 (oLdN 6 (.t p2))
(dV p12 (oBuild [(.int .i64 (.ofNat 0)), (.int .i64 (.ofNat 0))] [])
(dV p13 (oMv (.t p1))
(dV p14 (oBuild [(.str [])] [(0, 1, (.t p13))])
(dV p15 (oMkf 132 [(.t p14)] [])
(dC (some p16) p69 [(.t p11), (.t p12), (.t p15), (.c (.fn (.func 93) [] []))]
(dV p10 (oMv (.t p16))
(dV p17 (oExt (.t p10) 0)
(dV p18 (oExt (.t p10) 1)
(dV p5 (oMv (.t p17))
(dV p6 (oMv (.t p18))
dE))))))))))))
(dSeq (dOps (dV p19 (oMv (.t p5))
(dV p20 (oAr .gtr (.t p19) (.c (.int .i64 (.ofNat 0))))
(dV p4 (oMv (.t p20))
dE))))
dRet)))), [(.t p4)]⟩
def af87 : AF := ⟨(dSeq (dOps (dV p2 (oBox 94 (.t p0))
(dV p3 (oBox 26 (.t p1))
(dV p4 (oNew [.nilp, .nilp, (.int .i64 (.ofNat 0)), .nilp] 94)
dE))))
(dSeq (dDraw (sN p5 ⟨(some p5), (.v (.fa 0 (.t p2))), none⟩
(sN p6 ⟨(some p6), (.v (.ld1 (.t p5))), none⟩
(sN p7 ⟨(some p7), (.v (.fa 1 (.t p2))), none⟩
(sN p8 ⟨(some p8), (.v (.ldN 3 (.t p7))), none⟩
(sN p9 ⟨(some p9), (.v (.ldN 6 (.t p3))), none⟩
(sE [] [(p6, ⟨(some p6), (.v (.ld1 (.t p5))), none⟩)] ⟨(some p10), (.call p133 [(.t p8), (.t p9)]), none⟩
(sN p11 ⟨(some p11), (.v (.build [.nilp, .nilp, (.int .i64 (.ofNat 0)), .nilp] [(0, 1, (.t p6)), (1, 3, (.t p10))])), none⟩
(sE [] [] ⟨none, (.v (.st 4 (.t p4) (.t p11))), none⟩
sEnd)))))))))
dRet)), [(.cN p4 4)]⟩
def af88 : AF := ⟨(dSeq (dOps (dV p4 (oBox 26 (.t p0))
(dV p6 (oMv (.c (.int .i64 (.ofNat 0))))
dE)))
(dSeq (dSeq (dOps (dV p9 (oLd1 (.t p2))
(dV p10 (oLdN 6 (.t p4))
(dV p11 (oMv (.t p1))
(dC (some p12) p89 [(.t p9), (.t p10), (.t p11)]
(dV p13 (oUn .not (.t p12))
dE))))))
(dCond (.t p13) (dSeq (dOps (dV p6 (oMv (.c (.int .i64 (.ofNat 22))))
dE))
dRet) dSkip))
(dSeq (dOps (dV p15 (oLdN 4 (.t p3))
(dV p16 (oLdN 6 (.t p4))
(dC (some p17) p49 [(.t p15), (.t p16)]
(dV p14 (oMv (.t p17))
(dV p18 (oExt (.t p14) 0)
(dV p19 (oExt (.t p14) 1)
(dV p7 (oNew [(.int .i64 (.ofNat 0)), .nils] 49)
(dU (oSt 2 (.t p7) (.t p18))
(dV p8 (oMv (.t p19))
dE))))))))))
(dSeq (dSeq (dDraw (sN p20 ⟨(some p20), (.v (.mv (.t p8))), none⟩
(sN p21 ⟨(some p21), (.v (.ar .eql (.t p20) (.c (.int .i64 (.ofNat 0))))), none⟩
(sN p22 ⟨(some p22), (.v (.mv (.t p21))), none⟩
(sN p23 ⟨(some p23), (.v (.ldN 2 (.t p7))), (some (p22, true))⟩
(sN p24 ⟨(some p24), (.v (.ld1 (.t p2))), (some (p22, true))⟩
(sN p25 ⟨(some p25), (.v (.nchk (.t p24))), (some (p22, true))⟩
(sN p26 ⟨(some p26), (.v (.fa 23 (.t p25))), (some (p22, true))⟩
(sN p27 ⟨(some p27), (.v (.ldN 2 (.t p26))), (some (p22, true))⟩
(sE [] [] ⟨(some p28), (.call p90 [(.t p23), (.t p27)]), (some (p22, true))⟩
(sN p29 ⟨(some p29), (.v (.un .not (.t p28))), (some (p22, true))⟩
(sN p30 ⟨(some p30), (.v (.pick (.t p22) (.t p29) (.c (.bool false)))), none⟩
sEnd))))))))))))
(dCond (.t p30) (dOps (dV p8 (oMv (.c (.int .i64 (.ofNat 23))))
dE)) dSkip))
(dSeq (dOps (dV p31 (oLdN 4 (.t p3))
(dV p32 (oLdN 6 (.t p4))
(dC (some p33) p87 [(.t p31), (.t p32)]
(dU (oSt 4 (.t p3) (.t p33))
dE)))))
(dSeq (dOps (dV p34 (oMv (.t p8))
(dV p6 (oMv (.t p34))
dE)))
dRet)))))), [(.t p6)]⟩
def af89 : AF := ⟨(dSeq (dOps (dV p4 (oBox 26 (.t p1))
(dV p6 (oMv (.c (.bool false)))
dE)))
(dSeq (dOps (dV p7 (oMv (.c (.int .i64 (.ofNat 0))))
dE))
(dSeq (dSeq (dOps (dV p8 (oMv (.t p2))
dE))
(dCond (.t p8) (dOps (dV p7 (oMv (.c (.int .i64 (.ofNat 1))))
dE)) dSkip))
(dSeq (dDraw (sN p9 ⟨(some p9), (.v (.ldN 6 (.t p4))), none⟩
(sN p10 ⟨(some p10), (.v (.mv (.t p0))), none⟩
(sN p11 ⟨(some p11), (.v (.nchk (.t p10))), none⟩
(sN p12 ⟨(some p12), (.v (.fa 1 (.t p11))), none⟩
(sN p13 ⟨(some p13), (.v (.fa 1 (.t p12))), none⟩
(sN p14 ⟨(some p14), (.v (.ld1 (.t p13))), none⟩
(sN p16 ⟨(some p16), (.v (.mv (.t p7))), none⟩
(sE [] [] ⟨(some p15), (.call p134 [(.t p9), (.t p14)]), none⟩
(sN p17 ⟨(some p17), (.v (.ar .eql (.t p15) (.t p16))), none⟩
(sN p6 ⟨(some p6), (.v (.mv (.t p17))), none⟩
sEnd)))))))))))
dRet)))), [(.t p6)]⟩
def af90 : AF := ⟨(dSeq (dOps (dV p2 (oBox 49 (.t p0))
(dV p3 (oBox 49 (.t p1))
(dV p4 (oNew [(.bool false)] 4)
dE))))
(dSeq (dSeq (dOps (dV p7 (oLdN 2 (.t p2))
(dC (some p8) p117 [(.t p7)]
(dV p9 (oUn .not (.t p8))
(dV p10 (oMv (.t p9))
(dG p10 false (some p11) (dV p11 (oLdN 2 (.t p3)))
(dG p10 false (some p12) (dC (some p12) p117 [(.t p11)])
(dG p10 false (some p13) (dV p13 (oUn .not (.t p12)))
(dV p14 (oPick (.t p10) (.c (.bool true)) (.t p13))
dE)))))))))
(dCond (.t p14) (dSeq (dOps (dU (oSt 1 (.t p4) (.c (.bool false)))
dE))
dRet) dSkip))
(dSeq (dSeq (dOps (dV p15 (oLdN 2 (.t p2))
(dV p16 (oLdN 2 (.t p3))
(dC (some p17) p135 [(.t p15), (.t p16)]
dE))))
(dBlock 0 (dRange (.t p17) [p18, p19] (dSeq (dOps (dV p5 (oMv (.t p18))
dE))
(dOps (dV p6 (oMv (.t p19))
dE))) (dBlock 1 (dSeq (dOps (dV p20 (oMv (.t p5))
(dV p21 (oMv (.t p6))
(dV p22 (oAr .gtr (.t p20) (.t p21))
dE))))
(dCond (.t p22) (dSeq (dOps (dU (oSt 1 (.t p4) (.c (.bool false)))
dE))
dRet) dSkip))))))
(dSeq (dOps (dU (oSt 1 (.t p4) (.c (.bool true)))
dE))
dRet)))), [(.c1 p4)]⟩
def af91 : AF := ⟨(dSeq (dOps (dV p4 (oMv (.c (.int .i64 (.ofNat 0))))
dE))
(dSeq (dSeq (dOps (dV p6 (oMv (.t p0))
(dV p7 (oLen (.t p6))
(dV p8 (oMv (.c (.int .i64 (.ofNat 0))))
dE))))
(dBlock 0 (dLoop (dSeq (dOps (dV p9 (oAr .lss (.t p8) (.t p7))
dE))
(dSeq (dCond (.t p9) dSkip (dExit 0))
(dSeq (dBlock 1 (dSeq (dOps (dV p10 (oMv (.t p8))
(dV p5 (oMv (.t p10))
dE)))
(dSeq (dOps (dV p11 (oMv (.t p1))
(dV p12 (oMv (.t p0))
(dV p13 (oMv (.t p5))
(dV p14 (oIa 1 (.t p12) (.t p13))
(dV p15 (oLd1 (.t p14))
(dV p16 (oAr .eql (.t p11) (.t p15))
dE)))))))
(dCond (.t p16) (dSeq (dOps (dV p17 (oMv (.t p5))
(dV p4 (oMv (.t p17))
dE)))
dRet) dSkip))))
(dOps (dV p18 (oAr .add (.t p8) (.c (.int .i64 (.ofNat 1))))
(dV p8 (oMv (.t p18))
dE)))))))))
(dSeq (dOps (dV p4 (oMv (.c (.int .i64 (.negSucc 0))))
dE))
dRet))), [(.t p4)]⟩
def af92 : AF := ⟨(dSeq (dOps (dV p2 (oBox 26 (.t p0))
(dV p3 (oBox 130 (.t p1))
(dV p4 (oMv (.c (.int .i64 (.ofNat 0))))
(dV p5 (oMv (.c (.int .i64 (.ofNat 0))))
dE)))))
(dSeq (dSeq (dDraw (sN p6 ⟨(some p6), (.v (.fa 5 (.t p2))), none⟩
(sN p7 ⟨(some p7), (.v (.ld1 (.t p6))), none⟩
(sN p8 ⟨(some p8), (.v (.len (.t p7))), none⟩
(sN p9 ⟨(some p9), (.v (.fa 0 (.t p2))), none⟩
(sN p10 ⟨(some p10), (.v (.ld1 (.t p9))), none⟩
(sE [] [(p7, ⟨(some p7), (.v (.ld1 (.t p6))), none⟩)] ⟨(some p11), (.call p136 [(.t p10)]), none⟩
(sN p12 ⟨(some p12), (.v (.ar .neq (.t p8) (.t p11))), none⟩
(sN p13 ⟨(some p13), (.v (.mv (.t p12))), none⟩
(sN p14 ⟨(some p14), (.v (.ldN 6 (.t p2))), (some (p13, false))⟩
(sE [] [] ⟨(some p15), (.call p137 [(.t p14)]), (some (p13, false))⟩
(sN p16 ⟨(some p16), (.v (.un .not (.t p15))), (some (p13, false))⟩
(sN p17 ⟨(some p17), (.v (.pick (.t p13) (.c (.bool true)) (.t p16))), none⟩
sEnd)))))))))))))
(dCond (.t p17) (dSeq (dOps (dV p4 (oMv (.c (.int .i64 (.ofNat 0))))
(dV p5 (oMv (.c (.int .i64 (.ofNat 10))))
dE)))
dRet) dSkip))
(dSeq (dOps (dV p4 (oMv (.c (.int .i64 (.ofNat 1))))
(dV p5 (oMv (.c (.int .i64 (.ofNat 0))))
dE)))
dRet))), [(.t p4), (.t p5)]⟩
def af93 : AF := ⟨(dSeq (dOps (dV p4 (oMv (.c (.int .i64 (.ofNat 0))))
dE))
(dSeq (dOps (dV p5 (oMv (.t p0))
(dV p6 (oMv (.t p1))
(dV p7 (oAr .add (.t p5) (.t p6))
(dV p4 (oMv (.t p7))
dE)))))
dRet)), [(.t p4)]⟩
def af94 : AF := ⟨(dSeq (dOps (dV p4 (oMv (.t p0))
(dV p5 (oMv (.t p0))
(dV p6 (oNchk (.t p5))
(dV p7 (oFa 1 (.t p6))
(dV p8 (oLd1 (.t p7))
(dV p9 (oMv (.t p8))
(dG p9 false (some p10) (dV p10 (oMv (.t p0)))
(dG p9 false (some p11) (dV p11 (oNchk (.t p10)))
(dG p9 false (some p12) (dV p12 (oFa 0 (.t p11)))
(dG p9 false (some p13) (dV p13 (oLd1 (.t p12)))
(dG p9 false (some p14) (dV p14 (oLen (.t p13)))
(dG p9 false (some p15) (dV p15 (oMv (.t p1)))
(dG p9 false (some p16) (dV p16 (oLen (.t p15)))
(dG p9 false (some p17) (dV p17 (oAr .add (.t p14) (.t p16)))
(dG p9 false (some p18) (dV p18 (oAr .gtr (.t p17) (.c (.int .i64 (.ofNat 1000000)))))
(dV p19 (oPick (.t p9) (.c (.bool true)) (.t p18))
(dV p20 (oNchk (.t p4))
(dV p21 (oFa 1 (.t p20))
(dU (oSt 1 (.t p21) (.t p19))
dE))))))))))))))))))))
(dSeq (dOps (dV p22 (oMv (.t p0))
(dV p23 (oNchk (.t p22))
(dV p24 (oFa 1 (.t p23))
(dV p25 (oLd1 (.t p24))
(dV p26 (oUn .not (.t p25))
dE))))))
(dCond (.t p26) (dOps (dV p27 (oMv (.t p0))
(dV p28 (oMv (.t p0))
(dV p29 (oNchk (.t p28))
(dV p30 (oFa 0 (.t p29))
(dV p31 (oLd1 (.t p30))
(dV p32 (oMv (.t p1))
(dV p33 (oApp 5 1 (.t p31) (.t p32))
(dV p34 (oNchk (.t p27))
(dV p35 (oFa 0 (.t p34))
(dU (oSt 1 (.t p35) (.t p33))
dE))))))))))) dSkip))), []⟩
def af95 : AF := ⟨(dSeq (dOps (dV p4 (oMv (.t p0))
(dV p5 (oMv (.t p1))
(dV p6 (oLenS (.t p5))
(dC (some p7) p62 [(.t p4), (.t p6)]
dE)))))
(dOps (dV p8 (oMv (.t p0))
(dV p9 (oMv (.t p1))
(dV p10 (oCvB 5 (.t p9))
(dC (some p11) p94 [(.t p8), (.t p10)]
dE)))))), []⟩
def af96 : AF := ⟨(dSeq (dOps (dV p3 (oBox 26 (.t p1))
dE))
(dSeq (dOps (dV p4 (oMv (.t p0))
(dV p5 (oFa 0 (.t p3))
(dV p6 (oLd1 (.t p5))
(dC (some p7) p62 [(.t p4), (.t p6)]
dE)))))
(dSeq (dSeq (dOps (dV p8 (oFa 0 (.t p3))
(dV p9 (oLd1 (.t p8))
dE)))
(dBlock 0 (dSeq (dBlock 4 (dSeq (dBlock 3 (dSeq (dBlock 2 (dSeq (dBlock 1 (dSeq (dSeq (dSeq (dSeq (dOps (dV p11 (oAr .eql (.t p9) (.c (.int .i64 (.ofNat 1))))
(dV p10 (oMv (.t p11))
dE)))
(dCond (.t p10) dSkip (dOps (dV p12 (oAr .eql (.t p9) (.c (.int .i64 (.ofNat 11))))
(dV p10 (oMv (.t p12))
dE)))))
(dCond (.t p10) (dExit 1) dSkip))
(dSeq (dSeq (dSeq (dOps (dV p14 (oAr .eql (.t p9) (.c (.int .i64 (.ofNat 3))))
(dV p13 (oMv (.t p14))
dE)))
(dCond (.t p13) dSkip (dSeq (dOps (dV p15 (oAr .eql (.t p9) (.c (.int .i64 (.ofNat 4))))
(dV p13 (oMv (.t p15))
dE)))
(dCond (.t p13) dSkip (dOps (dV p16 (oAr .eql (.t p9) (.c (.int .i64 (.ofNat 5))))
(dV p13 (oMv (.t p16))
dE)))))))
(dCond (.t p13) (dExit 2) dSkip))
(dSeq (dSeq (dOps (dV p18 (oAr .eql (.t p9) (.c (.int .i64 (.ofNat 10))))
(dV p17 (oMv (.t p18))
dE)))
(dCond (.t p17) (dExit 3) dSkip))
(dSeq (dOps (dV p20 (oAr .eql (.t p9) (.c (.int .i64 (.ofNat 2))))
(dV p19 (oMv (.t p20))
dE)))
(dCond (.t p19) (dExit 4) dSkip)))))
(dExit 0)))
(dSeq (dOps (dV p21 (oMv (.t p0))
(dV p22 (oFa 1 (.t p3))
(dV p23 (oLd1 (.t p22))
(dC (some p24) p62 [(.t p21), (.t p23)]
dE)))))
(dExit 0))))
(dSeq (dOps (dV p25 (oMv (.t p0))
(dV p26 (oFa 2 (.t p3))
(dV p27 (oLd1 (.t p26))
(dC (some p28) p138 [(.t p25), (.t p27)]
dE)))))
(dExit 0))))
(dSeq (dOps (dV p29 (oMv (.t p0))
(dV p30 (oFa 3 (.t p3))
(dV p31 (oLd1 (.t p30))
(dC (some p32) p95 [(.t p29), (.t p31)]
dE)))))
(dOps (dV p33 (oMv (.t p0))
(dV p34 (oFa 4 (.t p3))
(dV p35 (oLd1 (.t p34))
(dV p36 (oLen (.t p35))
(dC (some p37) p62 [(.t p33), (.t p36)]
dE)))))))))
(dSeq (dOps (dV p38 (oFa 4 (.t p3))
(dV p39 (oLd1 (.t p38))
(dV p40 (oMv (.t p0))
(dV p41 (oMkf 140 [(.t p40)] [])
(dC (some p42) p139 [(.t p39), (.t p41)]
dE))))))
(dExit 0)))))
(dOps (dV p43 (oFa 5 (.t p3))
(dV p44 (oLd1 (.t p43))
(dV p45 (oMv (.t p0))
(dV p46 (oMkf 96 [(.t p45)] [])
(dC (some p47) p141 [(.t p44), (.t p46)]
dE))))))))), []⟩
def af97 : AF := ⟨(dSeq (dOps (dV p6 (oMv (.t p0))
(dV p7 (oLen (.t p6))
(dV p8 (oMv (.c (.int .i64 (.ofNat 0))))
dE))))
(dBlock 0 (dLoop (dSeq (dOps (dV p9 (oAr .lss (.t p8) (.t p7))
dE))
(dSeq (dCond (.t p9) dSkip (dExit 0))
(dSeq (dBlock 1 (dSeq (dOps (dV p10 (oIa 7 (.t p6) (.t p8))
(dV p11 (oLdN 7 (.t p10))
(dV p5 (oNew [(.str []), (.int .i64 (.ofNat 0)), (.int .i64 (.ofNat 0)), (.bool false), (.str []), .nils, .nils] 44)
(dU (oSt 7 (.t p5) (.t p11))
dE)))))
(dOps (dV p12 (oMv (.t p1))
(dV p13 (oLdN 7 (.t p5))
(dCv (some p14) (.t p12) [(.t p13)]
dE))))))
(dOps (dV p15 (oAr .add (.t p8) (.c (.int .i64 (.ofNat 1))))
(dV p8 (oMv (.t p15))
dE))))))))), []⟩
def af98 : AF := ⟨(dSeq (dOps (dV p3 (oBox 44 (.t p1))
dE))
(dSeq (dOps (dV p4 (oMv (.t p0))
(dV p5 (oFa 0 (.t p3))
(dV p6 (oLd1 (.t p5))
(dC (some p7) p95 [(.t p4), (.t p6)]
dE)))))
(dOps (dV p8 (oMv (.t p0))
(dV p9 (oFa 1 (.t p3))
(dV p10 (oLdN 6 (.t p9))
(dC (some p11) p96 [(.t p8), (.t p10)]
dE))))))), []⟩
def af99 : AF := ⟨(dSeq (dOps (dV p4 (oBox 26 (.t p1))
(dV p5 (oBox 130 (.t p2))
(dV p6 (oMv (.c (.int .i64 (.ofNat 0))))
(dV p7 (oMv (.c (.int .i64 (.ofNat 0))))
dE)))))
(dSeq (dOps (dV p8 (oMv (.t p0))
(dV p9 (oNchk (.t p8))
(dV p10 (oFa 0 (.t p9))
(dV p11 (oLd1 (.t p10))
(dV p12 (oAr .sub (.t p11) (.c (.int .i64 (.ofNat 1))))
(dV p13 (oNchk (.t p8))
(dV p14 (oFa 0 (.t p13))
(dU (oSt 1 (.t p14) (.t p12))
dE)))))))))
(dSeq (dSeq (dDraw (sN p15 ⟨(some p15), (.v (.mv (.t p0))), none⟩
(sN p16 ⟨(some p16), (.v (.nchk (.t p15))), none⟩
(sN p17 ⟨(some p17), (.v (.fa 0 (.t p16))), none⟩
(sN p18 ⟨(some p18), (.v (.ld1 (.t p17))), none⟩
(sN p19 ⟨(some p19), (.v (.ar .lss (.t p18) (.c (.int .i64 (.ofNat 0))))), none⟩
(sN p20 ⟨(some p20), (.v (.mv (.t p19))), none⟩
(sN p21 ⟨(some p21), (.v (.fa 1 (.t p5))), (some (p20, false))⟩
(sN p22 ⟨(some p22), (.v (.ld1 (.t p21))), (some (p20, false))⟩
(sN p23 ⟨(some p23), (.v (.mv (.t p0))), (some (p20, false))⟩
(sN p24 ⟨(some p24), (.v (.nchk (.t p23))), (some (p20, false))⟩
(sN p25 ⟨(some p25), (.v (.fa 1 (.t p24))), (some (p20, false))⟩
(sN p26 ⟨(some p26), (.v (.ld1 (.t p25))), (some (p20, false))⟩
(sN p27 ⟨(some p27), (.v (.ar .geq (.t p22) (.t p26))), (some (p20, false))⟩
(sN p28 ⟨(some p28), (.v (.pick (.t p20) (.c (.bool true)) (.t p27))), none⟩
sEnd)))))))))))))))
(dCond (.t p28) (dSeq (dOps (dV p6 (oMv (.c (.int .i64 (.ofNat 0))))
(dV p7 (oMv (.c (.int .i64 (.ofNat 2))))
dE)))
dRet) dSkip))
(dSeq (dOps (dV p6 (oMv (.c (.int .i64 (.ofNat 1))))
(dV p7 (oMv (.c (.int .i64 (.ofNat 0))))
dE)))
dRet)))), [(.t p6), (.t p7)]⟩
def af100 : AF := ⟨(dSeq (dOps (dV p1 (oBox 26 (.t p0))
(dV p2 (oNew [.nils, .nils] 188)
dE)))
(dSeq (dDraw (sN p5 ⟨(some p5), (.v (.fa 5 (.t p1))), none⟩
(sN p6 ⟨(some p6), (.v (.ld1 (.t p5))), none⟩
(sN p7 ⟨(some p7), (.v (.len (.t p6))), none⟩
(sN p8 ⟨(some p8), (.v (.fa 5 (.t p1))), none⟩
(sN p9 ⟨(some p9), (.v (.ld1 (.t p8))), none⟩
(sN p10 ⟨(some p10), (.v (.len (.t p9))), none⟩
(sN p3 ⟨(some p3), (.v (.mv (.t p7))), none⟩
(sN p4 ⟨(some p4), (.v (.mv (.t p10))), none⟩
sEnd)))))))))
(dSeq (dSeq (dOps (dV p11 (oFa 0 (.t p1))
(dV p12 (oLd1 (.t p11))
(dV p13 (oAr .eql (.t p12) (.c (.int .i64 (.ofNat 3))))
(dV p14 (oMv (.t p13))
(dG p14 false (some p15) (dV p15 (oFa 0 (.t p1)))
(dG p14 false (some p16) (dV p16 (oLd1 (.t p15)))
(dG p14 false (some p17) (dV p17 (oAr .eql (.t p16) (.c (.int .i64 (.ofNat 4)))))
(dV p18 (oPick (.t p14) (.c (.bool true)) (.t p17))
(dV p19 (oMv (.t p18))
(dG p19 false (some p20) (dV p20 (oFa 0 (.t p1)))
(dG p19 false (some p21) (dV p21 (oLd1 (.t p20)))
(dG p19 false (some p22) (dV p22 (oAr .eql (.t p21) (.c (.int .i64 (.ofNat 6)))))
(dV p23 (oPick (.t p19) (.c (.bool true)) (.t p22))
dE))))))))))))))
(dCond (.t p23) (dOps (dV p24 (oMv (.t p3))
(dV p25 (oMm false [(.t p24), (.c (.int .i64 (.ofNat 1)))])
(dV p3 (oMv (.t p25))
dE)))) dSkip))
(dSeq (dDraw (sN p26 ⟨(some p26), (.v (.fa 5 (.t p1))), none⟩
(sN p27 ⟨(some p27), (.v (.ld1 (.t p26))), none⟩
(sN p28 ⟨(some p28), (.v (.mv (.t p3))), none⟩
(sN p29 ⟨(some p29), (.v (.mv (.t p3))), none⟩
(sN p30 ⟨(some p30), (.v (.sl 6 (.t p27) none (some (.t p28)) (some (.t p29)))), none⟩
(sN p31 ⟨(some p31), (.v (.fa 5 (.t p1))), none⟩
(sN p32 ⟨(some p32), (.v (.ld1 (.t p31))), none⟩
(sN p33 ⟨(some p33), (.v (.mv (.t p3))), none⟩
(sN p34 ⟨(some p34), (.v (.mv (.t p4))), none⟩
(sN p35 ⟨(some p35), (.v (.mv (.t p4))), none⟩
(sN p36 ⟨(some p36), (.v (.sl 6 (.t p32) (some (.t p33)) (some (.t p34)) (some (.t p35)))), none⟩
(sN p37 ⟨(some p37), (.v (.build [.nils, .nils] [(0, 1, (.t p30)), (1, 1, (.t p36))])), none⟩
(sE [] [] ⟨none, (.v (.st 2 (.t p2) (.t p37))), none⟩
sEnd))))))))))))))
dRet)))), [(.cN p2 2)]⟩
def af101 : AF := ⟨(dSeq (dOps (dV p1 (oBox 26 (.t p0))
(dV p2 (oNew [(.int .i64 (.ofNat 0)), (.int .i64 (.ofNat 0)), (.bool false), (.str []), .nils, .nils] 26)
dE)))
(dSeq (dOps (dV p5 (oFa 0 (.t p1))
(dV p6 (oLd1 (.t p5))
(dV p7 (oBuild [(.int .i64 (.ofNat 0)), (.int .i64 (.ofNat 0)), (.bool false), (.str []), .nils, .nils] [(0, 1, (.t p6))])
(dV p3 (oNew [(.int .i64 (.ofNat 0)), (.int .i64 (.ofNat 0)), (.bool false), (.str []), .nils, .nils] 26)
(dU (oSt 6 (.t p3) (.t p7))
dE))))))
(dSeq (dSeq (dOps (dV p8 (oFa 0 (.t p1))
(dV p9 (oLd1 (.t p8))
dE)))
(dBlock 0 (dSeq (dBlock 4 (dSeq (dBlock 3 (dSeq (dBlock 2 (dSeq (dBlock 1 (dSeq (dSeq (dSeq (dSeq (dOps (dV p11 (oAr .eql (.t p9) (.c (.int .i64 (.ofNat 1))))
(dV p10 (oMv (.t p11))
dE)))
(dCond (.t p10) dSkip (dOps (dV p12 (oAr .eql (.t p9) (.c (.int .i64 (.ofNat 11))))
(dV p10 (oMv (.t p12))
dE)))))
(dCond (.t p10) (dExit 1) dSkip))
(dSeq (dSeq (dSeq (dOps (dV p14 (oAr .eql (.t p9) (.c (.int .i64 (.ofNat 3))))
(dV p13 (oMv (.t p14))
dE)))
(dCond (.t p13) dSkip (dSeq (dOps (dV p15 (oAr .eql (.t p9) (.c (.int .i64 (.ofNat 4))))
(dV p13 (oMv (.t p15))
dE)))
(dCond (.t p13) dSkip (dOps (dV p16 (oAr .eql (.t p9) (.c (.int .i64 (.ofNat 5))))
(dV p13 (oMv (.t p16))
dE)))))))
(dCond (.t p13) (dExit 2) dSkip))
(dSeq (dSeq (dOps (dV p18 (oAr .eql (.t p9) (.c (.int .i64 (.ofNat 10))))
(dV p17 (oMv (.t p18))
dE)))
(dCond (.t p17) (dExit 3) dSkip))
(dSeq (dOps (dV p20 (oAr .eql (.t p9) (.c (.int .i64 (.ofNat 2))))
(dV p19 (oMv (.t p20))
dE)))
(dCond (.t p19) (dExit 4) dSkip)))))
(dExit 0)))
(dSeq (dOps (dV p21 (oFa 1 (.t p1))
(dV p22 (oLd1 (.t p21))
(dV p23 (oFa 1 (.t p3))
(dU (oSt 1 (.t p23) (.t p22))
dE)))))
(dExit 0))))
(dSeq (dOps (dV p24 (oFa 2 (.t p1))
(dV p25 (oLd1 (.t p24))
(dV p26 (oFa 2 (.t p3))
(dU (oSt 1 (.t p26) (.t p25))
dE)))))
(dExit 0))))
(dOps (dV p27 (oFa 3 (.t p1))
(dV p28 (oLd1 (.t p27))
(dV p29 (oFa 3 (.t p3))
(dU (oSt 1 (.t p29) (.t p28))
dE)))))))
(dSeq (dOps (dV p30 (oFa 4 (.t p1))
(dV p31 (oLd1 (.t p30))
(dC (some p32) p142 [(.t p31)]
(dV p33 (oFa 4 (.t p3))
(dU (oSt 1 (.t p33) (.t p32))
dE))))))
(dExit 0)))))
(dSeq (dSeq (dOps (dV p34 (oFa 5 (.t p1))
(dV p35 (oLd1 (.t p34))
(dV p36 (oLen (.t p35))
(dV p4 (oMv (.t p36))
dE)))))
(dSeq (dOps (dV p37 (oMv (.t p4))
(dV p38 (oAr .gtr (.t p37) (.c (.int .i64 (.ofNat 0))))
dE)))
(dCond (.t p38) (dOps (dV p39 (oMv (.t p4))
(dV p40 (oMkS 26 6 [(.int .i64 (.ofNat 0)), (.int .i64 (.ofNat 0)), (.bool false), (.str []), .nils, .nils] (.c (.int .i64 (.ofNat 0))) (.t p39))
(dV p41 (oFa 5 (.t p3))
(dU (oSt 1 (.t p41) (.t p40))
dE))))) dSkip)))
(dSeq (dOps (dV p42 (oLdN 6 (.t p3))
(dU (oSt 6 (.t p2) (.t p42))
dE)))
dRet))))), [(.cN p2 6)]⟩
def af102 : AF := ⟨(dSeq (dOps (dV p4 (oMv (.c .nilp))
dE))
(dSeq (dOps (dV p5 (oMv (.t p0))
(dV p6 (oMv (.t p1))
(dV p7 (oMkM)
(dV p8 (oMkM)
(dV p9 (oBuild [.nilp, (.int .i64 (.ofNat 0)), (.int .i64 (.ofNat 0)), (.int .i64 (.ofNat 0)), (.int .i64 (.ofNat 0)), .nilm, .nilm, .nils, .nilp, (.int .i64 (.ofNat 0)), .nilp, .nilp, .nilp, (.int .i64 (.ofNat 0)), (.int .i64 (.ofNat 0)), (.int .i64 (.ofNat 0)), (.int .i64 (.ofNat 0)), (.int .i64 (.ofNat 0)), (.int .i64 (.ofNat 0))] [(0, 1, (.t p5)), (1, 1, (.t p6)), (2, 1, (.c (.int .i64 (.ofNat 20000)))), (5, 1, (.t p7)), (6, 1, (.t p8))])
(dV p10 (oBox 241 (.t p9))
(dV p4 (oMv (.t p10))
dE))))))))
dRet)), [(.t p4)]⟩
def af103 : AF := ⟨(dSeq (dOps (dV p0 (oNew [.nilf, .nilf, .nilf, .nilf, .nilf, .nilf, .nilf, .nilf, .nilf, .nilf, .nilf, .nilf] 194)
dE))
(dSeq (dOps (dV p1 (oBuild [.nilf, .nilf, .nilf, .nilf, .nilf, .nilf, .nilf, .nilf, .nilf, .nilf, .nilf, .nilf] [(1, 1, (.c (.fn (.func 143) [] []))), (11, 1, (.c (.fn (.func 143) [] []))), (2, 1, (.c (.fn (.func 144) [] []))), (10, 1, (.c (.fn (.func 144) [] []))), (3, 1, (.c (.fn (.func 145) [] []))), (6, 1, (.c (.fn (.func 145) [] []))), (5, 1, (.c (.fn (.func 146) [] []))), (8, 1, (.c (.fn (.func 147) [] []))), (9, 1, (.c (.fn (.func 147) [] [])))])
(dU (oSt 12 (.t p0) (.t p1))
dE)))
dRet)), [(.cN p0 12)]⟩
def af104 : AF := ⟨(dSeq (dOps (dV p1 (oBox 155 (.t p0))
(dV p2 (oNew [.nilp] 153)
(dV p3 (oMv (.c .nili))
dE))))
(dSeq (dOps (dV p7 (oFa 4 (.t p1))
(dV p8 (oLdN 1 (.t p7))
(dC (some p9) p148 [(.t p8)]
(dV p6 (oMv (.t p9))
(dV p10 (oExt (.t p6) 0)
(dV p11 (oExt (.t p6) 1)
(dV p4 (oMv (.t p10))
(dV p5 (oMv (.t p11))
dE)))))))))
(dSeq (dSeq (dOps (dV p12 (oMv (.t p5))
(dV p13 (oUn .not (.t p12))
dE)))
(dCond (.t p13) (dSeq (dOps (dV p14 (oBuild [.nilp] [])
(dC (some p15) p125 [(.c (.int .i64 (.ofNat 11)))]
(dU (oSt 1 (.t p2) (.t p14))
(dV p3 (oMv (.t p15))
dE)))))
dRet) dSkip))
(dSeq (dOps (dV p16 (oFa 1 (.t p1))
(dV p17 (oLdN 3 (.t p16))
(dV p18 (oMv (.t p4))
(dC (some p19) p149 [(.t p17), (.t p18)]
(dU (oSt 1 (.t p2) (.t p19))
(dV p3 (oMv (.c .nili))
dE)))))))
dRet)))), [(.cN p2 1), (.t p3)]⟩
def af105 : AF := ⟨(dSeq (dOps (dV p1 (oBox 155 (.t p0))
(dV p2 (oNew [.nilp] 153)
(dV p3 (oMv (.c .nili))
dE))))
(dSeq (dOps (dV p5 (oFa 4 (.t p1))
(dV p6 (oLdN 1 (.t p5))
(dC (some p7) p150 [(.t p6)]
(dV p8 (oFld1 4 (.t p7))
(dV p9 (oIa 2 (.t p8) (.c (.int .i64 (.ofNat 0))))
(dV p10 (oLdN 2 (.t p9))
(dV p4 (oNew [(.int .i64 (.ofNat 0)), .nils] 49)
(dU (oSt 2 (.t p4) (.t p10))
dE)))))))))
(dSeq (dSeq (dOps (dV p11 (oFa 0 (.t p1))
(dV p12 (oLd1 (.t p11))
(dV p13 (oLdN 2 (.t p4))
(dC (some p14) p151 [(.t p12), (.t p13)]
(dV p15 (oUn .not (.t p14))
dE))))))
(dCond (.t p15) (dSeq (dOps (dV p16 (oBuild [.nilp] [])
(dC (some p17) p125 [(.c (.int .i64 (.ofNat 13)))]
(dU (oSt 1 (.t p2) (.t p16))
(dV p3 (oMv (.t p17))
dE)))))
dRet) dSkip))
(dSeq (dOps (dV p18 (oLdN 2 (.t p4))
(dC (some p19) p153 [(.t p18), (.c (.int .i64 (.ofNat 1)))]
(dV p20 (oExt (.t p19) 0)
(dV p21 (oExt (.t p19) 1)
(dC (some p22) p152 [(.t p20), (.t p21)]
(dV p23 (oExt (.t p22) 0)
(dV p24 (oExt (.t p22) 1)
(dU (oSt 1 (.t p2) (.t p23))
(dV p3 (oMv (.t p24))
dE))))))))))
dRet)))), [(.cN p2 1), (.t p3)]⟩
def af106 : AF := ⟨(dSeq (dOps (dV p1 (oBox 155 (.t p0))
(dV p2 (oNew [.nilp] 153)
(dV p3 (oMv (.c .nili))
dE))))
(dSeq (dOps (dV p8 (oLdN 5 (.t p1))
(dC (some p9) p154 [(.t p8), (.c (.int .i64 (.ofNat 0)))]
(dC (some p10) p76 [(.t p9)]
(dV p7 (oMv (.t p10))
(dV p11 (oExt (.t p7) 0)
(dV p12 (oExt (.t p7) 1)
(dV p4 (oNew [(.int .i64 (.ofNat 0)), .nils] 49)
(dU (oSt 2 (.t p4) (.t p11))
(dV p5 (oMv (.t p12))
dE))))))))))
(dSeq (dSeq (dOps (dV p13 (oMv (.t p5))
(dV p14 (oEq .i true (.t p13) (.c .nili))
dE)))
(dCond (.t p14) (dSeq (dOps (dV p15 (oBuild [.nilp] [])
(dV p16 (oMv (.t p5))
(dU (oSt 1 (.t p2) (.t p15))
(dV p3 (oMv (.t p16))
dE)))))
dRet) dSkip))
(dSeq (dOps (dV p18 (oLdN 5 (.t p1))
(dC (some p19) p155 [(.t p18)]
(dC (some p20) p76 [(.t p19)]
(dV p17 (oMv (.t p20))
(dV p21 (oExt (.t p17) 0)
(dV p22 (oExt (.t p17) 1)
(dV p6 (oNew [(.int .i64 (.ofNat 0)), .nils] 49)
(dU (oSt 2 (.t p6) (.t p21))
(dV p5 (oMv (.t p22))
dE))))))))))
(dSeq (dSeq (dOps (dV p23 (oMv (.t p5))
(dV p24 (oEq .i true (.t p23) (.c .nili))
dE)))
(dCond (.t p24) (dSeq (dOps (dV p25 (oBuild [.nilp] [])
(dV p26 (oMv (.t p5))
(dU (oSt 1 (.t p2) (.t p25))
(dV p3 (oMv (.t p26))
dE)))))
dRet) dSkip))
(dSeq (dOps (dV p27 (oLdN 2 (.t p4))
(dV p28 (oLdN 2 (.t p6))
(dC (some p29) p156 [(.t p27), (.t p28)]
(dV p30 (oExt (.t p29) 0)
(dV p31 (oExt (.t p29) 1)
(dC (some p32) p152 [(.t p30), (.t p31)]
(dV p33 (oExt (.t p32) 0)
(dV p34 (oExt (.t p32) 1)
(dU (oSt 1 (.t p2) (.t p33))
(dV p3 (oMv (.t p34))
dE)))))))))))
dRet)))))), [(.cN p2 1), (.t p3)]⟩
def af107 : AF := ⟨(dSeq (dOps (dV p1 (oBox 155 (.t p0))
(dV p2 (oNew [.nilp] 153)
(dV p3 (oMv (.c .nili))
dE))))
(dSeq (dOps (dV p9 (oLdN 5 (.t p1))
(dC (some p10) p154 [(.t p9), (.c (.int .i64 (.ofNat 0)))]
(dV p4 (oNew [.nilp, .nilp, (.int .i64 (.ofNat 0)), .nilp, .nilp] 155)
(dU (oSt 5 (.t p4) (.t p10))
dE)))))
(dSeq (dSeq (dOps (dV p12 (oLdN 5 (.t p4))
(dC (some p13) p76 [(.t p12)]
(dV p11 (oMv (.t p13))
(dV p14 (oExt (.t p11) 0)
(dV p15 (oExt (.t p11) 1)
(dV p5 (oNew [(.int .i64 (.ofNat 0)), .nils] 49)
(dU (oSt 2 (.t p5) (.t p14))
(dV p6 (oMv (.t p15))
dE)))))))))
(dSeq (dOps (dV p16 (oMv (.t p6))
(dV p17 (oEq .i true (.t p16) (.c .nili))
dE)))
(dCond (.t p17) (dSeq (dOps (dV p18 (oBuild [.nilp] [])
(dV p19 (oMv (.t p6))
(dU (oSt 1 (.t p2) (.t p18))
(dV p3 (oMv (.t p19))
dE)))))
dRet) dSkip)))
(dSeq (dOps (dV p21 (oLdN 5 (.t p1))
(dC (some p22) p155 [(.t p21)]
(dC (some p23) p120 [(.t p22)]
(dV p20 (oMv (.t p23))
(dV p24 (oExt (.t p20) 0)
(dV p25 (oExt (.t p20) 1)
(dV p7 (oNew [.nilp] 153)
(dU (oSt 1 (.t p7) (.t p24))
(dV p8 (oMv (.t p25))
dE))))))))))
(dSeq (dSeq (dOps (dV p26 (oMv (.t p8))
(dV p27 (oEq .i true (.t p26) (.c .nili))
dE)))
(dCond (.t p27) (dSeq (dOps (dV p28 (oBuild [.nilp] [])
(dV p29 (oMv (.t p8))
(dU (oSt 1 (.t p2) (.t p28))
(dV p3 (oMv (.t p29))
dE)))))
dRet) dSkip))
(dSeq (dDraw (sN p30 ⟨(some p30), (.v (.fa 1 (.t p1))), none⟩
(sN p31 ⟨(some p31), (.v (.fa 0 (.t p30))), none⟩
(sN p32 ⟨(some p32), (.v (.ldN 2 (.t p31))), none⟩
(sN p33 ⟨(some p33), (.v (.fa 4 (.t p1))), none⟩
(sN p34 ⟨(some p34), (.v (.ldN 1 (.t p33))), none⟩
(sN p37 ⟨(some p37), (.v (.fa 4 (.t p4))), none⟩
(sN p38 ⟨(some p38), (.v (.ldN 1 (.t p37))), none⟩
(sN p39 ⟨(some p39), (.v (.ldN 1 (.t p7))), none⟩
(sE [] [(p32, ⟨(some p32), (.v (.ldN 2 (.t p31))), none⟩), (p38, ⟨(some p38), (.v (.ldN 1 (.t p37))), none⟩), (p39, ⟨(some p39), (.v (.ldN 1 (.t p7))), none⟩)] ⟨(some p35), (.call p150 [(.t p34)]), none⟩
(sN p36 ⟨(some p36), (.v (.fld1 2 (.t p35))), none⟩
(sE [] [] ⟨(some p40), (.call p157 [(.t p32), (.t p36), (.t p38), (.t p39)]), none⟩
(sE [] [] ⟨none, (.v (.st 1 (.t p2) (.t p40))), none⟩
(sN p3 ⟨(some p3), (.v (.mv (.c .nili))), none⟩
sEnd))))))))))))))
dRet)))))), [(.cN p2 1), (.t p3)]⟩
def af108 : AF := ⟨(dSeq (dOps (dV p1 (oBox 155 (.t p0))
(dV p2 (oNew [.nilp] 153)
(dV p3 (oMv (.c .nili))
dE))))
(dSeq (dOps (dV p9 (oLdN 5 (.t p1))
(dC (some p10) p154 [(.t p9), (.c (.int .i64 (.ofNat 0)))]
(dC (some p11) p114 [(.t p10), (.c (.int .i64 (.ofNat 3))), (.c (.int .i64 (.ofNat 14)))]
(dV p8 (oMv (.t p11))
(dV p12 (oExt (.t p8) 0)
(dV p13 (oExt (.t p8) 1)
(dV p4 (oNew [.nilp] 204)
(dU (oSt 1 (.t p4) (.t p12))
(dV p5 (oMv (.t p13))
dE))))))))))
(dSeq (dSeq (dOps (dV p14 (oMv (.t p5))
(dV p15 (oEq .i true (.t p14) (.c .nili))
dE)))
(dCond (.t p15) (dSeq (dOps (dV p16 (oBuild [.nilp] [])
(dV p17 (oMv (.t p5))
(dU (oSt 1 (.t p2) (.t p16))
(dV p3 (oMv (.t p17))
dE)))))
dRet) dSkip))
(dSeq (dOps (dV p18 (oLdN 5 (.t p1))
(dC (some p19) p154 [(.t p18), (.c (.int .i64 (.ofNat 1)))]
(dV p6 (oNew [.nilp, .nilp, (.int .i64 (.ofNat 0)), .nilp, .nilp] 155)
(dU (oSt 5 (.t p6) (.t p19))
dE)))))
(dSeq (dSeq (dDraw (sN p20 ⟨(some p20), (.v (.ldN 5 (.t p6))), none⟩
(sN p21 ⟨(some p21), (.v (.ldN 1 (.t p4))), none⟩
(sN p22 ⟨(some p22), (.v (.fa 1 (.t p1))), none⟩
(sN p23 ⟨(some p23), (.v (.fa 0 (.t p22))), none⟩
(sN p24 ⟨(some p24), (.v (.ldN 2 (.t p23))), none⟩
(sE [] [(p20, ⟨(some p20), (.v (.ldN 5 (.t p6))), none⟩), (p21, ⟨(some p21), (.v (.ldN 1 (.t p4))), none⟩)] ⟨(some p25), (.call p124 [(.t p24)]), none⟩
(sE [] [(p20, ⟨(some p20), (.v (.ldN 5 (.t p6))), none⟩)] ⟨(some p26), (.call p158 [(.t p21), (.c (.int .i64 (.ofNat 0))), (.t p25)]), none⟩
(sE [] [] ⟨(some p27), (.call p79 [(.t p20), (.t p26)]), none⟩
(sN p7 ⟨(some p7), (.v (.mv (.t p27))), none⟩
sEnd))))))))))
(dSeq (dOps (dV p28 (oMv (.t p7))
(dV p29 (oEq .i true (.t p28) (.c .nili))
dE)))
(dCond (.t p29) (dSeq (dOps (dV p30 (oBuild [.nilp] [])
(dV p31 (oMv (.t p7))
(dU (oSt 1 (.t p2) (.t p30))
(dV p3 (oMv (.t p31))
dE)))))
dRet) dSkip)))
(dSeq (dOps (dV p32 (oLdN 1 (.t p4))
(dV p33 (oFa 4 (.t p6))
(dV p34 (oLdN 1 (.t p33))
(dC (some p35) p159 [(.t p32), (.t p34)]
(dU (oSt 1 (.t p2) (.t p35))
(dV p3 (oMv (.c .nili))
dE)))))))
dRet)))))), [(.cN p2 1), (.t p3)]⟩
def af109 : AF := ⟨(dSeq (dOps (dV p1 (oBox 155 (.t p0))
(dV p2 (oNew [.nilp] 153)
(dV p3 (oMv (.c .nili))
dE))))
(dSeq (dDraw (sN p10 ⟨(some p10), (.v (.ldN 5 (.t p1))), none⟩
(sN p12 ⟨(some p12), (.v (.ldN 5 (.t p1))), none⟩
(sN p14 ⟨(some p14), (.v (.ldN 5 (.t p1))), none⟩
(sA 6 p4 (.new [.nilp, .nilp, (.int .i64 (.ofNat 0)), .nilp, .nilp] 155)
(sA 7 p5 (.new [.nilp, .nilp, (.int .i64 (.ofNat 0)), .nilp, .nilp] 155)
(sA 8 p6 (.new [.nilp, .nilp, (.int .i64 (.ofNat 0)), .nilp, .nilp] 155)
(sE [] [(p12, ⟨(some p12), (.v (.ldN 5 (.t p1))), none⟩), (p14, ⟨(some p14), (.v (.ldN 5 (.t p1))), none⟩)] ⟨(some p11), (.call p154 [(.t p10), (.c (.int .i64 (.ofNat 0)))]), none⟩
(sE [] [(p14, ⟨(some p14), (.v (.ldN 5 (.t p1))), none⟩)] ⟨(some p13), (.call p154 [(.t p12), (.c (.int .i64 (.ofNat 1)))]), none⟩
(sE [] [] ⟨(some p15), (.call p154 [(.t p14), (.c (.int .i64 (.ofNat 2)))]), none⟩
(sE [6, 7, 8] [] ⟨none, (.v (.st 5 (.t p4) (.t p11))), none⟩
(sE [6, 7, 8] [] ⟨none, (.v (.st 5 (.t p5) (.t p13))), none⟩
(sE [6, 7, 8] [] ⟨none, (.v (.st 5 (.t p6) (.t p15))), none⟩
sEnd)))))))))))))
(dSeq (dSeq (dOps (dV p17 (oLdN 5 (.t p4))
(dC (some p18) p76 [(.t p17)]
(dV p16 (oMv (.t p18))
(dV p19 (oExt (.t p16) 0)
(dV p20 (oExt (.t p16) 1)
(dV p7 (oNew [(.int .i64 (.ofNat 0)), .nils] 49)
(dU (oSt 2 (.t p7) (.t p19))
(dV p8 (oMv (.t p20))
dE)))))))))
(dSeq (dOps (dV p21 (oMv (.t p8))
(dV p22 (oEq .i true (.t p21) (.c .nili))
dE)))
(dCond (.t p22) (dSeq (dOps (dV p23 (oBuild [.nilp] [])
(dV p24 (oMv (.t p8))
(dU (oSt 1 (.t p2) (.t p23))
(dV p3 (oMv (.t p24))
dE)))))
dRet) dSkip)))
(dSeq (dSeq (dDraw (sN p25 ⟨(some p25), (.v (.ldN 5 (.t p5))), none⟩
(sN p26 ⟨(some p26), (.v (.ldN 5 (.t p4))), none⟩
(sE [] [(p25, ⟨(some p25), (.v (.ldN 5 (.t p5))), none⟩)] ⟨(some p27), (.call p154 [(.t p26), (.c (.int .i64 (.ofNat 0)))]), none⟩
(sN p28 ⟨(some p28), (.v (.fld 1 4 (.t p27))), none⟩
(sE [] [] ⟨(some p29), (.call p79 [(.t p25), (.t p28)]), none⟩
(sN p9 ⟨(some p9), (.v (.mv (.t p29))), none⟩
sEnd)))))))
(dSeq (dOps (dV p30 (oMv (.t p9))
(dV p31 (oEq .i true (.t p30) (.c .nili))
dE)))
(dCond (.t p31) (dSeq (dOps (dV p32 (oBuild [.nilp] [])
(dV p33 (oMv (.t p9))
(dU (oSt 1 (.t p2) (.t p32))
(dV p3 (oMv (.t p33))
dE)))))
dRet) dSkip)))
(dSeq (dDraw (sN p34 ⟨(some p34), (.v (.fa 4 (.t p4))), none⟩
(sN p35 ⟨(some p35), (.v (.ldN 1 (.t p34))), none⟩
(sN p36 ⟨(some p36), (.v (.ldN 5 (.t p6))), none⟩
(sN p37 ⟨(some p37), (.v (.fa 4 (.t p4))), none⟩
(sN p38 ⟨(some p38), (.v (.ldN 1 (.t p37))), none⟩
(sN p39 ⟨(some p39), (.v (.fa 4 (.t p5))), none⟩
(sN p40 ⟨(some p40), (.v (.ldN 1 (.t p39))), none⟩
(sE [] [(p35, ⟨(some p35), (.v (.ldN 1 (.t p34))), none⟩), (p36, ⟨(some p36), (.v (.ldN 5 (.t p6))), none⟩)] ⟨(some p41), (.call p160 [(.t p38), (.t p40)]), none⟩
(sE [] [(p35, ⟨(some p35), (.v (.ldN 1 (.t p34))), none⟩)] ⟨(some p42), (.call p79 [(.t p36), (.t p41)]), none⟩
(sE [] [] ⟨none, (.v (.st 1 (.t p2) (.t p35))), none⟩
(sN p3 ⟨(some p3), (.v (.mv (.t p42))), none⟩
sEnd))))))))))))
dRet))))), [(.cN p2 1), (.t p3)]⟩
def af110 : AF := ⟨(dSeq (dOps (dV p1 (oBox 155 (.t p0))
(dV p2 (oNew [.nilp] 153)
(dV p3 (oMv (.c .nili))
dE))))
(dSeq (dOps (dV p7 (oLdN 5 (.t p1))
(dC (some p8) p154 [(.t p7), (.c (.int .i64 (.ofNat 0)))]
(dC (some p9) p114 [(.t p8), (.c (.int .i64 (.ofNat 6))), (.c (.int .i64 (.ofNat 15)))]
(dV p6 (oMv (.t p9))
(dV p10 (oExt (.t p6) 0)
(dV p11 (oExt (.t p6) 1)
(dV p4 (oNew [.nilp] 204)
(dU (oSt 1 (.t p4) (.t p10))
(dV p5 (oMv (.t p11))
dE))))))))))
(dSeq (dSeq (dOps (dV p12 (oMv (.t p5))
(dV p13 (oEq .i true (.t p12) (.c .nili))
dE)))
(dCond (.t p13) (dSeq (dOps (dV p14 (oBuild [.nilp] [])
(dV p15 (oMv (.t p5))
(dU (oSt 1 (.t p2) (.t p14))
(dV p3 (oMv (.t p15))
dE)))))
dRet) dSkip))
(dSeq (dDraw (sN p16 ⟨(some p16), (.v (.ldN 1 (.t p4))), none⟩
(sN p17 ⟨(some p17), (.v (.fa 1 (.t p1))), none⟩
(sN p18 ⟨(some p18), (.v (.fa 0 (.t p17))), none⟩
(sN p19 ⟨(some p19), (.v (.ldN 2 (.t p18))), none⟩
(sE [] [(p16, ⟨(some p16), (.v (.ldN 1 (.t p4))), none⟩)] ⟨(some p20), (.call p124 [(.t p19)]), none⟩
(sE [] [] ⟨(some p21), (.call p158 [(.t p16), (.c (.int .i64 (.ofNat 0))), (.t p20)]), none⟩
(sE [] [] ⟨none, (.v (.st 1 (.t p2) (.t p21))), none⟩
(sN p3 ⟨(some p3), (.v (.mv (.c .nili))), none⟩
sEnd)))))))))
dRet)))), [(.cN p2 1), (.t p3)]⟩
def af111 : AF := ⟨(dSeq (dOps (dV p1 (oBox 155 (.t p0))
(dV p2 (oNew [.nilp] 153)
(dV p3 (oMv (.c .nili))
dE))))
(dSeq (dOps (dV p7 (oLdN 5 (.t p1))
(dC (some p8) p154 [(.t p7), (.c (.int .i64 (.ofNat 0)))]
(dV p4 (oNew [.nilp, .nilp, (.int .i64 (.ofNat 0)), .nilp, .nilp] 155)
(dU (oSt 5 (.t p4) (.t p8))
dE)))))
(dSeq (dOps (dV p10 (oLdN 5 (.t p4))
(dC (some p11) p114 [(.t p10), (.c (.int .i64 (.ofNat 6))), (.c (.int .i64 (.ofNat 15)))]
(dV p9 (oMv (.t p11))
(dV p12 (oExt (.t p9) 0)
(dV p13 (oExt (.t p9) 1)
(dV p5 (oNew [.nilp] 204)
(dU (oSt 1 (.t p5) (.t p12))
(dV p6 (oMv (.t p13))
dE)))))))))
(dSeq (dSeq (dOps (dV p14 (oMv (.t p6))
(dV p15 (oEq .i true (.t p14) (.c .nili))
dE)))
(dCond (.t p15) (dSeq (dOps (dV p16 (oBuild [.nilp] [])
(dV p17 (oMv (.t p6))
(dU (oSt 1 (.t p2) (.t p16))
(dV p3 (oMv (.t p17))
dE)))))
dRet) dSkip))
(dSeq (dDraw (sN p18 ⟨(some p18), (.v (.ldN 1 (.t p5))), none⟩
(sN p19 ⟨(some p19), (.v (.fa 4 (.t p4))), none⟩
(sN p20 ⟨(some p20), (.v (.ldN 1 (.t p19))), none⟩
(sE [] [(p18, ⟨(some p18), (.v (.ldN 1 (.t p5))), none⟩)] ⟨(some p21), (.call p161 [(.t p20), (.c (.int .i64 (.ofNat 8)))]), none⟩
(sE [] [] ⟨(some p22), (.call p159 [(.t p18), (.t p21)]), none⟩
(sE [] [] ⟨none, (.v (.st 1 (.t p2) (.t p22))), none⟩
(sN p3 ⟨(some p3), (.v (.mv (.c .nili))), none⟩
sEnd))))))))
dRet))))), [(.cN p2 1), (.t p3)]⟩
def af112 : AF := ⟨(dSeq (dOps (dV p1 (oBox 155 (.t p0))
(dV p2 (oNew [.nilp] 153)
(dV p3 (oMv (.c .nili))
dE))))
(dSeq (dOps (dV p9 (oFa 4 (.t p1))
(dV p10 (oLdN 1 (.t p9))
(dC (some p11) p150 [(.t p10)]
(dV p4 (oNew [(.int .i64 (.ofNat 0)), (.int .i64 (.ofNat 0)), (.bool false), (.str []), .nils, .nils] 26)
(dU (oSt 6 (.t p4) (.t p11))
dE))))))
(dSeq (dOps (dV p13 (oFa 0 (.t p1))
(dV p14 (oLd1 (.t p13))
(dV p15 (oLdN 6 (.t p4))
(dC (some p16) p162 [(.t p14), (.t p15)]
(dV p12 (oMv (.t p16))
(dV p17 (oExt (.t p12) 0)
(dV p18 (oExt (.t p12) 1)
(dV p5 (oNew [.nilp] 153)
(dU (oSt 1 (.t p5) (.t p17))
(dV p6 (oMv (.t p18))
dE)))))))))))
(dSeq (dSeq (dOps (dV p19 (oMv (.t p6))
(dV p20 (oEq .i true (.t p19) (.c .nili))
dE)))
(dCond (.t p20) (dSeq (dOps (dV p21 (oBuild [.nilp] [])
(dV p22 (oMv (.t p6))
(dU (oSt 1 (.t p2) (.t p21))
(dV p3 (oMv (.t p22))
dE)))))
dRet) dSkip))
(dSeq (dSeq (dOps (dV p23 (oFa 4 (.t p4))
(dV p24 (oLd1 (.t p23))
(dV p25 (oLen (.t p24))
(dV p26 (oMv (.c (.int .i64 (.ofNat 0))))
dE)))))
(dBlock 0 (dLoop (dSeq (dOps (dV p27 (oAr .lss (.t p26) (.t p25))
dE))
(dSeq (dCond (.t p27) dSkip (dExit 0))
(dSeq (dBlock 1 (dSeq (dOps (dV p28 (oIa 2 (.t p24) (.t p26))
(dV p29 (oLdN 2 (.t p28))
(dV p8 (oNew [(.int .i64 (.ofNat 0)), .nils] 49)
(dU (oSt 2 (.t p8) (.t p29))
dE)))))
(dSeq (dOps (dV p30 (oFa 0 (.t p1))
(dV p31 (oLd1 (.t p30))
(dV p32 (oLdN 2 (.t p8))
(dC (some p33) p151 [(.t p31), (.t p32)]
(dV p34 (oUn .not (.t p33))
dE))))))
(dCond (.t p34) (dSeq (dOps (dV p35 (oBuild [.nilp] [])
(dC (some p36) p125 [(.c (.int .i64 (.ofNat 13)))]
(dU (oSt 1 (.t p2) (.t p35))
(dV p3 (oMv (.t p36))
dE)))))
dRet) dSkip))))
(dOps (dV p37 (oAr .add (.t p26) (.c (.int .i64 (.ofNat 1))))
(dV p26 (oMv (.t p37))
dE)))))))))
(dSeq (dOps (dV p38 (oLdN 1 (.t p5))
(dU (oSt 1 (.t p2) (.t p38))
(dV p3 (oMv (.c .nili))
dE))))
dRet)))))), [(.cN p2 1), (.t p3)]⟩
def af113 : AF := ⟨(dSeq (dOps (dV p1 (oBox 155 (.t p0))
(dV p2 (oNew [.nilp] 153)
(dV p3 (oMv (.c .nili))
dE))))
(dSeq (dOps (dV p4 (oBuild [.nilp] [])
(dC (some p5) p125 [(.c (.int .i64 (.ofNat 10)))]
(dU (oSt 1 (.t p2) (.t p4))
(dV p3 (oMv (.t p5))
dE)))))
dRet)), [(.cN p2 1), (.t p3)]⟩
def af114 : AF := ⟨(dSeq (dOps (dV p3 (oBox 155 (.t p0))
(dV p6 (oNew [.nilp] 204)
(dV p7 (oMv (.c .nili))
dE))))
(dSeq (dOps (dV p13 (oLdN 5 (.t p3))
(dC (some p14) p120 [(.t p13)]
(dV p12 (oMv (.t p14))
(dV p15 (oExt (.t p12) 0)
(dV p16 (oExt (.t p12) 1)
(dV p8 (oNew [.nilp] 153)
(dU (oSt 1 (.t p8) (.t p15))
(dV p9 (oMv (.t p16))
dE)))))))))
(dSeq (dSeq (dOps (dV p17 (oMv (.t p9))
(dV p18 (oEq .i true (.t p17) (.c .nili))
dE)))
(dCond (.t p18) (dSeq (dOps (dV p19 (oBuild [.nilp] [])
(dV p20 (oMv (.t p9))
(dU (oSt 1 (.t p6) (.t p19))
(dV p7 (oMv (.t p20))
dE)))))
dRet) dSkip))
(dSeq (dOps (dV p22 (oMkf 164 [] [(.t p3), (.t p8)])
(dC (some p23) p163 [(.t p22)]
(dV p21 (oMv (.t p23))
(dV p24 (oExt (.t p21) 0)
(dV p25 (oExt (.t p21) 1)
(dV p10 (oNew [.nilp] 204)
(dU (oSt 1 (.t p10) (.t p24))
(dV p11 (oMv (.t p25))
dE)))))))))
(dSeq (dSeq (dOps (dV p26 (oMv (.t p11))
(dV p27 (oAr .eql (.t p26) (.c (.int .i64 (.ofNat 0))))
(dV p28 (oMv (.t p27))
(dG p28 true (some p29) (dV p29 (oLdN 1 (.t p10)))
(dG p28 true (some p30) (dC (some p30) p166 [(.t p29)])
(dG p28 true (some p31) (dV p31 (oMv (.t p1)))
(dG p28 true (some p32) (dV p32 (oAr .neq (.t p30) (.t p31)))
(dV p33 (oPick (.t p28) (.t p32) (.c (.bool false)))
dE)))))))))
(dCond (.t p33) (dOps (dV p34 (oMv (.t p2))
(dV p11 (oMv (.t p34))
dE))) dSkip))
(dSeq (dDraw (sN p35 ⟨(some p35), (.v (.ldN 1 (.t p10))), none⟩
(sN p36 ⟨(some p36), (.v (.mv (.t p11))), none⟩
(sE [] [(p35, ⟨(some p35), (.v (.ldN 1 (.t p10))), none⟩)] ⟨(some p37), (.call p125 [(.t p36)]), none⟩
(sE [] [] ⟨none, (.v (.st 1 (.t p6) (.t p35))), none⟩
(sN p7 ⟨(some p7), (.v (.mv (.t p37))), none⟩
sEnd))))))
dRet)))))), [(.cN p6 1), (.t p7)]⟩
def af115 : AF := ⟨(dSeq (dOps (dV p1 (oBox 204 (.t p0))
(dV p2 (oNew [(.int .i64 (.ofNat 0)), (.int .i64 (.ofNat 0)), (.bool false), (.str []), .nils, .nils] 26)
dE)))
(dSeq (dOps (dV p4 (oFa 0 (.t p1))
(dV p5 (oLd1 (.t p4))
(dV p6 (oNchk (.t p5))
(dV p7 (oFa 0 (.t p6))
(dV p8 (oFa 0 (.t p7))
(dV p9 (oFa 2 (.t p8))
(dV p10 (oLd1 (.t p9))
(dV p11 (oNchk (.t p10))
(dV p12 (oFa 0 (.t p11))
(dV p13 (oLdN 6 (.t p12))
(dV p3 (oNew [(.int .i64 (.ofNat 0)), (.int .i64 (.ofNat 0)), (.bool false), (.str []), .nils, .nils] 26)
(dU (oSt 6 (.t p3) (.t p13))
dE)))))))))))))
(dSeq (dSeq (dOps (dV p14 (oFa 0 (.t p3))
(dV p15 (oLd1 (.t p14))
(dV p16 (oAr .eql (.t p15) (.c (.int .i64 (.ofNat 1))))
dE))))
(dCond (.t p16) (dDraw (sN p17 ⟨(some p17), (.v (.fa 1 (.t p3))), none⟩
(sN p18 ⟨(some p18), (.v (.ld1 (.t p17))), none⟩
(sN p19 ⟨(some p19), (.v (.fa 0 (.t p1))), none⟩
(sN p20 ⟨(some p20), (.v (.ld1 (.t p19))), none⟩
(sN p21 ⟨(some p21), (.v (.nchk (.t p20))), none⟩
(sN p22 ⟨(some p22), (.v (.fa 0 (.t p21))), none⟩
(sN p23 ⟨(some p23), (.v (.fa 0 (.t p22))), none⟩
(sN p24 ⟨(some p24), (.v (.fa 0 (.t p23))), none⟩
(sN p25 ⟨(some p25), (.v (.fa 1 (.t p24))), none⟩
(sN p26 ⟨(some p26), (.v (.ld1 (.t p25))), none⟩
(sN p27 ⟨(some p27), (.v (.ar .sub (.t p18) (.t p26))), none⟩
(sN p28 ⟨(some p28), (.v (.fa 1 (.t p3))), none⟩
(sE [] [] ⟨none, (.v (.st 1 (.t p28) (.t p27))), none⟩
sEnd)))))))))))))) dSkip))
(dSeq (dOps (dV p29 (oLdN 6 (.t p3))
(dU (oSt 6 (.t p2) (.t p29))
dE)))
dRet)))), [(.cN p2 6)]⟩
def af117 : AF := ⟨(dSeq (dOps (dV p1 (oBox 49 (.t p0))
(dV p2 (oMv (.c (.bool false)))
dE)))
(dSeq (dSeq (dOps (dV p5 (oFa 1 (.t p1))
(dV p6 (oLd1 (.t p5))
(dV p7 (oLen (.t p6))
(dV p8 (oAr .gtr (.t p7) (.c (.int .i64 (.ofNat 64))))
(dV p9 (oMv (.t p8))
(dG p9 false (some p10) (dV p10 (oFa 0 (.t p1)))
(dG p9 false (some p11) (dV p11 (oLd1 (.t p10)))
(dG p9 false (some p12) (dC (some p12) p171 [(.t p11)])
(dG p9 false (some p13) (dV p13 (oUn .not (.t p12)))
(dV p14 (oPick (.t p9) (.c (.bool true)) (.t p13))
dE)))))))))))
(dCond (.t p14) (dSeq (dOps (dV p2 (oMv (.c (.bool false)))
dE))
dRet) dSkip))
(dSeq (dSeq (dOps (dV p15 (oFa 1 (.t p1))
(dV p16 (oLd1 (.t p15))
(dV p17 (oLen (.t p16))
(dV p18 (oMv (.c (.int .i64 (.ofNat 0))))
dE)))))
(dBlock 0 (dLoop (dSeq (dOps (dV p19 (oAr .lss (.t p18) (.t p17))
dE))
(dSeq (dCond (.t p19) dSkip (dExit 0))
(dSeq (dBlock 1 (dSeq (dOps (dV p20 (oIa 2 (.t p16) (.t p18))
(dV p21 (oLdN 2 (.t p20))
(dV p4 (oNew [(.int .i64 (.ofNat 0)), (.int .i64 (.ofNat 0))] 46)
(dU (oSt 2 (.t p4) (.t p21))
dE)))))
(dSeq (dOps (dV p22 (oFa 0 (.t p4))
(dV p23 (oLd1 (.t p22))
(dC (some p24) p171 [(.t p23)]
(dV p25 (oUn .not (.t p24))
(dV p26 (oMv (.t p25))
(dG p26 false (some p27) (dV p27 (oFa 1 (.t p4)))
(dG p26 false (some p28) (dV p28 (oLd1 (.t p27)))
(dG p26 false (some p29) (dC (some p29) p171 [(.t p28)])
(dG p26 false (some p30) (dV p30 (oUn .not (.t p29)))
(dV p31 (oPick (.t p26) (.c (.bool true)) (.t p30))
dE)))))))))))
(dCond (.t p31) (dSeq (dOps (dV p2 (oMv (.c (.bool false)))
dE))
dRet) dSkip))))
(dOps (dV p32 (oAr .add (.t p18) (.c (.int .i64 (.ofNat 1))))
(dV p18 (oMv (.t p32))
dE)))))))))
(dSeq (dOps (dV p2 (oMv (.c (.bool true)))
dE))
dRet)))), [(.t p2)]⟩
def af118 : AF := ⟨(dSeq (dOps (dV p4 (oNew [(.int .i64 (.ofNat 0)), .nils] 49)
(dV p5 (oMv (.c (.int .i64 (.ofNat 0))))
dE)))
(dSeq (dOps (dV p9 (oMv (.t p0))
(dV p10 (oMv (.t p1))
(dC (some p11) p172 [(.t p10), (.c (.fn (.func 173) [] []))]
(dV p12 (oBuild [(.int .i64 (.ofNat 0)), .nils] [(0, 1, (.t p9)), (1, 1, (.t p11))])
(dV p6 (oNew [(.int .i64 (.ofNat 0)), .nils] 49)
(dU (oSt 2 (.t p6) (.t p12))
dE)))))))
(dSeq (dSeq (dOps (dV p13 (oFa 1 (.t p6))
(dV p14 (oLd1 (.t p13))
(dV p15 (oLen (.t p14))
(dV p16 (oMv (.c (.int .i64 (.ofNat 0))))
dE)))))
(dBlock 0 (dLoop (dSeq (dOps (dV p17 (oAr .lss (.t p16) (.t p15))
dE))
(dSeq (dCond (.t p17) dSkip (dExit 0))
(dSeq (dBlock 1 (dSeq (dOps (dV p18 (oIa 2 (.t p14) (.t p16))
(dV p19 (oLdN 2 (.t p18))
(dV p8 (oNew [(.int .i64 (.ofNat 0)), (.int .i64 (.ofNat 0))] 46)
(dU (oSt 2 (.t p8) (.t p19))
dE)))))
(dSeq (dOps (dV p20 (oFa 1 (.t p8))
(dV p21 (oLd1 (.t p20))
(dV p22 (oMv (.t p0))
(dV p23 (oAr .geq (.t p21) (.t p22))
dE)))))
(dCond (.t p23) (dOps (dV p24 (oFa 0 (.t p6))
(dU (oSt 1 (.t p24) (.c (.int .i64 (.ofNat 0))))
dE))) dSkip))))
(dOps (dV p25 (oAr .add (.t p16) (.c (.int .i64 (.ofNat 1))))
(dV p16 (oMv (.t p25))
dE)))))))))
(dSeq (dSeq (dOps (dV p26 (oLdN 2 (.t p6))
(dC (some p27) p117 [(.t p26)]
(dV p28 (oUn .not (.t p27))
dE))))
(dCond (.t p28) (dSeq (dOps (dV p29 (oBuild [(.int .i64 (.ofNat 0)), .nils] [])
(dU (oSt 2 (.t p4) (.t p29))
(dV p5 (oMv (.c (.int .i64 (.ofNat 13))))
dE))))
dRet) dSkip))
(dSeq (dOps (dV p30 (oLdN 2 (.t p6))
(dU (oSt 2 (.t p4) (.t p30))
(dV p5 (oMv (.c (.int .i64 (.ofNat 0))))
dE))))
dRet))))), [(.cN p4 2), (.t p5)]⟩
def af119 : AF := ⟨(dSeq (dOps (dV p2 (oBox 155 (.t p0))
(dV p3 (oBox 153 (.t p1))
(dV p4 (oMv (.c .nili))
dE))))
(dSeq (dOps (dV p8 (oMkf 175 [] [(.t p2), (.t p3)])
(dC (some p9) p174 [(.t p8)]
(dV p7 (oMv (.t p9))
(dV p10 (oExt (.t p7) 0)
(dV p11 (oExt (.t p7) 1)
(dV p5 (oMv (.t p10))
(dV p6 (oMv (.t p11))
dE))))))))
(dSeq (dOps (dV p12 (oMv (.t p6))
(dC (some p13) p125 [(.t p12)]
(dV p4 (oMv (.t p13))
dE))))
dRet))), [(.t p4)]⟩
def af120 : AF := ⟨(dSeq (dOps (dV p1 (oBox 155 (.t p0))
(dV p2 (oNew [.nilp] 153)
(dV p3 (oMv (.c .nili))
dE))))
(dSeq (dOps (dV p7 (oFa 4 (.t p1))
(dV p8 (oLdN 1 (.t p7))
(dC (some p9) p150 [(.t p8)]
(dV p10 (oFld1 0 (.t p9))
(dV p4 (oMv (.t p10))
dE))))))
(dSeq (dDraw (sN p12 ⟨(some p12), (.v (.fa 0 (.t p1))), none⟩
(sN p13 ⟨(some p13), (.v (.ld1 (.t p12))), none⟩
(sN p14 ⟨(some p14), (.v (.mv (.t p4))), none⟩
(sN p15 ⟨(some p15), (.v (.nchk (.t p13))), none⟩
(sN p16 ⟨(some p16), (.v (.fa 5 (.t p15))), none⟩
(sN p17 ⟨(some p17), (.v (.iaA 12 1 (.t p16) (.t p14))), none⟩
(sN p18 ⟨(some p18), (.v (.ld1 (.t p17))), none⟩
(sN p19 ⟨(some p19), (.v (.ldN 5 (.t p1))), none⟩
(sA 12 p5 (.new [.nilp] 153)
(sE [] [] ⟨(some p20), (.callv (.t p18) [(.t p19)]), none⟩
(sN p11 ⟨(some p11), (.v (.mv (.t p20))), none⟩
(sN p21 ⟨(some p21), (.v (.ext (.t p11) 0)), none⟩
(sN p22 ⟨(some p22), (.v (.ext (.t p11) 1)), none⟩
(sE [12] [] ⟨none, (.v (.st 1 (.t p5) (.t p21))), none⟩
(sN p6 ⟨(some p6), (.v (.mv (.t p22))), none⟩
sEnd))))))))))))))))
(dSeq (dSeq (dOps (dV p23 (oMv (.t p6))
(dV p24 (oEq .i false (.t p23) (.c .nili))
dE)))
(dCond (.t p24) (dOps (dV p25 (oLdN 5 (.t p1))
(dV p26 (oLdN 1 (.t p5))
(dC (some p27) p119 [(.t p25), (.t p26)]
(dV p6 (oMv (.t p27))
dE))))) dSkip))
(dSeq (dSeq (dOps (dV p28 (oMv (.t p6))
(dV p29 (oEq .i true (.t p28) (.c .nili))
dE)))
(dCond (.t p29) (dSeq (dOps (dV p30 (oBuild [.nilp] [])
(dV p31 (oMv (.t p4))
(dV p32 (oMv (.t p6))
(dV p33 (oBuild [(.int .i64 (.ofNat 0)), .nili] [(0, 1, (.t p31)), (1, 1, (.t p32))])
(dV p34 (oMki 304 (.t p33))
(dU (oSt 1 (.t p2) (.t p30))
(dV p3 (oMv (.t p34))
dE))))))))
dRet) dSkip))
(dSeq (dOps (dV p35 (oLdN 1 (.t p5))
(dU (oSt 1 (.t p2) (.t p35))
(dV p3 (oMv (.c .nili))
dE))))
dRet)))))), [(.cN p2 1), (.t p3)]⟩
def af122 : AF := ⟨(dSeq (dOps (dV p3 (oMv (.c (.bool false)))
dE))
(dSeq (dDraw (sN p4 ⟨(some p4), (.v (.fa 0 (.t p0))), none⟩
(sN p5 ⟨(some p5), (.v (.ld1 (.t p4))), none⟩
(sN p6 ⟨(some p6), (.v (.nchk (.t p5))), none⟩
(sN p7 ⟨(some p7), (.v (.fa 3 (.t p6))), none⟩
(sN p8 ⟨(some p8), (.v (.ld1 (.t p7))), none⟩
(sN p9 ⟨(some p9), (.v (.ldN 1 (.t p1))), none⟩
(sN p10 ⟨(some p10), (.v (.ldN 1 (.t p2))), none⟩
(sN p11 ⟨(some p11), (.v (.fa 1 (.t p0))), none⟩
(sN p12 ⟨(some p12), (.v (.fa 0 (.t p11))), none⟩
(sN p13 ⟨(some p13), (.v (.ldN 2 (.t p12))), none⟩
(sE [] [(p5, ⟨(some p5), (.v (.ld1 (.t p4))), none⟩), (p8, ⟨(some p8), (.v (.ld1 (.t p7))), none⟩), (p9, ⟨(some p9), (.v (.ldN 1 (.t p1))), none⟩), (p10, ⟨(some p10), (.v (.ldN 1 (.t p2))), none⟩)] ⟨(some p14), (.call p124 [(.t p13)]), none⟩
(sE [] [] ⟨(some p15), (.call p123 [(.t p8), (.t p9), (.t p10), (.t p14)]), none⟩
(sN p3 ⟨(some p3), (.v (.mv (.t p15))), none⟩
sEnd))))))))))))))
dRet)), [(.t p3)]⟩
def af123 : AF := ⟨(dSeq (dOps (dV p5 (oBox 153 (.t p1))
(dV p6 (oBox 153 (.t p2))
(dV p8 (oMv (.c (.bool false)))
dE))))
(dSeq (dDraw (sN p11 ⟨(some p11), (.v (.mv (.t p0))), none⟩
(sN p12 ⟨(some p12), (.v (.nchk (.t p11))), none⟩
(sN p13 ⟨(some p13), (.v (.fa 1 (.t p12))), none⟩
(sN p14 ⟨(some p14), (.v (.ldN 1 (.t p5))), none⟩
(sN p15 ⟨(some p15), (.v (.ldN 1 (.t p6))), none⟩
(sN p16 ⟨(some p16), (.v (.mv (.t p3))), none⟩
(sN p17 ⟨(some p17), (.v (.build [.nilp, .nilp, (.int .i64 (.ofNat 0))] [(0, 1, (.t p14)), (1, 1, (.t p15)), (2, 1, (.t p16))])), none⟩
(sA 7 p18 (.buildS 308 1 [.nilp, .nilp, (.int .i64 (.ofNat 0))] [(0, 3, (.t p17))])
(sE [7] [] ⟨(some p19), (.call p179 [(.t p13), (.t p18)]), none⟩
sEnd))))))))))
(dBlock 0 (dLoop (dBlock 1 (dSeq (dOps (dV p21 (oMv (.t p0))
(dV p22 (oNchk (.t p21))
(dV p23 (oFa 1 (.t p22))
(dC (some p24) p180 [(.t p23)]
(dV p20 (oMv (.t p24))
(dV p25 (oExt (.t p20) 0)
(dV p26 (oExt (.t p20) 1)
(dV p9 (oNew [.nilp, .nilp, (.int .i64 (.ofNat 0))] 308)
(dU (oSt 3 (.t p9) (.t p25))
(dV p10 (oMv (.t p26))
dE)))))))))))
(dSeq (dSeq (dOps (dV p27 (oMv (.t p10))
(dV p28 (oUn .not (.t p27))
dE)))
(dCond (.t p28) (dSeq (dOps (dV p8 (oMv (.c (.bool true)))
dE))
dRet) dSkip))
(dSeq (dSeq (dOps (dV p29 (oMv (.t p0))
(dV p30 (oLdN 3 (.t p9))
(dC (some p31) p181 [(.t p29), (.t p30)]
dE))))
(dCond (.t p31) (dExit 1) dSkip))
(dSeq (dOps (dV p32 (oMv (.t p0))
(dV p33 (oLdN 3 (.t p9))
(dC (some p34) p182 [(.t p32), (.t p33)]
(dV p35 (oUn .not (.t p34))
dE)))))
(dCond (.t p35) (dSeq (dOps (dV p8 (oMv (.c (.bool false)))
dE))
dRet) dSkip)))))))))), [(.t p8)]⟩
def af124 : AF := ⟨(dSeq (dOps (dV p1 (oBox 87 (.t p0))
(dV p2 (oMv (.c (.int .i64 (.ofNat 0))))
dE)))
(dSeq (dOps (dV p3 (oFa 0 (.t p1))
(dV p4 (oFa 1 (.t p3))
(dV p5 (oLd1 (.t p4))
(dV p2 (oMv (.t p5))
dE)))))
dRet)), [(.t p2)]⟩
def af125 : AF := ⟨(dSeq (dOps (dV p2 (oMv (.c .nili))
dE))
(dSeq (dSeq (dOps (dV p3 (oMv (.t p0))
(dV p4 (oAr .eql (.t p3) (.c (.int .i64 (.ofNat 0))))
dE)))
(dCond (.t p4) (dSeq (dOps (dV p2 (oMv (.c .nili))
dE))
dRet) dSkip))
(dSeq (dOps (dV p5 (oMv (.t p0))
(dV p6 (oBuild [(.int .i64 (.ofNat 0))] [(0, 1, (.t p5))])
(dV p7 (oMki 209 (.t p6))
(dV p2 (oMv (.t p7))
dE)))))
dRet))), [(.t p2)]⟩
def af126 : AF := ⟨(dSeq (dOps (dV p1 (oBox 26 (.t p0))
(dV p2 (oMv (.c .nilp))
dE)))
(dSeq (dOps (dV p7 (oLdN 6 (.t p1))
(dV p8 (oBuild [(.int .i64 (.ofNat 0)), (.int .i64 (.ofNat 0)), (.bool false), (.str []), .nils, .nils, .nils, (.int .i64 (.ofNat 0)), (.int .i64 (.ofNat 0)), (.int .i64 (.ofNat 0)), .nils, .nilp] [(0, 6, (.t p7)), (7, 1, (.c (.int .i64 (.ofNat 1))))])
(dV p9 (oBox 281 (.t p8))
(dV p3 (oMv (.t p9))
dE)))))
(dSeq (dOps (dV p10 (oMv (.t p3))
(dV p11 (oNchk (.t p10))
(dV p12 (oFa 0 (.t p11))
(dV p13 (oFa 5 (.t p12))
(dU (oSt 1 (.t p13) (.c .nils))
dE))))))
(dSeq (dSeq (dOps (dV p14 (oFa 0 (.t p1))
(dV p15 (oLd1 (.t p14))
(dV p16 (oAr .eql (.t p15) (.c (.int .i64 (.ofNat 1))))
dE))))
(dCond (.t p16) (dOps (dV p17 (oMv (.t p3))
(dV p18 (oFa 1 (.t p1))
(dV p19 (oLd1 (.t p18))
(dV p20 (oAr .add (.t p19) (.c (.int .i64 (.ofNat 1))))
(dV p21 (oNchk (.t p17))
(dV p22 (oFa 9 (.t p21))
(dU (oSt 1 (.t p22) (.t p20))
dE)))))))) dSkip))
(dSeq (dSeq (dOps (dV p23 (oFa 5 (.t p1))
(dV p24 (oLd1 (.t p23))
(dV p25 (oLen (.t p24))
(dV p26 (oMv (.c (.int .i64 (.ofNat 0))))
dE)))))
(dBlock 0 (dLoop (dSeq (dOps (dV p27 (oAr .lss (.t p26) (.t p25))
dE))
(dSeq (dCond (.t p27) dSkip (dExit 0))
(dSeq (dBlock 1 (dSeq (dOps (dV p28 (oMv (.t p26))
(dV p29 (oIa 6 (.t p24) (.t p26))
(dV p30 (oLdN 6 (.t p29))
(dV p5 (oNew [(.int .i64 (.ofNat 0)), (.int .i64 (.ofNat 0)), (.bool false), (.str []), .nils, .nils] 26)
(dV p4 (oMv (.t p28))
(dU (oSt 6 (.t p5) (.t p30))
dE)))))))
(dSeq (dOps (dV p31 (oLdN 6 (.t p5))
(dC (some p32) p126 [(.t p31)]
(dV p6 (oMv (.t p32))
dE))))
(dSeq (dOps (dV p33 (oMv (.t p3))
(dV p34 (oMv (.t p3))
(dV p35 (oNchk (.t p34))
(dV p36 (oFa 6 (.t p35))
(dV p37 (oLd1 (.t p36))
(dV p38 (oMv (.t p6))
(dV p39 (oBuildS 219 1 [.nilp] [(0, 1, (.t p38))])
(dV p40 (oApp 219 1 (.t p37) (.t p39))
(dV p41 (oNchk (.t p33))
(dV p42 (oFa 6 (.t p41))
(dU (oSt 1 (.t p42) (.t p40))
dE))))))))))))
(dSeq (dDraw (sN p43 ⟨(some p43), (.v (.mv (.t p3))), none⟩
(sN p44 ⟨(some p44), (.v (.nchk (.t p43))), none⟩
(sN p45 ⟨(some p45), (.v (.fa 7 (.t p44))), none⟩
(sN p46 ⟨(some p46), (.v (.ld1 (.t p45))), none⟩
(sN p47 ⟨(some p47), (.v (.mv (.t p6))), none⟩
(sN p48 ⟨(some p48), (.v (.nchk (.t p47))), none⟩
(sN p49 ⟨(some p49), (.v (.fa 7 (.t p48))), none⟩
(sN p50 ⟨(some p50), (.v (.ld1 (.t p49))), none⟩
(sN p51 ⟨(some p51), (.v (.ar .add (.t p46) (.t p50))), none⟩
(sN p52 ⟨(some p52), (.v (.nchk (.t p43))), none⟩
(sN p53 ⟨(some p53), (.v (.fa 7 (.t p52))), none⟩
(sE [] [] ⟨none, (.v (.st 1 (.t p53) (.t p51))), none⟩
sEnd)))))))))))))
(dSeq (dDraw (sN p54 ⟨(some p54), (.v (.mv (.t p3))), none⟩
(sN p55 ⟨(some p55), (.v (.mv (.t p3))), none⟩
(sN p56 ⟨(some p56), (.v (.nchk (.t p55))), none⟩
(sN p57 ⟨(some p57), (.v (.fa 8 (.t p56))), none⟩
(sN p58 ⟨(some p58), (.v (.ld1 (.t p57))), none⟩
(sN p59 ⟨(some p59), (.v (.mv (.t p6))), none⟩
(sN p60 ⟨(some p60), (.v (.nchk (.t p59))), none⟩
(sN p61 ⟨(some p61), (.v (.fa 8 (.t p60))), none⟩
(sN p62 ⟨(some p62), (.v (.ld1 (.t p61))), none⟩
(sN p63 ⟨(some p63), (.v (.mm true [(.t p58), (.t p62)])), none⟩
(sN p64 ⟨(some p64), (.v (.nchk (.t p54))), none⟩
(sN p65 ⟨(some p65), (.v (.fa 8 (.t p64))), none⟩
(sE [] [] ⟨none, (.v (.st 1 (.t p65) (.t p63))), none⟩
sEnd))))))))))))))
(dDraw (sN p66 ⟨(some p66), (.v (.mv (.t p3))), none⟩
(sN p67 ⟨(some p67), (.v (.mv (.t p3))), none⟩
(sN p68 ⟨(some p68), (.v (.nchk (.t p67))), none⟩
(sN p69 ⟨(some p69), (.v (.fa 9 (.t p68))), none⟩
(sN p70 ⟨(some p70), (.v (.ld1 (.t p69))), none⟩
(sN p71 ⟨(some p71), (.v (.mv (.t p6))), none⟩
(sN p72 ⟨(some p72), (.v (.nchk (.t p71))), none⟩
(sN p73 ⟨(some p73), (.v (.fa 9 (.t p72))), none⟩
(sN p74 ⟨(some p74), (.v (.ld1 (.t p73))), none⟩
(sN p75 ⟨(some p75), (.v (.mv (.t p3))), none⟩
(sN p76 ⟨(some p76), (.v (.nchk (.t p75))), none⟩
(sN p77 ⟨(some p77), (.v (.fa 0 (.t p76))), none⟩
(sN p78 ⟨(some p78), (.v (.fa 0 (.t p77))), none⟩
(sN p79 ⟨(some p79), (.v (.ld1 (.t p78))), none⟩
(sN p80 ⟨(some p80), (.v (.mv (.t p4))), none⟩
(sE [] [(p70, ⟨(some p70), (.v (.ld1 (.t p69))), none⟩), (p74, ⟨(some p74), (.v (.ld1 (.t p73))), none⟩)] ⟨(some p81), (.call p183 [(.t p79), (.t p80)]), none⟩
(sN p82 ⟨(some p82), (.v (.ar .sub (.t p74) (.t p81))), none⟩
(sN p83 ⟨(some p83), (.v (.mm true [(.t p70), (.t p82)])), none⟩
(sN p84 ⟨(some p84), (.v (.nchk (.t p66))), none⟩
(sN p85 ⟨(some p85), (.v (.fa 9 (.t p84))), none⟩
(sE [] [] ⟨none, (.v (.st 1 (.t p85) (.t p83))), none⟩
sEnd))))))))))))))))))))))))))))
(dOps (dV p86 (oAr .add (.t p26) (.c (.int .i64 (.ofNat 1))))
(dV p26 (oMv (.t p86))
dE)))))))))
(dSeq (dOps (dV p87 (oMv (.t p3))
(dV p88 (oNchk (.t p87))
(dV p89 (oFa 8 (.t p88))
(dV p90 (oLd1 (.t p89))
(dV p91 (oAr .add (.t p90) (.c (.int .i64 (.ofNat 1))))
(dV p92 (oNchk (.t p87))
(dV p93 (oFa 8 (.t p92))
(dU (oSt 1 (.t p93) (.t p91))
dE)))))))))
(dSeq (dOps (dV p94 (oMv (.t p3))
(dV p2 (oMv (.t p94))
dE)))
dRet))))))), [(.t p2)]⟩
def af127 : AF := ⟨(dSeq (dOps (dV p1 (oBox 222 (.t p0))
(dV p2 (oMv (.c .nilp))
dE)))
(dSeq (dSeq (dOps (dV p4 (oFa 2 (.t p1))
(dV p5 (oLd1 (.t p4))
(dV p6 (oNchk (.t p5))
(dV p7 (oFa 0 (.t p6))
(dV p8 (oFa 0 (.t p7))
(dV p9 (oLd1 (.t p8))
(dV p10 (oAr .eql (.t p9) (.c (.int .i64 (.ofNat 1))))
dE))))))))
(dCond (.t p10) (dSeq (dDraw (sN p11 ⟨(some p11), (.v (.fa 0 (.t p1))), none⟩
(sN p12 ⟨(some p12), (.v (.ldN 2 (.t p11))), none⟩
(sN p13 ⟨(some p13), (.v (.fa 2 (.t p1))), none⟩
(sN p14 ⟨(some p14), (.v (.ld1 (.t p13))), none⟩
(sN p15 ⟨(some p15), (.v (.nchk (.t p14))), none⟩
(sN p16 ⟨(some p16), (.v (.fa 0 (.t p15))), none⟩
(sN p17 ⟨(some p17), (.v (.fa 1 (.t p16))), none⟩
(sN p18 ⟨(some p18), (.v (.ld1 (.t p17))), none⟩
(sE [] [] ⟨(some p19), (.call p184 [(.t p12), (.t p18)]), none⟩
(sN p3 ⟨(some p3), (.v (.mv (.t p19))), none⟩
sEnd)))))))))))
(dSeq (dOps (dV p20 (oMv (.t p3))
(dV p21 (oEq .p true (.t p20) (.c .nilp))
dE)))
(dCond (.t p21) (dSeq (dOps (dV p22 (oMv (.t p3))
(dV p2 (oMv (.t p22))
dE)))
dRet) dSkip))) dSkip))
(dSeq (dSeq (dOps (dV p23 (oFa 2 (.t p1))
(dV p24 (oLd1 (.t p23))
(dV p25 (oNchk (.t p24))
(dV p26 (oFa 9 (.t p25))
(dV p27 (oLd1 (.t p26))
(dV p28 (oAr .eql (.t p27) (.c (.int .i64 (.ofNat 0))))
dE)))))))
(dCond (.t p28) (dOps (dV p29 (oBuild [.nilp, (.int .i64 (.ofNat 0))] [])
(dV p30 (oFa 0 (.t p1))
(dU (oSt 2 (.t p30) (.t p29))
dE)))) dSkip))
(dSeq (dOps (dV p31 (oLdN 3 (.t p1))
(dC (some p32) p185 [(.t p31)]
(dV p2 (oMv (.t p32))
dE))))
dRet)))), [(.t p2)]⟩
def af128 : AF := ⟨(dSeq (dOps (dV p1 (oBox 26 (.t p0))
(dV p2 (oMv (.c .nils))
(dV p3 (oNew [(.int .i64 (.ofNat 0)), (.int .i64 (.ofNat 0)), (.bool false), (.str []), .nils, .nils] 26)
dE))))
(dSeq (dOps (dV p4 (oMv (.c (.int .i64 (.ofNat 0))))
dE))
(dSeq (dSeq (dOps (dV p10 (oLdN 6 (.t p1))
(dV p5 (oNew [(.int .i64 (.ofNat 0)), (.int .i64 (.ofNat 0)), (.bool false), (.str []), .nils, .nils] 26)
(dU (oSt 6 (.t p5) (.t p10))
dE))))
(dBlock 0 (dLoop (dSeq (dSeq (dOps (dV p11 (oFa 0 (.t p5))
(dV p12 (oLd1 (.t p11))
(dV p13 (oAr .eql (.t p12) (.c (.int .i64 (.ofNat 3))))
dE))))
(dCond (.t p13) dSkip (dExit 0)))
(dSeq (dBlock 1 (dOps (dV p18 (oMv (.t p4))
(dV p19 (oAr .add (.t p18) (.c (.int .i64 (.ofNat 1))))
(dV p4 (oMv (.t p19))
dE)))))
(dSeq (dSeq (dOps (dV p20 (oLdN 6 (.t p5))
dE))
(dOps (dV p5 (oNew [(.int .i64 (.ofNat 0)), (.int .i64 (.ofNat 0)), (.bool false), (.str []), .nils, .nils] 26)
(dU (oSt 6 (.t p5) (.t p20))
dE))))
(dOps (dV p14 (oFa 5 (.t p5))
(dV p15 (oLd1 (.t p14))
(dV p16 (oIa 6 (.t p15) (.c (.int .i64 (.ofNat 1))))
(dV p17 (oLdN 6 (.t p16))
(dU (oSt 6 (.t p5) (.t p17))
dE))))))))))))
(dSeq (dOps (dV p22 (oLdN 6 (.t p1))
(dV p23 (oMv (.t p4))
(dC (some p24) p186 [(.t p22), (.t p23)]
(dV p21 (oMv (.t p24))
(dV p25 (oExt (.t p21) 0)
(dV p26 (oExt (.t p21) 1)
(dV p27 (oExt (.t p21) 2)
(dV p28 (oExt (.t p21) 3)
(dV p8 (oNew [(.int .i64 (.ofNat 0)), (.int .i64 (.ofNat 0)), (.bool false), (.str []), .nils, .nils] 26)
(dV p6 (oMv (.t p25))
(dV p7 (oMv (.t p26))
(dU (oSt 6 (.t p8) (.t p27))
(dV p9 (oMv (.t p28))
dE))))))))))))))
(dSeq (dDraw (sN p29 ⟨(some p29), (.v (.mv (.t p6))), none⟩
(sN p30 ⟨(some p30), (.v (.ldN 6 (.t p8))), none⟩
(sN p2 ⟨(some p2), (.v (.mv (.t p29))), none⟩
(sE [] [] ⟨none, (.v (.st 6 (.t p3) (.t p30))), none⟩
sEnd)))))
dRet))))), [(.t p2), (.cN p3 6)]⟩
def af129 : AF := ⟨(dSeq (dOps (dV p2 (oMv (.c .nils))
dE))
(dSeq (dSeq (dOps (dV p3 (oMv (.t p0))
(dV p4 (oEq .s false (.t p3) (.c .nils))
dE)))
(dCond (.t p4) (dSeq (dOps (dV p2 (oMv (.c .nils))
dE))
dRet) dSkip))
(dSeq (dOps (dV p5 (oBuildS 26 0 [] [])
(dV p6 (oMv (.t p0))
(dV p7 (oApp 26 6 (.t p5) (.t p6))
(dV p2 (oMv (.t p7))
dE)))))
dRet))), [(.t p2)]⟩
def af131 : AF := ⟨(dSeq (dOps (dV p2 (oBox 163 (.t p0))
(dV p3 (oBox 44 (.t p1))
(dV p4 (oNew [(.str []), .nils, .nils, .nils] 170)
(dV p5 (oMv (.c (.int .i64 (.ofNat 0))))
dE)))))
(dSeq (dOps (dV p6 (oMv (.c .nils))
(dV p7 (oMv (.c .nils))
dE)))
(dSeq (dOps (dV p8 (oMv (.c (.bool false)))
dE))
(dSeq (dOps (dV p12 (oFa 1 (.t p3))
(dV p13 (oLdN 6 (.t p12))
(dC (some p14) p128 [(.t p13)]
(dV p11 (oMv (.t p14))
(dV p15 (oExt (.t p11) 0)
(dV p16 (oExt (.t p11) 1)
(dV p10 (oNew [(.int .i64 (.ofNat 0)), (.int .i64 (.ofNat 0)), (.bool false), (.str []), .nils, .nils] 26)
(dV p9 (oMv (.t p15))
(dU (oSt 6 (.t p10) (.t p16))
dE))))))))))
(dSeq (dSeq (dDraw (sN p17 ⟨(some p17), (.v (.mv (.t p9))), none⟩
(sN p18 ⟨(some p18), (.v (.len (.t p17))), none⟩
(sN p19 ⟨(some p19), (.v (.fa 17 (.t p2))), none⟩
(sN p20 ⟨(some p20), (.v (.ld1 (.t p19))), none⟩
(sN p21 ⟨(some p21), (.v (.len (.t p20))), none⟩
(sN p22 ⟨(some p22), (.v (.ar .lss (.t p18) (.t p21))), none⟩
(sN p23 ⟨(some p23), (.v (.mv (.t p22))), none⟩
(sN p24 ⟨(some p24), (.v (.mv (.t p9))), (some (p23, false))⟩
(sN p25 ⟨(some p25), (.v (.fa 17 (.t p2))), (some (p23, false))⟩
(sN p26 ⟨(some p26), (.v (.ld1 (.t p25))), (some (p23, false))⟩
(sN p27 ⟨(some p27), (.v (.len (.t p26))), (some (p23, false))⟩
(sN p28 ⟨(some p28), (.v (.sl 6 (.t p24) none (some (.t p27)) none)), (some (p23, false))⟩
(sN p29 ⟨(some p29), (.v (.fa 17 (.t p2))), (some (p23, false))⟩
(sN p30 ⟨(some p30), (.v (.ld1 (.t p29))), (some (p23, false))⟩
(sE [] [] ⟨(some p31), (.call p188 [(.t p28), (.t p30), (.c (.fn (.func 189) [] []))]), (some (p23, false))⟩
(sN p32 ⟨(some p32), (.v (.un .not (.t p31))), (some (p23, false))⟩
(sN p33 ⟨(some p33), (.v (.pick (.t p23) (.c (.bool true)) (.t p32))), none⟩
sEnd))))))))))))))))))
(dCond (.t p33) dNo dSkip))
(dSeq (dOps (dV p34 (oMv (.t p9))
(dV p35 (oFa 17 (.t p2))
(dV p36 (oLd1 (.t p35))
(dV p37 (oLen (.t p36))
(dV p38 (oSl 6 (.t p34) (some (.t p37)) none none)
(dC (some p39) p129 [(.t p38)]
(dV p6 (oMv (.t p39))
dE))))))))
(dSeq (dSeq (dOps (dV p41 (oLdN 21 (.t p2))
(dV p42 (oLdN 6 (.t p10))
(dV p43 (oMv (.t p6))
(dV p44 (oLen (.t p43))
(dC (some p45) p190 [(.t p41), (.t p42), (.t p44)]
(dV p40 (oMv (.t p45))
(dV p46 (oExt (.t p40) 0)
(dV p47 (oExt (.t p40) 1)
(dV p7 (oMv (.t p46))
(dV p8 (oMv (.t p47))
dE)))))))))))
(dSeq (dOps (dV p48 (oMv (.t p8))
(dV p49 (oUn .not (.t p48))
dE)))
(dCond (.t p49) dNo dSkip)))
(dSeq (dSeq (dDraw (sN p50 ⟨(some p50), (.v (.fa 0 (.t p3))), none⟩
(sN p51 ⟨(some p51), (.v (.ld1 (.t p50))), none⟩
(sN p52 ⟨(some p52), (.v (.mv (.t p6))), none⟩
(sN p53 ⟨(some p53), (.v (.ldN 21 (.t p2))), none⟩
(sN p54 ⟨(some p54), (.v (.mv (.t p6))), none⟩
(sN p56 ⟨(some p56), (.v (.mv (.t p7))), none⟩
(sE [] [(p51, ⟨(some p51), (.v (.ld1 (.t p50))), none⟩)] ⟨(some p55), (.call p191 [(.t p53), (.t p54)]), none⟩
(sN p57 ⟨(some p57), (.v (.build [(.str []), .nils, .nils, .nils] [(0, 1, (.t p51)), (1, 1, (.t p52)), (2, 1, (.t p55)), (3, 1, (.t p56))])), none⟩
(sE [] [] ⟨none, (.v (.st 4 (.t p4) (.t p57))), none⟩
(sN p5 ⟨(some p5), (.v (.mv (.c (.int .i64 (.ofNat 0))))), none⟩
sEnd)))))))))))
dRet)
(dSeq dSkip
(dSeq (dOps (dV p58 (oBuild [(.str []), .nils, .nils, .nils] [])
(dU (oSt 4 (.t p4) (.t p58))
(dV p5 (oMv (.c (.int .i64 (.ofNat 21))))
dE))))
dRet)))))))))), [(.cN p4 4), (.t p5)]⟩
def af132 : AF := ⟨(dSeq (dOps (dV p3 (oBox 245 (.t p0))
(dV p4 (oBox 26 (.t p1))
(dV p5 (oBox 130 (.t p2))
(dV p6 (oMv (.c (.int .i64 (.ofNat 0))))
(dV p7 (oMv (.c (.int .i64 (.ofNat 0))))
dE))))))
(dSeq (dSeq (dOps (dV p8 (oFa 0 (.t p4))
(dV p9 (oLd1 (.t p8))
(dV p10 (oAr .eql (.t p9) (.c (.int .i64 (.ofNat 10))))
(dV p11 (oMv (.t p10))
(dG p11 true (some p12) (dV p12 (oFa 3 (.t p4)))
(dG p11 true (some p13) (dV p13 (oLd1 (.t p12)))
(dG p11 true (some p14) (dV p14 (oFa 0 (.t p3)))
(dG p11 true (some p15) (dV p15 (oLd1 (.t p14)))
(dG p11 true (some p16) (dV p16 (oAr .eql (.t p13) (.t p15)))
(dV p17 (oPick (.t p11) (.t p16) (.c (.bool false)))
dE)))))))))))
(dCond (.t p17) (dSeq (dOps (dV p6 (oMv (.c (.int .i64 (.ofNat 1))))
(dV p7 (oMv (.c (.int .i64 (.ofNat 0))))
dE)))
dRet) dSkip))
(dSeq (dOps (dV p6 (oMv (.c (.int .i64 (.ofNat 0))))
(dV p7 (oMv (.c (.int .i64 (.ofNat 0))))
dE)))
dRet))), [(.t p6), (.t p7)]⟩
def af133 : AF := ⟨(dSeq (dOps (dV p2 (oBox 92 (.t p0))
(dV p3 (oBox 26 (.t p1))
(dV p4 (oNew [.nilp, (.int .i64 (.ofNat 0)), .nilp] 92)
dE))))
(dSeq (dDraw (sN p5 ⟨(some p5), (.v (.fa 0 (.t p2))), none⟩
(sN p6 ⟨(some p6), (.v (.ldN 2 (.t p5))), none⟩
(sN p8 ⟨(some p8), (.v (.fa 2 (.t p2))), none⟩
(sN p9 ⟨(some p9), (.v (.ldN 1 (.t p8))), none⟩
(sN p10 ⟨(some p10), (.v (.mkf 194 [] [(.t p2), (.t p3)])), none⟩
(sE [] [(p9, ⟨(some p9), (.v (.ldN 1 (.t p8))), none⟩)] ⟨(some p7), (.call p192 [(.t p6)]), none⟩
(sE [] [] ⟨(some p11), (.call p193 [(.t p9), (.t p10)]), none⟩
(sN p12 ⟨(some p12), (.v (.build [.nilp, (.int .i64 (.ofNat 0)), .nilp] [(0, 2, (.t p7)), (2, 1, (.t p11))])), none⟩
(sE [] [] ⟨none, (.v (.st 3 (.t p4) (.t p12))), none⟩
sEnd))))))))))
dRet)), [(.cN p4 3)]⟩
def af134 : AF := ⟨(dSeq (dOps (dV p2 (oBox 26 (.t p0))
(dV p4 (oMv (.c (.int .i64 (.ofNat 0))))
dE)))
(dSeq (dOps (dV p5 (oMv (.c (.int .i64 (.ofNat 0))))
dE))
(dSeq (dSeq (dOps (dV p8 (oFa 0 (.t p2))
(dV p9 (oLd1 (.t p8))
(dV p10 (oAr .eql (.t p9) (.c (.int .i64 (.ofNat 10))))
(dV p11 (oMv (.t p10))
(dG p11 true (some p12) (dV p12 (oFa 3 (.t p2)))
(dG p11 true (some p13) (dV p13 (oLd1 (.t p12)))
(dG p11 true (some p14) (dV p14 (oMv (.t p1)))
(dG p11 true (some p15) (dV p15 (oAr .eql (.t p13) (.t p14)))
(dV p16 (oPick (.t p11) (.t p15) (.c (.bool false)))
dE))))))))))
(dCond (.t p16) (dOps (dV p17 (oMv (.t p5))
(dV p18 (oAr .add (.t p17) (.c (.int .i64 (.ofNat 1))))
(dV p5 (oMv (.t p18))
dE)))) dSkip))
(dSeq (dSeq (dOps (dV p19 (oFa 5 (.t p2))
(dV p20 (oLd1 (.t p19))
(dV p21 (oLen (.t p20))
(dV p22 (oMv (.c (.int .i64 (.ofNat 0))))
dE)))))
(dBlock 0 (dLoop (dSeq (dOps (dV p23 (oAr .lss (.t p22) (.t p21))
dE))
(dSeq (dCond (.t p23) dSkip (dExit 0))
(dSeq (dBlock 1 (dSeq (dOps (dV p24 (oIa 6 (.t p20) (.t p22))
(dV p25 (oLdN 6 (.t p24))
(dV p7 (oNew [(.int .i64 (.ofNat 0)), (.int .i64 (.ofNat 0)), (.bool false), (.str []), .nils, .nils] 26)
(dU (oSt 6 (.t p7) (.t p25))
dE)))))
(dOps (dV p26 (oMv (.t p5))
(dV p27 (oLdN 6 (.t p7))
(dV p28 (oMv (.t p1))
(dC (some p29) p134 [(.t p27), (.t p28)]
(dV p30 (oAr .add (.t p26) (.t p29))
(dV p5 (oMv (.t p30))
dE)))))))))
(dOps (dV p31 (oAr .add (.t p22) (.c (.int .i64 (.ofNat 1))))
(dV p22 (oMv (.t p31))
dE)))))))))
(dSeq (dOps (dV p32 (oMv (.t p5))
(dV p4 (oMv (.t p32))
dE)))
dRet))))), [(.t p4)]⟩
def af135 : AF := ⟨(dSeq (dOps (dV p2 (oBox 49 (.t p0))
(dV p3 (oBox 49 (.t p1))
(dV p4 (oMv (.c .nilf))
dE))))
(dSeq (dOps (dV p5 (oMkf 195 [] [(.t p2), (.t p3)])
(dV p4 (oMv (.t p5))
dE)))
dRet)), [(.t p4)]⟩
def af136 : AF := ⟨(dSeq (dOps (dV p2 (oMv (.c (.int .i64 (.ofNat 0))))
dE))
(dSeq (dOps (dV p3 (oMv (.c (.int .i64 (.ofNat 0))))
dE))
(dSeq (dSeq (dOps (dV p4 (oMv (.t p0))
dE))
(dBlock 0 (dSeq (dBlock 4 (dSeq (dBlock 3 (dSeq (dBlock 2 (dSeq (dBlock 1 (dSeq (dSeq (dSeq (dOps (dV p6 (oAr .eql (.t p4) (.c (.int .i64 (.ofNat 7))))
(dV p5 (oMv (.t p6))
dE)))
(dCond (.t p5) (dExit 1) dSkip))
(dSeq (dSeq (dSeq (dOps (dV p8 (oAr .eql (.t p4) (.c (.int .i64 (.ofNat 3))))
(dV p7 (oMv (.t p8))
dE)))
(dCond (.t p7) dSkip (dSeq (dOps (dV p9 (oAr .eql (.t p4) (.c (.int .i64 (.ofNat 4))))
(dV p7 (oMv (.t p9))
dE)))
(dCond (.t p7) dSkip (dSeq (dOps (dV p10 (oAr .eql (.t p4) (.c (.int .i64 (.ofNat 5))))
(dV p7 (oMv (.t p10))
dE)))
(dCond (.t p7) dSkip (dOps (dV p11 (oAr .eql (.t p4) (.c (.int .i64 (.ofNat 6))))
(dV p7 (oMv (.t p11))
dE)))))))))
(dCond (.t p7) (dExit 2) dSkip))
(dSeq (dSeq (dSeq (dOps (dV p13 (oAr .eql (.t p4) (.c (.int .i64 (.ofNat 8))))
(dV p12 (oMv (.t p13))
dE)))
(dCond (.t p12) dSkip (dOps (dV p14 (oAr .eql (.t p4) (.c (.int .i64 (.ofNat 9))))
(dV p12 (oMv (.t p14))
dE)))))
(dCond (.t p12) (dExit 3) dSkip))
(dSeq (dSeq (dOps (dV p16 (oAr .eql (.t p4) (.c (.int .i64 (.ofNat 1))))
(dV p15 (oMv (.t p16))
dE)))
(dCond (.t p15) dSkip (dSeq (dOps (dV p17 (oAr .eql (.t p4) (.c (.int .i64 (.ofNat 2))))
(dV p15 (oMv (.t p17))
dE)))
(dCond (.t p15) dSkip (dSeq (dOps (dV p18 (oAr .eql (.t p4) (.c (.int .i64 (.ofNat 10))))
(dV p15 (oMv (.t p18))
dE)))
(dCond (.t p15) dSkip (dOps (dV p19 (oAr .eql (.t p4) (.c (.int .i64 (.ofNat 11))))
(dV p15 (oMv (.t p19))
dE)))))))))
(dCond (.t p15) (dExit 4) dSkip)))))
(dExit 0)))
(dOps (dV p20 (oMv (.t p3))
(dV p21 (oAr .add (.t p20) (.c (.int .i64 (.ofNat 1))))
(dV p3 (oMv (.t p21))
dE))))))
(dOps (dV p22 (oMv (.t p3))
(dV p23 (oAr .add (.t p22) (.c (.int .i64 (.ofNat 1))))
(dV p3 (oMv (.t p23))
dE))))))
(dOps (dV p24 (oMv (.t p3))
(dV p25 (oAr .add (.t p24) (.c (.int .i64 (.ofNat 1))))
(dV p3 (oMv (.t p25))
dE))))))
(dSeq (dSeq (dOps (dV p26 (oMv (.t p3))
(dV p2 (oMv (.t p26))
dE)))
dRet)
(dExit 0)))))
(dSeq (dOps (dV p2 (oMv (.c (.int .i64 (.negSucc 0))))
dE))
dRet)))), [(.t p2)]⟩
def af137 : AF := ⟨(dSeq (dOps (dV p1 (oBox 26 (.t p0))
(dV p2 (oMv (.c (.bool false)))
dE)))
(dSeq (dSeq (dOps (dV p3 (oFa 0 (.t p1))
(dV p4 (oLd1 (.t p3))
dE)))
(dBlock 0 (dSeq (dSeq (dOps (dV p6 (oAr .eql (.t p4) (.c (.int .i64 (.ofNat 1))))
(dV p5 (oMv (.t p6))
dE)))
(dCond (.t p5) dSkip (dOps (dV p7 (oAr .eql (.t p4) (.c (.int .i64 (.ofNat 11))))
(dV p5 (oMv (.t p7))
dE)))))
(dCond (.t p5) (dSeq (dOps (dV p8 (oFa 1 (.t p1))
(dV p9 (oLd1 (.t p8))
(dV p10 (oAr .leq (.c (.int .i64 (.ofNat 0))) (.t p9))
(dV p11 (oMv (.t p10))
(dG p11 true (some p12) (dV p12 (oFa 1 (.t p1)))
(dG p11 true (some p13) (dV p13 (oLd1 (.t p12)))
(dG p11 true (some p14) (dV p14 (oAr .leq (.t p13) (.c (.int .i64 (.ofNat 1073741824)))))
(dV p15 (oPick (.t p11) (.t p14) (.c (.bool false)))
(dV p2 (oMv (.t p15))
dE))))))))))
dRet) (dSeq (dOps (dV p17 (oAr .eql (.t p4) (.c (.int .i64 (.ofNat 7))))
(dV p16 (oMv (.t p17))
dE)))
(dCond (.t p16) (dSeq (dOps (dV p18 (oFa 5 (.t p1))
(dV p19 (oLd1 (.t p18))
(dV p20 (oIa 6 (.t p19) (.c (.int .i64 (.ofNat 0))))
(dV p21 (oFa 0 (.t p20))
(dV p22 (oLd1 (.t p21))
(dV p23 (oAr .eql (.t p22) (.c (.int .i64 (.ofNat 6))))
(dV p2 (oMv (.t p23))
dE))))))))
dRet) (dSeq (dOps (dV p25 (oAr .eql (.t p4) (.c (.int .i64 (.ofNat 2))))
(dV p24 (oMv (.t p25))
dE)))
(dCond (.t p24) (dSeq (dOps (dV p26 (oFa 4 (.t p1))
(dV p27 (oLd1 (.t p26))
(dV p28 (oLen (.t p27))
(dV p29 (oAr .eql (.t p28) (.c (.int .i64 (.ofNat 1))))
(dV p30 (oMv (.t p29))
(dG p30 true (some p31) (dV p31 (oFa 4 (.t p1)))
(dG p30 true (some p32) (dV p32 (oLd1 (.t p31)))
(dG p30 true (some p33) (dV p33 (oIa 2 (.t p32) (.c (.int .i64 (.ofNat 0)))))
(dG p30 true (some p34) (dV p34 (oLdN 2 (.t p33)))
(dG p30 true (some p35) (dC (some p35) p198 [(.t p34)])
(dV p36 (oPick (.t p30) (.t p35) (.c (.bool false)))
(dV p2 (oMv (.t p36))
dE)))))))))))))
dRet) (dSeq (dOps (dV p38 (oAr .eql (.t p4) (.c (.int .i64 (.ofNat 10))))
(dV p37 (oMv (.t p38))
dE)))
(dCond (.t p37) (dSeq (dOps (dV p39 (oFa 3 (.t p1))
(dV p40 (oLd1 (.t p39))
(dV p41 (oAr .neq (.t p40) (.c (.str [])))
(dV p42 (oMv (.t p41))
(dG p42 true (some p43) (dV p43 (oFa 3 (.t p1)))
(dG p42 true (some p44) (dV p44 (oLd1 (.t p43)))
(dG p42 true (some p45) (dV p45 (oLenS (.t p44)))
(dG p42 true (some p46) (dV p46 (oAr .leq (.t p45) (.c (.int .i64 (.ofNat 60)))))
(dV p47 (oPick (.t p42) (.t p46) (.c (.bool false)))
(dV p48 (oMv (.t p47))
(dG p48 true (some p49) (dV p49 (oFa 4 (.t p1)))
(dG p48 true (some p50) (dV p50 (oLd1 (.t p49)))
(dG p48 true (some p51) (dC (some p51) p199 [(.t p50), (.c (.fn (.func 200) [] []))])
(dG p48 true (some p52) (dV p52 (oUn .not (.t p51)))
(dV p53 (oPick (.t p48) (.t p52) (.c (.bool false)))
(dV p2 (oMv (.t p53))
dE)))))))))))))))))
dRet) dSkip))))))))))
(dSeq (dOps (dV p2 (oMv (.c (.bool true)))
dE))
dRet))), [(.t p2)]⟩
def af138 : AF := ⟨(dSeq (dOps (dV p4 (oMv (.t p1))
dE))
(dCond (.t p4) (dOps (dV p5 (oMv (.t p0))
(dV p6 (oBuildS 5 1 [(.int .u8 (.ofNat 0))] [(0, 1, (.c (.int .u8 (.ofNat 1))))])
(dC (some p7) p94 [(.t p5), (.t p6)]
dE)))) (dOps (dV p8 (oMv (.t p0))
(dV p9 (oBuildS 5 1 [(.int .u8 (.ofNat 0))] [(0, 1, (.c (.int .u8 (.ofNat 0))))])
(dC (some p10) p94 [(.t p8), (.t p9)]
dE)))))), []⟩
def af139 : AF := ⟨(dSeq (dOps (dV p6 (oMv (.t p0))
(dV p7 (oLen (.t p6))
(dV p8 (oMv (.c (.int .i64 (.ofNat 0))))
dE))))
(dBlock 0 (dLoop (dSeq (dOps (dV p9 (oAr .lss (.t p8) (.t p7))
dE))
(dSeq (dCond (.t p9) dSkip (dExit 0))
(dSeq (dBlock 1 (dSeq (dOps (dV p10 (oIa 2 (.t p6) (.t p8))
(dV p11 (oLdN 2 (.t p10))
(dV p5 (oNew [(.int .i64 (.ofNat 0)), .nils] 49)
(dU (oSt 2 (.t p5) (.t p11))
dE)))))
(dOps (dV p12 (oMv (.t p1))
(dV p13 (oLdN 2 (.t p5))
(dCv (some p14) (.t p12) [(.t p13)]
dE))))))
(dOps (dV p15 (oAr .add (.t p8) (.c (.int .i64 (.ofNat 1))))
(dV p8 (oMv (.t p15))
dE))))))))), []⟩
def af140 : AF := ⟨(dSeq (dOps (dV p3 (oBox 49 (.t p1))
dE))
(dSeq (dOps (dV p4 (oMv (.t p0))
(dV p5 (oFa 0 (.t p3))
(dV p6 (oLd1 (.t p5))
(dC (some p7) p62 [(.t p4), (.t p6)]
dE)))))
(dSeq (dOps (dV p8 (oMv (.t p0))
(dV p9 (oFa 1 (.t p3))
(dV p10 (oLd1 (.t p9))
(dV p11 (oLen (.t p10))
(dC (some p12) p62 [(.t p8), (.t p11)]
dE))))))
(dOps (dV p13 (oFa 1 (.t p3))
(dV p14 (oLd1 (.t p13))
(dV p15 (oMv (.t p0))
(dV p16 (oMkf 202 [(.t p15)] [])
(dC (some p17) p201 [(.t p14), (.t p16)]
dE))))))))), []⟩
def af141 : AF := ⟨(dSeq (dOps (dV p6 (oMv (.t p0))
(dV p7 (oLen (.t p6))
(dV p8 (oMv (.c (.int .i64 (.ofNat 0))))
dE))))
(dBlock 0 (dLoop (dSeq (dOps (dV p9 (oAr .lss (.t p8) (.t p7))
dE))
(dSeq (dCond (.t p9) dSkip (dExit 0))
(dSeq (dBlock 1 (dSeq (dOps (dV p10 (oIa 6 (.t p6) (.t p8))
(dV p11 (oLdN 6 (.t p10))
(dV p5 (oNew [(.int .i64 (.ofNat 0)), (.int .i64 (.ofNat 0)), (.bool false), (.str []), .nils, .nils] 26)
(dU (oSt 6 (.t p5) (.t p11))
dE)))))
(dOps (dV p12 (oMv (.t p1))
(dV p13 (oLdN 6 (.t p5))
(dCv (some p14) (.t p12) [(.t p13)]
dE))))))
(dOps (dV p15 (oAr .add (.t p8) (.c (.int .i64 (.ofNat 1))))
(dV p8 (oMv (.t p15))
dE))))))))), []⟩
def af142 : AF := ⟨(dSeq (dOps (dV p2 (oMv (.c .nils))
dE))
(dSeq (dOps (dV p3 (oMv (.c .nils))
dE))
(dSeq (dSeq (dOps (dV p6 (oMv (.t p0))
(dV p7 (oLen (.t p6))
(dV p8 (oMv (.c (.int .i64 (.ofNat 0))))
dE))))
(dBlock 0 (dLoop (dSeq (dOps (dV p9 (oAr .lss (.t p8) (.t p7))
dE))
(dSeq (dCond (.t p9) dSkip (dExit 0))
(dSeq (dBlock 1 (dSeq (dOps (dV p10 (oIa 2 (.t p6) (.t p8))
(dV p11 (oLdN 2 (.t p10))
(dV p5 (oNew [(.int .i64 (.ofNat 0)), .nils] 49)
(dU (oSt 2 (.t p5) (.t p11))
dE)))))
(dDraw (sN p12 ⟨(some p12), (.v (.mv (.t p3))), none⟩
(sN p13 ⟨(some p13), (.v (.fa 0 (.t p5))), none⟩
(sN p14 ⟨(some p14), (.v (.ld1 (.t p13))), none⟩
(sN p15 ⟨(some p15), (.v (.fa 1 (.t p5))), none⟩
(sN p16 ⟨(some p16), (.v (.ld1 (.t p15))), none⟩
(sE [] [(p14, ⟨(some p14), (.v (.ld1 (.t p13))), none⟩)] ⟨(some p17), (.v (.app 46 2 (.c .nils) (.t p16))), none⟩
(sN p18 ⟨(some p18), (.v (.build [(.int .i64 (.ofNat 0)), .nils] [(0, 1, (.t p14)), (1, 1, (.t p17))])), none⟩
(sA 7 p19 (.buildS 49 1 [(.int .i64 (.ofNat 0)), .nils] [(0, 2, (.t p18))])
(sE [7] [] ⟨(some p20), (.v (.app 49 2 (.t p12) (.t p19))), none⟩
(sE [7] [] ⟨(some p3), (.v (.mv (.t p20))), none⟩
sEnd)))))))))))))
(dOps (dV p21 (oAr .add (.t p8) (.c (.int .i64 (.ofNat 1))))
(dV p8 (oMv (.t p21))
dE)))))))))
(dSeq (dOps (dV p22 (oMv (.t p3))
(dV p2 (oMv (.t p22))
dE)))
dRet)))), [(.t p2)]⟩
def af143 : AF := ⟨(dSeq (dOps (dV p1 (oBox 260 (.t p0))
(dV p2 (oMv (.c .nils))
(dV p3 (oMv (.c (.bool false)))
dE))))
(dSeq (dDraw (sN p4 ⟨(some p4), (.v (.fa 0 (.t p1))), none⟩
(sN p5 ⟨(some p5), (.v (.ldN 1 (.t p4))), none⟩
(sN p8 ⟨(some p8), (.v (.fa 1 (.t p1))), none⟩
(sN p9 ⟨(some p9), (.v (.ldN 1 (.t p8))), none⟩
(sE [] [(p9, ⟨(some p9), (.v (.ldN 1 (.t p8))), none⟩)] ⟨(some p6), (.call p115 [(.t p5)]), none⟩
(sN p7 ⟨(some p7), (.v (.fld1 1 (.t p6))), none⟩
(sE [] [] ⟨(some p10), (.call p115 [(.t p9)]), none⟩
(sN p11 ⟨(some p11), (.v (.fld1 1 (.t p10))), none⟩
(sN p12 ⟨(some p12), (.v (.ar .eql (.t p7) (.t p11))), none⟩
(sN p2 ⟨(some p2), (.v (.mv (.c .nils))), none⟩
(sN p3 ⟨(some p3), (.v (.mv (.t p12))), none⟩
sEnd))))))))))))
dRet)), [(.t p2), (.t p3)]⟩
def af144 : AF := ⟨(dSeq (dOps (dV p1 (oBox 260 (.t p0))
(dV p2 (oMv (.c .nils))
(dV p3 (oMv (.c (.bool false)))
dE))))
(dSeq (dDraw (sN p7 ⟨(some p7), (.v (.fa 0 (.t p1))), none⟩
(sN p8 ⟨(some p8), (.v (.ldN 1 (.t p7))), none⟩
(sN p10 ⟨(some p10), (.v (.fa 1 (.t p1))), none⟩
(sN p11 ⟨(some p11), (.v (.ldN 1 (.t p10))), none⟩
(sA 6 p4 (.new [(.int .i64 (.ofNat 0)), (.int .i64 (.ofNat 0)), (.bool false), (.str []), .nils, .nils] 26)
(sA 7 p5 (.new [(.int .i64 (.ofNat 0)), (.int .i64 (.ofNat 0)), (.bool false), (.str []), .nils, .nils] 26)
(sE [] [(p11, ⟨(some p11), (.v (.ldN 1 (.t p10))), none⟩)] ⟨(some p9), (.call p115 [(.t p8)]), none⟩
(sE [] [] ⟨(some p12), (.call p115 [(.t p11)]), none⟩
(sE [6, 7] [] ⟨none, (.v (.st 6 (.t p4) (.t p9))), none⟩
(sE [6, 7] [] ⟨none, (.v (.st 6 (.t p5) (.t p12))), none⟩
sEnd)))))))))))
(dSeq (dOps (dV p13 (oFa 0 (.t p4))
(dV p14 (oLd1 (.t p13))
(dV p15 (oAr .eql (.t p14) (.c (.int .i64 (.ofNat 2))))
(dV p16 (oMv (.t p15))
(dG p16 false (some p17) (dV p17 (oFa 3 (.t p4)))
(dG p16 false (some p18) (dV p18 (oLd1 (.t p17)))
(dG p16 false (some p19) (dV p19 (oFa 3 (.t p5)))
(dG p16 false (some p20) (dV p20 (oLd1 (.t p19)))
(dG p16 false (some p21) (dV p21 (oAr .eql (.t p18) (.t p20)))
(dV p22 (oPick (.t p16) (.c (.bool true)) (.t p21))
(dV p6 (oMv (.t p22))
dE))))))))))))
(dSeq (dOps (dV p23 (oMv (.t p6))
(dV p24 (oMv (.t p23))
(dG p24 true (some p25) (dV p25 (oFa 4 (.t p4)))
(dG p24 true (some p26) (dV p26 (oLd1 (.t p25)))
(dG p24 true (some p27) (dV p27 (oFa 4 (.t p5)))
(dG p24 true (some p28) (dV p28 (oLd1 (.t p27)))
(dG p24 true (some p29) (dC (some p29) p203 [(.t p26), (.t p28), (.c (.fn (.func 204) [] []))])
(dV p30 (oPick (.t p24) (.t p29) (.c (.bool false)))
(dV p2 (oMv (.c .nils))
(dV p3 (oMv (.t p30))
dE)))))))))))
dRet)))), [(.t p2), (.t p3)]⟩
def af145 : AF := ⟨(dSeq (dOps (dV p1 (oBox 260 (.t p0))
(dV p2 (oMv (.c .nils))
(dV p3 (oMv (.c (.bool false)))
dE))))
(dSeq (dDraw (sN p4 ⟨(some p4), (.v (.ldN 3 (.t p1))), none⟩
(sN p5 ⟨(some p5), (.v (.fa 2 (.t p1))), none⟩
(sN p6 ⟨(some p6), (.v (.ld1 (.t p5))), none⟩
(sN p8 ⟨(some p8), (.v (.ldN 3 (.t p1))), none⟩
(sN p9 ⟨(some p9), (.v (.fa 2 (.t p1))), none⟩
(sN p10 ⟨(some p10), (.v (.ld1 (.t p9))), none⟩
(sN p11 ⟨(some p11), (.v (.ar .add (.t p10) (.c (.int .i64 (.ofNat 1))))), none⟩
(sE [] [(p8, ⟨(some p8), (.v (.ldN 3 (.t p1))), none⟩), (p10, ⟨(some p10), (.v (.ld1 (.t p9))), none⟩)] ⟨(some p7), (.call p205 [(.t p4), (.c (.int .i64 (.ofNat 0))), (.t p6)]), none⟩
(sE [] [] ⟨(some p12), (.call p205 [(.t p8), (.c (.int .i64 (.ofNat 1))), (.t p11)]), none⟩
(sA 9 p13 (.buildS 308 2 [.nilp, .nilp, (.int .i64 (.ofNat 0)), .nilp, .nilp, (.int .i64 (.ofNat 0))] [(0, 3, (.t p7)), (3, 3, (.t p12))])
(sN p2 ⟨(some p2), (.v (.mv (.t p13))), none⟩
(sN p3 ⟨(some p3), (.v (.mv (.c (.bool true)))), none⟩
sEnd)))))))))))))
dRet)), [(.t p2), (.t p3)]⟩
def af146 : AF := ⟨(dSeq (dOps (dV p1 (oBox 260 (.t p0))
(dV p2 (oMv (.c .nils))
(dV p3 (oMv (.c (.bool false)))
dE))))
(dSeq (dDraw (sN p11 ⟨(some p11), (.v (.fa 0 (.t p1))), none⟩
(sN p12 ⟨(some p12), (.v (.ldN 1 (.t p11))), none⟩
(sN p14 ⟨(some p14), (.v (.fa 1 (.t p1))), none⟩
(sN p15 ⟨(some p15), (.v (.ldN 1 (.t p14))), none⟩
(sE [] [(p15, ⟨(some p15), (.v (.ldN 1 (.t p14))), none⟩)] ⟨(some p13), (.call p206 [(.t p12)]), none⟩
(sE [] [] ⟨(some p16), (.call p206 [(.t p15)]), none⟩
(sN p4 ⟨(some p4), (.v (.mv (.t p13))), none⟩
(sN p5 ⟨(some p5), (.v (.mv (.t p16))), none⟩
sEnd)))))))))
(dSeq (dOps (dV p17 (oMv (.t p4))
(dV p18 (oLen (.t p17))
(dV p19 (oMv (.t p5))
(dV p20 (oLen (.t p19))
(dV p21 (oMm false [(.t p18), (.t p20)])
(dV p6 (oMv (.t p21))
dE)))))))
(dSeq (dOps (dV p22 (oMv (.t p4))
(dV p23 (oLen (.t p22))
(dV p24 (oMv (.t p6))
(dV p25 (oAr .sub (.t p23) (.t p24))
(dV p26 (oMv (.t p5))
(dV p27 (oLen (.t p26))
(dV p28 (oMv (.t p6))
(dV p29 (oAr .sub (.t p27) (.t p28))
(dV p7 (oMv (.t p25))
(dV p8 (oMv (.t p29))
dE)))))))))))
(dSeq (dDraw (sN p30 ⟨(some p30), (.v (.fa 0 (.t p1))), none⟩
(sN p31 ⟨(some p31), (.v (.ldN 1 (.t p30))), none⟩
(sN p32 ⟨(some p32), (.v (.mv (.t p7))), none⟩
(sN p34 ⟨(some p34), (.v (.fa 1 (.t p1))), none⟩
(sN p35 ⟨(some p35), (.v (.ldN 1 (.t p34))), none⟩
(sN p36 ⟨(some p36), (.v (.mv (.t p8))), none⟩
(sN p38 ⟨(some p38), (.v (.fa 2 (.t p1))), none⟩
(sN p39 ⟨(some p39), (.v (.ld1 (.t p38))), none⟩
(sE [] [(p35, ⟨(some p35), (.v (.ldN 1 (.t p34))), none⟩), (p39, ⟨(some p39), (.v (.ld1 (.t p38))), none⟩)] ⟨(some p33), (.call p207 [(.t p31), (.t p32)]), none⟩
(sE [] [(p39, ⟨(some p39), (.v (.ld1 (.t p38))), none⟩)] ⟨(some p37), (.call p207 [(.t p35), (.t p36)]), none⟩
(sN p40 ⟨(some p40), (.v (.build [.nilp, .nilp, (.int .i64 (.ofNat 0))] [(0, 1, (.t p33)), (1, 1, (.t p37)), (2, 1, (.t p39))])), none⟩
(sA 11 p41 (.buildS 308 1 [.nilp, .nilp, (.int .i64 (.ofNat 0))] [(0, 3, (.t p40))])
(sN p9 ⟨(some p9), (.v (.mv (.t p41))), none⟩
sEnd))))))))))))))
(dSeq (dSeq (dOps (dV p42 (oMv (.t p6))
(dV p43 (oMv (.c (.int .i64 (.ofNat 0))))
dE)))
(dBlock 0 (dLoop (dSeq (dOps (dV p44 (oAr .lss (.t p43) (.t p42))
dE))
(dSeq (dCond (.t p44) dSkip (dExit 0))
(dSeq (dBlock 1 (dSeq (dOps (dV p45 (oMv (.t p43))
(dV p10 (oMv (.t p45))
dE)))
(dDraw (sN p46 ⟨(some p46), (.v (.mv (.t p9))), none⟩
(sN p47 ⟨(some p47), (.v (.mv (.t p4))), none⟩
(sN p48 ⟨(some p48), (.v (.mv (.t p7))), none⟩
(sN p49 ⟨(some p49), (.v (.mv (.t p10))), none⟩
(sN p50 ⟨(some p50), (.v (.ar .add (.t p48) (.t p49))), none⟩
(sN p51 ⟨(some p51), (.v (.ia 1 (.t p47) (.t p50))), none⟩
(sN p52 ⟨(some p52), (.v (.ldN 1 (.t p51))), none⟩
(sN p53 ⟨(some p53), (.v (.mv (.t p5))), none⟩
(sN p54 ⟨(some p54), (.v (.mv (.t p8))), none⟩
(sN p55 ⟨(some p55), (.v (.mv (.t p10))), none⟩
(sN p56 ⟨(some p56), (.v (.ar .add (.t p54) (.t p55))), none⟩
(sN p57 ⟨(some p57), (.v (.ia 1 (.t p53) (.t p56))), none⟩
(sN p58 ⟨(some p58), (.v (.ldN 1 (.t p57))), none⟩
(sN p59 ⟨(some p59), (.v (.fa 2 (.t p1))), none⟩
(sN p60 ⟨(some p60), (.v (.ld1 (.t p59))), none⟩
(sN p61 ⟨(some p61), (.v (.build [.nilp, .nilp, (.int .i64 (.ofNat 0))] [(0, 1, (.t p52)), (1, 1, (.t p58)), (2, 1, (.t p60))])), none⟩
(sA 16 p62 (.buildS 308 1 [.nilp, .nilp, (.int .i64 (.ofNat 0))] [(0, 3, (.t p61))])
(sE [16] [] ⟨(some p63), (.v (.app 308 3 (.t p46) (.t p62))), none⟩
(sE [16] [] ⟨(some p9), (.v (.mv (.t p63))), none⟩
sEnd))))))))))))))))))))))
(dOps (dV p64 (oAr .add (.t p43) (.c (.int .i64 (.ofNat 1))))
(dV p43 (oMv (.t p64))
dE)))))))))
(dSeq (dOps (dV p65 (oMv (.t p9))
(dV p2 (oMv (.t p65))
(dV p3 (oMv (.c (.bool true)))
dE))))
dRet))))))), [(.t p2), (.t p3)]⟩
def af147 : AF := ⟨(dSeq (dOps (dV p1 (oBox 260 (.t p0))
(dV p2 (oMv (.c .nils))
(dV p3 (oMv (.c (.bool false)))
dE))))
(dSeq (dOps (dV p4 (oLdN 3 (.t p1))
(dV p5 (oFa 2 (.t p1))
(dV p6 (oLd1 (.t p5))
(dC (some p7) p205 [(.t p4), (.c (.int .i64 (.ofNat 0))), (.t p6)]
(dV p8 (oBuildS 308 1 [.nilp, .nilp, (.int .i64 (.ofNat 0))] [(0, 3, (.t p7))])
(dV p2 (oMv (.t p8))
(dV p3 (oMv (.c (.bool true)))
dE))))))))
dRet)), [(.t p2), (.t p3)]⟩
def af148 : AF := ⟨(dSeq (dOps (dV p1 (oBox 153 (.t p0))
(dV p2 (oMv (.c (.int .i64 (.ofNat 0))))
(dV p3 (oMv (.c (.bool false)))
dE))))
(dSeq (dDraw (sN p4 ⟨(some p4), (.v (.fa 0 (.t p1))), none⟩
(sN p5 ⟨(some p5), (.v (.ld1 (.t p4))), none⟩
(sN p6 ⟨(some p6), (.v (.nchk (.t p5))), none⟩
(sN p7 ⟨(some p7), (.v (.fa 0 (.t p6))), none⟩
(sN p8 ⟨(some p8), (.v (.fa 2 (.t p7))), none⟩
(sN p9 ⟨(some p9), (.v (.ld1 (.t p8))), none⟩
(sN p10 ⟨(some p10), (.v (.nchk (.t p9))), none⟩
(sN p11 ⟨(some p11), (.v (.fa 0 (.t p10))), none⟩
(sN p12 ⟨(some p12), (.v (.fa 1 (.t p11))), none⟩
(sN p13 ⟨(some p13), (.v (.ld1 (.t p12))), none⟩
(sN p14 ⟨(some p14), (.v (.ar .sub (.c (.int .i64 (.negSucc 0))) (.t p13))), none⟩
(sN p15 ⟨(some p15), (.v (.fa 0 (.t p1))), none⟩
(sN p16 ⟨(some p16), (.v (.ld1 (.t p15))), none⟩
(sN p17 ⟨(some p17), (.v (.nchk (.t p16))), none⟩
(sN p18 ⟨(some p18), (.v (.fa 0 (.t p17))), none⟩
(sN p19 ⟨(some p19), (.v (.fa 2 (.t p18))), none⟩
(sN p20 ⟨(some p20), (.v (.ld1 (.t p19))), none⟩
(sN p21 ⟨(some p21), (.v (.nchk (.t p20))), none⟩
(sN p22 ⟨(some p22), (.v (.fa 0 (.t p21))), none⟩
(sN p23 ⟨(some p23), (.v (.fa 0 (.t p22))), none⟩
(sN p24 ⟨(some p24), (.v (.ld1 (.t p23))), none⟩
(sN p25 ⟨(some p25), (.v (.ar .eql (.t p24) (.c (.int .i64 (.ofNat 1))))), none⟩
(sN p26 ⟨(some p26), (.v (.mv (.t p25))), none⟩
(sN p27 ⟨(some p27), (.v (.fa 0 (.t p1))), (some (p26, true))⟩
(sN p28 ⟨(some p28), (.v (.ld1 (.t p27))), (some (p26, true))⟩
(sN p29 ⟨(some p29), (.v (.nchk (.t p28))), (some (p26, true))⟩
(sN p30 ⟨(some p30), (.v (.fa 0 (.t p29))), (some (p26, true))⟩
(sN p31 ⟨(some p31), (.v (.fa 2 (.t p30))), (some (p26, true))⟩
(sN p32 ⟨(some p32), (.v (.ld1 (.t p31))), (some (p26, true))⟩
(sN p33 ⟨(some p33), (.v (.nchk (.t p32))), (some (p26, true))⟩
(sN p34 ⟨(some p34), (.v (.fa 0 (.t p33))), (some (p26, true))⟩
(sN p35 ⟨(some p35), (.v (.fa 1 (.t p34))), (some (p26, true))⟩
(sN p36 ⟨(some p36), (.v (.ld1 (.t p35))), (some (p26, true))⟩
(sN p37 ⟨(some p37), (.v (.ar .lss (.t p36) (.c (.int .i64 (.ofNat 0))))), (some (p26, true))⟩
(sN p38 ⟨(some p38), (.v (.pick (.t p26) (.t p37) (.c (.bool false)))), none⟩
(sN p2 ⟨(some p2), (.v (.mv (.t p14))), none⟩
(sN p3 ⟨(some p3), (.v (.mv (.t p38))), none⟩
sEnd))))))))))))))))))))))))))))))))))))))
dRet)), [(.t p2), (.t p3)]⟩
def af149 : AF := ⟨(dSeq (dOps (dV p2 (oBox 92 (.t p0))
(dV p4 (oNew [.nilp] 153)
dE)))
(dSeq (dDraw (sN p5 ⟨(some p5), (.v (.fa 2 (.t p2))), none⟩
(sN p6 ⟨(some p6), (.v (.ldN 1 (.t p5))), none⟩
(sN p7 ⟨(some p7), (.v (.fa 0 (.t p2))), none⟩
(sN p8 ⟨(some p8), (.v (.ldN 2 (.t p7))), none⟩
(sN p11 ⟨(some p11), (.v (.mv (.t p1))), none⟩
(sE [] [(p6, ⟨(some p6), (.v (.ldN 1 (.t p5))), none⟩)] ⟨(some p9), (.call p124 [(.t p8)]), none⟩
(sN p10 ⟨(some p10), (.v (.ar .sub (.t p9) (.c (.int .i64 (.ofNat 1))))), none⟩
(sN p12 ⟨(some p12), (.v (.ar .sub (.t p10) (.t p11))), none⟩
(sE [] [] ⟨(some p13), (.call p208 [(.t p6), (.t p12)]), none⟩
(sE [] [] ⟨none, (.v (.st 1 (.t p4) (.t p13))), none⟩
sEnd)))))))))))
dRet)), [(.cN p4 1)]⟩
def af150 : AF := ⟨(dSeq (dOps (dV p1 (oBox 153 (.t p0))
(dV p2 (oNew [(.int .i64 (.ofNat 0)), (.int .i64 (.ofNat 0)), (.bool false), (.str []), .nils, .nils] 26)
dE)))
(dSeq (dOps (dV p3 (oFa 0 (.t p1))
(dV p4 (oLd1 (.t p3))
(dV p5 (oNchk (.t p4))
(dV p6 (oFa 0 (.t p5))
(dV p7 (oFa 2 (.t p6))
(dV p8 (oLd1 (.t p7))
(dV p9 (oNchk (.t p8))
(dV p10 (oFa 0 (.t p9))
(dV p11 (oLdN 6 (.t p10))
(dU (oSt 6 (.t p2) (.t p11))
dE)))))))))))
dRet)), [(.cN p2 6)]⟩
def af151 : AF := ⟨(dSeq (dOps (dV p3 (oBox 49 (.t p1))
(dV p4 (oMv (.c (.bool false)))
dE)))
(dSeq (dDraw (sN p5 ⟨(some p5), (.v (.ldN 2 (.t p3))), none⟩
(sN p7 ⟨(some p7), (.v (.mv (.t p0))), none⟩
(sN p8 ⟨(some p8), (.v (.nchk (.t p7))), none⟩
(sN p9 ⟨(some p9), (.v (.fa 1 (.t p8))), none⟩
(sN p10 ⟨(some p10), (.v (.ld1 (.t p9))), none⟩
(sN p11 ⟨(some p11), (.v (.mm true [(.t p10), (.c (.int .i64 (.ofNat 0)))])), none⟩
(sE [] [(p10, ⟨(some p10), (.v (.ld1 (.t p9))), none⟩)] ⟨(some p6), (.call p209 [(.t p5)]), none⟩
(sN p12 ⟨(some p12), (.v (.ar .leq (.t p6) (.t p11))), none⟩
(sN p4 ⟨(some p4), (.v (.mv (.t p12))), none⟩
sEnd))))))))))
dRet)), [(.t p4)]⟩
def af152 : AF := ⟨(dSeq (dOps (dV p2 (oBox 49 (.t p0))
(dV p4 (oNew [.nilp] 153)
(dV p5 (oMv (.c .nili))
dE))))
(dSeq (dSeq (dOps (dV p6 (oMv (.t p1))
(dV p7 (oAr .neq (.t p6) (.c (.int .i64 (.ofNat 0))))
dE)))
(dCond (.t p7) (dSeq (dOps (dV p8 (oBuild [.nilp] [])
(dV p9 (oMv (.t p1))
(dC (some p10) p125 [(.t p9)]
(dU (oSt 1 (.t p4) (.t p8))
(dV p5 (oMv (.t p10))
dE))))))
dRet) dSkip))
(dSeq (dOps (dV p11 (oBuild [.nilp, (.int .i64 (.ofNat 0))] [])
(dV p12 (oLdN 2 (.t p2))
(dV p13 (oBuildS 49 1 [(.int .i64 (.ofNat 0)), .nils] [(0, 2, (.t p12))])
(dV p14 (oBuild [(.int .i64 (.ofNat 0)), (.int .i64 (.ofNat 0)), (.bool false), (.str []), .nils, .nils] [(0, 1, (.c (.int .i64 (.ofNat 2)))), (4, 1, (.t p13))])
(dC (some p15) p80 [(.t p11), (.t p14)]
(dU (oSt 1 (.t p4) (.t p15))
(dV p5 (oMv (.c .nili))
dE))))))))
dRet))), [(.cN p4 1), (.t p5)]⟩
def af153 : AF := ⟨(dSeq (dOps (dV p2 (oBox 49 (.t p0))
(dV p4 (oNew [(.int .i64 (.ofNat 0)), .nils] 49)
(dV p5 (oMv (.c (.int .i64 (.ofNat 0))))
dE))))
(dSeq (dSeq (dOps (dV p6 (oLdN 2 (.t p2))
(dC (some p7) p117 [(.t p6)]
(dV p8 (oUn .not (.t p7))
dE))))
(dCond (.t p8) (dSeq (dOps (dV p9 (oBuild [(.int .i64 (.ofNat 0)), .nils] [])
(dU (oSt 2 (.t p4) (.t p9))
(dV p5 (oMv (.c (.int .i64 (.ofNat 13))))
dE))))
dRet) dSkip))
(dSeq (dSeq (dOps (dV p10 (oMv (.t p1))
(dV p11 (oAr .lss (.t p10) (.c (.int .i64 (.ofNat 0))))
dE)))
(dCond (.t p11) (dSeq (dOps (dV p12 (oBuild [(.int .i64 (.ofNat 0)), .nils] [])
(dU (oSt 2 (.t p4) (.t p12))
(dV p5 (oMv (.c (.int .i64 (.ofNat 1))))
dE))))
dRet) dSkip))
(dSeq (dOps (dV p13 (oLdN 2 (.t p2))
(dV p14 (oMv (.t p1))
(dC (some p15) p210 [(.t p13), (.t p14)]
(dV p16 (oExt (.t p15) 0)
(dV p17 (oExt (.t p15) 1)
(dC (some p18) p118 [(.t p16), (.t p17)]
(dV p19 (oExt (.t p18) 0)
(dV p20 (oExt (.t p18) 1)
(dU (oSt 2 (.t p4) (.t p19))
(dV p5 (oMv (.t p20))
dE)))))))))))
dRet)))), [(.cN p4 2), (.t p5)]⟩
def af154 : AF := ⟨(dSeq (dOps (dV p2 (oBox 155 (.t p0))
(dV p4 (oNew [.nilp, .nilp, (.int .i64 (.ofNat 0)), .nilp, .nilp] 155)
dE)))
(dSeq (dDraw (sN p5 ⟨(some p5), (.v (.fa 0 (.t p2))), none⟩
(sN p6 ⟨(some p6), (.v (.ld1 (.t p5))), none⟩
(sN p7 ⟨(some p7), (.v (.fa 1 (.t p2))), none⟩
(sN p8 ⟨(some p8), (.v (.ldN 3 (.t p7))), none⟩
(sN p9 ⟨(some p9), (.v (.fa 4 (.t p2))), none⟩
(sN p10 ⟨(some p10), (.v (.ldN 1 (.t p9))), none⟩
(sN p11 ⟨(some p11), (.v (.mv (.t p1))), none⟩
(sN p12 ⟨(some p12), (.v (.fa 1 (.t p2))), none⟩
(sN p13 ⟨(some p13), (.v (.fa 0 (.t p12))), none⟩
(sN p14 ⟨(some p14), (.v (.ldN 2 (.t p13))), none⟩
(sE [] [(p6, ⟨(some p6), (.v (.ld1 (.t p5))), none⟩), (p8, ⟨(some p8), (.v (.ldN 3 (.t p7))), none⟩), (p10, ⟨(some p10), (.v (.ldN 1 (.t p9))), none⟩)] ⟨(some p15), (.call p124 [(.t p14)]), none⟩
(sE [] [(p6, ⟨(some p6), (.v (.ld1 (.t p5))), none⟩), (p8, ⟨(some p8), (.v (.ldN 3 (.t p7))), none⟩)] ⟨(some p16), (.call p211 [(.t p10), (.t p11), (.t p15)]), none⟩
(sN p17 ⟨(some p17), (.v (.build [.nilp, .nilp, (.int .i64 (.ofNat 0)), .nilp, .nilp] [(0, 1, (.t p6)), (1, 3, (.t p8)), (4, 1, (.t p16))])), none⟩
(sE [] [] ⟨none, (.v (.st 5 (.t p4) (.t p17))), none⟩
sEnd)))))))))))))))
dRet)), [(.cN p4 5)]⟩
def af155 : AF := ⟨(dSeq (dOps (dV p1 (oBox 155 (.t p0))
(dV p2 (oNew [.nilp, .nilp, (.int .i64 (.ofNat 0)), .nilp, .nilp] 155)
dE)))
(dSeq (dDraw (sN p3 ⟨(some p3), (.v (.fa 0 (.t p1))), none⟩
(sN p4 ⟨(some p4), (.v (.ld1 (.t p3))), none⟩
(sN p5 ⟨(some p5), (.v (.fa 1 (.t p1))), none⟩
(sN p6 ⟨(some p6), (.v (.ldN 3 (.t p5))), none⟩
(sN p7 ⟨(some p7), (.v (.ldN 5 (.t p1))), none⟩
(sN p11 ⟨(some p11), (.v (.fa 4 (.t p1))), none⟩
(sN p12 ⟨(some p12), (.v (.ldN 1 (.t p11))), none⟩
(sN p13 ⟨(some p13), (.v (.fa 1 (.t p1))), none⟩
(sN p14 ⟨(some p14), (.v (.fa 0 (.t p13))), none⟩
(sN p15 ⟨(some p15), (.v (.ldN 2 (.t p14))), none⟩
(sE [] [(p4, ⟨(some p4), (.v (.ld1 (.t p3))), none⟩), (p6, ⟨(some p6), (.v (.ldN 3 (.t p5))), none⟩), (p12, ⟨(some p12), (.v (.ldN 1 (.t p11))), none⟩), (p15, ⟨(some p15), (.v (.ldN 2 (.t p14))), none⟩)] ⟨(some p8), (.call p154 [(.t p7), (.c (.int .i64 (.ofNat 0)))]), none⟩
(sN p9 ⟨(some p9), (.v (.fld 1 4 (.t p8))), none⟩
(sE [] [(p4, ⟨(some p4), (.v (.ld1 (.t p3))), none⟩), (p12, ⟨(some p12), (.v (.ldN 1 (.t p11))), none⟩), (p15, ⟨(some p15), (.v (.ldN 2 (.t p14))), none⟩)] ⟨(some p10), (.call p212 [(.t p6), (.t p9)]), none⟩
(sE [] [(p4, ⟨(some p4), (.v (.ld1 (.t p3))), none⟩), (p12, ⟨(some p12), (.v (.ldN 1 (.t p11))), none⟩)] ⟨(some p16), (.call p124 [(.t p15)]), none⟩
(sE [] [(p4, ⟨(some p4), (.v (.ld1 (.t p3))), none⟩)] ⟨(some p17), (.call p211 [(.t p12), (.c (.int .i64 (.ofNat 1))), (.t p16)]), none⟩
(sN p18 ⟨(some p18), (.v (.build [.nilp, .nilp, (.int .i64 (.ofNat 0)), .nilp, .nilp] [(0, 1, (.t p4)), (1, 3, (.t p10)), (4, 1, (.t p17))])), none⟩
(sE [] [] ⟨none, (.v (.st 5 (.t p2) (.t p18))), none⟩
sEnd))))))))))))))))))
dRet)), [(.cN p2 5)]⟩
def af156 : AF := ⟨(dSeq (dOps (dV p2 (oBox 49 (.t p0))
(dV p3 (oBox 49 (.t p1))
(dV p4 (oNew [(.int .i64 (.ofNat 0)), .nils] 49)
(dV p5 (oMv (.c (.int .i64 (.ofNat 0))))
dE)))))
(dSeq (dSeq (dOps (dV p6 (oLdN 2 (.t p2))
(dC (some p7) p117 [(.t p6)]
(dV p8 (oUn .not (.t p7))
(dV p9 (oMv (.t p8))
(dG p9 false (some p10) (dV p10 (oLdN 2 (.t p3)))
(dG p9 false (some p11) (dC (some p11) p117 [(.t p10)])
(dG p9 false (some p12) (dV p12 (oUn .not (.t p11)))
(dV p13 (oPick (.t p9) (.c (.bool true)) (.t p12))
dE)))))))))
(dCond (.t p13) (dSeq (dOps (dV p14 (oBuild [(.int .i64 (.ofNat 0)), .nils] [])
(dU (oSt 2 (.t p4) (.t p14))
(dV p5 (oMv (.c (.int .i64 (.ofNat 13))))
dE))))
dRet) dSkip))
(dSeq (dDraw (sN p15 ⟨(some p15), (.v (.fa 0 (.t p2))), none⟩
(sN p16 ⟨(some p16), (.v (.ld1 (.t p15))), none⟩
(sN p17 ⟨(some p17), (.v (.fa 0 (.t p3))), none⟩
(sN p18 ⟨(some p18), (.v (.ld1 (.t p17))), none⟩
(sN p19 ⟨(some p19), (.v (.mm true [(.t p16), (.t p18)])), none⟩
(sN p20 ⟨(some p20), (.v (.fa 1 (.t p2))), none⟩
(sN p21 ⟨(some p21), (.v (.ld1 (.t p20))), none⟩
(sN p22 ⟨(some p22), (.v (.fa 1 (.t p3))), none⟩
(sN p23 ⟨(some p23), (.v (.ld1 (.t p22))), none⟩
(sA 9 p24 (.buildS 47 2 [.nils, .nils] [(0, 1, (.t p21)), (1, 1, (.t p23))])
(sE [9] [(p16, ⟨(some p16), (.v (.ld1 (.t p15))), none⟩), (p18, ⟨(some p18), (.v (.ld1 (.t p17))), none⟩)] ⟨(some p25), (.call p213 [(.t p24)]), none⟩
(sE [9] [] ⟨(some p26), (.call p118 [(.t p19), (.t p25)]), none⟩
(sN p27 ⟨(some p27), (.v (.ext (.t p26) 0)), none⟩
(sN p28 ⟨(some p28), (.v (.ext (.t p26) 1)), none⟩
(sE [9] [] ⟨none, (.v (.st 2 (.t p4) (.t p27))), none⟩
(sN p5 ⟨(some p5), (.v (.mv (.t p28))), none⟩
sEnd)))))))))))))))))
dRet))), [(.cN p4 2), (.t p5)]⟩
def af157 : AF := ⟨(dSeq (dOps (dV p4 (oBox 87 (.t p0))
(dV p6 (oBox 153 (.t p2))
(dV p7 (oBox 153 (.t p3))
(dV p8 (oNew [.nilp] 153)
dE)))))
(dSeq (dOps (dV p11 (oBuild [(.int .i64 (.ofNat 0)), (.int .i64 (.ofNat 0)), (.bool false), (.str []), .nils, .nils] [(0, 1, (.c (.int .i64 (.ofNat 1)))), (1, 1, (.c (.int .i64 (.ofNat 1))))])
(dV p9 (oNew [(.int .i64 (.ofNat 0)), (.int .i64 (.ofNat 0)), (.bool false), (.str []), .nils, .nils] 26)
(dU (oSt 6 (.t p9) (.t p11))
dE))))
(dSeq (dOps (dV p12 (oMv (.t p1))
(dV p13 (oLdN 6 (.t p9))
(dV p14 (oLdN 6 (.t p9))
(dV p15 (oBuildS 26 2 [(.int .i64 (.ofNat 0)), (.int .i64 (.ofNat 0)), (.bool false), (.str []), .nils, .nils, (.int .i64 (.ofNat 0)), (.int .i64 (.ofNat 0)), (.bool false), (.str []), .nils, .nils] [(0, 6, (.t p13)), (6, 6, (.t p14))])
(dV p16 (oBuild [(.int .i64 (.ofNat 0)), (.int .i64 (.ofNat 0)), (.bool false), (.str []), .nils, .nils] [(0, 1, (.c (.int .i64 (.ofNat 3)))), (2, 1, (.t p12)), (5, 1, (.t p15))])
(dV p10 (oNew [(.int .i64 (.ofNat 0)), (.int .i64 (.ofNat 0)), (.bool false), (.str []), .nils, .nils] 26)
(dU (oSt 6 (.t p10) (.t p16))
dE))))))))
(dSeq (dSeq (dDraw (sN p17 ⟨(some p17), (.v (.fa 0 (.t p7))), none⟩
(sN p18 ⟨(some p18), (.v (.ld1 (.t p17))), none⟩
(sN p19 ⟨(some p19), (.v (.nchk (.t p18))), none⟩
(sN p20 ⟨(some p20), (.v (.fa 3 (.t p19))), none⟩
(sN p21 ⟨(some p21), (.v (.fa 3 (.t p20))), none⟩
(sN p22 ⟨(some p22), (.v (.ld1 (.t p21))), none⟩
(sN p23 ⟨(some p23), (.v (.fa 0 (.t p4))), none⟩
(sN p24 ⟨(some p24), (.v (.fa 1 (.t p23))), none⟩
(sN p25 ⟨(some p25), (.v (.ld1 (.t p24))), none⟩
(sN p26 ⟨(some p26), (.v (.ar .leq (.t p22) (.t p25))), none⟩
sEnd)))))))))))
(dCond (.t p26) (dSeq (dDraw (sN p27 ⟨(some p27), (.v (.build [.nilp, (.int .i64 (.ofNat 0))] [])), none⟩
(sN p28 ⟨(some p28), (.v (.fa 0 (.t p6))), none⟩
(sN p29 ⟨(some p29), (.v (.ld1 (.t p28))), none⟩
(sN p31 ⟨(some p31), (.v (.fa 0 (.t p7))), none⟩
(sN p32 ⟨(some p32), (.v (.ld1 (.t p31))), none⟩
(sN p34 ⟨(some p34), (.v (.ldN 6 (.t p10))), none⟩
(sE [] [(p32, ⟨(some p32), (.v (.ld1 (.t p31))), none⟩), (p34, ⟨(some p34), (.v (.ldN 6 (.t p10))), none⟩)] ⟨(some p30), (.call p214 [(.t p27), (.t p29)]), none⟩
(sE [] [(p34, ⟨(some p34), (.v (.ldN 6 (.t p10))), none⟩)] ⟨(some p33), (.call p214 [(.t p30), (.t p32)]), none⟩
(sE [] [] ⟨(some p35), (.call p126 [(.t p34)]), none⟩
(sN p36 ⟨(some p36), (.v (.build [.nilp, (.int .i64 (.ofNat 0)), .nilp] [(0, 2, (.t p33)), (2, 1, (.t p35))])), none⟩
(sE [] [] ⟨(some p37), (.call p185 [(.t p36)]), none⟩
(sN p38 ⟨(some p38), (.v (.build [.nilp] [(0, 1, (.t p37))])), none⟩
(sE [] [] ⟨none, (.v (.st 1 (.t p8) (.t p38))), none⟩
sEnd))))))))))))))
dRet) dSkip))
(dSeq (dDraw (sN p39 ⟨(some p39), (.v (.ldN 1 (.t p6))), none⟩
(sN p40 ⟨(some p40), (.v (.fa 0 (.t p4))), none⟩
(sN p41 ⟨(some p41), (.v (.fa 1 (.t p40))), none⟩
(sN p42 ⟨(some p42), (.v (.ld1 (.t p41))), none⟩
(sN p44 ⟨(some p44), (.v (.ldN 1 (.t p7))), none⟩
(sN p45 ⟨(some p45), (.v (.fa 0 (.t p4))), none⟩
(sN p46 ⟨(some p46), (.v (.fa 1 (.t p45))), none⟩
(sN p47 ⟨(some p47), (.v (.ld1 (.t p46))), none⟩
(sN p48 ⟨(some p48), (.v (.ar .add (.t p47) (.c (.int .i64 (.ofNat 1))))), none⟩
(sE [] [(p44, ⟨(some p44), (.v (.ldN 1 (.t p7))), none⟩), (p47, ⟨(some p47), (.v (.ld1 (.t p46))), none⟩)] ⟨(some p43), (.call p215 [(.t p39), (.t p42)]), none⟩
(sE [] [] ⟨(some p49), (.call p215 [(.t p44), (.t p48)]), none⟩
(sA 11 p50 (.buildS 26 2 [(.int .i64 (.ofNat 0)), (.int .i64 (.ofNat 0)), (.bool false), (.str []), .nils, .nils, (.int .i64 (.ofNat 0)), (.int .i64 (.ofNat 0)), (.bool false), (.str []), .nils, .nils] [(0, 6, (.t p43)), (6, 6, (.t p49))])
(sN p51 ⟨(some p51), (.v (.fa 5 (.t p10))), none⟩
(sE [11] [] ⟨none, (.v (.st 1 (.t p51) (.t p50))), none⟩
sEnd)))))))))))))))
(dSeq (dOps (dV p52 (oLdN 2 (.t p4))
(dV p53 (oLdN 6 (.t p10))
(dC (some p54) p80 [(.t p52), (.t p53)]
(dU (oSt 1 (.t p8) (.t p54))
dE)))))
dRet)))))), [(.cN p8 1)]⟩
theorem ok3 : FunSem Tryz.prog 3 af3 := .of mixed (by kernel_rfl)
theorem ok4 : FunSem Tryz.prog 4 af4 := .of mixed (by kernel_rfl)
theorem ok5 : FunSem Tryz.prog 5 af5 := .of mixed (by kernel_rfl)
theorem ok6 : FunSem Tryz.prog 6 af6 := .of mixed (by kernel_rfl)
theorem ok7 : FunSem Tryz.prog 7 af7 := .of mixed (by kernel_rfl)
theorem ok8 : FunSem Tryz.prog 8 af8 := .of mixed (by kernel_rfl)
theorem ok9 : FunSem Tryz.prog 9 af9 := .of mixed (by kernel_rfl)
theorem ok10 : FunSem Tryz.prog 10 af10 := .of mixed (by kernel_rfl)
theorem ok11 : FunSem Tryz.prog 11 af11 := .of mixed (by kernel_rfl)
theorem ok12 : FunSem Tryz.prog 12 af12 := .of mixed (by kernel_rfl)
theorem ok13 : FunSem Tryz.prog 13 af13 := .of mixed (by kernel_rfl)
theorem ok14 : FunSem Tryz.prog 14 af14 := .of mixed (by kernel_rfl)
theorem ok15 : FunSem Tryz.prog 15 af15 := .of mixed (by kernel_rfl)
theorem ok16 : FunSem Tryz.prog 16 af16 := .of mixed (by kernel_rfl)
theorem ok17 : FunSem Tryz.prog 17 af17 := .of mixed (by kernel_rfl)
theorem ok18 : FunSem Tryz.prog 18 af18 := .of mixed (by kernel_rfl)
theorem ok20 : FunSem Tryz.prog 20 af20 := .of mixed (by kernel_rfl)
theorem ok21 : FunSem Tryz.prog 21 af21 := .of mixed (by kernel_rfl)
theorem ok22 : FunSem Tryz.prog 22 af22 := .of mixed (by kernel_rfl)
theorem ok23 : FunSem Tryz.prog 23 af23 := .of mixed (by kernel_rfl)
theorem ok24 : FunSem Tryz.prog 24 af24 := .of mixed (by kernel_rfl)
theorem ok25 : FunSem Tryz.prog 25 af25 := .of mixed (by kernel_rfl)
theorem ok26 : FunSem Tryz.prog 26 af26 := .of mixed (by kernel_rfl)
theorem ok27 : FunSem Tryz.prog 27 af27 := .of mixed (by kernel_rfl)
theorem ok28 : FunSem Tryz.prog 28 af28 := .of mixed (by kernel_rfl)
theorem ok29 : FunSem Tryz.prog 29 af29 := .of mixed (by kernel_rfl)
theorem ok30 : FunSem Tryz.prog 30 af30 := .of mixed (by kernel_rfl)
theorem ok32 : FunSem Tryz.prog 32 af32 := .of mixed (by kernel_rfl)
theorem ok33 : FunSem Tryz.prog 33 af33 := .of mixed (by kernel_rfl)
theorem ok34 : FunSem Tryz.prog 34 af34 := .of mixed (by kernel_rfl)
theorem ok35 : FunSem Tryz.prog 35 af35 := .of mixed (by kernel_rfl)
theorem ok36 : FunSem Tryz.prog 36 af36 := .of mixed (by kernel_rfl)
theorem ok37 : FunSem Tryz.prog 37 af37 := .of mixed (by kernel_rfl)
theorem ok38 : FunSem Tryz.prog 38 af38 := .of mixed (by kernel_rfl)
theorem ok39 : FunSem Tryz.prog 39 af39 := .of mixed (by kernel_rfl)
theorem ok40 : FunSem Tryz.prog 40 af40 := .of mixed (by kernel_rfl)
theorem ok41 : FunSem Tryz.prog 41 af41 := .of mixed (by kernel_rfl)
theorem ok42 : FunSem Tryz.prog 42 af42 := .of mixed (by kernel_rfl)
theorem ok43 : FunSem Tryz.prog 43 af43 := .of mixed (by kernel_rfl)
theorem ok44 : FunSem Tryz.prog 44 af44 := .of mixed (by kernel_rfl)
theorem ok45 : FunSem Tryz.prog 45 af45 := .of mixed (by kernel_rfl)
theorem ok46 : FunSem Tryz.prog 46 af46 := .of mixed (by kernel_rfl)
theorem ok47 : FunSem Tryz.prog 47 af47 := .of mixed (by kernel_rfl)
theorem ok48 : FunSem Tryz.prog 48 af48 := .of mixed (by kernel_rfl)
theorem ok49 : FunSem Tryz.prog 49 af49 := .of mixed (by kernel_rfl)
theorem ok50 : FunSem Tryz.prog 50 af50 := .of mixed (by kernel_rfl)
theorem ok51 : FunSem Tryz.prog 51 af51 := .of mixed (by kernel_rfl)
theorem ok52 : FunSem Tryz.prog 52 af52 := .of mixed (by kernel_rfl)
theorem ok53 : FunSem Tryz.prog 53 af53 := .of mixed (by kernel_rfl)
theorem ok54 : FunSem Tryz.prog 54 af54 := .of mixed (by kernel_rfl)
theorem ok55 : FunSem Tryz.prog 55 af55 := .of mixed (by kernel_rfl)
theorem ok56 : FunSem Tryz.prog 56 af56 := .of mixed (by kernel_rfl)
theorem ok57 : FunSem Tryz.prog 57 af57 := .of mixed (by kernel_rfl)
theorem ok58 : FunSem Tryz.prog 58 af58 := .of mixed (by kernel_rfl)
theorem ok59 : FunSem Tryz.prog 59 af59 := .of mixed (by kernel_rfl)
theorem ok60 : FunSem Tryz.prog 60 af60 := .of mixed (by kernel_rfl)
theorem ok61 : FunSem Tryz.prog 61 af61 := .of mixed (by kernel_rfl)
theorem ok62 : FunSem Tryz.prog 62 af62 := .of mixed (by kernel_rfl)
theorem ok63 : FunSem Tryz.prog 63 af63 := .of mixed (by kernel_rfl)
theorem ok64 : FunSem Tryz.prog 64 af64 := .of mixed (by kernel_rfl)
theorem ok65 : FunSem Tryz.prog 65 af65 := .of mixed (by kernel_rfl)
theorem ok66 : FunSem Tryz.prog 66 af66 := .of mixed (by kernel_rfl)
theorem ok67 : FunSem Tryz.prog 67 af67 := .of mixed (by kernel_rfl)
theorem ok68 : FunSem Tryz.prog 68 af68 := .of mixed (by kernel_rfl)
theorem ok69 : FunSem Tryz.prog 69 af69 := .of mixed (by kernel_rfl)
theorem ok70 : FunSem Tryz.prog 70 af70 := .of mixed (by kernel_rfl)
theorem ok71 : FunSem Tryz.prog 71 af71 := .of mixed (by kernel_rfl)
theorem ok72 : FunSem Tryz.prog 72 af72 := .of mixed (by kernel_rfl)
theorem ok73 : FunSem Tryz.prog 73 af73 := .of mixed (by kernel_rfl)
theorem ok74 : FunSem Tryz.prog 74 af74 := .of mixed (by kernel_rfl)
theorem ok75 : FunSem Tryz.prog 75 af75 := .of mixed (by kernel_rfl)
theorem ok76 : FunSem Tryz.prog 76 af76 := .of mixed (by kernel_rfl)
theorem ok77 : FunSem Tryz.prog 77 af77 := .of mixed (by kernel_rfl)
theorem ok78 : FunSem Tryz.prog 78 af78 := .of mixed (by kernel_rfl)
theorem ok79 : FunSem Tryz.prog 79 af79 := .of mixed (by kernel_rfl)
theorem ok80 : FunSem Tryz.prog 80 af80 := .of mixed (by kernel_rfl)
theorem ok81 : FunSem Tryz.prog 81 af81 := .of mixed (by kernel_rfl)
theorem ok82 : FunSem Tryz.prog 82 af82 := .of mixed (by kernel_rfl)
theorem ok83 : FunSem Tryz.prog 83 af83 := .of mixed (by kernel_rfl)
theorem ok84 : FunSem Tryz.prog 84 af84 := .of mixed (by kernel_rfl)
theorem ok85 : FunSem Tryz.prog 85 af85 := .of mixed (by kernel_rfl)
theorem ok86 : FunSem Tryz.prog 86 af86 := .of mixed (by kernel_rfl)
theorem ok87 : FunSem Tryz.prog 87 af87 := .of mixed (by kernel_rfl)
theorem ok88 : FunSem Tryz.prog 88 af88 := .of mixed (by kernel_rfl)
theorem ok89 : FunSem Tryz.prog 89 af89 := .of mixed (by kernel_rfl)
theorem ok90 : FunSem Tryz.prog 90 af90 := .of mixed (by kernel_rfl)
theorem ok91 : FunSem Tryz.prog 91 af91 := .of mixed (by kernel_rfl)
theorem ok92 : FunSem Tryz.prog 92 af92 := .of mixed (by kernel_rfl)
theorem ok93 : FunSem Tryz.prog 93 af93 := .of mixed (by kernel_rfl)
theorem ok94 : FunSem Tryz.prog 94 af94 := .of mixed (by kernel_rfl)
theorem ok95 : FunSem Tryz.prog 95 af95 := .of mixed (by kernel_rfl)
theorem ok96 : FunSem Tryz.prog 96 af96 := .of mixed (by kernel_rfl)
theorem ok97 : FunSem Tryz.prog 97 af97 := .of mixed (by kernel_rfl)
theorem ok98 : FunSem Tryz.prog 98 af98 := .of mixed (by kernel_rfl)
theorem ok99 : FunSem Tryz.prog 99 af99 := .of mixed (by kernel_rfl)
theorem ok100 : FunSem Tryz.prog 100 af100 := .of mixed (by kernel_rfl)
theorem ok101 : FunSem Tryz.prog 101 af101 := .of mixed (by kernel_rfl)
theorem ok102 : FunSem Tryz.prog 102 af102 := .of mixed (by kernel_rfl)
theorem ok103 : FunSem Tryz.prog 103 af103 := .of mixed (by kernel_rfl)
theorem ok104 : FunSem Tryz.prog 104 af104 := .of mixed (by kernel_rfl)
theorem ok105 : FunSem Tryz.prog 105 af105 := .of mixed (by kernel_rfl)
theorem ok106 : FunSem Tryz.prog 106 af106 := .of mixed (by kernel_rfl)
theorem ok107 : FunSem Tryz.prog 107 af107 := .of mixed (by kernel_rfl)
theorem ok108 : FunSem Tryz.prog 108 af108 := .of mixed (by kernel_rfl)
theorem ok109 : FunSem Tryz.prog 109 af109 := .of mixed (by kernel_rfl)
theorem ok110 : FunSem Tryz.prog 110 af110 := .of mixed (by kernel_rfl)
theorem ok111 : FunSem Tryz.prog 111 af111 := .of mixed (by kernel_rfl)
theorem ok112 : FunSem Tryz.prog 112 af112 := .of mixed (by kernel_rfl)
theorem ok113 : FunSem Tryz.prog 113 af113 := .of mixed (by kernel_rfl)
theorem ok114 : FunSem Tryz.prog 114 af114 := .of mixed (by kernel_rfl)
theorem ok115 : FunSem Tryz.prog 115 af115 := .of mixed (by kernel_rfl)
theorem ok117 : FunSem Tryz.prog 117 af117 := .of mixed (by kernel_rfl)
theorem ok118 : FunSem Tryz.prog 118 af118 := .of mixed (by kernel_rfl)
theorem ok119 : FunSem Tryz.prog 119 af119 := .of mixed (by kernel_rfl)
theorem ok120 : FunSem Tryz.prog 120 af120 := .of mixed (by kernel_rfl)
theorem ok122 : FunSem Tryz.prog 122 af122 := .of mixed (by kernel_rfl)
theorem ok123 : FunSem Tryz.prog 123 af123 := .of mixed (by kernel_rfl)
theorem ok124 : FunSem Tryz.prog 124 af124 := .of mixed (by kernel_rfl)
theorem ok125 : FunSem Tryz.prog 125 af125 := .of mixed (by kernel_rfl)
theorem ok126 : FunSem Tryz.prog 126 af126 := .of mixed (by kernel_rfl)
theorem ok127 : FunSem Tryz.prog 127 af127 := .of mixed (by kernel_rfl)
theorem ok128 : FunSem Tryz.prog 128 af128 := .of mixed (by kernel_rfl)
theorem ok129 : FunSem Tryz.prog 129 af129 := .of mixed (by kernel_rfl)
theorem ok131 : FunSem Tryz.prog 131 af131 := .of mixed (by kernel_rfl)
theorem ok132 : FunSem Tryz.prog 132 af132 := .of mixed (by kernel_rfl)
theorem ok133 : FunSem Tryz.prog 133 af133 := .of mixed (by kernel_rfl)
theorem ok134 : FunSem Tryz.prog 134 af134 := .of mixed (by kernel_rfl)
theorem ok135 : FunSem Tryz.prog 135 af135 := .of mixed (by kernel_rfl)
theorem ok136 : FunSem Tryz.prog 136 af136 := .of mixed (by kernel_rfl)
theorem ok137 : FunSem Tryz.prog 137 af137 := .of mixed (by kernel_rfl)
theorem ok138 : FunSem Tryz.prog 138 af138 := .of mixed (by kernel_rfl)
theorem ok139 : FunSem Tryz.prog 139 af139 := .of mixed (by kernel_rfl)
theorem ok140 : FunSem Tryz.prog 140 af140 := .of mixed (by kernel_rfl)
theorem ok141 : FunSem Tryz.prog 141 af141 := .of mixed (by kernel_rfl)
theorem ok142 : FunSem Tryz.prog 142 af142 := .of mixed (by kernel_rfl)
theorem ok143 : FunSem Tryz.prog 143 af143 := .of mixed (by kernel_rfl)
theorem ok144 : FunSem Tryz.prog 144 af144 := .of mixed (by kernel_rfl)
theorem ok145 : FunSem Tryz.prog 145 af145 := .of mixed (by kernel_rfl)
theorem ok146 : FunSem Tryz.prog 146 af146 := .of mixed (by kernel_rfl)
theorem ok147 : FunSem Tryz.prog 147 af147 := .of mixed (by kernel_rfl)
theorem ok148 : FunSem Tryz.prog 148 af148 := .of mixed (by kernel_rfl)
theorem ok149 : FunSem Tryz.prog 149 af149 := .of mixed (by kernel_rfl)
theorem ok150 : FunSem Tryz.prog 150 af150 := .of mixed (by kernel_rfl)
theorem ok151 : FunSem Tryz.prog 151 af151 := .of mixed (by kernel_rfl)
theorem ok152 : FunSem Tryz.prog 152 af152 := .of mixed (by kernel_rfl)
theorem ok153 : FunSem Tryz.prog 153 af153 := .of mixed (by kernel_rfl)
theorem ok154 : FunSem Tryz.prog 154 af154 := .of mixed (by kernel_rfl)
theorem ok155 : FunSem Tryz.prog 155 af155 := .of mixed (by kernel_rfl)
theorem ok156 : FunSem Tryz.prog 156 af156 := .of mixed (by kernel_rfl)
theorem ok157 : FunSem Tryz.prog 157 af157 := .of mixed (by kernel_rfl)
end Go.Proofs.YtkcpnbfhoamlfaaGreatDoor.X
