/- Functions of the program, as the executor runs them, and that they are the program's. -/
import Derived.Test.YtcakhpfonailhaaGreatDoorXQB
import Derived.Test.YtcakhpfonailhaaGreatDoorProg
set_option maxRecDepth 100000
set_option linter.unusedVariables false
namespace Go.Proofs.YtcakhpfonailhaaGreatDoor.X
open Go.RowKit
def p3:Pt:=(.z (.z .e))
def p4:Pt:=(.o (.z .e))
def p5:Pt:=(.z (.o .e))
def p6:Pt:=(.o (.o .e))
def p7:Pt:=(.z (.z (.z .e)))
def p8:Pt:=(.o (.z (.z .e)))
def p9:Pt:=(.z (.o (.z .e)))
def p10:Pt:=(.o (.o (.z .e)))
def p11:Pt:=(.z (.z (.o .e)))
def p12:Pt:=(.o (.z (.o .e)))
def p13:Pt:=(.z (.o (.o .e)))
def p14:Pt:=(.o (.o (.o .e)))
def p15:Pt:=(.z (.z (.z (.z .e))))
def p16:Pt:=(.o (.z (.z (.z .e))))
def p17:Pt:=(.z (.o (.z (.z .e))))
def p18:Pt:=(.o (.o (.z (.z .e))))
def p19:Pt:=(.z (.z (.o (.z .e))))
def p20:Pt:=(.o (.z (.o (.z .e))))
def p21:Pt:=(.z (.o (.o (.z .e))))
def p22:Pt:=(.o (.o (.o (.z .e))))
def p23:Pt:=(.z (.z (.z (.o .e))))
def p24:Pt:=(.o (.z (.z (.o .e))))
def p25:Pt:=(.z (.o (.z (.o .e))))
def p26:Pt:=(.o (.o (.z (.o .e))))
def p27:Pt:=(.z (.z (.o (.o .e))))
def p28:Pt:=(.o (.z (.o (.o .e))))
def p29:Pt:=(.z (.o (.o (.o .e))))
def p30:Pt:=(.o (.o (.o (.o .e))))
def p31:Pt:=(.z (.z (.z (.z (.z .e)))))
def p32:Pt:=(.o (.z (.z (.z (.z .e)))))
def p33:Pt:=(.z (.o (.z (.z (.z .e)))))
def p34:Pt:=(.o (.o (.z (.z (.z .e)))))
def p35:Pt:=(.z (.z (.o (.z (.z .e)))))
def p36:Pt:=(.o (.z (.o (.z (.z .e)))))
def p37:Pt:=(.z (.o (.o (.z (.z .e)))))
def p38:Pt:=(.o (.o (.o (.z (.z .e)))))
def p39:Pt:=(.z (.z (.z (.o (.z .e)))))
def p40:Pt:=(.o (.z (.z (.o (.z .e)))))
def p41:Pt:=(.z (.o (.z (.o (.z .e)))))
def p42:Pt:=(.o (.o (.z (.o (.z .e)))))
def p43:Pt:=(.z (.z (.o (.o (.z .e)))))
def p44:Pt:=(.o (.z (.o (.o (.z .e)))))
def p45:Pt:=(.z (.o (.o (.o (.z .e)))))
def p46:Pt:=(.o (.o (.o (.o (.z .e)))))
def p47:Pt:=(.z (.z (.z (.z (.o .e)))))
def p48:Pt:=(.o (.z (.z (.z (.o .e)))))
def p49:Pt:=(.z (.o (.z (.z (.o .e)))))
def p50:Pt:=(.o (.o (.z (.z (.o .e)))))
def p51:Pt:=(.z (.z (.o (.z (.o .e)))))
def p52:Pt:=(.o (.z (.o (.z (.o .e)))))
def p53:Pt:=(.z (.o (.o (.z (.o .e)))))
def p54:Pt:=(.o (.o (.o (.z (.o .e)))))
def p55:Pt:=(.z (.z (.z (.o (.o .e)))))
def p56:Pt:=(.o (.z (.z (.o (.o .e)))))
def p57:Pt:=(.z (.o (.z (.o (.o .e)))))
def p58:Pt:=(.o (.o (.z (.o (.o .e)))))
def p59:Pt:=(.z (.z (.o (.o (.o .e)))))
def p60:Pt:=(.o (.z (.o (.o (.o .e)))))
def p61:Pt:=(.z (.o (.o (.o (.o .e)))))
def p62:Pt:=(.o (.o (.o (.o (.o .e)))))
def p63:Pt:=(.z (.z (.z (.z (.z (.z .e))))))
def p64:Pt:=(.o (.z (.z (.z (.z (.z .e))))))
def p65:Pt:=(.z (.o (.z (.z (.z (.z .e))))))
def p66:Pt:=(.o (.o (.z (.z (.z (.z .e))))))
def p67:Pt:=(.z (.z (.o (.z (.z (.z .e))))))
def p68:Pt:=(.o (.z (.o (.z (.z (.z .e))))))
def p69:Pt:=(.z (.o (.o (.z (.z (.z .e))))))
def p70:Pt:=(.o (.o (.o (.z (.z (.z .e))))))
def p71:Pt:=(.z (.z (.z (.o (.z (.z .e))))))
def p72:Pt:=(.o (.z (.z (.o (.z (.z .e))))))
def p73:Pt:=(.z (.o (.z (.o (.z (.z .e))))))
def p74:Pt:=(.o (.o (.z (.o (.z (.z .e))))))
def p75:Pt:=(.z (.z (.o (.o (.z (.z .e))))))
def p76:Pt:=(.o (.z (.o (.o (.z (.z .e))))))
def p77:Pt:=(.z (.o (.o (.o (.z (.z .e))))))
def p78:Pt:=(.o (.o (.o (.o (.z (.z .e))))))
def p79:Pt:=(.z (.z (.z (.z (.o (.z .e))))))
def p80:Pt:=(.o (.z (.z (.z (.o (.z .e))))))
def p81:Pt:=(.z (.o (.z (.z (.o (.z .e))))))
def p82:Pt:=(.o (.o (.z (.z (.o (.z .e))))))
def p83:Pt:=(.z (.z (.o (.z (.o (.z .e))))))
def p84:Pt:=(.o (.z (.o (.z (.o (.z .e))))))
def p85:Pt:=(.z (.o (.o (.z (.o (.z .e))))))
def p86:Pt:=(.o (.o (.o (.z (.o (.z .e))))))
def p87:Pt:=(.z (.z (.z (.o (.o (.z .e))))))
def p88:Pt:=(.o (.z (.z (.o (.o (.z .e))))))
def p89:Pt:=(.z (.o (.z (.o (.o (.z .e))))))
def p90:Pt:=(.o (.o (.z (.o (.o (.z .e))))))
def p91:Pt:=(.z (.z (.o (.o (.o (.z .e))))))
def p92:Pt:=(.o (.z (.o (.o (.o (.z .e))))))
def p93:Pt:=(.z (.o (.o (.o (.o (.z .e))))))
def p94:Pt:=(.o (.o (.o (.o (.o (.z .e))))))
def p95:Pt:=(.z (.z (.z (.z (.z (.o .e))))))
def p96:Pt:=(.o (.z (.z (.z (.z (.o .e))))))
def p97:Pt:=(.z (.o (.z (.z (.z (.o .e))))))
def p98:Pt:=(.o (.o (.z (.z (.z (.o .e))))))
def p99:Pt:=(.z (.z (.o (.z (.z (.o .e))))))
def p100:Pt:=(.o (.z (.o (.z (.z (.o .e))))))
def p101:Pt:=(.z (.o (.o (.z (.z (.o .e))))))
def p102:Pt:=(.o (.o (.o (.z (.z (.o .e))))))
def p103:Pt:=(.z (.z (.z (.o (.z (.o .e))))))
def p104:Pt:=(.o (.z (.z (.o (.z (.o .e))))))
def p105:Pt:=(.z (.o (.z (.o (.z (.o .e))))))
def p106:Pt:=(.o (.o (.z (.o (.z (.o .e))))))
def p107:Pt:=(.z (.z (.o (.o (.z (.o .e))))))
def p108:Pt:=(.o (.z (.o (.o (.z (.o .e))))))
def p109:Pt:=(.z (.o (.o (.o (.z (.o .e))))))
def p110:Pt:=(.o (.o (.o (.o (.z (.o .e))))))
def p115:Pt:=(.z (.z (.o (.z (.o (.o .e))))))
def p116:Pt:=(.o (.z (.o (.z (.o (.o .e))))))
def p117:Pt:=(.z (.o (.o (.z (.o (.o .e))))))
def p118:Pt:=(.o (.o (.o (.z (.o (.o .e))))))
def p119:Pt:=(.z (.z (.z (.o (.o (.o .e))))))
def p120:Pt:=(.o (.z (.z (.o (.o (.o .e))))))
def p121:Pt:=(.z (.o (.z (.o (.o (.o .e))))))
def p122:Pt:=(.o (.o (.z (.o (.o (.o .e))))))
def p123:Pt:=(.z (.z (.o (.o (.o (.o .e))))))
def p124:Pt:=(.o (.z (.o (.o (.o (.o .e))))))
def p125:Pt:=(.z (.o (.o (.o (.o (.o .e))))))
def p126:Pt:=(.o (.o (.o (.o (.o (.o .e))))))
def p127:Pt:=(.z (.z (.z (.z (.z (.z (.z .e)))))))
def p128:Pt:=(.o (.z (.z (.z (.z (.z (.z .e)))))))
def p129:Pt:=(.z (.o (.z (.z (.z (.z (.z .e)))))))
def p130:Pt:=(.o (.o (.z (.z (.z (.z (.z .e)))))))
def p131:Pt:=(.z (.z (.o (.z (.z (.z (.z .e)))))))
def p132:Pt:=(.o (.z (.o (.z (.z (.z (.z .e)))))))
def p133:Pt:=(.z (.o (.o (.z (.z (.z (.z .e)))))))
def p134:Pt:=(.o (.o (.o (.z (.z (.z (.z .e)))))))
def p135:Pt:=(.z (.z (.z (.o (.z (.z (.z .e)))))))
def p136:Pt:=(.o (.z (.z (.o (.z (.z (.z .e)))))))
def p137:Pt:=(.z (.o (.z (.o (.z (.z (.z .e)))))))
def p138:Pt:=(.o (.o (.z (.o (.z (.z (.z .e)))))))
def p139:Pt:=(.z (.z (.o (.o (.z (.z (.z .e)))))))
def p140:Pt:=(.o (.z (.o (.o (.z (.z (.z .e)))))))
def p141:Pt:=(.z (.o (.o (.o (.z (.z (.z .e)))))))
def p142:Pt:=(.o (.o (.o (.o (.z (.z (.z .e)))))))
def p143:Pt:=(.z (.z (.z (.z (.o (.z (.z .e)))))))
def p144:Pt:=(.o (.z (.z (.z (.o (.z (.z .e)))))))
def p145:Pt:=(.z (.o (.z (.z (.o (.z (.z .e)))))))
def p146:Pt:=(.o (.o (.z (.z (.o (.z (.z .e)))))))
def p147:Pt:=(.z (.z (.o (.z (.o (.z (.z .e)))))))
def p150:Pt:=(.o (.o (.o (.z (.o (.z (.z .e)))))))
def p154:Pt:=(.o (.o (.z (.o (.o (.z (.z .e)))))))
def p155:Pt:=(.z (.z (.o (.o (.o (.z (.z .e)))))))
def p156:Pt:=(.o (.z (.o (.o (.o (.z (.z .e)))))))
def p157:Pt:=(.z (.o (.o (.o (.o (.z (.z .e)))))))
def p158:Pt:=(.o (.o (.o (.o (.o (.z (.z .e)))))))
def p159:Pt:=(.z (.z (.z (.z (.z (.o (.z .e)))))))
def p160:Pt:=(.o (.z (.z (.z (.z (.o (.z .e)))))))
def p161:Pt:=(.z (.o (.z (.z (.z (.o (.z .e)))))))
def p162:Pt:=(.o (.o (.z (.z (.z (.o (.z .e)))))))
def p163:Pt:=(.z (.z (.o (.z (.z (.o (.z .e)))))))
def p164:Pt:=(.o (.z (.o (.z (.z (.o (.z .e)))))))
def p165:Pt:=(.z (.o (.o (.z (.z (.o (.z .e)))))))
def p166:Pt:=(.o (.o (.o (.z (.z (.o (.z .e)))))))
def p167:Pt:=(.z (.z (.z (.o (.z (.o (.z .e)))))))
def p168:Pt:=(.o (.z (.z (.o (.z (.o (.z .e)))))))
def p169:Pt:=(.z (.o (.z (.o (.z (.o (.z .e)))))))
def p170:Pt:=(.o (.o (.z (.o (.z (.o (.z .e)))))))
def p171:Pt:=(.z (.z (.o (.o (.z (.o (.z .e)))))))
def p172:Pt:=(.o (.z (.o (.o (.z (.o (.z .e)))))))
def p173:Pt:=(.z (.o (.o (.o (.z (.o (.z .e)))))))
def p174:Pt:=(.o (.o (.o (.o (.z (.o (.z .e)))))))
def p175:Pt:=(.z (.z (.z (.z (.o (.o (.z .e)))))))
def p176:Pt:=(.o (.z (.z (.z (.o (.o (.z .e)))))))
def p177:Pt:=(.z (.o (.z (.z (.o (.o (.z .e)))))))
def p178:Pt:=(.o (.o (.z (.z (.o (.o (.z .e)))))))
def p179:Pt:=(.z (.z (.o (.z (.o (.o (.z .e)))))))
def p180:Pt:=(.o (.z (.o (.z (.o (.o (.z .e)))))))
def p181:Pt:=(.z (.o (.o (.z (.o (.o (.z .e)))))))
def p182:Pt:=(.o (.o (.o (.z (.o (.o (.z .e)))))))
def p183:Pt:=(.z (.z (.z (.o (.o (.o (.z .e)))))))
def p184:Pt:=(.o (.z (.z (.o (.o (.o (.z .e)))))))
def p185:Pt:=(.z (.o (.z (.o (.o (.o (.z .e)))))))
def p186:Pt:=(.o (.o (.z (.o (.o (.o (.z .e)))))))
def p187:Pt:=(.z (.z (.o (.o (.o (.o (.z .e)))))))
def p188:Pt:=(.o (.z (.o (.o (.o (.o (.z .e)))))))
def p189:Pt:=(.z (.o (.o (.o (.o (.o (.z .e)))))))
def p190:Pt:=(.o (.o (.o (.o (.o (.o (.z .e)))))))
def p191:Pt:=(.z (.z (.z (.z (.z (.z (.o .e)))))))
def p192:Pt:=(.o (.z (.z (.z (.z (.z (.o .e)))))))
def p193:Pt:=(.z (.o (.z (.z (.z (.z (.o .e)))))))
def p194:Pt:=(.o (.o (.z (.z (.z (.z (.o .e)))))))
def p195:Pt:=(.z (.z (.o (.z (.z (.z (.o .e)))))))
def p196:Pt:=(.o (.z (.o (.z (.z (.z (.o .e)))))))
def p197:Pt:=(.z (.o (.o (.z (.z (.z (.o .e)))))))
def p198:Pt:=(.o (.o (.o (.z (.z (.z (.o .e)))))))
def p199:Pt:=(.z (.z (.z (.o (.z (.z (.o .e)))))))
def p200:Pt:=(.o (.z (.z (.o (.z (.z (.o .e)))))))
def p201:Pt:=(.z (.o (.z (.o (.z (.z (.o .e)))))))
def p202:Pt:=(.o (.o (.z (.o (.z (.z (.o .e)))))))
def p203:Pt:=(.z (.z (.o (.o (.z (.z (.o .e)))))))
def p204:Pt:=(.o (.z (.o (.o (.z (.z (.o .e)))))))
def p205:Pt:=(.z (.o (.o (.o (.z (.z (.o .e)))))))
def p206:Pt:=(.o (.o (.o (.o (.z (.z (.o .e)))))))
def p207:Pt:=(.z (.z (.z (.z (.o (.z (.o .e)))))))
def p208:Pt:=(.o (.z (.z (.z (.o (.z (.o .e)))))))
def p209:Pt:=(.z (.o (.z (.z (.o (.z (.o .e)))))))
def p210:Pt:=(.o (.o (.z (.z (.o (.z (.o .e)))))))
def p211:Pt:=(.z (.z (.o (.z (.o (.z (.o .e)))))))
def p212:Pt:=(.o (.z (.o (.z (.o (.z (.o .e)))))))
def p213:Pt:=(.z (.o (.o (.z (.o (.z (.o .e)))))))
def p214:Pt:=(.o (.o (.o (.z (.o (.z (.o .e)))))))
def p215:Pt:=(.z (.z (.z (.o (.o (.z (.o .e)))))))
def p216:Pt:=(.o (.z (.z (.o (.o (.z (.o .e)))))))
def p217:Pt:=(.z (.o (.z (.o (.o (.z (.o .e)))))))
def p218:Pt:=(.o (.o (.z (.o (.o (.z (.o .e)))))))
def p219:Pt:=(.z (.z (.o (.o (.o (.z (.o .e)))))))
def p220:Pt:=(.o (.z (.o (.o (.o (.z (.o .e)))))))
def p221:Pt:=(.z (.o (.o (.o (.o (.z (.o .e)))))))
def p222:Pt:=(.o (.o (.o (.o (.o (.z (.o .e)))))))
def p223:Pt:=(.z (.z (.z (.z (.z (.o (.o .e)))))))
def p224:Pt:=(.o (.z (.z (.z (.z (.o (.o .e)))))))
def p225:Pt:=(.z (.o (.z (.z (.z (.o (.o .e)))))))
def p226:Pt:=(.o (.o (.z (.z (.z (.o (.o .e)))))))
def p227:Pt:=(.z (.z (.o (.z (.z (.o (.o .e)))))))
def p228:Pt:=(.o (.z (.o (.z (.z (.o (.o .e)))))))
def p229:Pt:=(.z (.o (.o (.z (.z (.o (.o .e)))))))
def p230:Pt:=(.o (.o (.o (.z (.z (.o (.o .e)))))))
def p231:Pt:=(.z (.z (.z (.o (.z (.o (.o .e)))))))
def p232:Pt:=(.o (.z (.z (.o (.z (.o (.o .e)))))))
def p233:Pt:=(.z (.o (.z (.o (.z (.o (.o .e)))))))
def p234:Pt:=(.o (.o (.z (.o (.z (.o (.o .e)))))))
def p235:Pt:=(.z (.z (.o (.o (.z (.o (.o .e)))))))
def p236:Pt:=(.o (.z (.o (.o (.z (.o (.o .e)))))))
def p237:Pt:=(.z (.o (.o (.o (.z (.o (.o .e)))))))
def p239:Pt:=(.z (.z (.z (.z (.o (.o (.o .e)))))))
def p241:Pt:=(.z (.o (.z (.z (.o (.o (.o .e)))))))
def p242:Pt:=(.o (.o (.z (.z (.o (.o (.o .e)))))))
def p243:Pt:=(.z (.z (.o (.z (.o (.o (.o .e)))))))
def p244:Pt:=(.o (.z (.o (.z (.o (.o (.o .e)))))))
def p245:Pt:=(.z (.o (.o (.z (.o (.o (.o .e)))))))
def p246:Pt:=(.o (.o (.o (.z (.o (.o (.o .e)))))))
def p247:Pt:=(.z (.z (.z (.o (.o (.o (.o .e)))))))
def p248:Pt:=(.o (.z (.z (.o (.o (.o (.o .e)))))))
def p249:Pt:=(.z (.o (.z (.o (.o (.o (.o .e)))))))
def p250:Pt:=(.o (.o (.z (.o (.o (.o (.o .e)))))))
def p251:Pt:=(.z (.z (.o (.o (.o (.o (.o .e)))))))
def p252:Pt:=(.o (.z (.o (.o (.o (.o (.o .e)))))))
def p253:Pt:=(.z (.o (.o (.o (.o (.o (.o .e)))))))
def p254:Pt:=(.o (.o (.o (.o (.o (.o (.o .e)))))))
def p255:Pt:=(.z (.z (.z (.z (.z (.z (.z (.z .e))))))))
def p256:Pt:=(.o (.z (.z (.z (.z (.z (.z (.z .e))))))))
def p257:Pt:=(.z (.o (.z (.z (.z (.z (.z (.z .e))))))))
def p258:Pt:=(.o (.o (.z (.z (.z (.z (.z (.z .e))))))))
def p259:Pt:=(.z (.z (.o (.z (.z (.z (.z (.z .e))))))))
def p260:Pt:=(.o (.z (.o (.z (.z (.z (.z (.z .e))))))))
def p261:Pt:=(.z (.o (.o (.z (.z (.z (.z (.z .e))))))))
def p262:Pt:=(.o (.o (.o (.z (.z (.z (.z (.z .e))))))))
def p263:Pt:=(.z (.z (.z (.o (.z (.z (.z (.z .e))))))))
def p264:Pt:=(.o (.z (.z (.o (.z (.z (.z (.z .e))))))))
def p265:Pt:=(.z (.o (.z (.o (.z (.z (.z (.z .e))))))))
def p266:Pt:=(.o (.o (.z (.o (.z (.z (.z (.z .e))))))))
def p267:Pt:=(.z (.z (.o (.o (.z (.z (.z (.z .e))))))))
def p268:Pt:=(.o (.z (.o (.o (.z (.z (.z (.z .e))))))))
def p269:Pt:=(.z (.o (.o (.o (.z (.z (.z (.z .e))))))))
def p270:Pt:=(.o (.o (.o (.o (.z (.z (.z (.z .e))))))))
def p271:Pt:=(.z (.z (.z (.z (.o (.z (.z (.z .e))))))))
def p272:Pt:=(.o (.z (.z (.z (.o (.z (.z (.z .e))))))))
def p273:Pt:=(.z (.o (.z (.z (.o (.z (.z (.z .e))))))))
def p274:Pt:=(.o (.o (.z (.z (.o (.z (.z (.z .e))))))))
def p275:Pt:=(.z (.z (.o (.z (.o (.z (.z (.z .e))))))))
def p276:Pt:=(.o (.z (.o (.z (.o (.z (.z (.z .e))))))))
def p277:Pt:=(.z (.o (.o (.z (.o (.z (.z (.z .e))))))))
def p278:Pt:=(.o (.o (.o (.z (.o (.z (.z (.z .e))))))))
def p279:Pt:=(.z (.z (.z (.o (.o (.z (.z (.z .e))))))))
def p280:Pt:=(.o (.z (.z (.o (.o (.z (.z (.z .e))))))))
def p281:Pt:=(.z (.o (.z (.o (.o (.z (.z (.z .e))))))))
def p282:Pt:=(.o (.o (.z (.o (.o (.z (.z (.z .e))))))))
def p283:Pt:=(.z (.z (.o (.o (.o (.z (.z (.z .e))))))))
def p284:Pt:=(.o (.z (.o (.o (.o (.z (.z (.z .e))))))))
def p285:Pt:=(.z (.o (.o (.o (.o (.z (.z (.z .e))))))))
def p286:Pt:=(.o (.o (.o (.o (.o (.z (.z (.z .e))))))))
def p287:Pt:=(.z (.z (.z (.z (.z (.o (.z (.z .e))))))))
def p288:Pt:=(.o (.z (.z (.z (.z (.o (.z (.z .e))))))))
def p289:Pt:=(.z (.o (.z (.z (.z (.o (.z (.z .e))))))))
def p290:Pt:=(.o (.o (.z (.z (.z (.o (.z (.z .e))))))))
def p291:Pt:=(.z (.z (.o (.z (.z (.o (.z (.z .e))))))))
def p292:Pt:=(.o (.z (.o (.z (.z (.o (.z (.z .e))))))))
def p293:Pt:=(.z (.o (.o (.z (.z (.o (.z (.z .e))))))))
def p294:Pt:=(.o (.o (.o (.z (.z (.o (.z (.z .e))))))))
def p295:Pt:=(.z (.z (.z (.o (.z (.o (.z (.z .e))))))))
def p296:Pt:=(.o (.z (.z (.o (.z (.o (.z (.z .e))))))))
def p297:Pt:=(.z (.o (.z (.o (.z (.o (.z (.z .e))))))))
def p298:Pt:=(.o (.o (.z (.o (.z (.o (.z (.z .e))))))))
def p299:Pt:=(.z (.z (.o (.o (.z (.o (.z (.z .e))))))))
def p300:Pt:=(.o (.z (.o (.o (.z (.o (.z (.z .e))))))))
def p301:Pt:=(.z (.o (.o (.o (.z (.o (.z (.z .e))))))))
def p302:Pt:=(.o (.o (.o (.o (.z (.o (.z (.z .e))))))))
def p303:Pt:=(.z (.z (.z (.z (.o (.o (.z (.z .e))))))))
def p304:Pt:=(.o (.z (.z (.z (.o (.o (.z (.z .e))))))))
def p305:Pt:=(.z (.o (.z (.z (.o (.o (.z (.z .e))))))))
def p306:Pt:=(.o (.o (.z (.z (.o (.o (.z (.z .e))))))))
def p307:Pt:=(.z (.z (.o (.z (.o (.o (.z (.z .e))))))))
def p308:Pt:=(.o (.z (.o (.z (.o (.o (.z (.z .e))))))))
def p309:Pt:=(.z (.o (.o (.z (.o (.o (.z (.z .e))))))))
def p310:Pt:=(.o (.o (.o (.z (.o (.o (.z (.z .e))))))))
def p311:Pt:=(.z (.z (.z (.o (.o (.o (.z (.z .e))))))))
def p312:Pt:=(.o (.z (.z (.o (.o (.o (.z (.z .e))))))))
def p313:Pt:=(.z (.o (.z (.o (.o (.o (.z (.z .e))))))))
def p314:Pt:=(.o (.o (.z (.o (.o (.o (.z (.z .e))))))))
def p315:Pt:=(.z (.z (.o (.o (.o (.o (.z (.z .e))))))))
def p316:Pt:=(.o (.z (.o (.o (.o (.o (.z (.z .e))))))))
def p317:Pt:=(.z (.o (.o (.o (.o (.o (.z (.z .e))))))))
def p318:Pt:=(.o (.o (.o (.o (.o (.o (.z (.z .e))))))))
def p319:Pt:=(.z (.z (.z (.z (.z (.z (.o (.z .e))))))))
def p320:Pt:=(.o (.z (.z (.z (.z (.z (.o (.z .e))))))))
def p321:Pt:=(.z (.o (.z (.z (.z (.z (.o (.z .e))))))))
def p322:Pt:=(.o (.o (.z (.z (.z (.z (.o (.z .e))))))))
def p323:Pt:=(.z (.z (.o (.z (.z (.z (.o (.z .e))))))))
def p324:Pt:=(.o (.z (.o (.z (.z (.z (.o (.z .e))))))))
def p325:Pt:=(.z (.o (.o (.z (.z (.z (.o (.z .e))))))))
def p326:Pt:=(.o (.o (.o (.z (.z (.z (.o (.z .e))))))))
def p327:Pt:=(.z (.z (.z (.o (.z (.z (.o (.z .e))))))))
def p328:Pt:=(.o (.z (.z (.o (.z (.z (.o (.z .e))))))))
def p329:Pt:=(.z (.o (.z (.o (.z (.z (.o (.z .e))))))))
def p330:Pt:=(.o (.o (.z (.o (.z (.z (.o (.z .e))))))))
def p331:Pt:=(.z (.z (.o (.o (.z (.z (.o (.z .e))))))))
def p332:Pt:=(.o (.z (.o (.o (.z (.z (.o (.z .e))))))))
def p333:Pt:=(.z (.o (.o (.o (.z (.z (.o (.z .e))))))))
def p334:Pt:=(.o (.o (.o (.o (.z (.z (.o (.z .e))))))))
def p335:Pt:=(.z (.z (.z (.z (.o (.z (.o (.z .e))))))))
def p336:Pt:=(.o (.z (.z (.z (.o (.z (.o (.z .e))))))))
def p337:Pt:=(.z (.o (.z (.z (.o (.z (.o (.z .e))))))))
def p338:Pt:=(.o (.o (.z (.z (.o (.z (.o (.z .e))))))))
def p339:Pt:=(.z (.z (.o (.z (.o (.z (.o (.z .e))))))))
def p340:Pt:=(.o (.z (.o (.z (.o (.z (.o (.z .e))))))))
def p341:Pt:=(.z (.o (.o (.z (.o (.z (.o (.z .e))))))))
def p342:Pt:=(.o (.o (.o (.z (.o (.z (.o (.z .e))))))))
def p343:Pt:=(.z (.z (.z (.o (.o (.z (.o (.z .e))))))))
def p344:Pt:=(.o (.z (.z (.o (.o (.z (.o (.z .e))))))))
def p345:Pt:=(.z (.o (.z (.o (.o (.z (.o (.z .e))))))))
def p346:Pt:=(.o (.o (.z (.o (.o (.z (.o (.z .e))))))))
def p347:Pt:=(.z (.z (.o (.o (.o (.z (.o (.z .e))))))))
def p348:Pt:=(.o (.z (.o (.o (.o (.z (.o (.z .e))))))))
def p349:Pt:=(.z (.o (.o (.o (.o (.z (.o (.z .e))))))))
def p350:Pt:=(.o (.o (.o (.o (.o (.z (.o (.z .e))))))))
def p351:Pt:=(.z (.z (.z (.z (.z (.o (.o (.z .e))))))))
def p352:Pt:=(.o (.z (.z (.z (.z (.o (.o (.z .e))))))))
def p353:Pt:=(.z (.o (.z (.z (.z (.o (.o (.z .e))))))))
def p354:Pt:=(.o (.o (.z (.z (.z (.o (.o (.z .e))))))))
def p355:Pt:=(.z (.z (.o (.z (.z (.o (.o (.z .e))))))))
def p356:Pt:=(.o (.z (.o (.z (.z (.o (.o (.z .e))))))))
def p357:Pt:=(.z (.o (.o (.z (.z (.o (.o (.z .e))))))))
def p358:Pt:=(.o (.o (.o (.z (.z (.o (.o (.z .e))))))))
def p359:Pt:=(.z (.z (.z (.o (.z (.o (.o (.z .e))))))))
def p360:Pt:=(.o (.z (.z (.o (.z (.o (.o (.z .e))))))))
def p361:Pt:=(.z (.o (.z (.o (.z (.o (.o (.z .e))))))))
def p362:Pt:=(.o (.o (.z (.o (.z (.o (.o (.z .e))))))))
def p363:Pt:=(.z (.z (.o (.o (.z (.o (.o (.z .e))))))))
def p364:Pt:=(.o (.z (.o (.o (.z (.o (.o (.z .e))))))))
def p365:Pt:=(.z (.o (.o (.o (.z (.o (.o (.z .e))))))))
def p366:Pt:=(.o (.o (.o (.o (.z (.o (.o (.z .e))))))))
def p367:Pt:=(.z (.z (.z (.z (.o (.o (.o (.z .e))))))))
def p368:Pt:=(.o (.z (.z (.z (.o (.o (.o (.z .e))))))))
def p369:Pt:=(.z (.o (.z (.z (.o (.o (.o (.z .e))))))))
def p370:Pt:=(.o (.o (.z (.z (.o (.o (.o (.z .e))))))))
def p371:Pt:=(.z (.z (.o (.z (.o (.o (.o (.z .e))))))))
def p372:Pt:=(.o (.z (.o (.z (.o (.o (.o (.z .e))))))))
def p373:Pt:=(.z (.o (.o (.z (.o (.o (.o (.z .e))))))))
def p374:Pt:=(.o (.o (.o (.z (.o (.o (.o (.z .e))))))))
def p375:Pt:=(.z (.z (.z (.o (.o (.o (.o (.z .e))))))))
def p376:Pt:=(.o (.z (.z (.o (.o (.o (.o (.z .e))))))))
def p377:Pt:=(.z (.o (.z (.o (.o (.o (.o (.z .e))))))))
def p378:Pt:=(.o (.o (.z (.o (.o (.o (.o (.z .e))))))))
def p379:Pt:=(.z (.z (.o (.o (.o (.o (.o (.z .e))))))))
def p380:Pt:=(.o (.z (.o (.o (.o (.o (.o (.z .e))))))))
def p381:Pt:=(.z (.o (.o (.o (.o (.o (.o (.z .e))))))))
def p382:Pt:=(.o (.o (.o (.o (.o (.o (.o (.z .e))))))))
def p383:Pt:=(.z (.z (.z (.z (.z (.z (.z (.o .e))))))))
def p384:Pt:=(.o (.z (.z (.z (.z (.z (.z (.o .e))))))))
def p385:Pt:=(.z (.o (.z (.z (.z (.z (.z (.o .e))))))))
def p386:Pt:=(.o (.o (.z (.z (.z (.z (.z (.o .e))))))))
def p387:Pt:=(.z (.z (.o (.z (.z (.z (.z (.o .e))))))))
def p388:Pt:=(.o (.z (.o (.z (.z (.z (.z (.o .e))))))))
def p389:Pt:=(.z (.o (.o (.z (.z (.z (.z (.o .e))))))))
def p390:Pt:=(.o (.o (.o (.z (.z (.z (.z (.o .e))))))))
def p391:Pt:=(.z (.z (.z (.o (.z (.z (.z (.o .e))))))))
def p392:Pt:=(.o (.z (.z (.o (.z (.z (.z (.o .e))))))))
def p393:Pt:=(.z (.o (.z (.o (.z (.z (.z (.o .e))))))))
def p394:Pt:=(.o (.o (.z (.o (.z (.z (.z (.o .e))))))))
def p395:Pt:=(.z (.z (.o (.o (.z (.z (.z (.o .e))))))))
def p396:Pt:=(.o (.z (.o (.o (.z (.z (.z (.o .e))))))))
def p397:Pt:=(.z (.o (.o (.o (.z (.z (.z (.o .e))))))))
def p398:Pt:=(.o (.o (.o (.o (.z (.z (.z (.o .e))))))))
def p399:Pt:=(.z (.z (.z (.z (.o (.z (.z (.o .e))))))))
def p400:Pt:=(.o (.z (.z (.z (.o (.z (.z (.o .e))))))))
def p401:Pt:=(.z (.o (.z (.z (.o (.z (.z (.o .e))))))))
def p402:Pt:=(.o (.o (.z (.z (.o (.z (.z (.o .e))))))))
def p403:Pt:=(.z (.z (.o (.z (.o (.z (.z (.o .e))))))))
def p404:Pt:=(.o (.z (.o (.z (.o (.z (.z (.o .e))))))))
def p405:Pt:=(.z (.o (.o (.z (.o (.z (.z (.o .e))))))))
def p406:Pt:=(.o (.o (.o (.z (.o (.z (.z (.o .e))))))))
def p407:Pt:=(.z (.z (.z (.o (.o (.z (.z (.o .e))))))))
def p408:Pt:=(.o (.z (.z (.o (.o (.z (.z (.o .e))))))))
def p409:Pt:=(.z (.o (.z (.o (.o (.z (.z (.o .e))))))))
def p410:Pt:=(.o (.o (.z (.o (.o (.z (.z (.o .e))))))))
def p411:Pt:=(.z (.z (.o (.o (.o (.z (.z (.o .e))))))))
def p412:Pt:=(.o (.z (.o (.o (.o (.z (.z (.o .e))))))))
def p413:Pt:=(.z (.o (.o (.o (.o (.z (.z (.o .e))))))))
def p414:Pt:=(.o (.o (.o (.o (.o (.z (.z (.o .e))))))))
def p415:Pt:=(.z (.z (.z (.z (.z (.o (.z (.o .e))))))))
def p416:Pt:=(.o (.z (.z (.z (.z (.o (.z (.o .e))))))))
def p417:Pt:=(.z (.o (.z (.z (.z (.o (.z (.o .e))))))))
def p418:Pt:=(.o (.o (.z (.z (.z (.o (.z (.o .e))))))))
def p419:Pt:=(.z (.z (.o (.z (.z (.o (.z (.o .e))))))))
theorem mixed:Tryz.prog.follows .mixedOrders=true:=by kernel_rfl
def afG3 (o:Ops):AF:=⟨(dSeq (dOps (vC s6 (.bool false)
dE))
(dSeq (dOps (dC (some s21) p6 []
(vM s7 s21
dE)))
(dSeq (dOps (dC (some s23) p8 []
(dV s24 (oBuildS 33 1 [(.int .i64 (.ofNat 0)),(.str []),(.int .i64 (.ofNat 0)),(.int .i64 (.ofNat 0)),(.int .i64 (.ofNat 0)),(.bool false),(.str []),.nils,.nils,(.int .i64 (.ofNat 0)),(.int .i64 (.ofNat 0)),(.bool false),(.str []),.nils,.nils,(.int .i64 (.ofNat 0)),.nils] [(0,17,(.t s23))])
(dC (some s25) p7 [(.t s24)]
(vM s22 s25
(dV s26 (o.ext (.t s22) 0)
(dV s27 (o.ext (.t s22) 1)
(dV s28 (o.ext (.t s22) 2)
(vM s8 s26
(vM s9 s27
(vM s10 s28
dE)))))))))))
(dSeq (dSeq (dOps (vM s29 s7
(dV s30 (o.not (.t s29))
(vM s31 s30
(o.g s31 false (some s32) (vM s32 s10)
(o.g s31 false (some s33) (dV s33 (o.not (.t s32)))
(dV s34 (o.pick (.t s31) (.c (.bool true)) (.t s33))
(vM s35 s34
(o.g s35 false (some s36) (vM s36 s0)
(o.g s35 false (some s37) (dV s37 (o.lss (.t s36) (.c (.int .i64 (.ofNat 0)))))
(dV s38 (o.pick (.t s35) (.c (.bool true)) (.t s37))
(vM s39 s38
(o.g s39 false (some s40) (vM s40 s0)
(o.g s39 false (some s41) (dV s41 (o.gtr (.t s40) (.c (.int .i64 (.ofNat 20)))))
(dV s42 (o.pick (.t s39) (.c (.bool true)) (.t s41))
(vM s43 s42
(o.g s43 false (some s44) (vM s44 s1)
(o.g s43 false (some s45) (dV s45 (o.lss (.t s44) (.c (.int .i64 (.ofNat 0)))))
(dV s46 (o.pick (.t s43) (.c (.bool true)) (.t s45))
(vM s47 s46
(o.g s47 false (some s48) (vM s48 s1)
(o.g s47 false (some s49) (dV s49 (o.gtr (.t s48) (.c (.int .i64 (.ofNat 25)))))
(dV s50 (o.pick (.t s47) (.c (.bool true)) (.t s49))
dE)))))))))))))))))))))))
(o.cond (.t s50) (dSeq (dOps (vM s51 s7
(vM s6 s51
dE)))
dRet) dSkip))
(dSeq (dOps (dC (some s52) p9 [(.c (.str [78,97,116])),(.c .nils)]
(dV s11 (oNew [(.int .i64 (.ofNat 0)),(.int .i64 (.ofNat 0)),(.bool false),(.str []),.nils,.nils] 30)
(dU (oSt 6 (.t s11) (.t s52))
dE))))
(dSeq (dOps (dV s53 (o.ldN 6 (.t s11))
(dV s12 (oNew [(.int .i64 (.ofNat 0)),(.int .i64 (.ofNat 0)),(.bool false),(.str []),.nils,.nils] 30)
(dU (oSt 6 (.t s12) (.t s53))
dE))))
(dSeq (dSeq (dOps (vC s13 (.int .i64 (.ofNat 0))
dE))
(dBlock 0 (dLoop (dSeq (dSeq (dOps (vM s54 s13
(vM s55 s0
(dV s56 (o.lss (.t s54) (.t s55))
dE))))
(o.cond (.t s56) dSkip (dExit 0)))
(dSeq (dBlock 1 (dOps (dV s59 (o.ldN 6 (.t s11))
(dV s60 (o.ldN 6 (.t s12))
(dC (some s61) p10 [(.t s59),(.t s60)]
(dU (oSt 6 (.t s12) (.t s61))
dE))))))
(dOps (vM s57 s13
(dV s58 (o.add (.t s57) (.c (.int .i64 (.ofNat 1))))
(vM s13 s58
dE)))))))))
(dSeq (dOps (dC (some s62) p11 [(.c (.int .i64 (.ofNat 0)))]
(dV s14 (oNew [(.int .i64 (.ofNat 0)),(.int .i64 (.ofNat 0)),(.bool false),(.str []),.nils,.nils] 30)
(dU (oSt 6 (.t s14) (.t s62))
dE))))
(dSeq (dSeq (dOps (vC s15 (.int .i64 (.ofNat 0))
dE))
(dBlock 2 (dLoop (dSeq (dSeq (dOps (vM s63 s15
(vM s64 s1
(dV s65 (o.lss (.t s63) (.t s64))
dE))))
(o.cond (.t s65) dSkip (dExit 2)))
(dSeq (dBlock 3 (dSeq (dOps (vM s68 s15
(dC (some s69) p12 [(.t s68)]
(dV s16 (oNew [(.int .i64 (.ofNat 0)),(.int .i64 (.ofNat 0)),(.bool false),(.str []),.nils,.nils] 30)
(dU (oSt 6 (.t s16) (.t s69))
dE)))))
(dSeq (dSeq (dOps (vM s70 s2
(vM s71 s70
(o.g s71 true (some s72) (vM s72 s15)
(o.g s71 true (some s73) (dV s73 (o.add (.t s72) (.c (.int .i64 (.ofNat 1)))))
(o.g s71 true (some s74) (vM s74 s1)
(o.g s71 true (some s75) (dV s75 (o.eql (.t s73) (.t s74)))
(dV s76 (o.pick (.t s71) (.t s75) (.c (.bool false)))
dE))))))))
(o.cond (.t s76) (dOps (dV s77 (o.ldN 6 (.t s11))
(dU (oSt 6 (.t s16) (.t s77))
dE))) dSkip))
(dOps (dV s78 (o.ldN 6 (.t s14))
(dV s79 (o.ldN 6 (.t s16))
(dC (some s80) p13 [(.t s78),(.t s79)]
(dU (oSt 6 (.t s14) (.t s80))
dE))))))))
(dOps (vM s66 s15
(dV s67 (o.add (.t s66) (.c (.int .i64 (.ofNat 1))))
(vM s15 s67
dE)))))))))
(dSeq (dOps (vM s82 s8
(dV s83 (o.ldN 6 (.t s12))
(dV s84 (oBuildS 30 1 [(.int .i64 (.ofNat 0)),(.int .i64 (.ofNat 0)),(.bool false),(.str []),.nils,.nils] [(0,6,(.t s83))])
(dV s85 (o.ldN 6 (.t s14))
(dC (some s86) p14 [(.t s82),(.c (.int .i64 (.ofNat 0))),(.t s84),(.t s85),(.c (.int .i64 (.ofNat 10000)))]
(vM s81 s86
(dV s87 (o.ext (.t s81) 0)
(dV s88 (o.ext (.t s81) 1)
(dV s17 (oNew [(.int .i64 (.ofNat 0)),(.int .i64 (.ofNat 0)),(.bool false),(.str []),.nils,.nils] 30)
(dU (oSt 6 (.t s17) (.t s87))
(vM s18 s88
dE))))))))))))
(dSeq (dSeq (dOps (vM s89 s1
(vM s90 s0
(dV s91 (o.gtr (.t s89) (.t s90))
dE))))
(o.cond (.t s91) (dSeq (dOps (vM s92 s18
(dC (some s93) p15 [(.t s92)]
(dV s94 (o.eql (.t s93) (.c (.int .i64 (.ofNat 14))))
(vM s6 s94
dE)))))
dRet) dSkip))
(dSeq (dSeq (dOps (vM s95 s2
(vM s96 s95
(o.g s96 true (some s97) (vM s97 s1)
(o.g s96 true (some s98) (dV s98 (o.gtr (.t s97) (.c (.int .i64 (.ofNat 0)))))
(dV s99 (o.pick (.t s96) (.t s98) (.c (.bool false)))
dE))))))
(o.cond (.t s99) (dSeq (dOps (vM s100 s18
(dC (some s101) p15 [(.t s100)]
(dV s102 (o.eql (.t s101) (.c (.int .i64 (.ofNat 17))))
(vM s6 s102
dE)))))
dRet) dSkip))
(dSeq (dOps (dV s103 (o.ldN 6 (.t s11))
(dV s19 (oNew [(.int .i64 (.ofNat 0)),(.int .i64 (.ofNat 0)),(.bool false),(.str []),.nils,.nils] 30)
(dU (oSt 6 (.t s19) (.t s103))
dE))))
(dSeq (dSeq (dOps (vM s104 s1
(vM s20 s104
dE)))
(dBlock 4 (dLoop (dSeq (dSeq (dOps (vM s105 s20
(vM s106 s0
(dV s107 (o.lss (.t s105) (.t s106))
dE))))
(o.cond (.t s107) dSkip (dExit 4)))
(dSeq (dBlock 5 (dOps (dV s110 (o.ldN 6 (.t s11))
(dV s111 (o.ldN 6 (.t s19))
(dC (some s112) p10 [(.t s110),(.t s111)]
(dU (oSt 6 (.t s19) (.t s112))
dE))))))
(dOps (vM s108 s20
(dV s109 (o.add (.t s108) (.c (.int .i64 (.ofNat 1))))
(vM s20 s109
dE)))))))))
(dSeq (dOps (vM s113 s18
(dC (some s114) p15 [(.t s113)]
(dV s115 (o.eql (.t s114) (.c (.int .i64 (.ofNat 0))))
(vM s116 s115
(o.g s116 true (some s117) (dV s117 (o.ldN 6 (.t s17)))
(o.g s116 true (some s118) (dV s118 (o.ldN 6 (.t s19)))
(o.g s116 true (some s119) (dC (some s119) p16 [(.t s117),(.t s118)])
(dV s120 (o.pick (.t s116) (.t s119) (.c (.bool false)))
(vM s6 s120
dE))))))))))
dRet))))))))))))))),[(.t s6)]⟩
def af3:AF:=afG3 fastO
def afG4 (o:Ops):AF:=⟨(dSeq (dOps (vC s4 (.bool false)
dE))
(dSeq (dOps (dC (some s10) p6 []
(vM s5 s10
dE)))
(dSeq (dSeq (dOps (vM s11 s5
(dV s12 (o.not (.t s11))
(vM s13 s12
(o.g s13 false (some s14) (vM s14 s0)
(o.g s13 false (some s15) (dV s15 (o.lss (.t s14) (.c (.int .i64 (.ofNat 1)))))
(dV s16 (o.pick (.t s13) (.c (.bool true)) (.t s15))
(vM s17 s16
(o.g s17 false (some s18) (vM s18 s0)
(o.g s17 false (some s19) (dV s19 (o.gtr (.t s18) (.c (.int .i64 (.ofNat 30)))))
(dV s20 (o.pick (.t s17) (.c (.bool true)) (.t s19))
(vM s21 s20
(o.g s21 false (some s22) (vM s22 s1)
(o.g s21 false (some s23) (dV s23 (o.lss (.t s22) (.c (.int .i64 (.ofNat 0)))))
(dV s24 (o.pick (.t s21) (.c (.bool true)) (.t s23))
(vM s25 s24
(o.g s25 false (some s26) (vM s26 s1)
(o.g s25 false (some s27) (dV s27 (o.gtr (.t s26) (.c (.int .i64 (.ofNat 40)))))
(dV s28 (o.pick (.t s25) (.c (.bool true)) (.t s27))
dE)))))))))))))))))))
(o.cond (.t s28) (dSeq (dOps (vM s29 s5
(vM s4 s29
dE)))
dRet) dSkip))
(dSeq (dOps (dC (some s30) p17 [(.c (.int .i64 (.ofNat 0)))]
(dV s31 (oBuildS 30 1 [(.int .i64 (.ofNat 0)),(.int .i64 (.ofNat 0)),(.bool false),(.str []),.nils,.nils] [(0,6,(.t s30))])
(vM s6 s31
dE))))
(dSeq (dSeq (dOps (vC s7 (.int .i64 (.ofNat 1))
dE))
(dBlock 0 (dLoop (dSeq (dSeq (dOps (vM s32 s7
(vM s33 s0
(dV s34 (o.lss (.t s32) (.t s33))
dE))))
(o.cond (.t s34) dSkip (dExit 0)))
(dSeq (dBlock 1 (dOps (vM s37 s6
(vM s38 s7
(dV s39 (o.sub (.t s38) (.c (.int .i64 (.ofNat 1))))
(dC (some s40) p11 [(.t s39)]
(dV s41 (oBuildS 30 1 [(.int .i64 (.ofNat 0)),(.int .i64 (.ofNat 0)),(.bool false),(.str []),.nils,.nils] [(0,6,(.t s40))])
(dV s42 (oApp 30 6 (.t s37) (.t s41))
(vM s6 s42
dE)))))))))
(dOps (vM s35 s7
(dV s36 (o.add (.t s35) (.c (.int .i64 (.ofNat 1))))
(vM s7 s36
dE)))))))))
(dSeq (dOps (vM s44 s6
(vM s45 s1
(dC (some s46) p11 [(.t s45)]
(dC (some s47) p14 [(.c .nilp),(.c (.int .i64 (.ofNat 0))),(.t s44),(.t s46),(.c (.int .i64 (.ofNat 100)))]
(vM s43 s47
(dV s48 (o.ext (.t s43) 0)
(dV s49 (o.ext (.t s43) 1)
(dV s8 (oNew [(.int .i64 (.ofNat 0)),(.int .i64 (.ofNat 0)),(.bool false),(.str []),.nils,.nils] 30)
(dU (oSt 6 (.t s8) (.t s48))
(vM s9 s49
dE)))))))))))
(dSeq (dSeq (dOps (vM s50 s1
(vM s51 s0
(dV s52 (o.geq (.t s50) (.t s51))
dE))))
(o.cond (.t s52) (dSeq (dOps (vM s53 s9
(dC (some s54) p15 [(.t s53)]
(dV s55 (o.eql (.t s54) (.c (.int .i64 (.ofNat 11))))
(vM s56 s55
(o.g s56 true (some s57) (dV s57 (o.fa 0 (.t s8)))
(o.g s56 true (some s58) (dV s58 (o.ld1 (.t s57)))
(o.g s56 true (some s59) (dV s59 (o.eql (.t s58) (.c (.int .i64 (.ofNat 0)))))
(dV s60 (o.pick (.t s56) (.t s59) (.c (.bool false)))
(vM s4 s60
dE))))))))))
dRet) dSkip))
(dSeq (dSeq (dOps (vM s61 s1
(vM s62 s0
(dV s63 (o.sub (.t s62) (.c (.int .i64 (.ofNat 1))))
(dV s64 (o.eql (.t s61) (.t s63))
dE)))))
(o.cond (.t s64) (dSeq (dDraw (lM s65 s9
(lE [] [] (some s66) (actC p15 [(.t s65)])
(lN s67 (o.eql (.t s66) (.c (.int .i64 (.ofNat 0))))
(lM s68 s67
(lG s68 true s69 (o.ldN 6 (.t s8))
(lE [] [(s69,(gV ⟨(some s69),(.v (.ldN 6 (.t s8))),(some (s68,true))⟩))] (some s70) (eK ⟨(some s70),(.call p17 [(.c (.int .i64 (.ofNat 0)))]),(some (s68,true))⟩)
(lE [] [] (some s71) (eK ⟨(some s71),(.call p16 [(.t s69),(.t s70)]),(some (s68,true))⟩)
(lN s72 (o.pick (.t s68) (.t s71) (.c (.bool false)))
(lM s4 s72
sEnd))))))))))
dRet) dSkip))
(dSeq (dDraw (lM s73 s9
(lE [] [] (some s74) (actC p15 [(.t s73)])
(lN s75 (o.eql (.t s74) (.c (.int .i64 (.ofNat 0))))
(lM s76 s75
(lG s76 true s77 (o.ldN 6 (.t s8))
(lG s76 true s78 (oMv (.t s0))
(lG s76 true s79 (o.sub (.t s78) (.c (.int .i64 (.ofNat 1))))
(lE [] [(s77,(gV ⟨(some s77),(.v (.ldN 6 (.t s8))),(some (s76,true))⟩))] (some s80) (eK ⟨(some s80),(.call p11 [(.t s79)]),(some (s76,true))⟩)
(lE [] [] (some s81) (eK ⟨(some s81),(.call p16 [(.t s77),(.t s80)]),(some (s76,true))⟩)
(lN s82 (o.pick (.t s76) (.t s81) (.c (.bool false)))
(lM s4 s82
sEnd))))))))))))
dRet))))))))),[(.t s4)]⟩
def af4:AF:=afG4 fastO
def afG5 (o:Ops):AF:=⟨(dSeq (dOps (vC s4 (.bool false)
dE))
(dSeq (dOps (dC (some s19) p6 []
(vM s5 s19
dE)))
(dSeq (dSeq (dOps (vM s20 s5
(dV s21 (o.not (.t s20))
(vM s22 s21
(o.g s22 false (some s23) (vM s23 s0)
(o.g s22 false (some s24) (dV s24 (o.lss (.t s23) (.c (.int .i64 (.ofNat 0)))))
(dV s25 (o.pick (.t s22) (.c (.bool true)) (.t s24))
(vM s26 s25
(o.g s26 false (some s27) (vM s27 s0)
(o.g s26 false (some s28) (dV s28 (o.gtr (.t s27) (.c (.int .i64 (.ofNat 100)))))
(dV s29 (o.pick (.t s26) (.c (.bool true)) (.t s28))
dE)))))))))))
(o.cond (.t s29) (dSeq (dOps (vM s30 s5
(vM s4 s30
dE)))
dRet) dSkip))
(dSeq (dOps (dV s31 (oBuild [(.int .i64 (.ofNat 0)),(.int .i64 (.ofNat 0))] [(0,1,(.c (.int .i64 (.ofNat 0))))])
(dV s32 (oBuildS 47 1 [(.int .i64 (.ofNat 0)),(.int .i64 (.ofNat 0))] [(0,2,(.t s31))])
(dV s33 (oBuild [(.int .i64 (.ofNat 0)),.nils] [(1,1,(.t s32))])
(dV s6 (oNew [(.int .i64 (.ofNat 0)),.nils] 50)
(dU (oSt 2 (.t s6) (.t s33))
dE))))))
(dSeq (dOps (dV s34 (o.ldN 2 (.t s6))
(dV s35 (oBuildS 50 1 [(.int .i64 (.ofNat 0)),.nils] [(0,2,(.t s34))])
(dV s36 (oBuild [(.int .i64 (.ofNat 0)),(.int .i64 (.ofNat 0)),(.bool false),(.str []),.nils,.nils] [(0,1,(.c (.int .i64 (.ofNat 2)))),(4,1,(.t s35))])
(dV s7 (oNew [(.int .i64 (.ofNat 0)),(.int .i64 (.ofNat 0)),(.bool false),(.str []),.nils,.nils] 30)
(dU (oSt 6 (.t s7) (.t s36))
dE))))))
(dSeq (dDraw (lN s37 (o.ldN 6 (.t s7))
(lA 5 s8 (aNew [(.int .i64 (.ofNat 0)),(.int .i64 (.ofNat 0)),(.bool false),(.str []),.nils,.nils] 30)
(lE [] [(s37,(o.ldN 6 (.t s7)))] (some s38) (actC p11 [(.c (.int .i64 (.ofNat 0)))])
(lE [] [(s37,(o.ldN 6 (.t s7)))] (some s39) (actC p11 [(.c (.int .i64 (.ofNat 1)))])
(lE [] [(s37,(o.ldN 6 (.t s7)))] (some s40) (actC p10 [(.t s38),(.t s39)])
(lE [] [] (some s41) (actC p10 [(.t s37),(.t s40)])
(lE [5] [] none (actV (oSt 6 (.t s8) (.t s41)))
sEnd))))))))
(dSeq (dDraw (lN s42 (o.ldN 6 (.t s8))
(lN s43 (o.ldN 6 (.t s7))
(lA 7 s9 (aNew [(.int .i64 (.ofNat 0)),(.str []),(.int .i64 (.ofNat 0)),(.int .i64 (.ofNat 0)),(.int .i64 (.ofNat 0)),(.bool false),(.str []),.nils,.nils,(.int .i64 (.ofNat 0)),(.int .i64 (.ofNat 0)),(.bool false),(.str []),.nils,.nils,(.int .i64 (.ofNat 0)),.nils] 33)
(lE [] [(s42,(o.ldN 6 (.t s8))),(s43,(o.ldN 6 (.t s7)))] (some s44) (actC p11 [(.c (.int .i64 (.ofNat 0)))])
(lE [] [(s42,(o.ldN 6 (.t s8))),(s43,(o.ldN 6 (.t s7)))] (some s45) (actC p11 [(.c (.int .i64 (.ofNat 0)))])
(lE [] [(s42,(o.ldN 6 (.t s8))),(s43,(o.ldN 6 (.t s7)))] (some s46) (actC p18 [(.t s44),(.t s45)])
(lE [] [(s42,(o.ldN 6 (.t s8)))] (some s47) (actC p18 [(.t s43),(.t s46)])
(lN s48 (oBuild [(.int .i64 (.ofNat 0)),(.str []),(.int .i64 (.ofNat 0)),(.int .i64 (.ofNat 0)),(.int .i64 (.ofNat 0)),(.bool false),(.str []),.nils,.nils,(.int .i64 (.ofNat 0)),(.int .i64 (.ofNat 0)),(.bool false),(.str []),.nils,.nils,(.int .i64 (.ofNat 0)),.nils] [(0,1,(.c (.int .i64 (.ofNat 2)))),(1,1,(.c (.str [105,100]))),(2,1,(.c (.int .i64 (.ofNat 1)))),(3,6,(.t s42)),(9,6,(.t s47))])
(lE [7] [] none (actV (oSt 17 (.t s9) (.t s48)))
sEnd))))))))))
(dSeq (dOps (dV s50 (o.ldN 17 (.t s9))
(dV s51 (oBuildS 33 1 [(.int .i64 (.ofNat 0)),(.str []),(.int .i64 (.ofNat 0)),(.int .i64 (.ofNat 0)),(.int .i64 (.ofNat 0)),(.bool false),(.str []),.nils,.nils,(.int .i64 (.ofNat 0)),(.int .i64 (.ofNat 0)),(.bool false),(.str []),.nils,.nils,(.int .i64 (.ofNat 0)),.nils] [(0,17,(.t s50))])
(dC (some s52) p7 [(.t s51)]
(vM s49 s52
(dV s53 (o.ext (.t s49) 0)
(dV s54 (o.ext (.t s49) 1)
(dV s55 (o.ext (.t s49) 2)
(vM s10 s53
(vM s11 s54
(vM s12 s55
dE)))))))))))
(dSeq (dOps (vM s56 s0
(vM s13 s56
dE)))
(dSeq (dSeq (dOps (vM s57 s1
dE))
(o.cond (.t s57) (dOps (vM s58 s0
(dV s59 (o.add (.t s58) (.c (.int .i64 (.ofNat 1))))
(vM s13 s59
dE)))) dSkip))
(dSeq (dOps (vM s60 s0
(dV s61 (oBuild [(.int .i64 (.ofNat 0)),.nils] [(0,1,(.t s60))])
(dV s62 (oBuildS 50 1 [(.int .i64 (.ofNat 0)),.nils] [(0,2,(.t s61))])
(dC (some s63) p9 [(.c (.str [105,100])),(.t s62)]
(dV s14 (oNew [(.int .i64 (.ofNat 0)),(.int .i64 (.ofNat 0)),(.bool false),(.str []),.nils,.nils] 30)
(dU (oSt 6 (.t s14) (.t s63))
dE)))))))
(dSeq (dOps (vM s64 s0
(dC (some s65) p17 [(.t s64)]
(dC (some s66) p11 [(.c (.int .i64 (.ofNat 0)))]
(dC (some s67) p11 [(.c (.int .i64 (.ofNat 1)))]
(dC (some s68) p10 [(.t s66),(.t s67)]
(dC (some s69) p10 [(.t s65),(.t s68)]
(dV s15 (oNew [(.int .i64 (.ofNat 0)),(.int .i64 (.ofNat 0)),(.bool false),(.str []),.nils,.nils] 30)
(dU (oSt 6 (.t s15) (.t s69))
dE)))))))))
(dSeq (dDraw (lM s70 s13
(lN s71 (oBuild [(.int .i64 (.ofNat 0)),.nils] [(0,1,(.t s70))])
(lA 2 s72 (floatK (.buildS 50 1 [(.int .i64 (.ofNat 0)),.nils] [(0,2,(.t s71))]))
(lN s74 (o.ldN 6 (.t s15))
(lN s75 (o.ldN 6 (.t s14))
(lA 6 s76 (floatK (.buildS 30 2 [(.int .i64 (.ofNat 0)),(.int .i64 (.ofNat 0)),(.bool false),(.str []),.nils,.nils,(.int .i64 (.ofNat 0)),(.int .i64 (.ofNat 0)),(.bool false),(.str []),.nils,.nils] [(0,6,(.t s74)),(6,6,(.t s75))]))
(lA 8 s16 (aNew [(.int .i64 (.ofNat 0)),(.int .i64 (.ofNat 0)),(.bool false),(.str []),.nils,.nils] 30)
(lE [2] [(s74,(o.ldN 6 (.t s15))),(s75,(o.ldN 6 (.t s14)))] (some s73) (actC p9 [(.c (.str [105,100])),(.t s72)])
(lE [2,6] [] (some s77) (actC p19 [(.t s73),(.t s76),(.c .nils)])
(lE [2,6,8] [] none (actV (oSt 6 (.t s16) (.t s77)))
sEnd)))))))))))
(dSeq (dOps (vM s79 s10
(dV s80 (o.ldN 6 (.t s16))
(dC (some s81) p14 [(.t s79),(.c (.int .i64 (.ofNat 0))),(.c .nils),(.t s80),(.c (.int .i64 (.ofNat 10000)))]
(vM s78 s81
(dV s82 (o.ext (.t s78) 0)
(dV s83 (o.ext (.t s78) 1)
(dV s17 (oNew [(.int .i64 (.ofNat 0)),(.int .i64 (.ofNat 0)),(.bool false),(.str []),.nils,.nils] 30)
(dU (oSt 6 (.t s17) (.t s82))
(vM s18 s83
dE))))))))))
(dSeq (dSeq (dOps (vM s84 s1
(dV s85 (o.not (.t s84))
dE)))
(o.cond (.t s85) (dSeq (dOps (vM s86 s12
(vM s87 s86
(o.g s87 true (some s88) (vM s88 s18)
(o.g s87 true (some s89) (dC (some s89) p15 [(.t s88)])
(o.g s87 true (some s90) (dV s90 (o.eql (.t s89) (.c (.int .i64 (.ofNat 17)))))
(dV s91 (o.pick (.t s87) (.t s90) (.c (.bool false)))
(vM s4 s91
dE))))))))
dRet) dSkip))
(dSeq (dOps (vM s92 s12
(vM s93 s92
(o.g s93 true (some s94) (vM s94 s18)
(o.g s93 true (some s95) (dC (some s95) p15 [(.t s94)])
(o.g s93 true (some s96) (dV s96 (o.eql (.t s95) (.c (.int .i64 (.ofNat 0)))))
(dV s97 (o.pick (.t s93) (.t s96) (.c (.bool false)))
(vM s98 s97
(o.g s98 true (some s99) (dV s99 (o.ldN 6 (.t s17)))
(o.g s98 true (some s100) (dV s100 (o.ldN 6 (.t s15)))
(o.g s98 true (some s101) (dC (some s101) p16 [(.t s99),(.t s100)])
(dV s102 (o.pick (.t s98) (.t s101) (.c (.bool false)))
(vM s4 s102
dE)))))))))))))
dRet)))))))))))))))),[(.t s4)]⟩
def af5:AF:=afG5 fastO
def afG6 (o:Ops):AF:=⟨(dSeq (dOps (vC s0 (.bool false)
dE))
(dSeq (dOps (dC (some s10) p8 []
(dV s11 (oBuildS 33 1 [(.int .i64 (.ofNat 0)),(.str []),(.int .i64 (.ofNat 0)),(.int .i64 (.ofNat 0)),(.int .i64 (.ofNat 0)),(.bool false),(.str []),.nils,.nils,(.int .i64 (.ofNat 0)),(.int .i64 (.ofNat 0)),(.bool false),(.str []),.nils,.nils,(.int .i64 (.ofNat 0)),.nils] [(0,17,(.t s10))])
(dC (some s12) p7 [(.t s11)]
(vM s9 s12
(dV s13 (o.ext (.t s9) 0)
(dV s14 (o.ext (.t s9) 1)
(dV s15 (o.ext (.t s9) 2)
(vM s1 s13
(vM s2 s14
(vM s3 s15
dE)))))))))))
(dSeq (dSeq (dOps (vM s16 s3
(dV s17 (o.not (.t s16))
dE)))
(o.cond (.t s17) (dSeq (dOps (vC s0 (.bool false)
dE))
dRet) dSkip))
(dSeq (dOps (dC (some s18) p17 [(.c (.int .i64 (.ofNat 0)))]
(dC (some s19) p11 [(.c (.int .i64 (.ofNat 0)))]
(dC (some s20) p11 [(.c (.int .i64 (.ofNat 0)))]
(dC (some s21) p18 [(.t s19),(.t s20)]
(dC (some s22) p18 [(.t s18),(.t s21)]
(dV s4 (oNew [(.int .i64 (.ofNat 0)),(.int .i64 (.ofNat 0)),(.bool false),(.str []),.nils,.nils] 30)
(dU (oSt 6 (.t s4) (.t s22))
dE))))))))
(dSeq (dOps (vM s24 s1
(dV s25 (o.ldN 6 (.t s4))
(dC (some s26) p14 [(.t s24),(.c (.int .i64 (.ofNat 0))),(.c .nils),(.t s25),(.c (.int .i64 (.ofNat 1000)))]
(vM s23 s26
(dV s27 (o.ext (.t s23) 0)
(dV s28 (o.ext (.t s23) 1)
(dV s5 (oNew [(.int .i64 (.ofNat 0)),(.int .i64 (.ofNat 0)),(.bool false),(.str []),.nils,.nils] 30)
(dU (oSt 6 (.t s5) (.t s27))
(vM s6 s28
dE))))))))))
(dSeq (dOps (vM s30 s1
(dC (some s31) p12 [(.c (.int .i64 (.ofNat 0)))]
(dC (some s32) p12 [(.c (.int .i64 (.ofNat 0)))]
(dC (some s33) p13 [(.t s31),(.t s32)]
(dC (some s34) p14 [(.t s30),(.c (.int .i64 (.ofNat 0))),(.c .nils),(.t s33),(.c (.int .i64 (.ofNat 1000)))]
(vM s29 s34
(dV s35 (o.ext (.t s29) 0)
(dV s36 (o.ext (.t s29) 1)
(dV s7 (oNew [(.int .i64 (.ofNat 0)),(.int .i64 (.ofNat 0)),(.bool false),(.str []),.nils,.nils] 30)
(dU (oSt 6 (.t s7) (.t s35))
(vM s8 s36
dE))))))))))))
(dSeq (dOps (vM s37 s6
(dC (some s38) p15 [(.t s37)]
(dV s39 (o.eql (.t s38) (.c (.int .i64 (.ofNat 0))))
(vM s40 s39
(o.g s40 true (some s41) (dV s41 (o.ldN 6 (.t s5)))
(o.g s40 true (some s42) (dC (some s42) p20 [(.t s41)])
(o.g s40 true (some s43) (dV s43 (o.eql (.t s42) (.c (.str [40,120,48,32,58,32,83,101,116,32,48,41,32,45,62,32,40,120,49,32,58,32,120,48,41,32,45,62,32,120,48]))))
(dV s44 (o.pick (.t s40) (.t s43) (.c (.bool false)))
(vM s45 s44
(o.g s45 true (some s46) (vM s46 s8)
(o.g s45 true (some s47) (dC (some s47) p15 [(.t s46)])
(o.g s45 true (some s48) (dV s48 (o.eql (.t s47) (.c (.int .i64 (.ofNat 14)))))
(dV s49 (o.pick (.t s45) (.t s48) (.c (.bool false)))
(vM s0 s49
dE)))))))))))))))
dRet))))))),[(.t s0)]⟩
def af6:AF:=afG6 fastO
def afG7 (o:Ops):AF:=⟨(dSeq (dOps (vC s2 .nilp
(vC s3 .nilp
(vC s4 (.bool false)
dE))))
(dSeq (dOps (vM s11 s0
(dC (some s12) p21 [(.t s11)]
(vM s5 s12
dE))))
(dSeq (dOps (dC (some s13) p22 []
(vM s6 s13
dE)))
(dSeq (dOps (dV s14 (oBuild [.nils] [])
(dV s15 (oBox 57 (.t s14))
(vM s7 s15
dE))))
(dSeq (dSeq (dOps (vM s16 s5
(vM s17 s16
(o.g s17 false (some s18) (vM s18 s0)
(o.g s17 false (some s19) (dV s19 (o.len (.t s18)))
(o.g s17 false (some s20) (dV s20 (o.gtr (.t s19) (.c (.int .i64 (.ofNat 40)))))
(dV s21 (o.pick (.t s17) (.c (.bool true)) (.t s20))
(vM s22 s21
(o.g s22 false (some s23) (vM s23 s6)
(o.g s22 false (some s24) (dV s24 (o.eqp false (.t s23) (.c .nilp)))
(dV s25 (o.pick (.t s22) (.c (.bool true)) (.t s24))
dE)))))))))))
(o.cond (.t s25) (dSeq (dOps (vC s2 .nilp
(vC s3 .nilp
(vC s4 (.bool false)
dE))))
dRet) dSkip))
(dSeq (dSeq (dOps (vC s8 (.int .i64 (.ofNat 0))
dE))
(dBlock 0 (dLoop (dSeq (dSeq (dOps (vM s26 s8
(vM s27 s0
(dV s28 (o.len (.t s27))
(dV s29 (o.lss (.t s26) (.t s28))
dE)))))
(o.cond (.t s29) dSkip (dExit 0)))
(dSeq (dBlock 1 (dSeq (dOps (vM s32 s6
(vM s33 s0
(vM s34 s8
(dV s35 (o.ia 17 (.t s33) (.t s34))
(dV s36 (o.ldN 17 (.t s35))
(dC (some s37) p23 [(.t s32),(.t s36)]
(vM s9 s37
dE))))))))
(dSeq (dOps (vM s38 s7
(vM s39 s0
(vM s40 s8
(dV s41 (o.ia 17 (.t s39) (.t s40))
(dV s42 (o.ldN 17 (.t s41))
(dC (some s43) p24 [(.t s38),(.t s42)]
(vM s10 s43
dE))))))))
(dSeq (dOps (vM s44 s9
(dC (some s45) p25 [(.t s44)]
(vM s46 s10
(dV s47 (o.neq (.t s45) (.t s46))
dE)))))
(o.cond (.t s47) (dSeq (dOps (vC s2 .nilp
(vC s3 .nilp
(vC s4 (.bool false)
dE))))
dRet) dSkip)))))
(dOps (vM s30 s8
(dV s31 (o.add (.t s30) (.c (.int .i64 (.ofNat 1))))
(vM s8 s31
dE)))))))))
(dSeq (dOps (vM s48 s6
(vM s49 s7
(vM s2 s48
(vM s3 s49
(vC s4 (.bool true)
dE))))))
dRet))))))),[(.t s2),(.t s3),(.t s4)]⟩
def af7:AF:=afG7 fastO
def afG8 (o:Ops):AF:=⟨(dSeq (dOps (dV s0 (oNew [(.int .i64 (.ofNat 0)),(.str []),(.int .i64 (.ofNat 0)),(.int .i64 (.ofNat 0)),(.int .i64 (.ofNat 0)),(.bool false),(.str []),.nils,.nils,(.int .i64 (.ofNat 0)),(.int .i64 (.ofNat 0)),(.bool false),(.str []),.nils,.nils,(.int .i64 (.ofNat 0)),.nils] 33)
dE))
(dSeq (dOps (dC (some s2) p9 [(.c (.str [78,97,116])),(.c .nils)]
(dV s1 (oNew [(.int .i64 (.ofNat 0)),(.int .i64 (.ofNat 0)),(.bool false),(.str []),.nils,.nils] 30)
(dU (oSt 6 (.t s1) (.t s2))
dE))))
(dSeq (dDraw (lN s3 (oBuild [(.int .i64 (.ofNat 0)),.nils] [])
(lA 1 s4 (floatK (.buildS 50 1 [(.int .i64 (.ofNat 0)),.nils] [(0,2,(.t s3))]))
(lN s5 (oBuild [(.int .i64 (.ofNat 0)),(.int .i64 (.ofNat 0)),(.bool false),(.str []),.nils,.nils] [(0,1,(.c (.int .i64 (.ofNat 2)))),(4,1,(.t s4))])
(lN s6 (o.ldN 6 (.t s1))
(lN s7 (oBuild [(.str []),(.int .i64 (.ofNat 0)),(.int .i64 (.ofNat 0)),(.bool false),(.str []),.nils,.nils] [(0,1,(.c (.str [122,101,114,111]))),(1,6,(.t s6))])
(lN s8 (o.ldN 6 (.t s1))
(lA 6 s9 (floatK (.buildS 30 1 [(.int .i64 (.ofNat 0)),(.int .i64 (.ofNat 0)),(.bool false),(.str []),.nils,.nils] [(0,6,(.t s8))]))
(lN s10 (o.ldN 6 (.t s1))
(lE [6] [(s6,(o.ldN 6 (.t s1)))] (some s11) (actC p26 [(.c (.int .i64 (.ofNat 3))),(.t s9),(.c .nils),(.t s10)])
(lN s12 (oBuild [(.str []),(.int .i64 (.ofNat 0)),(.int .i64 (.ofNat 0)),(.bool false),(.str []),.nils,.nils] [(0,1,(.c (.str [115,117,99]))),(1,6,(.t s11))])
(lA 10 s13 (floatK (.buildS 61 2 [(.str []),(.int .i64 (.ofNat 0)),(.int .i64 (.ofNat 0)),(.bool false),(.str []),.nils,.nils,(.str []),(.int .i64 (.ofNat 0)),(.int .i64 (.ofNat 0)),(.bool false),(.str []),.nils,.nils] [(0,7,(.t s7)),(7,7,(.t s12))]))
(lN s14 (oBuild [(.int .i64 (.ofNat 0)),(.str []),(.int .i64 (.ofNat 0)),(.int .i64 (.ofNat 0)),(.int .i64 (.ofNat 0)),(.bool false),(.str []),.nils,.nils,(.int .i64 (.ofNat 0)),(.int .i64 (.ofNat 0)),(.bool false),(.str []),.nils,.nils,(.int .i64 (.ofNat 0)),.nils] [(0,1,(.c (.int .i64 (.ofNat 3)))),(1,1,(.c (.str [78,97,116]))),(3,6,(.t s5)),(16,1,(.t s13))])
(lE [1,6,10] [] none (actV (oSt 17 (.t s0) (.t s14)))
sEnd))))))))))))))
dRet))),[(.cN s0 17)]⟩
def af8:AF:=afG8 fastO
def afG9 (o:Ops):AF:=⟨(dSeq (dOps (dV s4 (oNew [(.int .i64 (.ofNat 0)),(.int .i64 (.ofNat 0)),(.bool false),(.str []),.nils,.nils] 30)
dE))
(dSeq (dOps (vM s5 s0
(vM s6 s1
(dV s7 (oApp 50 2 (.c .nils) (.t s6))
(dV s8 (oBuild [(.int .i64 (.ofNat 0)),(.int .i64 (.ofNat 0)),(.bool false),(.str []),.nils,.nils] [(0,1,(.c (.int .i64 (.ofNat 10)))),(3,1,(.t s5)),(4,1,(.t s7))])
(dU (oSt 6 (.t s4) (.t s8))
dE))))))
dRet)),[(.cN s4 6)]⟩
def af9:AF:=afG9 fastO
def afG10 (o:Ops):AF:=⟨(dSeq (dOps (dV s2 (oBox 30 (.t s0))
(dV s3 (oBox 30 (.t s1))
(dV s4 (oNew [(.int .i64 (.ofNat 0)),(.int .i64 (.ofNat 0)),(.bool false),(.str []),.nils,.nils] 30)
dE))))
(dSeq (dOps (dV s5 (o.ldN 6 (.t s2))
(dV s6 (o.ldN 6 (.t s3))
(dV s7 (oBuildS 30 2 [(.int .i64 (.ofNat 0)),(.int .i64 (.ofNat 0)),(.bool false),(.str []),.nils,.nils,(.int .i64 (.ofNat 0)),(.int .i64 (.ofNat 0)),(.bool false),(.str []),.nils,.nils] [(0,6,(.t s5)),(6,6,(.t s6))])
(dV s8 (oBuild [(.int .i64 (.ofNat 0)),(.int .i64 (.ofNat 0)),(.bool false),(.str []),.nils,.nils] [(0,1,(.c (.int .i64 (.ofNat 3)))),(5,1,(.t s7))])
(dU (oSt 6 (.t s4) (.t s8))
dE))))))
dRet)),[(.cN s4 6)]⟩
def af10:AF:=afG10 fastO
def afG11 (o:Ops):AF:=⟨(dSeq (dOps (dV s2 (oNew [(.int .i64 (.ofNat 0)),(.int .i64 (.ofNat 0)),(.bool false),(.str []),.nils,.nils] 30)
dE))
(dSeq (dOps (vM s3 s0
(dV s4 (oBuild [(.int .i64 (.ofNat 0)),(.int .i64 (.ofNat 0)),(.bool false),(.str []),.nils,.nils] [(0,1,(.c (.int .i64 (.ofNat 1)))),(1,1,(.t s3))])
(dU (oSt 6 (.t s2) (.t s4))
dE))))
dRet)),[(.cN s2 6)]⟩
def af11:AF:=afG11 fastO
def afG12 (o:Ops):AF:=⟨(dSeq (dOps (dV s2 (oNew [(.int .i64 (.ofNat 0)),(.int .i64 (.ofNat 0)),(.bool false),(.str []),.nils,.nils] 30)
dE))
(dSeq (dOps (dC (some s5) p27 [(.c (.str [122,101,114,111]))]
(dV s3 (oNew [(.int .i64 (.ofNat 0)),(.int .i64 (.ofNat 0)),(.bool false),(.str []),.nils,.nils] 30)
(dU (oSt 6 (.t s3) (.t s5))
dE))))
(dSeq (dSeq (dOps (vC s4 (.int .i64 (.ofNat 0))
dE))
(dBlock 0 (dLoop (dSeq (dSeq (dOps (vM s6 s4
(vM s7 s0
(dV s8 (o.lss (.t s6) (.t s7))
dE))))
(o.cond (.t s8) dSkip (dExit 0)))
(dSeq (dBlock 1 (dDraw (lN s12 (o.ldN 6 (.t s3))
(lE [] [(s12,(o.ldN 6 (.t s3)))] (some s11) (actC p27 [(.c (.str [115,117,99]))])
(lE [] [] (some s13) (actC p13 [(.t s11),(.t s12)])
(lE [] [] none (actV (oSt 6 (.t s3) (.t s13)))
sEnd))))))
(dOps (vM s9 s4
(dV s10 (o.add (.t s9) (.c (.int .i64 (.ofNat 1))))
(vM s4 s10
dE)))))))))
(dSeq (dOps (dV s14 (o.ldN 6 (.t s3))
(dU (oSt 6 (.t s2) (.t s14))
dE)))
dRet)))),[(.cN s2 6)]⟩
def af12:AF:=afG12 fastO
def afG13 (o:Ops):AF:=⟨(dSeq (dOps (dV s2 (oBox 30 (.t s0))
(dV s3 (oBox 30 (.t s1))
(dV s4 (oNew [(.int .i64 (.ofNat 0)),(.int .i64 (.ofNat 0)),(.bool false),(.str []),.nils,.nils] 30)
dE))))
(dSeq (dOps (dV s5 (o.ldN 6 (.t s2))
(dV s6 (o.ldN 6 (.t s3))
(dV s7 (oBuildS 30 2 [(.int .i64 (.ofNat 0)),(.int .i64 (.ofNat 0)),(.bool false),(.str []),.nils,.nils,(.int .i64 (.ofNat 0)),(.int .i64 (.ofNat 0)),(.bool false),(.str []),.nils,.nils] [(0,6,(.t s5)),(6,6,(.t s6))])
(dV s8 (oBuild [(.int .i64 (.ofNat 0)),(.int .i64 (.ofNat 0)),(.bool false),(.str []),.nils,.nils] [(0,1,(.c (.int .i64 (.ofNat 5)))),(5,1,(.t s7))])
(dU (oSt 6 (.t s4) (.t s8))
dE))))))
dRet)),[(.cN s4 6)]⟩
def af13:AF:=afG13 fastO
def afG14 (o:Ops):AF:=⟨(dSeq (dOps (dV s8 (oBox 30 (.t s3))
(dV s10 (oNew [(.int .i64 (.ofNat 0)),(.int .i64 (.ofNat 0)),(.bool false),(.str []),.nils,.nils] 30)
(vC s11 (.int .i64 (.ofNat 0))
dE))))
(dSeq (dSeq (dOps (dV s13 (o.ldN 6 (.t s8))
(vM s14 s2
(dC (some s15) p28 [(.t s13),(.t s14)]
(vM s12 s15
dE)))))
(dSeq (dOps (vM s16 s12
(dV s17 (o.neq (.t s16) (.c (.int .i64 (.ofNat 0))))
dE)))
(o.cond (.t s17) (dSeq (dOps (dV s18 (oBuild [(.int .i64 (.ofNat 0)),(.int .i64 (.ofNat 0)),(.bool false),(.str []),.nils,.nils] [])
(vM s19 s12
(dU (oSt 6 (.t s10) (.t s18))
(vM s11 s19
dE)))))
dRet) dSkip)))
(dSeq (dDraw (lM s20 s0
(lM s21 s1
(lM s22 s2
(lM s23 s4
(lN s25 (o.ldN 6 (.t s8))
(lE [] [(s25,(o.ldN 6 (.t s8)))] (some s24) (actC p29 [(.t s20),(.t s21),(.t s22),(.t s23)])
(lE [] [] (some s26) (actC p30 [(.t s24),(.t s25)])
(lN s27 (o.ext (.t s26) 0)
(lN s28 (o.ext (.t s26) 1)
(lE [] [] none (actV (oSt 6 (.t s10) (.t s27)))
(lM s11 s28
sEnd))))))))))))
dRet))),[(.cN s10 6),(.t s11)]⟩
def af14:AF:=afG14 fastO
def afG15 (o:Ops):AF:=⟨(dSeq (dOps (vC s2 (.int .i64 (.ofNat 0))
dE))
(dSeq (dOps (vM s3 s0
(vM s2 s3
dE)))
dRet)),[(.t s2)]⟩
def af15:AF:=afG15 fastO
def afG16 (o:Ops):AF:=⟨(dSeq (dOps (dV s2 (oBox 30 (.t s0))
(dV s3 (oBox 30 (.t s1))
(vC s4 (.bool false)
dE))))
(dSeq (dSeq (dOps (dV s9 (o.fa 0 (.t s2))
(dV s10 (o.ld1 (.t s9))
(dV s11 (o.fa 0 (.t s3))
(dV s12 (o.ld1 (.t s11))
(dV s13 (o.neq (.t s10) (.t s12))
(vM s14 s13
(o.g s14 false (some s15) (dV s15 (o.fa 1 (.t s2)))
(o.g s14 false (some s16) (dV s16 (o.ld1 (.t s15)))
(o.g s14 false (some s17) (dV s17 (o.fa 1 (.t s3)))
(o.g s14 false (some s18) (dV s18 (o.ld1 (.t s17)))
(o.g s14 false (some s19) (dV s19 (o.neq (.t s16) (.t s18)))
(dV s20 (o.pick (.t s14) (.c (.bool true)) (.t s19))
(vM s21 s20
(o.g s21 false (some s22) (dV s22 (o.fa 2 (.t s2)))
(o.g s21 false (some s23) (dV s23 (o.ld1 (.t s22)))
(o.g s21 false (some s24) (dV s24 (o.fa 2 (.t s3)))
(o.g s21 false (some s25) (dV s25 (o.ld1 (.t s24)))
(o.g s21 false (some s26) (dV s26 (oEq .b true (.t s23) (.t s25)))
(dV s27 (o.pick (.t s21) (.c (.bool true)) (.t s26))
(vM s28 s27
(o.g s28 false (some s29) (dV s29 (o.fa 3 (.t s2)))
(o.g s28 false (some s30) (dV s30 (o.ld1 (.t s29)))
(o.g s28 false (some s31) (dV s31 (o.fa 3 (.t s3)))
(o.g s28 false (some s32) (dV s32 (o.ld1 (.t s31)))
(o.g s28 false (some s33) (dV s33 (o.neq (.t s30) (.t s32)))
(dV s34 (o.pick (.t s28) (.c (.bool true)) (.t s33))
(vM s35 s34
(o.g s35 false (some s36) (dV s36 (o.fa 4 (.t s2)))
(o.g s35 false (some s37) (dV s37 (o.ld1 (.t s36)))
(o.g s35 false (some s38) (dV s38 (o.len (.t s37)))
(o.g s35 false (some s39) (dV s39 (o.fa 4 (.t s3)))
(o.g s35 false (some s40) (dV s40 (o.ld1 (.t s39)))
(o.g s35 false (some s41) (dV s41 (o.len (.t s40)))
(o.g s35 false (some s42) (dV s42 (o.neq (.t s38) (.t s41)))
(dV s43 (o.pick (.t s35) (.c (.bool true)) (.t s42))
(vM s44 s43
(o.g s44 false (some s45) (dV s45 (o.fa 5 (.t s2)))
(o.g s44 false (some s46) (dV s46 (o.ld1 (.t s45)))
(o.g s44 false (some s47) (dV s47 (o.len (.t s46)))
(o.g s44 false (some s48) (dV s48 (o.fa 5 (.t s3)))
(o.g s44 false (some s49) (dV s49 (o.ld1 (.t s48)))
(o.g s44 false (some s50) (dV s50 (o.len (.t s49)))
(o.g s44 false (some s51) (dV s51 (o.neq (.t s47) (.t s50)))
(dV s52 (o.pick (.t s44) (.c (.bool true)) (.t s51))
dE)))))))))))))))))))))))))))))))))))))))))))))
(o.cond (.t s52) (dSeq (dOps (vC s4 (.bool false)
dE))
dRet) dSkip))
(dSeq (dSeq (dOps (vC s5 (.int .i64 (.ofNat 0))
dE))
(dBlock 0 (dLoop (dSeq (dSeq (dOps (vM s53 s5
(dV s54 (o.fa 4 (.t s2))
(dV s55 (o.ld1 (.t s54))
(dV s56 (o.len (.t s55))
(dV s57 (o.lss (.t s53) (.t s56))
dE))))))
(o.cond (.t s57) dSkip (dExit 0)))
(dSeq (dBlock 1 (dSeq (dDraw (lN s60 (o.fa 4 (.t s2))
(lN s61 (o.ld1 (.t s60))
(lM s62 s5
(lN s63 (o.ia 2 (.t s61) (.t s62))
(lN s64 (o.ldN 2 (.t s63))
(lN s65 (o.fa 4 (.t s3))
(lN s66 (o.ld1 (.t s65))
(lM s67 s5
(lN s68 (o.ia 2 (.t s66) (.t s67))
(lN s69 (o.ldN 2 (.t s68))
(lE [] [] (some s70) (actC p31 [(.t s64),(.t s69)])
(lM s6 s70
sEnd)))))))))))))
(dSeq (dOps (vM s71 s6
(dV s72 (o.not (.t s71))
dE)))
(o.cond (.t s72) (dSeq (dOps (vC s4 (.bool false)
dE))
dRet) dSkip))))
(dOps (vM s58 s5
(dV s59 (o.add (.t s58) (.c (.int .i64 (.ofNat 1))))
(vM s5 s59
dE)))))))))
(dSeq (dSeq (dOps (vC s7 (.int .i64 (.ofNat 0))
dE))
(dBlock 2 (dLoop (dSeq (dSeq (dOps (vM s73 s7
(dV s74 (o.fa 5 (.t s2))
(dV s75 (o.ld1 (.t s74))
(dV s76 (o.len (.t s75))
(dV s77 (o.lss (.t s73) (.t s76))
dE))))))
(o.cond (.t s77) dSkip (dExit 2)))
(dSeq (dBlock 3 (dSeq (dDraw (lN s80 (o.fa 5 (.t s2))
(lN s81 (o.ld1 (.t s80))
(lM s82 s7
(lN s83 (o.ia 6 (.t s81) (.t s82))
(lN s84 (o.ldN 6 (.t s83))
(lN s85 (o.fa 5 (.t s3))
(lN s86 (o.ld1 (.t s85))
(lM s87 s7
(lN s88 (o.ia 6 (.t s86) (.t s87))
(lN s89 (o.ldN 6 (.t s88))
(lE [] [] (some s90) (actC p16 [(.t s84),(.t s89)])
(lM s8 s90
sEnd)))))))))))))
(dSeq (dOps (vM s91 s8
(dV s92 (o.not (.t s91))
dE)))
(o.cond (.t s92) (dSeq (dOps (vC s4 (.bool false)
dE))
dRet) dSkip))))
(dOps (vM s78 s7
(dV s79 (o.add (.t s78) (.c (.int .i64 (.ofNat 1))))
(vM s7 s79
dE)))))))))
(dSeq (dOps (vC s4 (.bool true)
dE))
dRet))))),[(.t s4)]⟩
def af16:AF:=afG16 fastO
def afG17 (o:Ops):AF:=⟨(dSeq (dOps (dV s2 (oNew [(.int .i64 (.ofNat 0)),(.int .i64 (.ofNat 0)),(.bool false),(.str []),.nils,.nils] 30)
dE))
(dSeq (dOps (vM s3 s0
(dV s4 (oBuild [(.int .i64 (.ofNat 0)),.nils] [(0,1,(.t s3))])
(dV s5 (oBuildS 50 1 [(.int .i64 (.ofNat 0)),.nils] [(0,2,(.t s4))])
(dV s6 (oBuild [(.int .i64 (.ofNat 0)),(.int .i64 (.ofNat 0)),(.bool false),(.str []),.nils,.nils] [(0,1,(.c (.int .i64 (.ofNat 2)))),(4,1,(.t s5))])
(dU (oSt 6 (.t s2) (.t s6))
dE))))))
dRet)),[(.cN s2 6)]⟩
def af17:AF:=afG17 fastO
def afG18 (o:Ops):AF:=⟨(dSeq (dOps (dV s2 (oBox 30 (.t s0))
(dV s3 (oBox 30 (.t s1))
(dV s4 (oNew [(.int .i64 (.ofNat 0)),(.int .i64 (.ofNat 0)),(.bool false),(.str []),.nils,.nils] 30)
dE))))
(dSeq (dOps (dV s5 (o.ldN 6 (.t s2))
(dV s6 (o.ldN 6 (.t s3))
(dV s7 (oBuildS 30 2 [(.int .i64 (.ofNat 0)),(.int .i64 (.ofNat 0)),(.bool false),(.str []),.nils,.nils,(.int .i64 (.ofNat 0)),(.int .i64 (.ofNat 0)),(.bool false),(.str []),.nils,.nils] [(0,6,(.t s5)),(6,6,(.t s6))])
(dV s8 (oBuild [(.int .i64 (.ofNat 0)),(.int .i64 (.ofNat 0)),(.bool false),(.str []),.nils,.nils] [(0,1,(.c (.int .i64 (.ofNat 4)))),(5,1,(.t s7))])
(dU (oSt 6 (.t s4) (.t s8))
dE))))))
dRet)),[(.cN s4 6)]⟩
def af18:AF:=afG18 fastO
def afG19 (o:Ops):AF:=⟨(dSeq (dOps (dV s3 (oBox 30 (.t s0))
(dV s6 (oNew [(.int .i64 (.ofNat 0)),(.int .i64 (.ofNat 0)),(.bool false),(.str []),.nils,.nils] 30)
dE)))
(dSeq (dSeq (dOps (vC s7 (.int .i64 (.ofNat 0))
dE))
(dBlock 0 (dLoop (dSeq (dSeq (dOps (vM s8 s7
(vM s9 s1
(dV s10 (o.len (.t s9))
(dV s11 (o.lss (.t s8) (.t s10))
dE)))))
(o.cond (.t s11) dSkip (dExit 0)))
(dSeq (dBlock 1 (dDraw (lM s14 s2
(lM s15 s7
(lN s17 (o.ldN 6 (.t s3))
(lM s18 s1
(lM s19 s7
(lN s20 (o.ia 6 (.t s18) (.t s19))
(lN s21 (o.ldN 6 (.t s20))
(lA 8 s22 (floatK (.buildS 30 2 [(.int .i64 (.ofNat 0)),(.int .i64 (.ofNat 0)),(.bool false),(.str []),.nils,.nils,(.int .i64 (.ofNat 0)),(.int .i64 (.ofNat 0)),(.bool false),(.str []),.nils,.nils] [(0,6,(.t s17)),(6,6,(.t s21))]))
(lE [] [(s17,(o.ldN 6 (.t s3))),(s21,(o.ldN 6 (.t s20)))] (some s16) (actC p32 [(.t s14),(.t s15)])
(lN s23 (oBuild [(.int .i64 (.ofNat 0)),(.int .i64 (.ofNat 0)),(.bool false),(.str []),.nils,.nils] [(0,1,(.c (.int .i64 (.ofNat 5)))),(2,1,(.t s16)),(5,1,(.t s22))])
(lE [8] [] none (actV (oSt 6 (.t s3) (.t s23)))
sEnd)))))))))))))
(dOps (vM s12 s7
(dV s13 (o.add (.t s12) (.c (.int .i64 (.ofNat 1))))
(vM s7 s13
dE)))))))))
(dSeq (dOps (dV s24 (o.ldN 6 (.t s3))
(dU (oSt 6 (.t s6) (.t s24))
dE)))
dRet))),[(.cN s6 6)]⟩
def af19:AF:=afG19 fastO
def afG20 (o:Ops):AF:=⟨(dSeq (dOps (dV s1 (oBox 30 (.t s0))
(vC s2 (.str [])
dE)))
(dSeq (dOps (dV s6 (o.ldN 6 (.t s1))
(dC (some s7) p33 [(.t s6)]
(vM s5 s7
(dV s8 (o.ext (.t s5) 0)
(dV s9 (o.ext (.t s5) 1)
(vM s3 s8
(vM s4 s9
dE))))))))
(dSeq (dSeq (dOps (vM s10 s4
(dV s11 (o.neq (.t s10) (.c (.int .i64 (.ofNat 0))))
dE)))
(o.cond (.t s11) (dSeq (dOps (vC s2 (.str [])
dE))
dRet) dSkip))
(dSeq (dOps (dV s12 (o.ldN 6 (.t s1))
(dC (some s13) p34 [(.t s12),(.c (.int .i64 (.ofNat 0)))]
(dV s14 (oCvT (.t s13))
(vM s2 s14
dE)))))
dRet)))),[(.t s2)]⟩
def af20:AF:=afG20 fastO
def afG21 (o:Ops):AF:=⟨(dSeq (dOps (vC s2 (.bool false)
dE))
(dSeq (dOps (vM s8 s0
(dV s9 (o.len (.t s8))
(vM s3 s9
dE))))
(dSeq (dSeq (dOps (vC s4 (.int .i64 (.ofNat 0))
dE))
(dBlock 0 (dLoop (dSeq (dSeq (dOps (vM s10 s4
(vM s11 s0
(dV s12 (o.len (.t s11))
(dV s13 (o.lss (.t s10) (.t s12))
(vM s14 s13
(o.g s14 true (some s15) (vM s15 s3)
(o.g s14 true (some s16) (dV s16 (o.leq (.t s15) (.c (.int .i64 (.ofNat 600)))))
(dV s17 (o.pick (.t s14) (.t s16) (.c (.bool false)))
dE)))))))))
(o.cond (.t s17) dSkip (dExit 0)))
(dSeq (dBlock 1 (dSeq (dOps (vM s20 s0
(vM s21 s4
(dV s22 (o.ia 17 (.t s20) (.t s21))
(dV s23 (o.fa 3 (.t s22))
(dV s24 (o.ldN 6 (.t s23))
(dC (some s25) p35 [(.t s24)]
(vM s26 s25
(o.g s26 false (some s27) (vM s27 s0)
(o.g s26 false (some s28) (vM s28 s4)
(o.g s26 false (some s29) (dV s29 (o.ia 17 (.t s27) (.t s28)))
(o.g s26 false (some s30) (dV s30 (o.fa 9 (.t s29)))
(o.g s26 false (some s31) (dV s31 (o.ldN 6 (.t s30)))
(o.g s26 false (some s32) (dC (some s32) p35 [(.t s31)])
(dV s33 (o.pick (.t s26) (.c (.bool true)) (.t s32))
(vM s5 s33
dE))))))))))))))))
(dSeq (dDraw (lM s34 s3
(lM s35 s0
(lM s36 s4
(lN s37 (o.ia 17 (.t s35) (.t s36))
(lN s38 (o.fa 16 (.t s37))
(lN s39 (o.ld1 (.t s38))
(lN s40 (o.len (.t s39))
(lN s41 (o.add (.t s34) (.t s40))
(lM s42 s0
(lM s43 s4
(lN s44 (o.ia 17 (.t s42) (.t s43))
(lN s45 (o.fa 1 (.t s44))
(lN s46 (o.ld1 (.t s45))
(lN s47 (oLenS (.t s46))
(lN s48 (oAr .quo (.t s47) (.c (.int .i64 (.ofNat 16))))
(lN s49 (o.add (.t s41) (.t s48))
(lE [] [] (some s3) (actV (oMv (.t s49)))
sEnd))))))))))))))))))
(dSeq (dSeq (dOps (vC s6 (.int .i64 (.ofNat 0))
dE))
(dBlock 2 (dLoop (dSeq (dSeq (dOps (vM s50 s6
(vM s51 s0
(vM s52 s4
(dV s53 (o.ia 17 (.t s51) (.t s52))
(dV s54 (o.fa 16 (.t s53))
(dV s55 (o.ld1 (.t s54))
(dV s56 (o.len (.t s55))
(dV s57 (o.lss (.t s50) (.t s56))
(vM s58 s57
(o.g s58 true (some s59) (vM s59 s3)
(o.g s58 true (some s60) (dV s60 (o.leq (.t s59) (.c (.int .i64 (.ofNat 600)))))
(dV s61 (o.pick (.t s58) (.t s60) (.c (.bool false)))
dE)))))))))))))
(o.cond (.t s61) dSkip (dExit 2)))
(dSeq (dBlock 3 (dSeq (dOps (vM s64 s0
(vM s65 s4
(dV s66 (o.ia 17 (.t s64) (.t s65))
(dV s67 (o.fa 16 (.t s66))
(dV s68 (o.ld1 (.t s67))
(vM s69 s6
(dV s70 (o.ia 7 (.t s68) (.t s69))
(dV s71 (o.fa 1 (.t s70))
(dV s72 (o.ldN 6 (.t s71))
(dC (some s73) p35 [(.t s72)]
(vM s7 s73
dE))))))))))))
(dOps (vM s74 s5
(vM s75 s74
(o.g s75 false (some s76) (vM s76 s7)
(dV s77 (o.pick (.t s75) (.c (.bool true)) (.t s76))
(vM s5 s77
dE))))))))
(dOps (vM s62 s6
(dV s63 (o.add (.t s62) (.c (.int .i64 (.ofNat 1))))
(vM s6 s63
dE)))))))))
(dSeq (dOps (vM s78 s5
dE))
(o.cond (.t s78) (dSeq (dOps (vC s2 (.bool true)
dE))
dRet) dSkip))))))
(dOps (vM s18 s4
(dV s19 (o.add (.t s18) (.c (.int .i64 (.ofNat 1))))
(vM s4 s19
dE)))))))))
(dSeq (dOps (vM s79 s3
(dV s80 (o.gtr (.t s79) (.c (.int .i64 (.ofNat 600))))
(vM s2 s80
dE))))
dRet)))),[(.t s2)]⟩
def af21:AF:=afG21 fastO
def afG22 (o:Ops):AF:=⟨(dSeq (dOps (vC s0 .nilp
dE))
(dSeq (dOps (dV s1 (oBuild [.nils,.nilm] [])
(dV s2 (oBox 92 (.t s1))
(vM s0 s2
dE))))
dRet)),[(.t s0)]⟩
def af22:AF:=afG22 fastO
def afG23 (o:Ops):AF:=⟨(dSeq (dOps (dV s3 (oBox 33 (.t s1))
(vC s4 (.int .i64 (.ofNat 0))
dE)))
(dSeq (dDraw (lM s9 s0
(lN s11 (o.ldN 17 (.t s3))
(lA 8 s5 (aNew [(.int .i64 (.ofNat 0)),(.str []),(.int .i64 (.ofNat 0)),(.int .i64 (.ofNat 0)),(.int .i64 (.ofNat 0)),(.bool false),(.str []),.nils,.nils,(.int .i64 (.ofNat 0)),(.int .i64 (.ofNat 0)),(.bool false),(.str []),.nils,.nils,(.int .i64 (.ofNat 0)),.nils] 33)
(lA 9 s6 (aNew [.nilm] 90)
(lE [] [(s11,(o.ldN 17 (.t s3)))] (some s10) (actC p36 [(.t s9)])
(lE [] [] (some s12) (actC p37 [(.t s10),(.t s11)])
(lM s8 s12
(lN s13 (o.ext (.t s8) 0)
(lN s14 (o.ext (.t s8) 1)
(lN s15 (o.ext (.t s8) 2)
(lE [8,9] [] none (actV (oSt 17 (.t s5) (.t s13)))
(lE [8,9] [] none (actV (o.st1 (.t s6) (.t s14)))
(lM s7 s15
sEnd))))))))))))))
(dSeq (dSeq (dOps (vM s16 s7
(dV s17 (o.eql (.t s16) (.c (.int .i64 (.ofNat 0))))
(vM s18 s17
(o.g s18 true (some s19) (vM s19 s0)
(o.g s18 true (some s20) (dV s20 (o.eqp false (.t s19) (.c .nilp)))
(dV s21 (o.pick (.t s18) (.t s20) (.c (.bool false)))
dE)))))))
(o.cond (.t s21) (dOps (vC s7 (.int .i64 (.ofNat 1))
dE)) dSkip))
(dSeq (dSeq (dOps (vM s22 s7
(dV s23 (o.neq (.t s22) (.c (.int .i64 (.ofNat 0))))
dE)))
(o.cond (.t s23) (dSeq (dOps (vM s24 s7
(vM s4 s24
dE)))
dRet) dSkip))
(dSeq (dDraw (lM s25 s0
(lM s26 s0
(lN s27 (o.nchk (.t s26))
(lN s28 (o.fa 0 (.t s27))
(lN s29 (o.ld1 (.t s28))
(lN s30 (o.ldN 17 (.t s5))
(lA 6 s31 (floatK (.buildS 33 1 [(.int .i64 (.ofNat 0)),(.str []),(.int .i64 (.ofNat 0)),(.int .i64 (.ofNat 0)),(.int .i64 (.ofNat 0)),(.bool false),(.str []),.nils,.nils,(.int .i64 (.ofNat 0)),(.int .i64 (.ofNat 0)),(.bool false),(.str []),.nils,.nils,(.int .i64 (.ofNat 0)),.nils] [(0,17,(.t s30))]))
(lE [6] [] (some s32) (actV (oApp 33 17 (.t s29) (.t s31)))
(lN s33 (o.nchk (.t s25))
(lN s34 (o.fa 0 (.t s33))
(lE [6] [] none (actV (o.st1 (.t s34) (.t s32)))
sEnd))))))))))))
(dSeq (dDraw (lM s35 s0
(lN s36 (o.nchk (.t s35))
(lN s37 (o.fa 1 (.t s36))
(lN s38 (o.ldN 1 (.t s6))
(lE [] [] (some s39) (actC p38 [(.t s37),(.t s38)])
sEnd))))))
(dSeq (dOps (vC s4 (.int .i64 (.ofNat 0))
dE))
dRet))))))),[(.t s4)]⟩
def af23:AF:=afG23 fastO
def afG24 (o:Ops):AF:=⟨(dSeq (dOps (dV s3 (oBox 33 (.t s1))
(vC s4 (.int .i64 (.ofNat 0))
dE)))
(dSeq (dOps (vM s6 s0
(dV s7 (o.ldN 17 (.t s3))
(dC (some s8) p39 [(.t s6),(.t s7)]
(vM s5 s8
dE)))))
(dSeq (dSeq (dOps (vM s9 s5
(dV s10 (o.eql (.t s9) (.c (.int .i64 (.ofNat 0))))
dE)))
(o.cond (.t s10) (dDraw (lM s11 s0
(lM s12 s0
(lN s13 (o.nchk (.t s12))
(lN s14 (o.fa 0 (.t s13))
(lN s15 (o.ld1 (.t s14))
(lN s17 (o.ldN 17 (.t s3))
(lE [] [(s17,(o.ldN 17 (.t s3)))] (some s16) (actV (oApp 33 17 (.c .nils) (.t s15)))
(lE [] [] (some s18) (actC p40 [(.t s17)])
(lA 8 s19 (floatK (.buildS 33 1 [(.int .i64 (.ofNat 0)),(.str []),(.int .i64 (.ofNat 0)),(.int .i64 (.ofNat 0)),(.int .i64 (.ofNat 0)),(.bool false),(.str []),.nils,.nils,(.int .i64 (.ofNat 0)),(.int .i64 (.ofNat 0)),(.bool false),(.str []),.nils,.nils,(.int .i64 (.ofNat 0)),.nils] [(0,17,(.t s18))]))
(lE [8] [] (some s20) (actV (oApp 33 17 (.t s16) (.t s19)))
(lN s21 (o.nchk (.t s11))
(lN s22 (o.fa 0 (.t s21))
(lE [8] [] none (actV (o.st1 (.t s22) (.t s20)))
sEnd)))))))))))))) dSkip))
(dSeq (dOps (vM s23 s5
(vM s4 s23
dE)))
dRet)))),[(.t s4)]⟩
def af24:AF:=afG24 fastO
def afG25 (o:Ops):AF:=⟨(dSeq (dOps (vC s2 (.int .i64 (.ofNat 0))
dE))
(dSeq (dOps (vM s3 s0
(vM s2 s3
dE)))
dRet)),[(.t s2)]⟩
def af25:AF:=afG25 fastO
def afG26 (o:Ops):AF:=⟨(dSeq (dOps (dV s7 (oBox 30 (.t s3))
(dV s8 (oNew [(.int .i64 (.ofNat 0)),(.int .i64 (.ofNat 0)),(.bool false),(.str []),.nils,.nils] 30)
dE)))
(dSeq (dSeq (dOps (vM s10 s1
(dV s11 (o.len (.t s10))
(dV s12 (o.sub (.t s11) (.c (.int .i64 (.ofNat 1))))
(vM s9 s12
dE)))))
(dBlock 0 (dLoop (dSeq (dSeq (dOps (vM s13 s9
(dV s14 (o.geq (.t s13) (.c (.int .i64 (.ofNat 0))))
dE)))
(o.cond (.t s14) dSkip (dExit 0)))
(dSeq (dBlock 1 (dDraw (lM s17 s0
(lM s18 s2
(lM s19 s9
(lM s21 s1
(lM s22 s9
(lN s23 (o.ia 6 (.t s21) (.t s22))
(lN s24 (o.ldN 6 (.t s23))
(lN s25 (o.ldN 6 (.t s7))
(lA 9 s26 (floatK (.buildS 30 2 [(.int .i64 (.ofNat 0)),(.int .i64 (.ofNat 0)),(.bool false),(.str []),.nils,.nils,(.int .i64 (.ofNat 0)),(.int .i64 (.ofNat 0)),(.bool false),(.str []),.nils,.nils] [(0,6,(.t s24)),(6,6,(.t s25))]))
(lE [] [(s24,(o.ldN 6 (.t s23))),(s25,(o.ldN 6 (.t s7)))] (some s20) (actC p32 [(.t s18),(.t s19)])
(lN s27 (oBuild [(.int .i64 (.ofNat 0)),(.int .i64 (.ofNat 0)),(.bool false),(.str []),.nils,.nils] [(0,1,(.t s17)),(2,1,(.t s20)),(5,1,(.t s26))])
(lE [9] [] none (actV (oSt 6 (.t s7) (.t s27)))
sEnd))))))))))))))
(dOps (vM s15 s9
(dV s16 (o.sub (.t s15) (.c (.int .i64 (.ofNat 1))))
(vM s9 s16
dE)))))))))
(dSeq (dOps (dV s28 (o.ldN 6 (.t s7))
(dU (oSt 6 (.t s8) (.t s28))
dE)))
dRet))),[(.cN s8 6)]⟩
def af26:AF:=afG26 fastO
def afG27 (o:Ops):AF:=⟨(dSeq (dOps (dV s2 (oNew [(.int .i64 (.ofNat 0)),(.int .i64 (.ofNat 0)),(.bool false),(.str []),.nils,.nils] 30)
dE))
(dSeq (dOps (vM s3 s0
(dC (some s4) p9 [(.t s3),(.c .nils)]
(dU (oSt 6 (.t s2) (.t s4))
dE))))
dRet)),[(.cN s2 6)]⟩
def af27:AF:=afG27 fastO
def afG28 (o:Ops):AF:=⟨(dSeq (dOps (dV s2 (oBox 30 (.t s0))
(vC s4 (.int .i64 (.ofNat 0))
dE)))
(dSeq (dSeq (dOps (dV s9 (o.ldN 6 (.t s2))
(dC (some s10) p41 [(.t s9)]
(vM s5 s10
dE))))
(dSeq (dOps (vM s11 s5
(dV s12 (o.neq (.t s11) (.c (.int .i64 (.ofNat 0))))
dE)))
(o.cond (.t s12) (dSeq (dOps (vM s13 s5
(vM s4 s13
dE)))
dRet) dSkip)))
(dSeq (dSeq (dOps (vM s14 s1
(dV s15 (o.len (.t s14))
(vC s16 (.int .i64 (.ofNat 0))
dE))))
(dBlock 0 (dLoop (dSeq (dOps (dV s17 (o.lss (.t s16) (.t s15))
dE))
(dSeq (o.cond (.t s17) dSkip (dExit 0))
(dSeq (dBlock 1 (dSeq (dOps (dV s18 (o.ia 6 (.t s14) (.t s16))
(dV s19 (o.ldN 6 (.t s18))
(dV s7 (oNew [(.int .i64 (.ofNat 0)),(.int .i64 (.ofNat 0)),(.bool false),(.str []),.nils,.nils] 30)
(dU (oSt 6 (.t s7) (.t s19))
dE)))))
(dSeq (dOps (dV s20 (o.ldN 6 (.t s7))
(dC (some s21) p41 [(.t s20)]
(vM s8 s21
dE))))
(dSeq (dOps (vM s22 s8
(dV s23 (o.neq (.t s22) (.c (.int .i64 (.ofNat 0))))
dE)))
(o.cond (.t s23) (dSeq (dOps (vM s24 s8
(vM s4 s24
dE)))
dRet) dSkip)))))
(dOps (dV s25 (o.add (.t s16) (.c (.int .i64 (.ofNat 1))))
(vM s16 s25
dE)))))))))
(dSeq (dSeq (dOps (vM s26 s1
(dV s27 (o.len (.t s26))
(dV s28 (o.gtr (.t s27) (.c (.int .i64 (.ofNat 1000))))
dE))))
(o.cond (.t s28) (dSeq (dOps (vC s4 (.int .i64 (.ofNat 2))
dE))
dRet) dSkip))
(dSeq (dOps (vC s4 (.int .i64 (.ofNat 0))
dE))
dRet))))),[(.t s4)]⟩
def af28:AF:=afG28 fastO
def afG29 (o:Ops):AF:=⟨(dSeq (dOps (dV s8 (oNew [.nilp,.nilp,(.int .i64 (.ofNat 0)),.nilp] 77)
dE))
(dSeq (dOps (vM s12 s0
(vM s13 s1
(vM s14 s3
(dC (some s15) p42 [(.t s12),(.t s13),(.t s14)]
(dV s9 (oNew [.nilp,.nilp,(.int .i64 (.ofNat 0)),.nilp] 77)
(dU (oSt 4 (.t s9) (.t s15))
dE)))))))
(dSeq (dSeq (dOps (vM s16 s2
(dV s17 (o.len (.t s16))
(vC s18 (.int .i64 (.ofNat 0))
dE))))
(dBlock 0 (dLoop (dSeq (dOps (dV s19 (o.lss (.t s18) (.t s17))
dE))
(dSeq (o.cond (.t s19) dSkip (dExit 0))
(dSeq (dBlock 1 (dSeq (dOps (dV s20 (o.ia 6 (.t s16) (.t s18))
(dV s21 (o.ldN 6 (.t s20))
(dV s11 (oNew [(.int .i64 (.ofNat 0)),(.int .i64 (.ofNat 0)),(.bool false),(.str []),.nils,.nils] 30)
(dU (oSt 6 (.t s11) (.t s21))
dE)))))
(dOps (dV s22 (o.ldN 4 (.t s9))
(dV s23 (o.ldN 6 (.t s11))
(dC (some s24) p43 [(.t s22),(.t s23)]
(dU (oSt 4 (.t s9) (.t s24))
dE)))))))
(dOps (dV s25 (o.add (.t s18) (.c (.int .i64 (.ofNat 1))))
(vM s18 s25
dE)))))))))
(dSeq (dOps (dV s26 (o.ldN 4 (.t s9))
(dU (oSt 4 (.t s8) (.t s26))
dE)))
dRet)))),[(.cN s8 4)]⟩
def af29:AF:=afG29 fastO
def afG30 (o:Ops):AF:=⟨(dSeq (dOps (dV s2 (oBox 77 (.t s0))
(dV s3 (oBox 30 (.t s1))
(dV s4 (oNew [(.int .i64 (.ofNat 0)),(.int .i64 (.ofNat 0)),(.bool false),(.str []),.nils,.nils] 30)
(vC s5 (.int .i64 (.ofNat 0))
dE)))))
(dSeq (dOps (dV s9 (o.ldN 4 (.t s2))
(dV s10 (o.ldN 6 (.t s3))
(dC (some s11) p44 [(.t s9),(.t s10)]
(dC (some s12) p45 [(.t s11)]
(vM s8 s12
(dV s13 (o.ext (.t s8) 0)
(dV s14 (o.ext (.t s8) 1)
(dV s6 (oNew [.nilp] 104)
(dU (o.st1 (.t s6) (.t s13))
(vM s7 s14
dE)))))))))))
(dSeq (dSeq (dOps (vM s15 s7
(dV s16 (oEq .i true (.t s15) (.c .nili))
dE)))
(o.cond (.t s16) (dSeq (dOps (dV s17 (oBuild [(.int .i64 (.ofNat 0)),(.int .i64 (.ofNat 0)),(.bool false),(.str []),.nils,.nils] [])
(vM s18 s7
(dC (some s19) p46 [(.t s18)]
(dU (oSt 6 (.t s4) (.t s17))
(vM s5 s19
dE))))))
dRet) dSkip))
(dSeq (dDraw (lN s20 (o.ldN 1 (.t s6))
(lN s21 (o.fa 1 (.t s2))
(lN s22 (o.fa 0 (.t s21))
(lN s23 (o.ldN 2 (.t s22))
(lE [] [(s20,(o.ldN 1 (.t s6)))] (some s24) (actC p48 [(.t s23)])
(lE [] [] (some s25) (actC p47 [(.t s20),(.t s24)])
(lE [] [] none (actV (oSt 6 (.t s4) (.t s25)))
(lC s5 (.int .i64 (.ofNat 0))
sEnd)))))))))
dRet)))),[(.cN s4 6),(.t s5)]⟩
def af30:AF:=afG30 fastO
def afG31 (o:Ops):AF:=⟨(dSeq (dOps (dV s2 (oBox 50 (.t s0))
(dV s3 (oBox 50 (.t s1))
(vC s4 (.bool false)
dE))))
(dSeq (dSeq (dOps (dV s6 (o.fa 0 (.t s2))
(dV s7 (o.ld1 (.t s6))
(dV s8 (o.fa 0 (.t s3))
(dV s9 (o.ld1 (.t s8))
(dV s10 (o.neq (.t s7) (.t s9))
(vM s11 s10
(o.g s11 false (some s12) (dV s12 (o.fa 1 (.t s2)))
(o.g s11 false (some s13) (dV s13 (o.ld1 (.t s12)))
(o.g s11 false (some s14) (dV s14 (o.len (.t s13)))
(o.g s11 false (some s15) (dV s15 (o.fa 1 (.t s3)))
(o.g s11 false (some s16) (dV s16 (o.ld1 (.t s15)))
(o.g s11 false (some s17) (dV s17 (o.len (.t s16)))
(o.g s11 false (some s18) (dV s18 (o.neq (.t s14) (.t s17)))
(dV s19 (o.pick (.t s11) (.c (.bool true)) (.t s18))
dE)))))))))))))))
(o.cond (.t s19) (dSeq (dOps (vC s4 (.bool false)
dE))
dRet) dSkip))
(dSeq (dSeq (dOps (vC s5 (.int .i64 (.ofNat 0))
dE))
(dBlock 0 (dLoop (dSeq (dSeq (dOps (vM s20 s5
(dV s21 (o.fa 1 (.t s2))
(dV s22 (o.ld1 (.t s21))
(dV s23 (o.len (.t s22))
(dV s24 (o.lss (.t s20) (.t s23))
dE))))))
(o.cond (.t s24) dSkip (dExit 0)))
(dSeq (dBlock 1 (dSeq (dDraw (lN s27 (o.fa 1 (.t s2))
(lN s28 (o.ld1 (.t s27))
(lM s29 s5
(lN s30 (o.ia 2 (.t s28) (.t s29))
(lN s31 (o.ldN 2 (.t s30))
(lN s32 (o.fa 1 (.t s3))
(lN s33 (o.ld1 (.t s32))
(lM s34 s5
(lN s35 (o.ia 2 (.t s33) (.t s34))
(lN s36 (o.ldN 2 (.t s35))
(lN s37 (o.neq (.t s31) (.t s36))
sEnd))))))))))))
(o.cond (.t s37) (dSeq (dOps (vC s4 (.bool false)
dE))
dRet) dSkip)))
(dOps (vM s25 s5
(dV s26 (o.add (.t s25) (.c (.int .i64 (.ofNat 1))))
(vM s5 s26
dE)))))))))
(dSeq (dOps (vC s4 (.bool true)
dE))
dRet)))),[(.t s4)]⟩
def af31:AF:=afG31 fastO
def afG32 (o:Ops):AF:=⟨(dSeq (dOps (vC s4 (.bool false)
dE))
(dSeq (dOps (vM s5 s1
(vM s6 s0
(dV s7 (o.len (.t s6))
(dV s8 (o.lss (.t s5) (.t s7))
(vM s9 s8
(o.g s9 true (some s10) (vM s10 s0)
(o.g s9 true (some s11) (vM s11 s1)
(o.g s9 true (some s12) (dV s12 (o.ia 1 (.t s10) (.t s11)))
(o.g s9 true (some s13) (dV s13 (o.ld1 (.t s12)))
(dV s14 (o.pick (.t s9) (.t s13) (.c (.bool false)))
(vM s4 s14
dE))))))))))))
dRet)),[(.t s4)]⟩
def af32:AF:=afG32 fastO
def afG33 (o:Ops):AF:=⟨(dSeq (dOps (dV s1 (oBox 30 (.t s0))
(vC s2 .nils
(vC s3 (.int .i64 (.ofNat 0))
dE))))
(dSeq (dOps (dV s6 (o.ldN 6 (.t s1))
(dC (some s7) p49 [(.t s6)]
(vM s4 s7
dE))))
(dSeq (dSeq (dOps (vM s8 s4
(dV s9 (o.neq (.t s8) (.c (.int .i64 (.ofNat 0))))
dE)))
(o.cond (.t s9) (dSeq (dOps (vM s10 s4
(vC s2 .nils
(vM s3 s10
dE))))
dRet) dSkip))
(dSeq (dOps (dV s11 (o.ldN 6 (.t s1))
(dC (some s12) p50 [(.c .nils),(.t s11)]
(vM s5 s12
dE))))
(dSeq (dSeq (dOps (vM s13 s5
(dV s14 (o.len (.t s13))
(dV s15 (o.gtr (.t s14) (.c (.int .i64 (.ofNat 1000000))))
dE))))
(o.cond (.t s15) (dSeq (dOps (vC s2 .nils
(vC s3 (.int .i64 (.ofNat 2))
dE)))
dRet) dSkip))
(dSeq (dOps (vM s16 s5
(vM s2 s16
(vC s3 (.int .i64 (.ofNat 0))
dE))))
dRet)))))),[(.t s2),(.t s3)]⟩
def af33:AF:=afG33 fastO
def afG34 (o:Ops):AF:=⟨(dSeq (dOps (dV s2 (oBox 30 (.t s0))
(vC s4 .nils
dE)))
(dSeq (dOps (dV s16 (o.fa 5 (.t s2))
(dV s17 (o.ld1 (.t s16))
(vM s5 s17
dE))))
(dSeq (dSeq (dOps (dV s18 (o.fa 0 (.t s2))
(dV s19 (o.ld1 (.t s18))
dE)))
(dBlock 0 (dSeq (dOps (dV s21 (o.eql (.t s19) (.c (.int .i64 (.ofNat 1))))
(vM s20 s21
dE)))
(o.cond (.t s20) (dSeq (dSeq (dOps (dV s22 (o.fa 1 (.t s2))
(dV s23 (o.ld1 (.t s22))
(vM s24 s1
(dV s25 (o.lss (.t s23) (.t s24))
dE)))))
(o.cond (.t s25) (dSeq (dOps (vM s26 s1
(dV s27 (o.sub (.t s26) (.c (.int .i64 (.ofNat 1))))
(dV s28 (o.fa 1 (.t s2))
(dV s29 (o.ld1 (.t s28))
(dV s30 (o.sub (.t s27) (.t s29))
(dC (some s31) p51 [(.t s30)]
(dV s32 (o.add (.c (.str [120])) (.t s31))
(dV s33 (oCvB 5 (.t s32))
(vM s4 s33
dE))))))))))
dRet) dSkip))
(dSeq (dOps (dV s34 (o.fa 1 (.t s2))
(dV s35 (o.ld1 (.t s34))
(vM s36 s1
(dV s37 (o.sub (.t s35) (.t s36))
(dC (some s38) p51 [(.t s37)]
(dV s39 (o.add (.c (.str [102])) (.t s38))
(dV s40 (oCvB 5 (.t s39))
(vM s4 s40
dE)))))))))
dRet)) (dSeq (dOps (dV s42 (o.eql (.t s19) (.c (.int .i64 (.ofNat 2))))
(vM s41 s42
dE)))
(o.cond (.t s41) (dSeq (dOps (dV s43 (o.fa 4 (.t s2))
(dV s44 (o.ld1 (.t s43))
(dV s45 (o.ia 2 (.t s44) (.c (.int .i64 (.ofNat 0))))
(dV s46 (o.ldN 2 (.t s45))
(dC (some s47) p52 [(.t s46)]
(dV s48 (o.add (.c (.str [83,101,116,32])) (.t s47))
(dV s49 (oCvB 5 (.t s48))
(vM s4 s49
dE)))))))))
dRet) (dSeq (dSeq (dOps (dV s51 (o.eql (.t s19) (.c (.int .i64 (.ofNat 3))))
(vM s50 s51
dE)))
(o.cond (.t s50) dSkip (dSeq (dOps (dV s52 (o.eql (.t s19) (.c (.int .i64 (.ofNat 4))))
(vM s50 s52
dE)))
(o.cond (.t s50) dSkip (dOps (dV s53 (o.eql (.t s19) (.c (.int .i64 (.ofNat 6))))
(vM s50 s53
dE)))))))
(o.cond (.t s50) (dSeq (dOps (vC s6 (.str [40])
dE))
(dSeq (dOps (vC s7 (.str [41])
dE))
(dSeq (dSeq (dOps (dV s54 (o.fa 2 (.t s2))
(dV s55 (o.ld1 (.t s54))
(vM s56 s55
(o.g s56 true (some s57) (dV s57 (o.fa 0 (.t s2)))
(o.g s56 true (some s58) (dV s58 (o.ld1 (.t s57)))
(o.g s56 true (some s59) (dV s59 (o.neq (.t s58) (.c (.int .i64 (.ofNat 6)))))
(dV s60 (o.pick (.t s56) (.t s59) (.c (.bool false)))
dE))))))))
(o.cond (.t s60) (dSeq (dOps (vC s6 (.str [123])
dE))
(dOps (vC s7 (.str [125])
dE))) dSkip))
(dSeq (dOps (vC s8 (.str [])
dE))
(dSeq (dSeq (dOps (dV s61 (o.fa 0 (.t s2))
(dV s62 (o.ld1 (.t s61))
(dV s63 (o.eql (.t s62) (.c (.int .i64 (.ofNat 4))))
dE))))
(o.cond (.t s63) (dOps (vC s8 (.str [92])
dE)) dSkip))
(dSeq (dOps (vC s9 (.str [32,45,62,32])
dE))
(dSeq (dSeq (dOps (dV s64 (o.fa 0 (.t s2))
(dV s65 (o.ld1 (.t s64))
(dV s66 (o.eql (.t s65) (.c (.int .i64 (.ofNat 6))))
dE))))
(o.cond (.t s66) (dOps (vC s9 (.str [32,42,42,32])
dE)) dSkip))
(dSeq (dDraw (lM s67 s8
(lM s68 s6
(lN s69 (o.add (.t s67) (.t s68))
(lN s70 (o.add (.t s69) (.c (.str [120])))
(lM s71 s1
(lM s76 s5
(lN s77 (o.ia 6 (.t s76) (.c (.int .i64 (.ofNat 0))))
(lN s78 (o.ldN 6 (.t s77))
(lM s79 s1
(lE [] [(s78,(o.ldN 6 (.t s77)))] (some s72) (actC p51 [(.t s71)])
(lN s73 (o.add (.t s70) (.t s72))
(lN s74 (o.add (.t s73) (.c (.str [32,58,32])))
(lA 8 s75 (floatK (.cvB 5 (.t s74)))
(lE [] [] (some s80) (actC p34 [(.t s78),(.t s79)])
(lE [8] [] (some s81) (actV (oApp 5 1 (.t s75) (.t s80)))
(lM s10 s81
sEnd)))))))))))))))))
(dSeq (dDraw (lM s82 s10
(lM s83 s7
(lM s84 s9
(lN s85 (o.add (.t s83) (.t s84))
(lM s87 s5
(lN s88 (o.ia 6 (.t s87) (.c (.int .i64 (.ofNat 1))))
(lN s89 (o.ldN 6 (.t s88))
(lM s90 s1
(lN s91 (o.add (.t s90) (.c (.int .i64 (.ofNat 1))))
(lE [] [(s89,(o.ldN 6 (.t s88)))] (some s86) (actV (oApp 5 1 (.t s82) (.t s85)))
(lE [] [] (some s92) (actC p34 [(.t s89),(.t s91)])
(lE [] [] (some s93) (actV (oApp 5 1 (.t s86) (.t s92)))
(lM s4 s93
sEnd))))))))))))))
dRet))))))))) (dSeq (dOps (dV s95 (o.eql (.t s19) (.c (.int .i64 (.ofNat 5))))
(vM s94 s95
dE)))
(o.cond (.t s94) (dSeq (dOps (vM s96 s5
(dV s97 (o.ia 6 (.t s96) (.c (.int .i64 (.ofNat 0))))
(dV s98 (o.ldN 6 (.t s97))
(vM s99 s1
(dC (some s100) p53 [(.t s98),(.t s99),(.c (.bool true))]
(dV s101 (oBuildS 5 1 [(.int .u8 (.ofNat 0))] [(0,1,(.c (.int .u8 (.ofNat 32))))])
(dV s102 (oApp 5 1 (.t s100) (.t s101))
(vM s11 s102
dE)))))))))
(dSeq (dSeq (dOps (dV s103 (o.fa 2 (.t s2))
(dV s104 (o.ld1 (.t s103))
dE)))
(o.cond (.t s104) (dSeq (dDraw (lM s105 s11
(lA 1 s106 (floatK (.buildS 5 1 [(.int .u8 (.ofNat 0))] [(0,1,(.c (.int .u8 (.ofNat 123))))]))
(lM s108 s5
(lN s109 (o.ia 6 (.t s108) (.c (.int .i64 (.ofNat 1))))
(lN s110 (o.ldN 6 (.t s109))
(lM s111 s1
(lA 9 s114 (floatK (.buildS 5 1 [(.int .u8 (.ofNat 0))] [(0,1,(.c (.int .u8 (.ofNat 125))))]))
(lE [1] [(s110,(o.ldN 6 (.t s109)))] (some s107) (actV (oApp 5 1 (.t s105) (.t s106)))
(lE [1] [] (some s112) (actC p34 [(.t s110),(.t s111)])
(lE [1] [] (some s113) (actV (oApp 5 1 (.t s107) (.t s112)))
(lE [1,9] [] (some s115) (actV (oApp 5 1 (.t s113) (.t s114)))
(lM s4 s115
sEnd)))))))))))))
dRet) dSkip))
(dSeq (dOps (vM s116 s11
(vM s117 s5
(dV s118 (o.ia 6 (.t s117) (.c (.int .i64 (.ofNat 1))))
(dV s119 (o.ldN 6 (.t s118))
(vM s120 s1
(dC (some s121) p53 [(.t s119),(.t s120),(.c (.bool false))]
(dV s122 (oApp 5 1 (.t s116) (.t s121))
(vM s4 s122
dE)))))))))
dRet))) (dSeq (dOps (dV s124 (o.eql (.t s19) (.c (.int .i64 (.ofNat 7))))
(vM s123 s124
dE)))
(o.cond (.t s123) (dSeq (dOps (dV s125 (oBuildS 5 1 [(.int .u8 (.ofNat 0))] [(0,1,(.c (.int .u8 (.ofNat 60))))])
(vM s126 s5
(dV s127 (o.ia 6 (.t s126) (.c (.int .i64 (.ofNat 0))))
(dV s128 (o.ldN 6 (.t s127))
(vM s129 s1
(dC (some s130) p34 [(.t s128),(.t s129)]
(dV s131 (oApp 5 1 (.t s125) (.t s130))
(vM s12 s131
dE)))))))))
(dSeq (dDraw (lM s132 s12
(lM s134 s5
(lN s135 (o.ia 6 (.t s134) (.c (.int .i64 (.ofNat 1))))
(lN s136 (o.ldN 6 (.t s135))
(lM s137 s1
(lE [] [(s136,(o.ldN 6 (.t s135)))] (some s133) (actV (oApp 5 1 (.t s132) (.c (.str [32,124,32]))))
(lE [] [] (some s138) (actC p34 [(.t s136),(.t s137)])
(lE [] [] (some s139) (actV (oApp 5 1 (.t s133) (.t s138)))
(lE [] [] (some s12) (actV (oMv (.t s139)))
sEnd))))))))))
(dSeq (dDraw (lM s140 s12
(lM s142 s5
(lN s143 (o.ia 6 (.t s142) (.c (.int .i64 (.ofNat 2))))
(lN s144 (o.ldN 6 (.t s143))
(lM s145 s1
(lA 8 s148 (floatK (.buildS 5 1 [(.int .u8 (.ofNat 0))] [(0,1,(.c (.int .u8 (.ofNat 62))))]))
(lE [] [(s144,(o.ldN 6 (.t s143)))] (some s141) (actV (oApp 5 1 (.t s140) (.c (.str [32,124,32]))))
(lE [] [] (some s146) (actC p34 [(.t s144),(.t s145)])
(lE [] [] (some s147) (actV (oApp 5 1 (.t s141) (.t s146)))
(lE [8] [] (some s149) (actV (oApp 5 1 (.t s147) (.t s148)))
(lM s4 s149
sEnd))))))))))))
dRet))) (dSeq (dOps (dV s151 (o.eql (.t s19) (.c (.int .i64 (.ofNat 8))))
(vM s150 s151
dE)))
(o.cond (.t s150) (dSeq (dOps (dV s152 (oBuildS 5 4 [(.int .u8 (.ofNat 0)),(.int .u8 (.ofNat 0)),(.int .u8 (.ofNat 0)),(.int .u8 (.ofNat 0))] [(0,1,(.c (.int .u8 (.ofNat 102)))),(1,1,(.c (.int .u8 (.ofNat 115)))),(2,1,(.c (.int .u8 (.ofNat 116)))),(3,1,(.c (.int .u8 (.ofNat 32))))])
(dV s153 (oCvB 5 (.t s152))
(vM s154 s5
(dV s155 (o.ia 6 (.t s154) (.c (.int .i64 (.ofNat 0))))
(dV s156 (o.ldN 6 (.t s155))
(vM s157 s1
(dC (some s158) p53 [(.t s156),(.t s157),(.c (.bool false))]
(dV s159 (oApp 5 1 (.t s153) (.t s158))
(vM s4 s159
dE))))))))))
dRet) (dSeq (dOps (dV s161 (o.eql (.t s19) (.c (.int .i64 (.ofNat 9))))
(vM s160 s161
dE)))
(o.cond (.t s160) (dSeq (dOps (dV s162 (oBuildS 5 4 [(.int .u8 (.ofNat 0)),(.int .u8 (.ofNat 0)),(.int .u8 (.ofNat 0)),(.int .u8 (.ofNat 0))] [(0,1,(.c (.int .u8 (.ofNat 115)))),(1,1,(.c (.int .u8 (.ofNat 110)))),(2,1,(.c (.int .u8 (.ofNat 100)))),(3,1,(.c (.int .u8 (.ofNat 32))))])
(dV s163 (oCvB 5 (.t s162))
(vM s164 s5
(dV s165 (o.ia 6 (.t s164) (.c (.int .i64 (.ofNat 0))))
(dV s166 (o.ldN 6 (.t s165))
(vM s167 s1
(dC (some s168) p53 [(.t s166),(.t s167),(.c (.bool false))]
(dV s169 (oApp 5 1 (.t s163) (.t s168))
(vM s4 s169
dE))))))))))
dRet) (dSeq (dOps (dV s171 (o.eql (.t s19) (.c (.int .i64 (.ofNat 11))))
(vM s170 s171
dE)))
(o.cond (.t s170) (dSeq (dOps (dV s172 (o.fa 1 (.t s2))
(dV s173 (o.ld1 (.t s172))
(dC (some s174) p51 [(.t s173)]
(dV s175 (o.add (.c (.str [63])) (.t s174))
(dV s176 (oCvB 5 (.t s175))
(vM s4 s176
dE)))))))
dRet) dSkip))))))))))))))))))
(dSeq (dOps (dV s177 (o.fa 3 (.t s2))
(dV s178 (o.ld1 (.t s177))
(dC (some s179) p54 [(.t s178)]
(vM s13 s179
dE)))))
(dSeq (dSeq (dOps (dV s180 (o.fa 4 (.t s2))
(dV s181 (o.ld1 (.t s180))
(dV s182 (o.len (.t s181))
(dV s183 (o.gtr (.t s182) (.c (.int .i64 (.ofNat 0))))
dE)))))
(o.cond (.t s183) (dSeq (dOps (vC s14 .nils
dE))
(dSeq (dSeq (dOps (vC s15 (.int .i64 (.ofNat 0))
dE))
(dBlock 1 (dLoop (dSeq (dSeq (dOps (vM s184 s15
(dV s185 (o.fa 4 (.t s2))
(dV s186 (o.ld1 (.t s185))
(dV s187 (o.len (.t s186))
(dV s188 (o.lss (.t s184) (.t s187))
dE))))))
(o.cond (.t s188) dSkip (dExit 1)))
(dSeq (dBlock 2 (dOps (vM s191 s14
(dV s192 (o.fa 4 (.t s2))
(dV s193 (o.ld1 (.t s192))
(vM s194 s15
(dV s195 (o.ia 2 (.t s193) (.t s194))
(dV s196 (o.ldN 2 (.t s195))
(dC (some s197) p52 [(.t s196)]
(dV s198 (oBuildS 9 1 [(.str [])] [(0,1,(.t s197))])
(dV s199 (oApp 9 1 (.t s191) (.t s198))
(vM s14 s199
dE))))))))))))
(dOps (vM s189 s15
(dV s190 (o.add (.t s189) (.c (.int .i64 (.ofNat 1))))
(vM s15 s190
dE)))))))))
(dOps (vM s200 s13
(dV s201 (o.add (.t s200) (.c (.str [64,40])))
(vM s202 s14
(dC (some s203) p55 [(.t s202)]
(dV s204 (o.add (.t s201) (.t s203))
(dV s205 (o.add (.t s204) (.c (.str [41])))
(vM s13 s205
dE)))))))))) dSkip))
(dSeq (dOps (vM s206 s13
(dV s207 (oCvB 5 (.t s206))
(vM s4 s207
dE))))
dRet)))))),[(.t s4)]⟩
def af34:AF:=afG34 fastO
def afG35 (o:Ops):AF:=⟨(dSeq (dOps (dV s1 (oBox 30 (.t s0))
(vC s2 (.bool false)
dE)))
(dSeq (dOps (dV s3 (o.ldN 6 (.t s1))
(dC (some s4) p56 [(.t s3),(.c (.int .i64 (.ofNat 3000))),(.c (.int .i64 (.ofNat 0)))]
(dV s5 (o.gtr (.t s4) (.c (.int .i64 (.ofNat 3000))))
(vM s2 s5
dE)))))
dRet)),[(.t s2)]⟩
def af35:AF:=afG35 fastO
def afG36 (o:Ops):AF:=⟨(dSeq (dOps (vC s2 .nilp
dE))
(dSeq (dSeq (dOps (vM s3 s0
(dV s4 (o.eqp false (.t s3) (.c .nilp))
dE)))
(o.cond (.t s4) (dSeq (dOps (dC (some s5) p22 []
(vM s2 s5
dE)))
dRet) dSkip))
(dSeq (dOps (vM s6 s0
(vM s2 s6
dE)))
dRet))),[(.t s2)]⟩
def af36:AF:=afG36 fastO
def afG37 (o:Ops):AF:=⟨(dSeq (dOps (dV s3 (oBox 33 (.t s1))
(dV s4 (oNew [(.int .i64 (.ofNat 0)),(.str []),(.int .i64 (.ofNat 0)),(.int .i64 (.ofNat 0)),(.int .i64 (.ofNat 0)),(.bool false),(.str []),.nils,.nils,(.int .i64 (.ofNat 0)),(.int .i64 (.ofNat 0)),(.bool false),(.str []),.nils,.nils,(.int .i64 (.ofNat 0)),.nils] 33)
(dV s5 (oNew [.nilm] 90)
(vC s6 (.int .i64 (.ofNat 0))
dE)))))
(dSeq (dSeq (dOps (dV s9 (o.ldN 17 (.t s3))
(dV s10 (oBuildS 33 1 [(.int .i64 (.ofNat 0)),(.str []),(.int .i64 (.ofNat 0)),(.int .i64 (.ofNat 0)),(.int .i64 (.ofNat 0)),(.bool false),(.str []),.nils,.nils,(.int .i64 (.ofNat 0)),(.int .i64 (.ofNat 0)),(.bool false),(.str []),.nils,.nils,(.int .i64 (.ofNat 0)),.nils] [(0,17,(.t s9))])
(dC (some s11) p57 [(.t s10)]
(vM s8 s11
(dV s12 (o.ext (.t s8) 0)
(dV s13 (o.ext (.t s8) 1)
(vM s6 s13
dE))))))))
(dSeq (dOps (vM s14 s6
(dV s15 (o.neq (.t s14) (.c (.int .i64 (.ofNat 0))))
dE)))
(o.cond (.t s15) (dSeq (dDraw (lN s16 (o.ldN 17 (.t s4))
(lN s17 (o.ldN 1 (.t s5))
(lM s18 s6
(lE [] [(s17,(o.ldN 1 (.t s5)))] none (actV (oSt 17 (.t s4) (.t s16)))
(lE [] [] none (actV (o.st1 (.t s5) (.t s17)))
(lE [] [] (some s6) (actV (oMv (.t s18)))
sEnd)))))))
dRet) dSkip)))
(dSeq (dOps (dV s19 (o.ldN 17 (.t s3))
(dC (some s20) p58 [(.t s19)]
(dU (oSt 17 (.t s4) (.t s20))
dE))))
(dSeq (dSeq (dOps (dV s21 (o.ldN 17 (.t s4))
(dC (some s22) p60 [(.t s21)]
(dC (some s23) p59 [(.t s22),(.c (.fn (.func 61) [] []))]
dE))))
(o.cond (.t s23) (dSeq (dDraw (lN s24 (o.ldN 17 (.t s4))
(lN s25 (o.ldN 1 (.t s5))
(lE [] [(s25,(o.ldN 1 (.t s5)))] none (actV (oSt 17 (.t s4) (.t s24)))
(lE [] [] none (actV (o.st1 (.t s5) (.t s25)))
(lC s6 (.int .i64 (.ofNat 11))
sEnd))))))
dRet) dSkip))
(dSeq (dSeq (dOps (vM s26 s0
(dV s27 (o.nchk (.t s26))
(dV s28 (o.fa 0 (.t s27))
(dV s29 (o.ld1 (.t s28))
(dV s30 (o.len (.t s29))
(dV s31 (o.geq (.t s30) (.c (.int .i64 (.ofNat 500))))
dE)))))))
(o.cond (.t s31) (dSeq (dDraw (lN s32 (o.ldN 17 (.t s4))
(lN s33 (o.ldN 1 (.t s5))
(lE [] [(s33,(o.ldN 1 (.t s5)))] none (actV (oSt 17 (.t s4) (.t s32)))
(lE [] [] none (actV (o.st1 (.t s5) (.t s33)))
(lC s6 (.int .i64 (.ofNat 2))
sEnd))))))
dRet) dSkip))
(dSeq (dDraw (lN s35 (o.ldN 17 (.t s4))
(lM s36 s0
(lN s37 (o.nchk (.t s36))
(lN s38 (o.fa 0 (.t s37))
(lN s39 (o.ld1 (.t s38))
(lN s40 (o.len (.t s39))
(lE [] [] (some s41) (actC p62 [(.t s35),(.t s40)])
(lM s34 s41
(lN s42 (o.ext (.t s34) 0)
(lN s43 (o.ext (.t s34) 1)
(lE [] [] none (actV (o.st1 (.t s5) (.t s42)))
(lM s7 s43
sEnd)))))))))))))
(dSeq (dSeq (dDraw (lM s44 s7
(lN s45 (o.not (.t s44))
(lM s46 s45
(lG s46 false s47 (oMv (.t s0))
(lG s46 false s48 (o.nchk (.t s47))
(lG s46 false s49 (o.fa 1 (.t s48))
(lG s46 false s50 (o.ldN 1 (.t s5))
(lE [] [] (some s51) (eK ⟨(some s51),(.call p63 [(.t s49),(.t s50)]),(some (s46,false))⟩)
(lN s52 (o.pick (.t s46) (.c (.bool true)) (.t s51))
sEnd))))))))))
(o.cond (.t s52) (dSeq (dDraw (lN s53 (o.ldN 17 (.t s4))
(lN s54 (o.ldN 1 (.t s5))
(lE [] [(s54,(o.ldN 1 (.t s5)))] none (actV (oSt 17 (.t s4) (.t s53)))
(lE [] [] none (actV (o.st1 (.t s5) (.t s54)))
(lC s6 (.int .i64 (.ofNat 20))
sEnd))))))
dRet) dSkip))
(dSeq (dDraw (lN s55 (o.ldN 17 (.t s4))
(lN s56 (o.ldN 1 (.t s5))
(lE [] [(s56,(o.ldN 1 (.t s5)))] none (actV (oSt 17 (.t s4) (.t s55)))
(lE [] [] none (actV (o.st1 (.t s5) (.t s56)))
(lC s6 (.int .i64 (.ofNat 0))
sEnd))))))
dRet)))))))),[(.cN s4 17),(.cN s5 1),(.t s6)]⟩
def af37:AF:=afG37 fastO
def afG39 (o:Ops):AF:=⟨(dSeq (dOps (dV s3 (oBox 33 (.t s1))
(vC s4 (.int .i64 (.ofNat 0))
dE)))
(dSeq (dOps (dV s13 (o.ldN 17 (.t s3))
(dC (some s14) p65 [(.t s13)]
(vM s5 s14
dE))))
(dSeq (dSeq (dOps (vM s15 s5
(dV s16 (o.neq (.t s15) (.c (.int .i64 (.ofNat 0))))
dE)))
(o.cond (.t s16) (dSeq (dOps (vM s17 s5
(vM s4 s17
dE)))
dRet) dSkip))
(dSeq (dOps (dV s19 (o.ldN 17 (.t s3))
(dV s20 (oBuildS 33 1 [(.int .i64 (.ofNat 0)),(.str []),(.int .i64 (.ofNat 0)),(.int .i64 (.ofNat 0)),(.int .i64 (.ofNat 0)),(.bool false),(.str []),.nils,.nils,(.int .i64 (.ofNat 0)),(.int .i64 (.ofNat 0)),(.bool false),(.str []),.nils,.nils,(.int .i64 (.ofNat 0)),.nils] [(0,17,(.t s19))])
(dC (some s21) p66 [(.t s20)]
(vM s18 s21
(dV s22 (o.ext (.t s18) 0)
(dV s23 (o.ext (.t s18) 1)
(vM s5 s23
dE))))))))
(dSeq (dSeq (dOps (vM s24 s5
(dV s25 (o.neq (.t s24) (.c (.int .i64 (.ofNat 0))))
dE)))
(o.cond (.t s25) (dSeq (dOps (vM s26 s5
(vM s4 s26
dE)))
dRet) dSkip))
(dSeq (dOps (dV s27 (o.fa 3 (.t s3))
(dV s28 (o.ldN 6 (.t s27))
(dC (some s29) p67 [(.t s28)]
(dV s30 (o.gtr (.t s29) (.c (.int .i64 (.ofNat 0))))
(vM s31 s30
(o.g s31 false (some s32) (dV s32 (o.fa 0 (.t s3)))
(o.g s31 false (some s33) (dV s33 (o.ld1 (.t s32)))
(o.g s31 false (some s34) (dV s34 (o.eql (.t s33) (.c (.int .i64 (.ofNat 2)))))
(o.g s31 false (some s35) (vM s35 s34)
(o.g s35 true (some s36) (dV s36 (o.fa 9 (.t s3)))
(o.g s35 true (some s37) (dV s37 (o.ldN 6 (.t s36)))
(o.g s35 true (some s38) (dC (some s38) p67 [(.t s37)])
(o.g s35 true (some s39) (dV s39 (o.gtr (.t s38) (.c (.int .i64 (.ofNat 0)))))
(o.g s31 false (some s40) (dV s40 (o.pick (.t s35) (.t s39) (.c (.bool false))))
(dV s41 (o.pick (.t s31) (.c (.bool true)) (.t s40))
(vM s6 s41
dE)))))))))))))))))
(dSeq (dSeq (dOps (vC s7 (.int .i64 (.ofNat 0))
dE))
(dBlock 0 (dLoop (dSeq (dSeq (dOps (vM s42 s7
(dV s43 (o.fa 16 (.t s3))
(dV s44 (o.ld1 (.t s43))
(dV s45 (o.len (.t s44))
(dV s46 (o.lss (.t s42) (.t s45))
(vM s47 s46
(o.g s47 true (some s48) (dV s48 (o.fa 0 (.t s3)))
(o.g s47 true (some s49) (dV s49 (o.ld1 (.t s48)))
(o.g s47 true (some s50) (dV s50 (o.eql (.t s49) (.c (.int .i64 (.ofNat 3)))))
(dV s51 (o.pick (.t s47) (.t s50) (.c (.bool false)))
dE)))))))))))
(o.cond (.t s51) dSkip (dExit 0)))
(dSeq (dBlock 1 (dOps (vM s54 s6
(vM s55 s54
(o.g s55 false (some s56) (dV s56 (o.fa 16 (.t s3)))
(o.g s55 false (some s57) (dV s57 (o.ld1 (.t s56)))
(o.g s55 false (some s58) (vM s58 s7)
(o.g s55 false (some s59) (dV s59 (o.ia 7 (.t s57) (.t s58)))
(o.g s55 false (some s60) (dV s60 (o.fa 1 (.t s59)))
(o.g s55 false (some s61) (dV s61 (o.ldN 6 (.t s60)))
(o.g s55 false (some s62) (dC (some s62) p67 [(.t s61)])
(o.g s55 false (some s63) (dV s63 (o.gtr (.t s62) (.c (.int .i64 (.ofNat 0)))))
(dV s64 (o.pick (.t s55) (.c (.bool true)) (.t s63))
(vM s6 s64
dE))))))))))))))
(dOps (vM s52 s7
(dV s53 (o.add (.t s52) (.c (.int .i64 (.ofNat 1))))
(vM s7 s53
dE)))))))))
(dSeq (dSeq (dOps (vM s65 s6
dE))
(o.cond (.t s65) (dSeq (dOps (vC s4 (.int .i64 (.ofNat 11))
dE))
dRet) dSkip))
(dSeq (dSeq (dOps (vM s66 s0
(dV s67 (o.nchk (.t s66))
(dV s68 (o.fa 0 (.t s67))
(dV s69 (o.ld1 (.t s68))
(dV s70 (o.len (.t s69))
(dV s71 (o.geq (.t s70) (.c (.int .i64 (.ofNat 500))))
dE)))))))
(o.cond (.t s71) (dSeq (dOps (vC s4 (.int .i64 (.ofNat 2))
dE))
dRet) dSkip))
(dSeq (dOps (dV s72 (o.ldN 17 (.t s3))
(dC (some s73) p68 [(.t s72)]
(vM s8 s73
dE))))
(dSeq (dSeq (dOps (vC s9 (.int .i64 (.ofNat 0))
dE))
(dBlock 2 (dLoop (dSeq (dSeq (dOps (vM s74 s9
(vM s75 s8
(dV s76 (o.len (.t s75))
(dV s77 (o.lss (.t s74) (.t s76))
dE)))))
(o.cond (.t s77) dSkip (dExit 2)))
(dSeq (dBlock 3 (dSeq (dOps (vM s81 s0
(vM s82 s8
(vM s83 s9
(dV s84 (o.ia 1 (.t s82) (.t s83))
(dV s85 (o.ld1 (.t s84))
(dC (some s86) p69 [(.t s81),(.t s85)]
(vM s80 s86
(dV s87 (o.ext (.t s80) 0)
(dV s88 (o.ext (.t s80) 1)
(dV s10 (oNew [(.int .i64 (.ofNat 0)),(.str []),(.int .i64 (.ofNat 0)),(.int .i64 (.ofNat 0)),(.int .i64 (.ofNat 0)),(.bool false),(.str []),.nils,.nils,(.int .i64 (.ofNat 0)),(.int .i64 (.ofNat 0)),(.bool false),(.str []),.nils,.nils,(.int .i64 (.ofNat 0)),.nils] 33)
(dU (oSt 17 (.t s10) (.t s87))
(vM s11 s88
dE)))))))))))))
(dSeq (dSeq (dOps (vM s89 s11
(dV s90 (o.neq (.t s89) (.c (.int .i64 (.ofNat 0))))
dE)))
(o.cond (.t s90) (dSeq (dOps (vC s4 (.int .i64 (.ofNat 20))
dE))
dRet) dSkip))
(dSeq (dOps (vC s12 (.int .i64 (.ofNat 0))
dE))
(dBlock 4 (dLoop (dSeq (dSeq (dOps (vM s91 s12
(vM s92 s9
(dV s93 (o.lss (.t s91) (.t s92))
dE))))
(o.cond (.t s93) dSkip (dExit 4)))
(dSeq (dBlock 5 (dSeq (dDraw (lM s96 s8
(lM s97 s9
(lN s98 (o.ia 1 (.t s96) (.t s97))
(lN s99 (o.ld1 (.t s98))
(lM s100 s8
(lM s101 s12
(lN s102 (o.ia 1 (.t s100) (.t s101))
(lN s103 (o.ld1 (.t s102))
(lN s104 (o.eql (.t s99) (.t s103))
sEnd))))))))))
(o.cond (.t s104) (dSeq (dOps (vC s4 (.int .i64 (.ofNat 20))
dE))
dRet) dSkip)))
(dOps (vM s94 s12
(dV s95 (o.add (.t s94) (.c (.int .i64 (.ofNat 1))))
(vM s12 s95
dE))))))))))))
(dOps (vM s78 s9
(dV s79 (o.add (.t s78) (.c (.int .i64 (.ofNat 1))))
(vM s9 s79
dE)))))))))
(dSeq (dOps (vC s4 (.int .i64 (.ofNat 0))
dE))
dRet)))))))))))),[(.t s4)]⟩
def af39:AF:=afG39 fastO
def afG40 (o:Ops):AF:=⟨(dSeq (dOps (dV s1 (oBox 33 (.t s0))
(dV s2 (oNew [(.int .i64 (.ofNat 0)),(.str []),(.int .i64 (.ofNat 0)),(.int .i64 (.ofNat 0)),(.int .i64 (.ofNat 0)),(.bool false),(.str []),.nils,.nils,(.int .i64 (.ofNat 0)),(.int .i64 (.ofNat 0)),(.bool false),(.str []),.nils,.nils,(.int .i64 (.ofNat 0)),.nils] 33)
dE)))
(dSeq (dDraw (lN s5 (o.fa 0 (.t s1))
(lN s6 (o.ld1 (.t s5))
(lN s7 (o.fa 1 (.t s1))
(lN s8 (o.ld1 (.t s7))
(lN s9 (o.fa 2 (.t s1))
(lN s10 (o.ld1 (.t s9))
(lN s11 (o.fa 3 (.t s1))
(lN s12 (o.ldN 6 (.t s11))
(lA 10 s3 (aNew [(.int .i64 (.ofNat 0)),(.str []),(.int .i64 (.ofNat 0)),(.int .i64 (.ofNat 0)),(.int .i64 (.ofNat 0)),(.bool false),(.str []),.nils,.nils,(.int .i64 (.ofNat 0)),(.int .i64 (.ofNat 0)),(.bool false),(.str []),.nils,.nils,(.int .i64 (.ofNat 0)),.nils] 33)
(lE [] [(s6,(o.ld1 (.t s5))),(s8,(o.ld1 (.t s7))),(s10,(o.ld1 (.t s9)))] (some s13) (actC p70 [(.t s12)])
(lN s14 (oBuild [(.int .i64 (.ofNat 0)),(.str []),(.int .i64 (.ofNat 0)),(.int .i64 (.ofNat 0)),(.int .i64 (.ofNat 0)),(.bool false),(.str []),.nils,.nils,(.int .i64 (.ofNat 0)),(.int .i64 (.ofNat 0)),(.bool false),(.str []),.nils,.nils,(.int .i64 (.ofNat 0)),.nils] [(0,1,(.t s6)),(1,1,(.t s8)),(2,1,(.t s10)),(3,6,(.t s13))])
(lE [10] [] none (actV (oSt 17 (.t s3) (.t s14)))
sEnd)))))))))))))
(dSeq (dSeq (dOps (dV s15 (o.fa 0 (.t s1))
(dV s16 (o.ld1 (.t s15))
(dV s17 (o.eql (.t s16) (.c (.int .i64 (.ofNat 2))))
dE))))
(o.cond (.t s17) (dOps (dV s18 (o.fa 9 (.t s1))
(dV s19 (o.ldN 6 (.t s18))
(dC (some s20) p70 [(.t s19)]
(dV s21 (o.fa 9 (.t s3))
(dU (oSt 6 (.t s21) (.t s20))
dE)))))) dSkip))
(dSeq (dSeq (dOps (dV s22 (o.fa 0 (.t s1))
(dV s23 (o.ld1 (.t s22))
(dV s24 (o.eql (.t s23) (.c (.int .i64 (.ofNat 3))))
dE))))
(o.cond (.t s24) (dSeq (dOps (dV s25 (o.fa 15 (.t s1))
(dV s26 (o.ld1 (.t s25))
(dV s27 (o.fa 15 (.t s3))
(dU (o.st1 (.t s27) (.t s26))
dE)))))
(dSeq (dOps (vC s4 (.int .i64 (.ofNat 0))
dE))
(dBlock 0 (dLoop (dSeq (dSeq (dOps (vM s28 s4
(dV s29 (o.fa 16 (.t s1))
(dV s30 (o.ld1 (.t s29))
(dV s31 (o.len (.t s30))
(dV s32 (o.lss (.t s28) (.t s31))
dE))))))
(o.cond (.t s32) dSkip (dExit 0)))
(dSeq (dBlock 1 (dDraw (lN s35 (o.fa 16 (.t s3))
(lN s36 (o.ld1 (.t s35))
(lN s37 (o.fa 16 (.t s1))
(lN s38 (o.ld1 (.t s37))
(lM s39 s4
(lN s40 (o.ia 7 (.t s38) (.t s39))
(lN s41 (o.fa 0 (.t s40))
(lN s42 (o.ld1 (.t s41))
(lN s43 (o.fa 16 (.t s1))
(lN s44 (o.ld1 (.t s43))
(lM s45 s4
(lN s46 (o.ia 7 (.t s44) (.t s45))
(lN s47 (o.fa 1 (.t s46))
(lN s48 (o.ldN 6 (.t s47))
(lE [] [(s36,(o.ld1 (.t s35))),(s38,(o.ld1 (.t s37))),(s42,(o.ld1 (.t s41)))] (some s49) (actC p70 [(.t s48)])
(lN s50 (oBuild [(.str []),(.int .i64 (.ofNat 0)),(.int .i64 (.ofNat 0)),(.bool false),(.str []),.nils,.nils] [(0,1,(.t s42)),(1,6,(.t s49))])
(lA 16 s51 (floatK (.buildS 61 1 [(.str []),(.int .i64 (.ofNat 0)),(.int .i64 (.ofNat 0)),(.bool false),(.str []),.nils,.nils] [(0,7,(.t s50))]))
(lE [16] [] (some s52) (actV (oApp 61 7 (.t s36) (.t s51)))
(lN s53 (o.fa 16 (.t s3))
(lE [16] [] none (actV (o.st1 (.t s53) (.t s52)))
sEnd))))))))))))))))))))))
(dOps (vM s33 s4
(dV s34 (o.add (.t s33) (.c (.int .i64 (.ofNat 1))))
(vM s4 s34
dE)))))))))) dSkip))
(dSeq (dOps (dV s54 (o.ldN 17 (.t s3))
(dU (oSt 17 (.t s2) (.t s54))
dE)))
dRet))))),[(.cN s2 17)]⟩
def af40:AF:=afG40 fastO
def afG41 (o:Ops):AF:=⟨(dSeq (dOps (dV s1 (oBox 30 (.t s0))
(vC s2 (.int .i64 (.ofNat 0))
dE)))
(dSeq (dSeq (dOps (dV s8 (o.ldN 6 (.t s1))
(dC (some s9) p71 [(.t s8),(.c (.int .i64 (.ofNat 20000))),(.c (.int .i64 (.ofNat 500)))]
(vM s7 s9
(dV s10 (o.ext (.t s7) 0)
(dV s11 (o.ext (.t s7) 1)
(vM s3 s10
(vM s4 s11
dE))))))))
(dSeq (dOps (vM s12 s4
(dV s13 (o.neq (.t s12) (.c (.int .i64 (.ofNat 0))))
dE)))
(o.cond (.t s13) (dSeq (dOps (vM s14 s4
(vM s2 s14
dE)))
dRet) dSkip)))
(dSeq (dOps (dV s16 (o.ldN 6 (.t s1))
(dV s17 (oBuild [(.int .i64 (.ofNat 0)),(.int .i64 (.ofNat 0))] [])
(dC (some s18) p72 [(.t s16),(.t s17),(.c (.fn (.func 73) [] [])),(.c (.fn (.func 74) [] []))]
(vM s15 s18
(dV s19 (o.ext (.t s15) 0)
(dV s20 (o.ext (.t s15) 1)
(vM s5 s19
(vM s6 s20
dE)))))))))
(dSeq (dOps (vM s21 s6
(vM s2 s21
dE)))
dRet)))),[(.t s2)]⟩
def af41:AF:=afG41 fastO
def afG42 (o:Ops):AF:=⟨(dSeq (dOps (dV s6 (oNew [.nilp,.nilp,(.int .i64 (.ofNat 0)),.nilp] 77)
dE))
(dSeq (dOps (vM s7 s0
(vM s8 s1
(vM s9 s2
(dC (some s10) p75 [(.t s7),(.t s8),(.t s9)]
(dV s11 (oBuild [.nilp,.nilp,(.int .i64 (.ofNat 0)),.nilp] [(0,1,(.t s10))])
(dU (oSt 4 (.t s6) (.t s11))
dE)))))))
dRet)),[(.cN s6 4)]⟩
def af42:AF:=afG42 fastO
def afG43 (o:Ops):AF:=⟨(dSeq (dOps (dV s2 (oBox 77 (.t s0))
(dV s3 (oBox 30 (.t s1))
(dV s4 (oNew [.nilp,.nilp,(.int .i64 (.ofNat 0)),.nilp] 77)
dE))))
(dSeq (dDraw (lN s5 (o.fa 0 (.t s2))
(lN s6 (o.ld1 (.t s5))
(lN s7 (o.fa 1 (.t s2))
(lN s8 (o.ldN 3 (.t s7))
(lN s9 (o.ldN 6 (.t s3))
(lE [] [(s6,(o.ld1 (.t s5)))] (some s10) (actC p76 [(.t s8),(.t s9)])
(lN s11 (oBuild [.nilp,.nilp,(.int .i64 (.ofNat 0)),.nilp] [(0,1,(.t s6)),(1,3,(.t s10))])
(lE [] [] none (actV (oSt 4 (.t s4) (.t s11)))
sEnd)))))))))
dRet)),[(.cN s4 4)]⟩
def af43:AF:=afG43 fastO
def afG44 (o:Ops):AF:=⟨(dSeq (dOps (dV s2 (oBox 77 (.t s0))
(dV s3 (oBox 30 (.t s1))
(dV s4 (oNew [.nilp,.nilp,(.int .i64 (.ofNat 0)),.nilp,.nilp] 109)
dE))))
(dSeq (dDraw (lN s5 (o.fa 0 (.t s2))
(lN s6 (o.ld1 (.t s5))
(lN s7 (o.fa 1 (.t s2))
(lN s8 (o.ldN 3 (.t s7))
(lN s9 (o.fa 1 (.t s2))
(lN s10 (o.fa 0 (.t s9))
(lN s11 (o.ldN 2 (.t s10))
(lN s12 (o.ldN 6 (.t s3))
(lE [] [(s6,(o.ld1 (.t s5))),(s8,(o.ldN 3 (.t s7)))] (some s13) (actC p77 [(.t s11),(.t s12)])
(lN s14 (oBuild [.nilp,.nilp,(.int .i64 (.ofNat 0)),.nilp,.nilp] [(0,1,(.t s6)),(1,3,(.t s8)),(4,1,(.t s13))])
(lE [] [] none (actV (oSt 5 (.t s4) (.t s14)))
sEnd))))))))))))
dRet)),[(.cN s4 5)]⟩
def af44:AF:=afG44 fastO
def afG45 (o:Ops):AF:=⟨(dSeq (dOps (dV s1 (oBox 109 (.t s0))
(dV s2 (oNew [.nilp] 104)
(vC s3 .nili
dE))))
(dSeq (dOps (dV s7 (o.fa 4 (.t s1))
(dV s8 (o.ldN 1 (.t s7))
(dC (some s9) p78 [(.t s8)]
(dV s10 (o.fld1 0 (.t s9))
(vM s4 s10
dE))))))
(dSeq (dDraw (lN s12 (o.fa 0 (.t s1))
(lN s13 (o.ld1 (.t s12))
(lM s14 s4
(lN s15 (o.nchk (.t s13))
(lN s16 (o.fa 5 (.t s15))
(lN s17 (o.iaA 12 1 (.t s16) (.t s14))
(lN s18 (o.ld1 (.t s17))
(lN s19 (o.ldN 5 (.t s1))
(lA 12 s5 (aNew [.nilp] 104)
(lE [] [] (some s20) (eK ⟨(some s20),(.callv (.t s18) [(.t s19)]),none⟩)
(lM s11 s20
(lN s21 (o.ext (.t s11) 0)
(lN s22 (o.ext (.t s11) 1)
(lE [12] [] none (actV (o.st1 (.t s5) (.t s21)))
(lM s6 s22
sEnd))))))))))))))))
(dSeq (dSeq (dOps (vM s23 s6
(dV s24 (oEq .i false (.t s23) (.c .nili))
dE)))
(o.cond (.t s24) (dOps (dV s25 (o.ldN 5 (.t s1))
(dV s26 (o.ldN 1 (.t s5))
(dC (some s27) p79 [(.t s25),(.t s26)]
(vM s6 s27
dE))))) dSkip))
(dSeq (dSeq (dOps (vM s28 s6
(dV s29 (oEq .i true (.t s28) (.c .nili))
dE)))
(o.cond (.t s29) (dSeq (dOps (dV s30 (oBuild [.nilp] [])
(vM s31 s4
(vM s32 s6
(dV s33 (oBuild [(.int .i64 (.ofNat 0)),.nili] [(0,1,(.t s31)),(1,1,(.t s32))])
(dV s34 (oMki 160 (.t s33))
(dU (o.st1 (.t s2) (.t s30))
(vM s3 s34
dE))))))))
dRet) dSkip))
(dSeq (dOps (dV s35 (o.ldN 1 (.t s5))
(dU (o.st1 (.t s2) (.t s35))
(vC s3 .nili
dE))))
dRet)))))),[(.cN s2 1),(.t s3)]⟩
def af45:AF:=afG45 fastO
def afG46 (o:Ops):AF:=⟨(dSeq (dOps (vC s2 (.int .i64 (.ofNat 0))
dE))
(dSeq (dSeq (dOps (vM s4 s0
(dV s5 (oEq .i false (.t s4) (.c .nili))
dE)))
(o.cond (.t s5) (dSeq (dOps (vC s2 (.int .i64 (.ofNat 0))
dE))
dRet) dSkip))
(dSeq (dOps (dV s6 (oBuild [(.int .i64 (.ofNat 0))] [(0,1,(.c (.int .i64 (.ofNat 10))))])
(dV s3 (oNew [(.int .i64 (.ofNat 0))] 162)
(dU (o.st1 (.t s3) (.t s6))
dE))))
(dSeq (dOps (vM s7 s0
(dV s8 (oMki 164 (.t s3))
(dC (some s9) p80 [(.t s7),(.t s8)]
dE))))
(dSeq (dOps (dV s10 (o.fa 0 (.t s3))
(dV s11 (o.ld1 (.t s10))
(vM s2 s11
dE))))
dRet))))),[(.t s2)]⟩
def af46:AF:=afG46 fastO
def afG47 (o:Ops):AF:=⟨(dSeq (dOps (dV s2 (oBox 104 (.t s0))
(dV s4 (oNew [(.int .i64 (.ofNat 0)),(.int .i64 (.ofNat 0)),(.bool false),(.str []),.nils,.nils] 30)
dE)))
(dSeq (dDraw (lN s5 (o.fa 0 (.t s2))
(lN s6 (o.ld1 (.t s5))
(lN s7 (o.nchk (.t s6))
(lN s8 (o.fa 0 (.t s7))
(lN s9 (o.ldN 3 (.t s8))
(lN s10 (o.fa 0 (.t s2))
(lN s11 (o.ld1 (.t s10))
(lN s12 (o.nchk (.t s11))
(lN s13 (o.fa 0 (.t s12))
(lN s14 (o.fa 2 (.t s13))
(lN s15 (o.ld1 (.t s14))
(lM s16 s1
(lE [] [] (some s17) (actC p81 [(.t s9),(.t s15),(.c (.int .i64 (.ofNat 0))),(.t s16)])
(lE [] [] none (actV (oSt 6 (.t s4) (.t s17)))
sEnd)))))))))))))))
dRet)),[(.cN s4 6)]⟩
def af47:AF:=afG47 fastO
def afG48 (o:Ops):AF:=⟨(dSeq (dOps (dV s1 (oBox 70 (.t s0))
(vC s2 (.int .i64 (.ofNat 0))
dE)))
(dSeq (dOps (dV s3 (o.fa 0 (.t s1))
(dV s4 (o.fa 1 (.t s3))
(dV s5 (o.ld1 (.t s4))
(vM s2 s5
dE)))))
dRet)),[(.t s2)]⟩
def af48:AF:=afG48 fastO
def afG49 (o:Ops):AF:=⟨(dSeq (dOps (dV s1 (oBox 30 (.t s0))
(vC s2 (.int .i64 (.ofNat 0))
dE)))
(dSeq (dOps (dV s7 (o.ldN 6 (.t s1))
(dC (some s8) p82 [(.t s7),(.c (.int .i64 (.ofNat 20000))),(.c (.int .i64 (.ofNat 500)))]
(vM s6 s8
(dV s9 (o.ext (.t s6) 0)
(dV s10 (o.ext (.t s6) 1)
(vM s3 s9
(vM s4 s10
dE))))))))
(dSeq (dSeq (dOps (vM s11 s3
(dV s12 (o.gtr (.t s11) (.c (.int .i64 (.ofNat 20000))))
(vM s13 s12
(o.g s13 false (some s14) (vM s14 s4)
(o.g s13 false (some s15) (dV s15 (o.gtr (.t s14) (.c (.int .i64 (.ofNat 500)))))
(dV s16 (o.pick (.t s13) (.c (.bool true)) (.t s15))
dE)))))))
(o.cond (.t s16) (dSeq (dOps (vC s2 (.int .i64 (.ofNat 2))
dE))
dRet) dSkip))
(dSeq (dOps (dV s17 (o.ldN 6 (.t s1))
(dC (some s18) p83 [(.t s17)]
(vM s5 s18
dE))))
(dSeq (dSeq (dOps (vM s19 s5
(dV s20 (o.not (.t s19))
dE)))
(o.cond (.t s20) (dSeq (dOps (vC s2 (.int .i64 (.ofNat 10))
dE))
dRet) dSkip))
(dSeq (dOps (vC s2 (.int .i64 (.ofNat 0))
dE))
dRet)))))),[(.t s2)]⟩
def af49:AF:=afG49 fastO
def afG50 (o:Ops):AF:=⟨(dSeq (dOps (dV s3 (oBox 30 (.t s1))
(vC s4 .nils
dE)))
(dSeq (dOps (vM s8 s0
(dV s9 (o.fa 0 (.t s3))
(dV s10 (o.ld1 (.t s9))
(dC (some s11) p84 [(.t s8),(.t s10)]
(vM s0 s11
dE))))))
(dSeq (dSeq (dOps (dV s12 (o.fa 0 (.t s3))
(dV s13 (o.ld1 (.t s12))
dE)))
(dBlock 0 (dSeq (dSeq (dOps (dV s15 (o.eql (.t s13) (.c (.int .i64 (.ofNat 1))))
(vM s14 s15
dE)))
(o.cond (.t s14) dSkip (dOps (dV s16 (o.eql (.t s13) (.c (.int .i64 (.ofNat 11))))
(vM s14 s16
dE)))))
(o.cond (.t s14) (dOps (vM s17 s0
(dV s18 (o.fa 1 (.t s3))
(dV s19 (o.ld1 (.t s18))
(dC (some s20) p84 [(.t s17),(.t s19)]
(vM s0 s20
dE)))))) (dSeq (dOps (dV s22 (o.eql (.t s13) (.c (.int .i64 (.ofNat 2))))
(vM s21 s22
dE)))
(o.cond (.t s21) (dOps (vM s23 s0
(dV s24 (o.fa 4 (.t s3))
(dV s25 (o.ld1 (.t s24))
(dV s26 (o.ia 2 (.t s25) (.c (.int .i64 (.ofNat 0))))
(dV s27 (o.ldN 2 (.t s26))
(dC (some s28) p85 [(.t s23),(.t s27)]
(vM s0 s28
dE)))))))) (dSeq (dSeq (dOps (dV s30 (o.eql (.t s13) (.c (.int .i64 (.ofNat 3))))
(vM s29 s30
dE)))
(o.cond (.t s29) dSkip (dSeq (dOps (dV s31 (o.eql (.t s13) (.c (.int .i64 (.ofNat 4))))
(vM s29 s31
dE)))
(o.cond (.t s29) dSkip (dOps (dV s32 (o.eql (.t s13) (.c (.int .i64 (.ofNat 5))))
(vM s29 s32
dE)))))))
(o.cond (.t s29) (dSeq (dOps (vC s5 (.int .i64 (.ofNat 0))
dE))
(dSeq (dSeq (dOps (dV s33 (o.fa 2 (.t s3))
(dV s34 (o.ld1 (.t s33))
dE)))
(o.cond (.t s34) (dOps (vC s5 (.int .i64 (.ofNat 1))
dE)) dSkip))
(dOps (vM s35 s0
(vM s36 s5
(dC (some s37) p84 [(.t s35),(.t s36)]
(vM s0 s37
dE))))))) (dSeq (dOps (dV s39 (o.eql (.t s13) (.c (.int .i64 (.ofNat 10))))
(vM s38 s39
dE)))
(o.cond (.t s38) (dSeq (dDraw (lM s40 s0
(lN s41 (o.fa 3 (.t s3))
(lN s42 (o.ld1 (.t s41))
(lN s44 (o.fa 4 (.t s3))
(lN s45 (o.ld1 (.t s44))
(lN s46 (o.len (.t s45))
(lE [] [(s45,(o.ld1 (.t s44)))] (some s43) (actC p86 [(.t s40),(.t s42)])
(lE [] [] (some s47) (actC p84 [(.t s43),(.t s46)])
(lE [] [] (some s0) (actV (oMv (.t s47)))
sEnd))))))))))
(dSeq (dOps (vC s6 (.int .i64 (.ofNat 0))
dE))
(dBlock 1 (dLoop (dSeq (dSeq (dOps (vM s48 s6
(dV s49 (o.fa 4 (.t s3))
(dV s50 (o.ld1 (.t s49))
(dV s51 (o.len (.t s50))
(dV s52 (o.lss (.t s48) (.t s51))
dE))))))
(o.cond (.t s52) dSkip (dExit 1)))
(dSeq (dBlock 2 (dOps (vM s55 s0
(dV s56 (o.fa 4 (.t s3))
(dV s57 (o.ld1 (.t s56))
(vM s58 s6
(dV s59 (o.ia 2 (.t s57) (.t s58))
(dV s60 (o.ldN 2 (.t s59))
(dC (some s61) p85 [(.t s55),(.t s60)]
(vM s0 s61
dE))))))))))
(dOps (vM s53 s6
(dV s54 (o.add (.t s53) (.c (.int .i64 (.ofNat 1))))
(vM s6 s54
dE)))))))))) dSkip))))))))))
(dSeq (dSeq (dOps (vC s7 (.int .i64 (.ofNat 0))
dE))
(dBlock 3 (dLoop (dSeq (dSeq (dOps (vM s62 s7
(dV s63 (o.fa 5 (.t s3))
(dV s64 (o.ld1 (.t s63))
(dV s65 (o.len (.t s64))
(dV s66 (o.lss (.t s62) (.t s65))
dE))))))
(o.cond (.t s66) dSkip (dExit 3)))
(dSeq (dBlock 4 (dOps (vM s69 s0
(dV s70 (o.fa 5 (.t s3))
(dV s71 (o.ld1 (.t s70))
(vM s72 s7
(dV s73 (o.ia 6 (.t s71) (.t s72))
(dV s74 (o.ldN 6 (.t s73))
(dC (some s75) p50 [(.t s69),(.t s74)]
(vM s0 s75
dE))))))))))
(dOps (vM s67 s7
(dV s68 (o.add (.t s67) (.c (.int .i64 (.ofNat 1))))
(vM s7 s68
dE)))))))))
(dSeq (dOps (vM s76 s0
(vM s4 s76
dE)))
dRet))))),[(.t s4)]⟩
def af50:AF:=afG50 fastO
def afG51 (o:Ops):AF:=⟨(dSeq (dOps (vC s2 (.str [])
dE))
(dSeq (dOps (vM s4 s0
(dV s5 (oAr .rem (.t s4) (.c (.int .i64 (.ofNat 10))))
(vM s6 s0
(dV s7 (oAr .rem (.t s6) (.c (.int .i64 (.ofNat 10))))
(dV s8 (o.add (.t s7) (.c (.int .i64 (.ofNat 1))))
(dV s9 (oSlS (.c (.str [48,49,50,51,52,53,54,55,56,57])) (some (.t s5)) (some (.t s8)))
(vM s3 s9
dE))))))))
(dSeq (dSeq (dOps (vM s10 s0
(dV s11 (o.gtr (.t s10) (.c (.int .i64 (.ofNat 9))))
dE)))
(o.cond (.t s11) (dSeq (dOps (vM s12 s0
(dV s13 (oAr .quo (.t s12) (.c (.int .i64 (.ofNat 10))))
(dC (some s14) p51 [(.t s13)]
(vM s15 s3
(dV s16 (o.add (.t s14) (.t s15))
(vM s2 s16
dE)))))))
dRet) dSkip))
(dSeq (dOps (vM s17 s3
(vM s2 s17
dE)))
dRet)))),[(.t s2)]⟩
def af51:AF:=afG51 fastO
def afG52 (o:Ops):AF:=⟨(dSeq (dOps (dV s1 (oBox 50 (.t s0))
(vC s2 (.str [])
dE)))
(dSeq (dSeq (dOps (dV s6 (o.fa 1 (.t s1))
(dV s7 (o.ld1 (.t s6))
(dV s8 (o.len (.t s7))
(dV s9 (o.eql (.t s8) (.c (.int .i64 (.ofNat 0))))
dE)))))
(o.cond (.t s9) (dSeq (dOps (dV s10 (o.fa 0 (.t s1))
(dV s11 (o.ld1 (.t s10))
(dC (some s12) p51 [(.t s11)]
(vM s2 s12
dE)))))
dRet) dSkip))
(dSeq (dOps (vC s3 .nils
dE))
(dSeq (dSeq (dOps (dV s13 (o.fa 0 (.t s1))
(dV s14 (o.ld1 (.t s13))
(dV s15 (o.gtr (.t s14) (.c (.int .i64 (.ofNat 0))))
dE))))
(o.cond (.t s15) (dOps (vM s16 s3
(dV s17 (o.fa 0 (.t s1))
(dV s18 (o.ld1 (.t s17))
(dC (some s19) p51 [(.t s18)]
(dV s20 (oBuildS 9 1 [(.str [])] [(0,1,(.t s19))])
(dV s21 (oApp 9 1 (.t s16) (.t s20))
(vM s3 s21
dE)))))))) dSkip))
(dSeq (dSeq (dOps (vC s4 (.int .i64 (.ofNat 0))
dE))
(dBlock 0 (dLoop (dSeq (dSeq (dOps (vM s22 s4
(dV s23 (o.fa 1 (.t s1))
(dV s24 (o.ld1 (.t s23))
(dV s25 (o.len (.t s24))
(dV s26 (o.lss (.t s22) (.t s25))
dE))))))
(o.cond (.t s26) dSkip (dExit 0)))
(dSeq (dBlock 1 (dSeq (dOps (dV s29 (o.fa 1 (.t s1))
(dV s30 (o.ld1 (.t s29))
(vM s31 s4
(dV s32 (o.ia 2 (.t s30) (.t s31))
(dV s33 (o.fa 0 (.t s32))
(dV s34 (o.ld1 (.t s33))
(dC (some s35) p51 [(.t s34)]
(dV s36 (o.add (.c (.str [108])) (.t s35))
(vM s5 s36
dE))))))))))
(dSeq (dSeq (dOps (dV s37 (o.fa 1 (.t s1))
(dV s38 (o.ld1 (.t s37))
(vM s39 s4
(dV s40 (o.ia 2 (.t s38) (.t s39))
(dV s41 (o.fa 1 (.t s40))
(dV s42 (o.ld1 (.t s41))
(dV s43 (o.gtr (.t s42) (.c (.int .i64 (.ofNat 0))))
dE))))))))
(o.cond (.t s43) (dOps (vM s44 s5
(dV s45 (o.add (.t s44) (.c (.str [43])))
(dV s46 (o.fa 1 (.t s1))
(dV s47 (o.ld1 (.t s46))
(vM s48 s4
(dV s49 (o.ia 2 (.t s47) (.t s48))
(dV s50 (o.fa 1 (.t s49))
(dV s51 (o.ld1 (.t s50))
(dC (some s52) p51 [(.t s51)]
(dV s53 (o.add (.t s45) (.t s52))
(vM s5 s53
dE)))))))))))) dSkip))
(dOps (vM s54 s3
(vM s55 s5
(dV s56 (oBuildS 9 1 [(.str [])] [(0,1,(.t s55))])
(dV s57 (oApp 9 1 (.t s54) (.t s56))
(vM s3 s57
dE)))))))))
(dOps (vM s27 s4
(dV s28 (o.add (.t s27) (.c (.int .i64 (.ofNat 1))))
(vM s4 s28
dE)))))))))
(dSeq (dSeq (dOps (vM s58 s3
(dV s59 (o.len (.t s58))
(dV s60 (o.eql (.t s59) (.c (.int .i64 (.ofNat 1))))
dE))))
(o.cond (.t s60) (dSeq (dOps (vM s61 s3
(dV s62 (o.ia 1 (.t s61) (.c (.int .i64 (.ofNat 0))))
(dV s63 (o.ld1 (.t s62))
(vM s2 s63
dE)))))
dRet) dSkip))
(dSeq (dOps (vM s64 s3
(dC (some s65) p55 [(.t s64)]
(dV s66 (o.add (.c (.str [109,97,120,40])) (.t s65))
(dV s67 (o.add (.t s66) (.c (.str [41])))
(vM s2 s67
dE))))))
dRet))))))),[(.t s2)]⟩
def af52:AF:=afG52 fastO
def afG53 (o:Ops):AF:=⟨(dSeq (dOps (dV s3 (oBox 30 (.t s0))
(vC s6 .nils
dE)))
(dSeq (dOps (dV s8 (o.ldN 6 (.t s3))
(vM s9 s1
(dC (some s10) p34 [(.t s8),(.t s9)]
(vM s7 s10
dE)))))
(dSeq (dSeq (dOps (dV s11 (o.fa 0 (.t s3))
(dV s12 (o.ld1 (.t s11))
dE)))
(dBlock 0 (dSeq (dSeq (dOps (dV s14 (o.eql (.t s12) (.c (.int .i64 (.ofNat 1))))
(vM s13 s14
dE)))
(o.cond (.t s13) dSkip (dSeq (dOps (dV s15 (o.eql (.t s12) (.c (.int .i64 (.ofNat 7))))
(vM s13 s15
dE)))
(o.cond (.t s13) dSkip (dSeq (dOps (dV s16 (o.eql (.t s12) (.c (.int .i64 (.ofNat 10))))
(vM s13 s16
dE)))
(o.cond (.t s13) dSkip (dOps (dV s17 (o.eql (.t s12) (.c (.int .i64 (.ofNat 11))))
(vM s13 s17
dE)))))))))
(o.cond (.t s13) (dSeq (dOps (vM s18 s7
(vM s6 s18
dE)))
dRet) (dSeq (dOps (dV s20 (o.eql (.t s12) (.c (.int .i64 (.ofNat 5))))
(vM s19 s20
dE)))
(o.cond (.t s19) (dSeq (dOps (vM s21 s2
dE))
(o.cond (.t s21) (dSeq (dOps (vM s22 s7
(vM s6 s22
dE)))
dRet) dSkip)) dSkip))))))
(dSeq (dOps (dV s23 (oBuildS 5 1 [(.int .u8 (.ofNat 0))] [(0,1,(.c (.int .u8 (.ofNat 40))))])
(vM s24 s7
(dV s25 (oApp 5 1 (.t s23) (.t s24))
(dV s26 (oBuildS 5 1 [(.int .u8 (.ofNat 0))] [(0,1,(.c (.int .u8 (.ofNat 41))))])
(dV s27 (oApp 5 1 (.t s25) (.t s26))
(vM s6 s27
dE)))))))
dRet)))),[(.t s6)]⟩
def af53:AF:=afG53 fastO
def afG54 (o:Ops):AF:=⟨(dSeq (dOps (vC s2 (.str [])
dE))
(dSeq (dOps (dV s6 (oBuildS 5 1 [(.int .u8 (.ofNat 0))] [(0,1,(.c (.int .u8 (.ofNat 39))))])
(vM s3 s6
dE)))
(dSeq (dSeq (dOps (vC s4 (.int .i64 (.ofNat 0))
dE))
(dBlock 0 (dLoop (dSeq (dSeq (dOps (vM s7 s4
(vM s8 s0
(dV s9 (oLenS (.t s8))
(dV s10 (o.lss (.t s7) (.t s9))
dE)))))
(o.cond (.t s10) dSkip (dExit 0)))
(dSeq (dBlock 1 (dSeq (dOps (vM s13 s0
(vM s14 s4
(dV s15 (o.ixS (.t s13) (.t s14))
(vM s5 s15
dE)))))
(dSeq (dOps (vM s16 s5
(dV s17 (o.lss (.t s16) (.c (.int .u8 (.ofNat 33))))
(vM s18 s17
(o.g s18 false (some s19) (vM s19 s5)
(o.g s18 false (some s20) (dV s20 (o.gtr (.t s19) (.c (.int .u8 (.ofNat 126)))))
(dV s21 (o.pick (.t s18) (.c (.bool true)) (.t s20))
(vM s22 s21
(o.g s22 false (some s23) (vM s23 s5)
(o.g s22 false (some s24) (dV s24 (o.eql (.t s23) (.c (.int .u8 (.ofNat 39)))))
(dV s25 (o.pick (.t s22) (.c (.bool true)) (.t s24))
(vM s26 s25
(o.g s26 false (some s27) (vM s27 s5)
(o.g s26 false (some s28) (dV s28 (o.eql (.t s27) (.c (.int .u8 (.ofNat 92)))))
(dV s29 (o.pick (.t s26) (.c (.bool true)) (.t s28))
dE)))))))))))))))
(o.cond (.t s29) (dDraw (lM s30 s3
(lM s31 s5
(lN s32 (oAr .quo (.t s31) (.c (.int .u8 (.ofNat 16))))
(lN s33 (o.ixS (.c (.str [48,49,50,51,52,53,54,55,56,57,97,98,99,100,101,102])) (.t s32))
(lM s34 s5
(lN s35 (oAr .rem (.t s34) (.c (.int .u8 (.ofNat 16))))
(lN s36 (o.ixS (.c (.str [48,49,50,51,52,53,54,55,56,57,97,98,99,100,101,102])) (.t s35))
(lA 7 s37 (floatK (.buildS 5 3 [(.int .u8 (.ofNat 0)),(.int .u8 (.ofNat 0)),(.int .u8 (.ofNat 0))] [(0,1,(.c (.int .u8 (.ofNat 92)))),(1,1,(.t s33)),(2,1,(.t s36))]))
(lE [7] [] (some s38) (actV (oApp 5 1 (.t s30) (.t s37)))
(lE [7] [] (some s3) (actV (oMv (.t s38)))
sEnd))))))))))) (dOps (vM s39 s3
(vM s40 s5
(dV s41 (oBuildS 5 1 [(.int .u8 (.ofNat 0))] [(0,1,(.t s40))])
(dV s42 (oApp 5 1 (.t s39) (.t s41))
(vM s3 s42
dE))))))))))
(dOps (vM s11 s4
(dV s12 (o.add (.t s11) (.c (.int .i64 (.ofNat 1))))
(vM s4 s12
dE)))))))))
(dSeq (dOps (vM s43 s3
(dV s44 (oBuildS 5 1 [(.int .u8 (.ofNat 0))] [(0,1,(.c (.int .u8 (.ofNat 39))))])
(dV s45 (oApp 5 1 (.t s43) (.t s44))
(dV s46 (oCvT (.t s45))
(vM s2 s46
dE))))))
dRet)))),[(.t s2)]⟩
def af54:AF:=afG54 fastO
def afG55 (o:Ops):AF:=⟨(dSeq (dOps (vC s2 (.str [])
dE))
(dSeq (dOps (vC s3 (.str [])
dE))
(dSeq (dSeq (dOps (vC s4 (.int .i64 (.ofNat 0))
dE))
(dBlock 0 (dLoop (dSeq (dSeq (dOps (vM s5 s4
(vM s6 s0
(dV s7 (o.len (.t s6))
(dV s8 (o.lss (.t s5) (.t s7))
dE)))))
(o.cond (.t s8) dSkip (dExit 0)))
(dSeq (dBlock 1 (dSeq (dSeq (dOps (vM s11 s4
(dV s12 (o.gtr (.t s11) (.c (.int .i64 (.ofNat 0))))
dE)))
(o.cond (.t s12) (dOps (vM s13 s3
(dV s14 (o.add (.t s13) (.c (.str [44,32])))
(vM s3 s14
dE)))) dSkip))
(dOps (vM s15 s3
(vM s16 s0
(vM s17 s4
(dV s18 (o.ia 1 (.t s16) (.t s17))
(dV s19 (o.ld1 (.t s18))
(dV s20 (o.add (.t s15) (.t s19))
(vM s3 s20
dE))))))))))
(dOps (vM s9 s4
(dV s10 (o.add (.t s9) (.c (.int .i64 (.ofNat 1))))
(vM s4 s10
dE)))))))))
(dSeq (dOps (vM s21 s3
(vM s2 s21
dE)))
dRet)))),[(.t s2)]⟩
def af55:AF:=afG55 fastO
def afG56 (o:Ops):AF:=⟨(dSeq (dOps (dV s3 (oBox 30 (.t s0))
(vC s6 (.int .i64 (.ofNat 0))
dE)))
(dSeq (dOps (dV s10 (o.fa 3 (.t s3))
(dV s11 (o.ld1 (.t s10))
(dV s12 (oLenS (.t s11))
(dV s13 (oAr .quo (.t s12) (.c (.int .i64 (.ofNat 16))))
(dV s14 (o.add (.c (.int .i64 (.ofNat 1))) (.t s13))
(vM s7 s14
dE)))))))
(dSeq (dSeq (dOps (vM s15 s2
(dV s16 (o.gtr (.t s15) (.c (.int .i64 (.ofNat 700))))
dE)))
(o.cond (.t s16) (dSeq (dOps (vM s17 s1
(dV s18 (o.add (.t s17) (.c (.int .i64 (.ofNat 1))))
(vM s6 s18
dE))))
dRet) dSkip))
(dSeq (dSeq (dOps (vC s8 (.int .i64 (.ofNat 0))
dE))
(dBlock 0 (dLoop (dSeq (dSeq (dOps (vM s19 s8
(dV s20 (o.fa 4 (.t s3))
(dV s21 (o.ld1 (.t s20))
(dV s22 (o.len (.t s21))
(dV s23 (o.lss (.t s19) (.t s22))
(vM s24 s23
(o.g s24 true (some s25) (vM s25 s7)
(o.g s24 true (some s26) (vM s26 s1)
(o.g s24 true (some s27) (dV s27 (o.leq (.t s25) (.t s26)))
(dV s28 (o.pick (.t s24) (.t s27) (.c (.bool false)))
dE)))))))))))
(o.cond (.t s28) dSkip (dExit 0)))
(dSeq (dBlock 1 (dOps (vM s31 s7
(dV s32 (o.add (.t s31) (.c (.int .i64 (.ofNat 1))))
(dV s33 (o.fa 4 (.t s3))
(dV s34 (o.ld1 (.t s33))
(vM s35 s8
(dV s36 (o.ia 2 (.t s34) (.t s35))
(dV s37 (o.fa 1 (.t s36))
(dV s38 (o.ld1 (.t s37))
(dV s39 (o.len (.t s38))
(dV s40 (o.add (.t s32) (.t s39))
(vM s7 s40
dE)))))))))))))
(dOps (vM s29 s8
(dV s30 (o.add (.t s29) (.c (.int .i64 (.ofNat 1))))
(vM s8 s30
dE)))))))))
(dSeq (dSeq (dOps (vC s9 (.int .i64 (.ofNat 0))
dE))
(dBlock 2 (dLoop (dSeq (dSeq (dOps (vM s41 s9
(dV s42 (o.fa 5 (.t s3))
(dV s43 (o.ld1 (.t s42))
(dV s44 (o.len (.t s43))
(dV s45 (o.lss (.t s41) (.t s44))
(vM s46 s45
(o.g s46 true (some s47) (vM s47 s7)
(o.g s46 true (some s48) (vM s48 s1)
(o.g s46 true (some s49) (dV s49 (o.leq (.t s47) (.t s48)))
(dV s50 (o.pick (.t s46) (.t s49) (.c (.bool false)))
dE)))))))))))
(o.cond (.t s50) dSkip (dExit 2)))
(dSeq (dBlock 3 (dOps (vM s53 s7
(dV s54 (o.fa 5 (.t s3))
(dV s55 (o.ld1 (.t s54))
(vM s56 s9
(dV s57 (o.ia 6 (.t s55) (.t s56))
(dV s58 (o.ldN 6 (.t s57))
(vM s59 s1
(vM s60 s2
(dV s61 (o.add (.t s60) (.c (.int .i64 (.ofNat 1))))
(dC (some s62) p56 [(.t s58),(.t s59),(.t s61)]
(dV s63 (o.add (.t s53) (.t s62))
(vM s7 s63
dE))))))))))))))
(dOps (vM s51 s9
(dV s52 (o.add (.t s51) (.c (.int .i64 (.ofNat 1))))
(vM s9 s52
dE)))))))))
(dSeq (dOps (vM s64 s7
(vM s6 s64
dE)))
dRet)))))),[(.t s6)]⟩
def af56:AF:=afG56 fastO
def afG57 (o:Ops):AF:=⟨(dSeq (dOps (vC s2 .nils
(vC s3 (.int .i64 (.ofNat 0))
dE)))
(dSeq (dSeq (dOps (vM s8 s0
(dV s9 (o.len (.t s8))
(dV s10 (o.gtr (.t s9) (.c (.int .i64 (.ofNat 500))))
dE))))
(o.cond (.t s10) (dSeq (dOps (vC s2 .nils
(vC s3 (.int .i64 (.ofNat 2))
dE)))
dRet) dSkip))
(dSeq (dSeq (dOps (vM s11 s0
(dV s12 (o.len (.t s11))
(vC s13 (.int .i64 (.ofNat 0))
dE))))
(dBlock 0 (dLoop (dSeq (dOps (dV s14 (o.lss (.t s13) (.t s12))
dE))
(dSeq (o.cond (.t s14) dSkip (dExit 0))
(dSeq (dBlock 1 (dSeq (dOps (dV s15 (o.ia 17 (.t s11) (.t s13))
(dV s16 (o.ldN 17 (.t s15))
(dV s5 (oNew [(.int .i64 (.ofNat 0)),(.str []),(.int .i64 (.ofNat 0)),(.int .i64 (.ofNat 0)),(.int .i64 (.ofNat 0)),(.bool false),(.str []),.nils,.nils,(.int .i64 (.ofNat 0)),(.int .i64 (.ofNat 0)),(.bool false),(.str []),.nils,.nils,(.int .i64 (.ofNat 0)),.nils] 33)
(dU (oSt 17 (.t s5) (.t s16))
dE)))))
(dSeq (dOps (dV s17 (o.ldN 17 (.t s5))
(dC (some s18) p87 [(.t s17)]
(vM s6 s18
dE))))
(dSeq (dOps (vM s19 s6
(dV s20 (o.neq (.t s19) (.c (.int .i64 (.ofNat 0))))
dE)))
(o.cond (.t s20) (dSeq (dOps (vM s21 s6
(vC s2 .nils
(vM s3 s21
dE))))
dRet) dSkip)))))
(dOps (dV s22 (o.add (.t s13) (.c (.int .i64 (.ofNat 1))))
(vM s13 s22
dE)))))))))
(dSeq (dOps (dV s23 (oBuild [.nils,(.bool false)] [])
(dV s7 (oNew [.nils,(.bool false)] 181)
(dU (oSt 2 (.t s7) (.t s23))
dE))))
(dSeq (dOps (vM s24 s0
(dC (some s25) p88 [(.t s7),(.t s24)]
dE)))
(dSeq (dOps (dC (some s26) p89 [(.t s7)]
(dV s27 (o.ext (.t s26) 0)
(dV s28 (o.ext (.t s26) 1)
(vM s2 s27
(vM s3 s28
dE))))))
dRet)))))),[(.t s2),(.t s3)]⟩
def af57:AF:=afG57 fastO
def afG58 (o:Ops):AF:=⟨(dSeq (dOps (dV s1 (oBox 33 (.t s0))
(dV s2 (oNew [(.int .i64 (.ofNat 0)),(.str []),(.int .i64 (.ofNat 0)),(.int .i64 (.ofNat 0)),(.int .i64 (.ofNat 0)),(.bool false),(.str []),.nils,.nils,(.int .i64 (.ofNat 0)),(.int .i64 (.ofNat 0)),(.bool false),(.str []),.nils,.nils,(.int .i64 (.ofNat 0)),.nils] 33)
dE)))
(dSeq (dDraw (lN s6 (o.fa 0 (.t s1))
(lN s7 (o.ld1 (.t s6))
(lN s8 (o.fa 1 (.t s1))
(lN s9 (o.ld1 (.t s8))
(lN s10 (o.fa 2 (.t s1))
(lN s11 (o.ld1 (.t s10))
(lN s12 (o.fa 3 (.t s1))
(lN s13 (o.ldN 6 (.t s12))
(lA 10 s3 (aNew [(.int .i64 (.ofNat 0)),(.str []),(.int .i64 (.ofNat 0)),(.int .i64 (.ofNat 0)),(.int .i64 (.ofNat 0)),(.bool false),(.str []),.nils,.nils,(.int .i64 (.ofNat 0)),(.int .i64 (.ofNat 0)),(.bool false),(.str []),.nils,.nils,(.int .i64 (.ofNat 0)),.nils] 33)
(lE [] [(s7,(o.ld1 (.t s6))),(s9,(o.ld1 (.t s8))),(s11,(o.ld1 (.t s10)))] (some s14) (actC p90 [(.t s13)])
(lN s15 (oBuild [(.int .i64 (.ofNat 0)),(.str []),(.int .i64 (.ofNat 0)),(.int .i64 (.ofNat 0)),(.int .i64 (.ofNat 0)),(.bool false),(.str []),.nils,.nils,(.int .i64 (.ofNat 0)),(.int .i64 (.ofNat 0)),(.bool false),(.str []),.nils,.nils,(.int .i64 (.ofNat 0)),.nils] [(0,1,(.t s7)),(1,1,(.t s9)),(2,1,(.t s11)),(3,6,(.t s14))])
(lE [10] [] none (actV (oSt 17 (.t s3) (.t s15)))
sEnd)))))))))))))
(dSeq (dSeq (dOps (dV s16 (o.fa 0 (.t s1))
(dV s17 (o.ld1 (.t s16))
dE)))
(dBlock 0 (dSeq (dOps (dV s19 (o.eql (.t s17) (.c (.int .i64 (.ofNat 2))))
(vM s18 s19
dE)))
(o.cond (.t s18) (dOps (dV s20 (o.fa 9 (.t s1))
(dV s21 (o.ldN 6 (.t s20))
(dC (some s22) p90 [(.t s21)]
(dV s23 (o.fa 9 (.t s3))
(dU (oSt 6 (.t s23) (.t s22))
dE)))))) (dSeq (dOps (dV s25 (o.eql (.t s17) (.c (.int .i64 (.ofNat 3))))
(vM s24 s25
dE)))
(o.cond (.t s24) (dSeq (dOps (dV s26 (o.fa 15 (.t s1))
(dV s27 (o.ld1 (.t s26))
(dV s28 (o.fa 15 (.t s3))
(dU (o.st1 (.t s28) (.t s27))
dE)))))
(dSeq (dOps (dV s29 (o.fa 16 (.t s1))
(dV s30 (o.ld1 (.t s29))
(dV s31 (o.len (.t s30))
(vC s32 (.int .i64 (.ofNat 0))
dE)))))
(dBlock 1 (dLoop (dSeq (dOps (dV s33 (o.lss (.t s32) (.t s31))
dE))
(dSeq (o.cond (.t s33) dSkip (dExit 1))
(dSeq (dBlock 2 (dSeq (dOps (dV s34 (o.ia 7 (.t s30) (.t s32))
(dV s35 (o.ldN 7 (.t s34))
(dV s5 (oNew [(.str []),(.int .i64 (.ofNat 0)),(.int .i64 (.ofNat 0)),(.bool false),(.str []),.nils,.nils] 61)
(dU (oSt 7 (.t s5) (.t s35))
dE)))))
(dDraw (lN s36 (o.fa 16 (.t s3))
(lN s37 (o.ld1 (.t s36))
(lN s38 (o.fa 0 (.t s5))
(lN s39 (o.ld1 (.t s38))
(lN s40 (o.fa 1 (.t s5))
(lN s41 (o.ldN 6 (.t s40))
(lE [] [(s37,(o.ld1 (.t s36))),(s39,(o.ld1 (.t s38)))] (some s42) (actC p90 [(.t s41)])
(lN s43 (oBuild [(.str []),(.int .i64 (.ofNat 0)),(.int .i64 (.ofNat 0)),(.bool false),(.str []),.nils,.nils] [(0,1,(.t s39)),(1,6,(.t s42))])
(lA 8 s44 (floatK (.buildS 61 1 [(.str []),(.int .i64 (.ofNat 0)),(.int .i64 (.ofNat 0)),(.bool false),(.str []),.nils,.nils] [(0,7,(.t s43))]))
(lE [8] [] (some s45) (actV (oApp 61 7 (.t s37) (.t s44)))
(lN s46 (o.fa 16 (.t s3))
(lE [8] [] none (actV (o.st1 (.t s46) (.t s45)))
sEnd)))))))))))))))
(dOps (dV s47 (o.add (.t s32) (.c (.int .i64 (.ofNat 1))))
(vM s32 s47
dE)))))))))) dSkip))))))
(dSeq (dOps (dV s48 (o.ldN 17 (.t s3))
(dU (oSt 17 (.t s2) (.t s48))
dE)))
dRet)))),[(.cN s2 17)]⟩
def af58:AF:=afG58 fastO
def afG59 (o:Ops):AF:=⟨(dSeq (dOps (vC s4 (.bool false)
dE))
(dSeq (dOps (vM s5 s0
(vM s6 s1
(dC (some s7) p91 [(.t s5),(.t s6)]
(dV s8 (o.geq (.t s7) (.c (.int .i64 (.ofNat 0))))
(vM s4 s8
dE))))))
dRet)),[(.t s4)]⟩
def af59:AF:=afG59 fastO
def afG60 (o:Ops):AF:=⟨(dSeq (dOps (dV s1 (oBox 33 (.t s0))
(vC s2 .nils
dE)))
(dSeq (dOps (dV s6 (o.fa 3 (.t s1))
(dV s7 (o.ldN 6 (.t s6))
(dV s8 (oBuildS 30 1 [(.int .i64 (.ofNat 0)),(.int .i64 (.ofNat 0)),(.bool false),(.str []),.nils,.nils] [(0,6,(.t s7))])
(vM s3 s8
dE)))))
(dSeq (dSeq (dOps (dV s9 (o.fa 0 (.t s1))
(dV s10 (o.ld1 (.t s9))
(dV s11 (o.eql (.t s10) (.c (.int .i64 (.ofNat 2))))
dE))))
(o.cond (.t s11) (dOps (vM s12 s3
(dV s13 (o.fa 9 (.t s1))
(dV s14 (o.ldN 6 (.t s13))
(dV s15 (oBuildS 30 1 [(.int .i64 (.ofNat 0)),(.int .i64 (.ofNat 0)),(.bool false),(.str []),.nils,.nils] [(0,6,(.t s14))])
(dV s16 (oApp 30 6 (.t s12) (.t s15))
(vM s3 s16
dE))))))) dSkip))
(dSeq (dSeq (dOps (dV s17 (o.fa 16 (.t s1))
(dV s18 (o.ld1 (.t s17))
(dV s19 (o.len (.t s18))
(vC s20 (.int .i64 (.ofNat 0))
dE)))))
(dBlock 0 (dLoop (dSeq (dOps (dV s21 (o.lss (.t s20) (.t s19))
dE))
(dSeq (o.cond (.t s21) dSkip (dExit 0))
(dSeq (dBlock 1 (dSeq (dOps (dV s22 (o.ia 7 (.t s18) (.t s20))
(dV s23 (o.ldN 7 (.t s22))
(dV s5 (oNew [(.str []),(.int .i64 (.ofNat 0)),(.int .i64 (.ofNat 0)),(.bool false),(.str []),.nils,.nils] 61)
(dU (oSt 7 (.t s5) (.t s23))
dE)))))
(dOps (vM s24 s3
(dV s25 (o.fa 1 (.t s5))
(dV s26 (o.ldN 6 (.t s25))
(dV s27 (oBuildS 30 1 [(.int .i64 (.ofNat 0)),(.int .i64 (.ofNat 0)),(.bool false),(.str []),.nils,.nils] [(0,6,(.t s26))])
(dV s28 (oApp 30 6 (.t s24) (.t s27))
(vM s3 s28
dE)))))))))
(dOps (dV s29 (o.add (.t s20) (.c (.int .i64 (.ofNat 1))))
(vM s20 s29
dE)))))))))
(dSeq (dOps (vM s30 s3
(vM s2 s30
dE)))
dRet))))),[(.t s2)]⟩
def af60:AF:=afG60 fastO
def afG61 (o:Ops):AF:=⟨(dSeq (dOps (dV s1 (oBox 30 (.t s0))
(vC s2 (.bool false)
dE)))
(dSeq (dOps (dV s3 (o.ldN 6 (.t s1))
(dC (some s4) p92 [(.t s3)]
(dV s5 (o.gtr (.t s4) (.c (.int .i64 (.ofNat 0))))
(vM s2 s5
dE)))))
dRet)),[(.t s2)]⟩
def af61:AF:=afG61 fastO
def afG62 (o:Ops):AF:=⟨(dSeq (dOps (dV s2 (oBox 33 (.t s0))
(dV s4 (oNew [.nilm] 90)
(vC s5 (.bool false)
dE))))
(dSeq (dOps (dV s6 (oNew [.nilm] 90)
dE))
(dSeq (dOps (dV s10 (o.fa 1 (.t s2))
(dV s11 (o.ld1 (.t s10))
(vM s12 s1
(dV s13 (o.fa 0 (.t s2))
(dV s14 (o.ld1 (.t s13))
(dV s15 (oBuild [(.int .i64 (.ofNat 0)),(.int .i64 (.ofNat 0))] [(0,1,(.t s12)),(1,1,(.t s14))])
(dC (some s16) p64 [(.t s6),(.t s11),(.t s15)]
(vM s7 s16
dE)))))))))
(dSeq (dSeq (dOps (dV s17 (o.fa 0 (.t s2))
(dV s18 (o.ld1 (.t s17))
(dV s19 (o.eql (.t s18) (.c (.int .i64 (.ofNat 3))))
dE))))
(o.cond (.t s19) (dOps (dV s20 (o.fa 1 (.t s2))
(dV s21 (o.ld1 (.t s20))
(dV s22 (o.add (.t s21) (.c (.str [46,101,108,105,109])))
(vM s23 s1
(dV s24 (oBuild [(.int .i64 (.ofNat 0)),(.int .i64 (.ofNat 0))] [(0,1,(.t s23)),(1,1,(.c (.int .i64 (.ofNat 5))))])
(dC (some s25) p64 [(.t s6),(.t s22),(.t s24)]
(vM s26 s25
(o.g s26 true (some s27) (vM s27 s7)
(dV s28 (o.pick (.t s26) (.t s27) (.c (.bool false)))
(vM s7 s28
dE))))))))))) dSkip))
(dSeq (dSeq (dOps (dV s29 (o.fa 16 (.t s2))
(dV s30 (o.ld1 (.t s29))
(dV s31 (o.len (.t s30))
(vC s32 (.int .i64 (.ofNat 0))
dE)))))
(dBlock 0 (dLoop (dSeq (dOps (dV s33 (o.lss (.t s32) (.t s31))
dE))
(dSeq (o.cond (.t s33) dSkip (dExit 0))
(dSeq (dBlock 1 (dSeq (dOps (vM s34 s32
(dV s35 (o.ia 7 (.t s30) (.t s32))
(dV s36 (o.ldN 7 (.t s35))
(dV s9 (oNew [(.str []),(.int .i64 (.ofNat 0)),(.int .i64 (.ofNat 0)),(.bool false),(.str []),.nils,.nils] 61)
(vM s8 s34
(dU (oSt 7 (.t s9) (.t s36))
dE)))))))
(dOps (dV s37 (o.fa 0 (.t s9))
(dV s38 (o.ld1 (.t s37))
(vM s39 s1
(vM s40 s8
(dV s41 (oAr .mul (.c (.int .i64 (.ofNat 2))) (.t s40))
(dV s42 (o.add (.c (.int .i64 (.ofNat 4))) (.t s41))
(dV s43 (oBuild [(.int .i64 (.ofNat 0)),(.int .i64 (.ofNat 0))] [(0,1,(.t s39)),(1,1,(.t s42))])
(dC (some s44) p64 [(.t s6),(.t s38),(.t s43)]
(vM s45 s44
(o.g s45 true (some s46) (vM s46 s7)
(dV s47 (o.pick (.t s45) (.t s46) (.c (.bool false)))
(vM s7 s47
dE)))))))))))))))
(dOps (dV s48 (o.add (.t s32) (.c (.int .i64 (.ofNat 1))))
(vM s32 s48
dE)))))))))
(dSeq (dOps (dV s49 (o.ldN 1 (.t s6))
(vM s50 s7
(dU (o.st1 (.t s4) (.t s49))
(vM s5 s50
dE)))))
dRet)))))),[(.cN s4 1),(.t s5)]⟩
def af62:AF:=afG62 fastO
def afG64 (o:Ops):AF:=⟨(dSeq (dOps (dV s5 (oBox 97 (.t s2))
(vC s6 (.bool false)
dE)))
(dSeq (dSeq (dOps (vM s10 s0
(dV s11 (o.nchk (.t s10))
(dV s12 (o.fa 0 (.t s11))
(dV s13 (o.ld1 (.t s12))
(vM s14 s1
(dV s15 (oLk (.agg [(.int .i64 (.ofNat 0)),(.int .i64 (.ofNat 0))]) true (.t s13) (.t s14))
(vM s9 s15
(dV s16 (o.ext (.t s9) 0)
(dV s17 (o.ext (.t s9) 1)
(dV s7 (oNew [(.int .i64 (.ofNat 0)),(.int .i64 (.ofNat 0))] 97)
(dU (oSt 2 (.t s7) (.t s16))
(vM s8 s17
dE)))))))))))))
(dSeq (dOps (vM s18 s8
dE))
(o.cond (.t s18) (dSeq (dOps (vC s6 (.bool false)
dE))
dRet) dSkip)))
(dSeq (dSeq (dOps (vM s19 s0
(dV s20 (o.nchk (.t s19))
(dV s21 (o.fa 0 (.t s20))
(dV s22 (o.ld1 (.t s21))
(dV s23 (oEq .m false (.t s22) (.c .nilm))
dE))))))
(o.cond (.t s23) (dOps (vM s24 s0
(dV s25 (oMkM)
(dV s26 (o.nchk (.t s24))
(dV s27 (o.fa 0 (.t s26))
(dU (o.st1 (.t s27) (.t s25))
dE)))))) dSkip))
(dSeq (dDraw (lM s28 s0
(lN s29 (o.nchk (.t s28))
(lN s30 (o.fa 0 (.t s29))
(lN s31 (o.ld1 (.t s30))
(lM s32 s1
(lN s33 (o.ldN 2 (.t s5))
(lE [] [] none (actV (oUp (.t s31) (.t s32) (.t s33)))
sEnd))))))))
(dSeq (dOps (vC s6 (.bool true)
dE))
dRet))))),[(.t s6)]⟩
def af64:AF:=afG64 fastO
def afG65 (o:Ops):AF:=⟨(dSeq (dOps (dV s1 (oBox 33 (.t s0))
(vC s2 (.int .i64 (.ofNat 0))
dE)))
(dSeq (dOps (dV s8 (o.fa 1 (.t s1))
(dV s9 (o.ld1 (.t s8))
(dC (some s10) p93 [(.t s9)]
(vM s3 s10
dE)))))
(dSeq (dSeq (dOps (dV s11 (o.fa 0 (.t s1))
(dV s12 (o.ld1 (.t s11))
(dV s13 (o.lss (.t s12) (.c (.int .i64 (.ofNat 1))))
(vM s14 s13
(o.g s14 false (some s15) (dV s15 (o.fa 0 (.t s1)))
(o.g s14 false (some s16) (dV s16 (o.ld1 (.t s15)))
(o.g s14 false (some s17) (dV s17 (o.gtr (.t s16) (.c (.int .i64 (.ofNat 3)))))
(dV s18 (o.pick (.t s14) (.c (.bool true)) (.t s17))
(vM s19 s18
(o.g s19 false (some s20) (vM s20 s3)
(o.g s19 false (some s21) (dV s21 (o.not (.t s20)))
(dV s22 (o.pick (.t s19) (.c (.bool true)) (.t s21))
dE)))))))))))))
(o.cond (.t s22) (dSeq (dOps (vC s2 (.int .i64 (.ofNat 10))
dE))
dRet) dSkip))
(dSeq (dSeq (dOps (dV s23 (o.fa 2 (.t s1))
(dV s24 (o.ld1 (.t s23))
(dV s25 (o.lss (.t s24) (.c (.int .i64 (.ofNat 0))))
(vM s26 s25
(o.g s26 false (some s27) (dV s27 (o.fa 2 (.t s1)))
(o.g s26 false (some s28) (dV s28 (o.ld1 (.t s27)))
(o.g s26 false (some s29) (dV s29 (o.gtr (.t s28) (.c (.int .i64 (.ofNat 8)))))
(dV s30 (o.pick (.t s26) (.c (.bool true)) (.t s29))
dE)))))))))
(o.cond (.t s30) (dSeq (dOps (vC s2 (.int .i64 (.ofNat 13))
dE))
dRet) dSkip))
(dSeq (dOps (dV s31 (o.fa 3 (.t s1))
(dV s32 (o.ldN 6 (.t s31))
(dC (some s33) p49 [(.t s32)]
(vM s4 s33
dE)))))
(dSeq (dSeq (dOps (vM s34 s4
(dV s35 (o.eql (.t s34) (.c (.int .i64 (.ofNat 0))))
(vM s36 s35
(o.g s36 true (some s37) (dV s37 (o.fa 0 (.t s1)))
(o.g s36 true (some s38) (dV s38 (o.ld1 (.t s37)))
(o.g s36 true (some s39) (dV s39 (o.eql (.t s38) (.c (.int .i64 (.ofNat 2)))))
(dV s40 (o.pick (.t s36) (.t s39) (.c (.bool false)))
dE))))))))
(o.cond (.t s40) (dOps (dV s41 (o.fa 9 (.t s1))
(dV s42 (o.ldN 6 (.t s41))
(dC (some s43) p49 [(.t s42)]
(vM s4 s43
dE))))) dSkip))
(dSeq (dSeq (dOps (vM s44 s4
(dV s45 (o.neq (.t s44) (.c (.int .i64 (.ofNat 0))))
(vM s46 s45
(o.g s46 false (some s47) (dV s47 (o.fa 0 (.t s1)))
(o.g s46 false (some s48) (dV s48 (o.ld1 (.t s47)))
(o.g s46 false (some s49) (dV s49 (o.neq (.t s48) (.c (.int .i64 (.ofNat 3)))))
(dV s50 (o.pick (.t s46) (.c (.bool true)) (.t s49))
dE))))))))
(o.cond (.t s50) (dSeq (dOps (vM s51 s4
(vM s2 s51
dE)))
dRet) dSkip))
(dSeq (dSeq (dOps (dV s52 (o.fa 15 (.t s1))
(dV s53 (o.ld1 (.t s52))
(dV s54 (o.lss (.t s53) (.c (.int .i64 (.ofNat 0))))
(vM s55 s54
(o.g s55 false (some s56) (dV s56 (o.fa 15 (.t s1)))
(o.g s55 false (some s57) (dV s57 (o.ld1 (.t s56)))
(o.g s55 false (some s58) (dV s58 (o.gtr (.t s57) (.c (.int .i64 (.ofNat 60)))))
(dV s59 (o.pick (.t s55) (.c (.bool true)) (.t s58))
(vM s60 s59
(o.g s60 false (some s61) (dV s61 (o.fa 16 (.t s1)))
(o.g s60 false (some s62) (dV s62 (o.ld1 (.t s61)))
(o.g s60 false (some s63) (dV s63 (o.len (.t s62)))
(o.g s60 false (some s64) (dV s64 (o.gtr (.t s63) (.c (.int .i64 (.ofNat 40)))))
(dV s65 (o.pick (.t s60) (.c (.bool true)) (.t s64))
dE)))))))))))))))
(o.cond (.t s65) (dSeq (dOps (vC s2 (.int .i64 (.ofNat 2))
dE))
dRet) dSkip))
(dSeq (dSeq (dOps (vC s5 (.int .i64 (.ofNat 0))
dE))
(dBlock 0 (dLoop (dSeq (dSeq (dOps (vM s66 s5
(dV s67 (o.fa 16 (.t s1))
(dV s68 (o.ld1 (.t s67))
(dV s69 (o.len (.t s68))
(dV s70 (o.lss (.t s66) (.t s69))
dE))))))
(o.cond (.t s70) dSkip (dExit 0)))
(dSeq (dBlock 1 (dSeq (dOps (dV s73 (o.fa 16 (.t s1))
(dV s74 (o.ld1 (.t s73))
(vM s75 s5
(dV s76 (o.ia 7 (.t s74) (.t s75))
(dV s77 (o.fa 0 (.t s76))
(dV s78 (o.ld1 (.t s77))
(dC (some s79) p93 [(.t s78)]
(vM s6 s79
dE)))))))))
(dSeq (dSeq (dOps (vM s80 s6
(dV s81 (o.not (.t s80))
dE)))
(o.cond (.t s81) (dSeq (dOps (vC s2 (.int .i64 (.ofNat 10))
dE))
dRet) dSkip))
(dSeq (dOps (dV s82 (o.fa 16 (.t s1))
(dV s83 (o.ld1 (.t s82))
(vM s84 s5
(dV s85 (o.ia 7 (.t s83) (.t s84))
(dV s86 (o.fa 1 (.t s85))
(dV s87 (o.ldN 6 (.t s86))
(dC (some s88) p49 [(.t s87)]
(vM s7 s88
dE)))))))))
(dSeq (dOps (vM s89 s7
(dV s90 (o.neq (.t s89) (.c (.int .i64 (.ofNat 0))))
dE)))
(o.cond (.t s90) (dSeq (dOps (vM s91 s7
(vM s2 s91
dE)))
dRet) dSkip))))))
(dOps (vM s71 s5
(dV s72 (o.add (.t s71) (.c (.int .i64 (.ofNat 1))))
(vM s5 s72
dE)))))))))
(dSeq (dOps (vC s2 (.int .i64 (.ofNat 0))
dE))
dRet)))))))))),[(.t s2)]⟩
def af65:AF:=afG65 fastO
def afG66 (o:Ops):AF:=⟨(dSeq (dOps (vC s2 .nils
(vC s3 (.int .i64 (.ofNat 0))
dE)))
(dSeq (dSeq (dOps (vM s10 s0
(dV s11 (o.len (.t s10))
(dV s12 (o.gtr (.t s11) (.c (.int .i64 (.ofNat 500))))
dE))))
(o.cond (.t s12) (dSeq (dOps (vC s2 .nils
(vC s3 (.int .i64 (.ofNat 2))
dE)))
dRet) dSkip))
(dSeq (dSeq (dOps (vC s4 (.int .i64 (.ofNat 0))
dE))
(dBlock 0 (dLoop (dSeq (dSeq (dOps (vM s13 s4
(vM s14 s0
(dV s15 (o.len (.t s14))
(dV s16 (o.lss (.t s13) (.t s15))
dE)))))
(o.cond (.t s16) dSkip (dExit 0)))
(dSeq (dBlock 1 (dSeq (dOps (vM s19 s0
(vM s20 s4
(dV s21 (o.ia 17 (.t s19) (.t s20))
(dV s22 (o.ldN 17 (.t s21))
(dC (some s23) p65 [(.t s22)]
(vM s5 s23
dE)))))))
(dSeq (dOps (vM s24 s5
(dV s25 (o.neq (.t s24) (.c (.int .i64 (.ofNat 0))))
dE)))
(o.cond (.t s25) (dSeq (dOps (vM s26 s5
(vC s2 .nils
(vM s3 s26
dE))))
dRet) dSkip))))
(dOps (vM s17 s4
(dV s18 (o.add (.t s17) (.c (.int .i64 (.ofNat 1))))
(vM s4 s18
dE)))))))))
(dSeq (dOps (vM s27 s0
(dV s28 (o.len (.t s27))
(dC (some s29) p84 [(.c .nils),(.t s28)]
(vM s6 s29
dE)))))
(dSeq (dSeq (dOps (vC s7 (.int .i64 (.ofNat 0))
dE))
(dBlock 2 (dLoop (dSeq (dSeq (dOps (vM s30 s7
(vM s31 s0
(dV s32 (o.len (.t s31))
(dV s33 (o.lss (.t s30) (.t s32))
dE)))))
(o.cond (.t s33) dSkip (dExit 2)))
(dSeq (dBlock 3 (dSeq (dOps (vM s36 s0
(vM s37 s7
(dV s38 (o.ia 17 (.t s36) (.t s37))
(dV s39 (o.ldN 17 (.t s38))
(dV s8 (oNew [(.int .i64 (.ofNat 0)),(.str []),(.int .i64 (.ofNat 0)),(.int .i64 (.ofNat 0)),(.int .i64 (.ofNat 0)),(.bool false),(.str []),.nils,.nils,(.int .i64 (.ofNat 0)),(.int .i64 (.ofNat 0)),(.bool false),(.str []),.nils,.nils,(.int .i64 (.ofNat 0)),.nils] 33)
(dU (oSt 17 (.t s8) (.t s39))
dE)))))))
(dSeq (dDraw (lM s40 s6
(lN s41 (o.fa 0 (.t s8))
(lN s42 (o.ld1 (.t s41))
(lN s44 (o.fa 1 (.t s8))
(lN s45 (o.ld1 (.t s44))
(lN s47 (o.fa 2 (.t s8))
(lN s48 (o.ld1 (.t s47))
(lE [] [(s45,(o.ld1 (.t s44))),(s48,(o.ld1 (.t s47)))] (some s43) (actC p84 [(.t s40),(.t s42)])
(lE [] [(s48,(o.ld1 (.t s47)))] (some s46) (actC p86 [(.t s43),(.t s45)])
(lE [] [] (some s49) (actC p84 [(.t s46),(.t s48)])
(lE [] [] (some s6) (actV (oMv (.t s49)))
sEnd))))))))))))
(dSeq (dOps (vM s50 s6
(dV s51 (o.fa 3 (.t s8))
(dV s52 (o.ldN 6 (.t s51))
(dC (some s53) p50 [(.t s50),(.t s52)]
(vM s6 s53
dE))))))
(dSeq (dSeq (dOps (dV s54 (o.fa 0 (.t s8))
(dV s55 (o.ld1 (.t s54))
(dV s56 (o.eql (.t s55) (.c (.int .i64 (.ofNat 2))))
dE))))
(o.cond (.t s56) (dOps (vM s57 s6
(dV s58 (o.fa 9 (.t s8))
(dV s59 (o.ldN 6 (.t s58))
(dC (some s60) p50 [(.t s57),(.t s59)]
(vM s6 s60
dE)))))) dSkip))
(dSeq (dSeq (dOps (dV s61 (o.fa 0 (.t s8))
(dV s62 (o.ld1 (.t s61))
(dV s63 (o.eql (.t s62) (.c (.int .i64 (.ofNat 3))))
dE))))
(o.cond (.t s63) (dSeq (dDraw (lM s64 s6
(lN s65 (o.fa 15 (.t s8))
(lN s66 (o.ld1 (.t s65))
(lN s68 (o.fa 16 (.t s8))
(lN s69 (o.ld1 (.t s68))
(lN s70 (o.len (.t s69))
(lE [] [(s69,(o.ld1 (.t s68)))] (some s67) (actC p84 [(.t s64),(.t s66)])
(lE [] [] (some s71) (actC p84 [(.t s67),(.t s70)])
(lE [] [] (some s6) (actV (oMv (.t s71)))
sEnd))))))))))
(dSeq (dOps (vC s9 (.int .i64 (.ofNat 0))
dE))
(dBlock 4 (dLoop (dSeq (dSeq (dOps (vM s72 s9
(dV s73 (o.fa 16 (.t s8))
(dV s74 (o.ld1 (.t s73))
(dV s75 (o.len (.t s74))
(dV s76 (o.lss (.t s72) (.t s75))
dE))))))
(o.cond (.t s76) dSkip (dExit 4)))
(dSeq (dBlock 5 (dDraw (lM s79 s6
(lN s80 (o.fa 16 (.t s8))
(lN s81 (o.ld1 (.t s80))
(lM s82 s9
(lN s83 (o.ia 7 (.t s81) (.t s82))
(lN s84 (o.fa 0 (.t s83))
(lN s85 (o.ld1 (.t s84))
(lN s87 (o.fa 16 (.t s8))
(lN s88 (o.ld1 (.t s87))
(lM s89 s9
(lN s90 (o.ia 7 (.t s88) (.t s89))
(lN s91 (o.fa 1 (.t s90))
(lN s92 (o.ldN 6 (.t s91))
(lE [] [(s88,(o.ld1 (.t s87))),(s92,(o.ldN 6 (.t s91)))] (some s86) (actC p86 [(.t s79),(.t s85)])
(lE [] [] (some s93) (actC p50 [(.t s86),(.t s92)])
(lE [] [] (some s6) (actV (oMv (.t s93)))
sEnd))))))))))))))))))
(dOps (vM s77 s9
(dV s78 (o.add (.t s77) (.c (.int .i64 (.ofNat 1))))
(vM s9 s78
dE)))))))))) dSkip))
(dSeq (dOps (vM s94 s6
(dV s95 (o.len (.t s94))
(dV s96 (o.gtr (.t s95) (.c (.int .i64 (.ofNat 1000000))))
dE))))
(o.cond (.t s96) (dSeq (dOps (vC s2 .nils
(vC s3 (.int .i64 (.ofNat 2))
dE)))
dRet) dSkip))))))))
(dOps (vM s34 s7
(dV s35 (o.add (.t s34) (.c (.int .i64 (.ofNat 1))))
(vM s7 s35
dE)))))))))
(dSeq (dOps (vM s97 s6
(vM s2 s97
(vC s3 (.int .i64 (.ofNat 0))
dE))))
dRet)))))),[(.t s2),(.t s3)]⟩
def af66:AF:=afG66 fastO
def afG67 (o:Ops):AF:=⟨(dSeq (dOps (dV s1 (oBox 30 (.t s0))
(vC s2 (.int .i64 (.ofNat 0))
dE)))
(dSeq (dSeq (dOps (dV s3 (o.ldN 6 (.t s1))
(dC (some s4) p49 [(.t s3)]
(dV s5 (o.neq (.t s4) (.c (.int .i64 (.ofNat 0))))
dE))))
(o.cond (.t s5) (dSeq (dOps (vC s2 (.int .i64 (.ofNat 0))
dE))
dRet) dSkip))
(dSeq (dOps (dV s6 (o.ldN 6 (.t s1))
(dC (some s7) p94 [(.t s6),(.c (.int .i64 (.ofNat 0)))]
(vM s2 s7
dE))))
dRet))),[(.t s2)]⟩
def af67:AF:=afG67 fastO
def afG68 (o:Ops):AF:=⟨(dSeq (dOps (dV s1 (oBox 33 (.t s0))
(vC s2 .nils
dE)))
(dSeq (dOps (dV s5 (o.fa 1 (.t s1))
(dV s6 (o.ld1 (.t s5))
(dV s7 (oBuildS 9 1 [(.str [])] [(0,1,(.t s6))])
(vM s3 s7
dE)))))
(dSeq (dSeq (dOps (dV s8 (o.fa 0 (.t s1))
(dV s9 (o.ld1 (.t s8))
(dV s10 (o.eql (.t s9) (.c (.int .i64 (.ofNat 3))))
dE))))
(o.cond (.t s10) (dSeq (dSeq (dOps (vC s4 (.int .i64 (.ofNat 0))
dE))
(dBlock 0 (dLoop (dSeq (dSeq (dOps (vM s11 s4
(dV s12 (o.fa 16 (.t s1))
(dV s13 (o.ld1 (.t s12))
(dV s14 (o.len (.t s13))
(dV s15 (o.lss (.t s11) (.t s14))
dE))))))
(o.cond (.t s15) dSkip (dExit 0)))
(dSeq (dBlock 1 (dOps (vM s18 s3
(dV s19 (o.fa 16 (.t s1))
(dV s20 (o.ld1 (.t s19))
(vM s21 s4
(dV s22 (o.ia 7 (.t s20) (.t s21))
(dV s23 (o.fa 0 (.t s22))
(dV s24 (o.ld1 (.t s23))
(dV s25 (oBuildS 9 1 [(.str [])] [(0,1,(.t s24))])
(dV s26 (oApp 9 1 (.t s18) (.t s25))
(vM s3 s26
dE))))))))))))
(dOps (vM s16 s4
(dV s17 (o.add (.t s16) (.c (.int .i64 (.ofNat 1))))
(vM s4 s17
dE)))))))))
(dOps (vM s27 s3
(dV s28 (o.fa 1 (.t s1))
(dV s29 (o.ld1 (.t s28))
(dV s30 (o.add (.t s29) (.c (.str [46,101,108,105,109])))
(dV s31 (oBuildS 9 1 [(.str [])] [(0,1,(.t s30))])
(dV s32 (oApp 9 1 (.t s27) (.t s31))
(vM s3 s32
dE))))))))) dSkip))
(dSeq (dOps (vM s33 s3
(vM s2 s33
dE)))
dRet)))),[(.t s2)]⟩
def af68:AF:=afG68 fastO
def afG69 (o:Ops):AF:=⟨(dSeq (dOps (dV s4 (oNew [(.int .i64 (.ofNat 0)),(.str []),(.int .i64 (.ofNat 0)),(.int .i64 (.ofNat 0)),(.int .i64 (.ofNat 0)),(.bool false),(.str []),.nils,.nils,(.int .i64 (.ofNat 0)),(.int .i64 (.ofNat 0)),(.bool false),(.str []),.nils,.nils,(.int .i64 (.ofNat 0)),.nils] 33)
(vC s5 (.int .i64 (.ofNat 0))
dE)))
(dSeq (dSeq (dOps (vC s6 (.int .i64 (.ofNat 0))
dE))
(dBlock 0 (dLoop (dSeq (dSeq (dOps (vM s9 s6
(vM s10 s0
(dV s11 (o.nchk (.t s10))
(dV s12 (o.fa 0 (.t s11))
(dV s13 (o.ld1 (.t s12))
(dV s14 (o.len (.t s13))
(dV s15 (o.lss (.t s9) (.t s14))
dE))))))))
(o.cond (.t s15) dSkip (dExit 0)))
(dSeq (dBlock 1 (dSeq (dOps (vM s18 s0
(dV s19 (o.nchk (.t s18))
(dV s20 (o.fa 0 (.t s19))
(dV s21 (o.ld1 (.t s20))
(vM s22 s6
(dV s23 (o.ia 17 (.t s21) (.t s22))
(dV s24 (o.ldN 17 (.t s23))
(dV s7 (oNew [(.int .i64 (.ofNat 0)),(.str []),(.int .i64 (.ofNat 0)),(.int .i64 (.ofNat 0)),(.int .i64 (.ofNat 0)),(.bool false),(.str []),.nils,.nils,(.int .i64 (.ofNat 0)),(.int .i64 (.ofNat 0)),(.bool false),(.str []),.nils,.nils,(.int .i64 (.ofNat 0)),.nils] 33)
(dU (oSt 17 (.t s7) (.t s24))
dE))))))))))
(dSeq (dSeq (dOps (dV s25 (o.fa 1 (.t s7))
(dV s26 (o.ld1 (.t s25))
(vM s27 s1
(dV s28 (o.eql (.t s26) (.t s27))
dE)))))
(o.cond (.t s28) (dSeq (dDraw (lN s29 (o.ldN 17 (.t s7))
(lN s30 (o.fa 0 (.t s7))
(lN s31 (o.ld1 (.t s30))
(lE [] [(s31,(o.ld1 (.t s30)))] none (actV (oSt 17 (.t s4) (.t s29)))
(lM s5 s31
sEnd))))))
dRet) dSkip))
(dSeq (dSeq (dOps (dV s32 (o.fa 0 (.t s7))
(dV s33 (o.ld1 (.t s32))
(dV s34 (o.neq (.t s33) (.c (.int .i64 (.ofNat 3))))
dE))))
(o.cond (.t s34) (dExit 1) dSkip))
(dSeq (dSeq (dOps (dV s35 (o.fa 1 (.t s7))
(dV s36 (o.ld1 (.t s35))
(dV s37 (o.add (.t s36) (.c (.str [46,101,108,105,109])))
(vM s38 s1
(dV s39 (o.eql (.t s37) (.t s38))
dE))))))
(o.cond (.t s39) (dSeq (dOps (dV s40 (o.ldN 17 (.t s7))
(dU (oSt 17 (.t s4) (.t s40))
(vC s5 (.int .i64 (.ofNat 5))
dE))))
dRet) dSkip))
(dSeq (dOps (vC s8 (.int .i64 (.ofNat 0))
dE))
(dBlock 2 (dLoop (dSeq (dSeq (dOps (vM s41 s8
(dV s42 (o.fa 16 (.t s7))
(dV s43 (o.ld1 (.t s42))
(dV s44 (o.len (.t s43))
(dV s45 (o.lss (.t s41) (.t s44))
dE))))))
(o.cond (.t s45) dSkip (dExit 2)))
(dSeq (dBlock 3 (dSeq (dOps (dV s48 (o.fa 16 (.t s7))
(dV s49 (o.ld1 (.t s48))
(vM s50 s8
(dV s51 (o.ia 7 (.t s49) (.t s50))
(dV s52 (o.fa 0 (.t s51))
(dV s53 (o.ld1 (.t s52))
(vM s54 s1
(dV s55 (o.eql (.t s53) (.t s54))
dE)))))))))
(o.cond (.t s55) (dSeq (dOps (dV s56 (o.ldN 17 (.t s7))
(vM s57 s8
(dV s58 (oAr .mul (.c (.int .i64 (.ofNat 2))) (.t s57))
(dV s59 (o.add (.c (.int .i64 (.ofNat 4))) (.t s58))
(dU (oSt 17 (.t s4) (.t s56))
(vM s5 s59
dE)))))))
dRet) dSkip)))
(dOps (vM s46 s8
(dV s47 (o.add (.t s46) (.c (.int .i64 (.ofNat 1))))
(vM s8 s47
dE))))))))))))))
(dOps (vM s16 s6
(dV s17 (o.add (.t s16) (.c (.int .i64 (.ofNat 1))))
(vM s6 s17
dE)))))))))
(dSeq (dOps (dV s60 (oBuild [(.int .i64 (.ofNat 0)),(.str []),(.int .i64 (.ofNat 0)),(.int .i64 (.ofNat 0)),(.int .i64 (.ofNat 0)),(.bool false),(.str []),.nils,.nils,(.int .i64 (.ofNat 0)),(.int .i64 (.ofNat 0)),(.bool false),(.str []),.nils,.nils,(.int .i64 (.ofNat 0)),.nils] [])
(dU (oSt 17 (.t s4) (.t s60))
(vC s5 (.int .i64 (.ofNat 0))
dE))))
dRet))),[(.cN s4 17),(.t s5)]⟩
def af69:AF:=afG69 fastO
def afG70 (o:Ops):AF:=⟨(dSeq (dOps (dV s1 (oBox 30 (.t s0))
(dV s2 (oNew [(.int .i64 (.ofNat 0)),(.int .i64 (.ofNat 0)),(.bool false),(.str []),.nils,.nils] 30)
dE)))
(dSeq (dOps (dV s6 (o.fa 0 (.t s1))
(dV s7 (o.ld1 (.t s6))
(dV s8 (oBuild [(.int .i64 (.ofNat 0)),(.int .i64 (.ofNat 0)),(.bool false),(.str []),.nils,.nils] [(0,1,(.t s7))])
(dV s3 (oNew [(.int .i64 (.ofNat 0)),(.int .i64 (.ofNat 0)),(.bool false),(.str []),.nils,.nils] 30)
(dU (oSt 6 (.t s3) (.t s8))
dE))))))
(dSeq (dSeq (dOps (dV s9 (o.fa 0 (.t s1))
(dV s10 (o.ld1 (.t s9))
dE)))
(dBlock 0 (dSeq (dSeq (dOps (dV s12 (o.eql (.t s10) (.c (.int .i64 (.ofNat 1))))
(vM s11 s12
dE)))
(o.cond (.t s11) dSkip (dOps (dV s13 (o.eql (.t s10) (.c (.int .i64 (.ofNat 11))))
(vM s11 s13
dE)))))
(o.cond (.t s11) (dOps (dV s14 (o.fa 1 (.t s1))
(dV s15 (o.ld1 (.t s14))
(dV s16 (o.fa 1 (.t s3))
(dU (o.st1 (.t s16) (.t s15))
dE))))) (dSeq (dSeq (dOps (dV s18 (o.eql (.t s10) (.c (.int .i64 (.ofNat 2))))
(vM s17 s18
dE)))
(o.cond (.t s17) dSkip (dOps (dV s19 (o.eql (.t s10) (.c (.int .i64 (.ofNat 10))))
(vM s17 s19
dE)))))
(o.cond (.t s17) (dSeq (dSeq (dOps (dV s20 (o.fa 0 (.t s1))
(dV s21 (o.ld1 (.t s20))
(dV s22 (o.eql (.t s21) (.c (.int .i64 (.ofNat 10))))
dE))))
(o.cond (.t s22) (dOps (dV s23 (o.fa 3 (.t s1))
(dV s24 (o.ld1 (.t s23))
(dV s25 (o.fa 3 (.t s3))
(dU (o.st1 (.t s25) (.t s24))
dE))))) dSkip))
(dSeq (dOps (vC s4 (.int .i64 (.ofNat 0))
dE))
(dBlock 1 (dLoop (dSeq (dSeq (dOps (vM s26 s4
(dV s27 (o.fa 4 (.t s1))
(dV s28 (o.ld1 (.t s27))
(dV s29 (o.len (.t s28))
(dV s30 (o.lss (.t s26) (.t s29))
dE))))))
(o.cond (.t s30) dSkip (dExit 1)))
(dSeq (dBlock 2 (dDraw (lN s33 (o.fa 4 (.t s3))
(lN s34 (o.ld1 (.t s33))
(lN s35 (o.fa 4 (.t s1))
(lN s36 (o.ld1 (.t s35))
(lM s37 s4
(lN s38 (o.ia 2 (.t s36) (.t s37))
(lN s39 (o.fa 0 (.t s38))
(lN s40 (o.ld1 (.t s39))
(lN s41 (o.fa 4 (.t s1))
(lN s42 (o.ld1 (.t s41))
(lM s43 s4
(lN s44 (o.ia 2 (.t s42) (.t s43))
(lN s45 (o.fa 1 (.t s44))
(lN s46 (o.ld1 (.t s45))
(lE [] [(s34,(o.ld1 (.t s33))),(s36,(o.ld1 (.t s35))),(s40,(o.ld1 (.t s39)))] (some s47) (actV (oApp 47 2 (.c .nils) (.t s46)))
(lN s48 (oBuild [(.int .i64 (.ofNat 0)),.nils] [(0,1,(.t s40)),(1,1,(.t s47))])
(lA 16 s49 (floatK (.buildS 50 1 [(.int .i64 (.ofNat 0)),.nils] [(0,2,(.t s48))]))
(lE [16] [] (some s50) (actV (oApp 50 2 (.t s34) (.t s49)))
(lN s51 (o.fa 4 (.t s3))
(lE [16] [] none (actV (o.st1 (.t s51) (.t s50)))
sEnd))))))))))))))))))))))
(dOps (vM s31 s4
(dV s32 (o.add (.t s31) (.c (.int .i64 (.ofNat 1))))
(vM s4 s32
dE)))))))))) (dSeq (dSeq (dOps (dV s53 (o.eql (.t s10) (.c (.int .i64 (.ofNat 3))))
(vM s52 s53
dE)))
(o.cond (.t s52) dSkip (dSeq (dOps (dV s54 (o.eql (.t s10) (.c (.int .i64 (.ofNat 4))))
(vM s52 s54
dE)))
(o.cond (.t s52) dSkip (dOps (dV s55 (o.eql (.t s10) (.c (.int .i64 (.ofNat 5))))
(vM s52 s55
dE)))))))
(o.cond (.t s52) (dOps (dV s56 (o.fa 2 (.t s1))
(dV s57 (o.ld1 (.t s56))
(dV s58 (o.fa 2 (.t s3))
(dU (o.st1 (.t s58) (.t s57))
dE))))) dSkip))))))))
(dSeq (dSeq (dOps (vC s5 (.int .i64 (.ofNat 0))
dE))
(dBlock 3 (dLoop (dSeq (dSeq (dOps (vM s59 s5
(dV s60 (o.fa 5 (.t s1))
(dV s61 (o.ld1 (.t s60))
(dV s62 (o.len (.t s61))
(dV s63 (o.lss (.t s59) (.t s62))
dE))))))
(o.cond (.t s63) dSkip (dExit 3)))
(dSeq (dBlock 4 (dDraw (lN s66 (o.fa 5 (.t s3))
(lN s67 (o.ld1 (.t s66))
(lN s68 (o.fa 5 (.t s1))
(lN s69 (o.ld1 (.t s68))
(lM s70 s5
(lN s71 (o.ia 6 (.t s69) (.t s70))
(lN s72 (o.ldN 6 (.t s71))
(lE [] [(s67,(o.ld1 (.t s66)))] (some s73) (actC p70 [(.t s72)])
(lA 8 s74 (floatK (.buildS 30 1 [(.int .i64 (.ofNat 0)),(.int .i64 (.ofNat 0)),(.bool false),(.str []),.nils,.nils] [(0,6,(.t s73))]))
(lE [8] [] (some s75) (actV (oApp 30 6 (.t s67) (.t s74)))
(lN s76 (o.fa 5 (.t s3))
(lE [8] [] none (actV (o.st1 (.t s76) (.t s75)))
sEnd))))))))))))))
(dOps (vM s64 s5
(dV s65 (o.add (.t s64) (.c (.int .i64 (.ofNat 1))))
(vM s5 s65
dE)))))))))
(dSeq (dOps (dV s77 (o.ldN 6 (.t s3))
(dU (oSt 6 (.t s2) (.t s77))
dE)))
dRet))))),[(.cN s2 6)]⟩
def af70:AF:=afG70 fastO
def afG71 (o:Ops):AF:=⟨(dSeq (dOps (dV s3 (oBox 30 (.t s0))
(vC s6 (.int .i64 (.ofNat 0))
(vC s7 (.int .i64 (.ofNat 0))
dE))))
(dSeq (dOps (vM s9 s1
(vM s10 s2
(dV s11 (oBuild [(.int .i64 (.ofNat 0)),(.int .i64 (.ofNat 0))] [(0,1,(.t s9)),(1,1,(.t s10))])
(dV s8 (oNew [(.int .i64 (.ofNat 0)),(.int .i64 (.ofNat 0))] 189)
(dU (oSt 2 (.t s8) (.t s11))
dE))))))
(dSeq (dOps (dV s12 (o.ldN 6 (.t s3))
(dV s13 (oBuild [(.int .i64 (.ofNat 0)),(.int .i64 (.ofNat 0))] [])
(dV s14 (oMkf 95 [(.t s8)] [])
(dC (some s15) p72 [(.t s12),(.t s13),(.t s14),(.c (.fn (.func 74) [] []))]
(dV s16 (o.ext (.t s15) 0)
(dV s17 (o.ext (.t s15) 1)
(vM s6 s16
(vM s7 s17
dE)))))))))
dRet))),[(.t s6),(.t s7)]⟩
def af71:AF:=afG71 fastO
def afG72 (o:Ops):AF:=⟨(dSeq (dOps (dV s4 (oBox 30 (.t s0))
(dV s5 (oBox 141 (.t s1))
(vC s8 (.int .i64 (.ofNat 0))
(vC s9 (.int .i64 (.ofNat 0))
dE)))))
(dSeq (dOps (vM s20 s2
(dV s21 (o.ldN 6 (.t s4))
(dV s22 (o.ldN 2 (.t s5))
(dCv (some s23) (.t s20) [(.t s21),(.t s22)]
(vM s19 s23
(dV s24 (o.ext (.t s19) 0)
(dV s25 (o.ext (.t s19) 1)
(vM s10 s24
(vM s11 s25
dE))))))))))
(dSeq (dSeq (dOps (vM s26 s11
(dV s27 (o.neq (.t s26) (.c (.int .i64 (.ofNat 0))))
dE)))
(o.cond (.t s27) (dSeq (dOps (vM s28 s10
(vM s29 s11
(vM s8 s28
(vM s9 s29
dE)))))
dRet) dSkip))
(dSeq (dSeq (dOps (dV s30 (o.ldN 6 (.t s4))
(dC (some s31) p96 [(.t s30)]
(vC s32 (.int .i64 (.ofNat 0))
dE))))
(dBlock 0 (dLoop (dSeq (dOps (dV s33 (o.lss (.t s32) (.c (.int .i64 (.ofNat 2))))
dE))
(dSeq (o.cond (.t s33) dSkip (dExit 0))
(dSeq (dBlock 1 (dSeq (dOps (vM s34 s32
(dV s35 (oIx1 2 (.t s31) (.t s32))
(vM s12 s34
(vM s13 s35
dE)))))
(dSeq (dOps (dV s36 (o.fa 0 (.t s5))
(dV s37 (o.ld1 (.t s36))
(vM s38 s12
(dV s39 (o.add (.t s37) (.t s38))
(dV s40 (o.fa 1 (.t s5))
(dV s41 (o.ld1 (.t s40))
(dV s42 (o.add (.t s41) (.c (.int .i64 (.ofNat 1))))
(dV s43 (oBuild [(.int .i64 (.ofNat 0)),(.int .i64 (.ofNat 0))] [(0,1,(.t s39)),(1,1,(.t s42))])
(dV s14 (oNew [(.int .i64 (.ofNat 0)),(.int .i64 (.ofNat 0))] 141)
(dU (oSt 2 (.t s14) (.t s43))
dE)))))))))))
(dSeq (dOps (vM s44 s13
(dV s45 (o.len (.t s44))
(vC s46 (.int .i64 (.ofNat 0))
dE))))
(dBlock 2 (dLoop (dSeq (dOps (dV s47 (o.lss (.t s46) (.t s45))
dE))
(dSeq (o.cond (.t s47) dSkip (dExit 2))
(dSeq (dBlock 3 (dSeq (dOps (dV s48 (o.ia 6 (.t s44) (.t s46))
(dV s49 (o.ldN 6 (.t s48))
(dV s16 (oNew [(.int .i64 (.ofNat 0)),(.int .i64 (.ofNat 0)),(.bool false),(.str []),.nils,.nils] 30)
(dU (oSt 6 (.t s16) (.t s49))
dE)))))
(dSeq (dOps (dV s51 (o.ldN 6 (.t s16))
(dV s52 (o.ldN 2 (.t s14))
(vM s53 s2
(vM s54 s3
(dC (some s55) p72 [(.t s51),(.t s52),(.t s53),(.t s54)]
(vM s50 s55
(dV s56 (o.ext (.t s50) 0)
(dV s57 (o.ext (.t s50) 1)
(vM s17 s56
(vM s18 s57
dE)))))))))))
(dSeq (dSeq (dOps (vM s58 s18
(dV s59 (o.neq (.t s58) (.c (.int .i64 (.ofNat 0))))
dE)))
(o.cond (.t s59) (dSeq (dOps (vM s60 s10
(vM s61 s18
(vM s8 s60
(vM s9 s61
dE)))))
dRet) dSkip))
(dOps (vM s62 s3
(vM s63 s10
(vM s64 s17
(dCv (some s65) (.t s62) [(.t s63),(.t s64)]
(vM s10 s65
dE))))))))))
(dOps (dV s66 (o.add (.t s46) (.c (.int .i64 (.ofNat 1))))
(vM s46 s66
dE))))))))))))
(dOps (dV s67 (o.add (.t s32) (.c (.int .i64 (.ofNat 1))))
(vM s32 s67
dE)))))))))
(dSeq (dOps (vM s68 s10
(vM s8 s68
(vC s9 (.int .i64 (.ofNat 0))
dE))))
dRet))))),[(.t s8),(.t s9)]⟩
def af72:AF:=afG72 fastO
def afG73 (o:Ops):AF:=⟨(dSeq (dOps (dV s2 (oBox 30 (.t s0))
(dV s3 (oBox 141 (.t s1))
(vC s4 (.int .i64 (.ofNat 0))
(vC s5 (.int .i64 (.ofNat 0))
dE)))))
(dSeq (dSeq (dDraw (lN s6 (o.fa 5 (.t s2))
(lN s7 (o.ld1 (.t s6))
(lN s8 (o.len (.t s7))
(lN s9 (o.fa 0 (.t s2))
(lN s10 (o.ld1 (.t s9))
(lE [] [(s7,(o.ld1 (.t s6)))] (some s11) (actC p97 [(.t s10)])
(lN s12 (o.neq (.t s8) (.t s11))
(lM s13 s12
(lG s13 false s14 (o.ldN 6 (.t s2))
(lE [] [] (some s15) (eK ⟨(some s15),(.call p98 [(.t s14)]),(some (s13,false))⟩)
(lG s13 false s16 (o.not (.t s15))
(lN s17 (o.pick (.t s13) (.c (.bool true)) (.t s16))
sEnd)))))))))))))
(o.cond (.t s17) (dSeq (dOps (vC s4 (.int .i64 (.ofNat 0))
(vC s5 (.int .i64 (.ofNat 10))
dE)))
dRet) dSkip))
(dSeq (dOps (vC s4 (.int .i64 (.ofNat 1))
(vC s5 (.int .i64 (.ofNat 0))
dE)))
dRet))),[(.t s4),(.t s5)]⟩
def af73:AF:=afG73 fastO
def afG74 (o:Ops):AF:=⟨(dSeq (dOps (vC s4 (.int .i64 (.ofNat 0))
dE))
(dSeq (dOps (vM s5 s0
(vM s6 s1
(dV s7 (o.add (.t s5) (.t s6))
(vM s4 s7
dE)))))
dRet)),[(.t s4)]⟩
def af74:AF:=afG74 fastO
def afG75 (o:Ops):AF:=⟨(dSeq (dOps (vC s6 .nilp
dE))
(dSeq (dOps (vM s8 s0
(vM s9 s2
(dC (some s10) p99 [(.t s8),(.t s9)]
(dV s7 (oNew [.nilp] 152)
(dU (o.st1 (.t s7) (.t s10))
dE))))))
(dSeq (dDraw (lM s11 s0
(lM s12 s1
(lN s13 (o.ldN 1 (.t s7))
(lN s14 (o.ldN 1 (.t s7))
(lA 5 s16 (floatK (.mkM))
(lE [] [(s13,(o.ldN 1 (.t s7)))] (some s15) (actC p100 [(.t s14)])
(lE [] [(s13,(o.ldN 1 (.t s7)))] (some s17) (actC p101 [])
(lN s18 (oBuild [.nilp,(.int .i64 (.ofNat 0)),.nilp,.nilp,.nilm,.nilf,.nilf,.nilf,.nilf,.nilf,.nilf,.nilf,.nilf,.nilf,.nilf,.nilf,.nilf] [(0,1,(.t s11)),(1,1,(.t s12)),(2,1,(.t s13)),(3,1,(.t s15)),(4,1,(.t s16)),(5,12,(.t s17))])
(lA 8 s19 (aBox 157 (.t s18))
(lM s6 s19
sEnd)))))))))))
dRet))),[(.t s6)]⟩
def af75:AF:=afG75 fastO
def afG76 (o:Ops):AF:=⟨(dSeq (dOps (dV s2 (oBox 75 (.t s0))
(dV s3 (oBox 30 (.t s1))
(dV s4 (oNew [.nilp,(.int .i64 (.ofNat 0)),.nilp] 75)
dE))))
(dSeq (dDraw (lN s5 (o.fa 0 (.t s2))
(lN s6 (o.ldN 2 (.t s5))
(lN s8 (o.fa 2 (.t s2))
(lN s9 (o.ldN 1 (.t s8))
(lN s10 (oMkf 104 [] [(.t s2),(.t s3)])
(lE [] [(s9,(o.ldN 1 (.t s8)))] (some s7) (actC p102 [(.t s6)])
(lE [] [] (some s11) (actC p103 [(.t s9),(.t s10)])
(lN s12 (oBuild [.nilp,(.int .i64 (.ofNat 0)),.nilp] [(0,2,(.t s7)),(2,1,(.t s11))])
(lE [] [] none (actV (oSt 3 (.t s4) (.t s12)))
sEnd))))))))))
dRet)),[(.cN s4 3)]⟩
def af76:AF:=afG76 fastO
def afG77 (o:Ops):AF:=⟨(dSeq (dOps (dV s2 (oBox 70 (.t s0))
(dV s3 (oBox 30 (.t s1))
(dV s4 (oNew [.nilp] 104)
dE))))
(dSeq (dDraw (lN s5 (o.fa 0 (.t s2))
(lN s6 (o.ldN 2 (.t s5))
(lN s7 (o.ldN 6 (.t s3))
(lE [] [(s6,(o.ldN 2 (.t s5)))] (some s8) (actC p105 [(.t s7)])
(lN s9 (oBuild [.nilp,(.int .i64 (.ofNat 0)),.nilp] [(0,2,(.t s6)),(2,1,(.t s8))])
(lE [] [] (some s10) (actC p106 [(.t s9)])
(lN s11 (oBuild [.nilp] [(0,1,(.t s10))])
(lE [] [] none (actV (o.st1 (.t s4) (.t s11)))
sEnd)))))))))
dRet)),[(.cN s4 1)]⟩
def af77:AF:=afG77 fastO
def afG78 (o:Ops):AF:=⟨(dSeq (dOps (dV s1 (oBox 104 (.t s0))
(dV s2 (oNew [(.int .i64 (.ofNat 0)),(.int .i64 (.ofNat 0)),(.bool false),(.str []),.nils,.nils] 30)
dE)))
(dSeq (dOps (dV s3 (o.fa 0 (.t s1))
(dV s4 (o.ld1 (.t s3))
(dV s5 (o.nchk (.t s4))
(dV s6 (o.fa 0 (.t s5))
(dV s7 (o.fa 2 (.t s6))
(dV s8 (o.ld1 (.t s7))
(dV s9 (o.nchk (.t s8))
(dV s10 (o.fa 0 (.t s9))
(dV s11 (o.ldN 6 (.t s10))
(dU (oSt 6 (.t s2) (.t s11))
dE)))))))))))
dRet)),[(.cN s2 6)]⟩
def af78:AF:=afG78 fastO
def afG79 (o:Ops):AF:=⟨(dSeq (dOps (dV s2 (oBox 109 (.t s0))
(dV s3 (oBox 104 (.t s1))
(vC s4 .nili
dE))))
(dSeq (dOps (dV s8 (oMkf 108 [] [(.t s2),(.t s3)])
(dC (some s9) p107 [(.t s8)]
(vM s7 s9
(dV s10 (o.ext (.t s7) 0)
(dV s11 (o.ext (.t s7) 1)
(vM s5 s10
(vM s6 s11
dE))))))))
(dSeq (dOps (vM s12 s6
(dC (some s13) p110 [(.t s12)]
(vM s4 s13
dE))))
dRet))),[(.t s4)]⟩
def af79:AF:=afG79 fastO
def afG81 (o:Ops):AF:=⟨(dSeq (dOps (dV s4 (oBox 168 (.t s0))
(dV s8 (oNew [(.int .i64 (.ofNat 0)),(.int .i64 (.ofNat 0)),(.bool false),(.str []),.nils,.nils] 30)
dE)))
(dSeq (dSeq (dOps (vM s14 s1
(dV s15 (o.nchk (.t s14))
(dV s16 (o.fa 0 (.t s15))
(dV s17 (o.fa 0 (.t s16))
(dV s18 (o.ld1 (.t s17))
(dV s19 (o.eql (.t s18) (.c (.int .i64 (.ofNat 1))))
(vM s20 s19
(o.g s20 true (some s21) (vM s21 s1)
(o.g s20 true (some s22) (dV s22 (o.nchk (.t s21)))
(o.g s20 true (some s23) (dV s23 (o.fa 0 (.t s22)))
(o.g s20 true (some s24) (dV s24 (o.fa 1 (.t s23)))
(o.g s20 true (some s25) (dV s25 (o.ld1 (.t s24)))
(o.g s20 true (some s26) (vM s26 s2)
(o.g s20 true (some s27) (dV s27 (o.geq (.t s25) (.t s26)))
(o.g s20 true (some s28) (vM s28 s27)
(o.g s28 false (some s29) (vM s29 s1)
(o.g s28 false (some s30) (dV s30 (o.nchk (.t s29)))
(o.g s28 false (some s31) (dV s31 (o.fa 0 (.t s30)))
(o.g s28 false (some s32) (dV s32 (o.fa 1 (.t s31)))
(o.g s28 false (some s33) (dV s33 (o.ld1 (.t s32)))
(o.g s28 false (some s34) (dV s34 (o.lss (.t s33) (.c (.int .i64 (.ofNat 0)))))
(o.g s20 true (some s35) (dV s35 (o.pick (.t s28) (.c (.bool true)) (.t s34)))
(dV s36 (o.pick (.t s20) (.t s35) (.c (.bool false)))
dE))))))))))))))))))))))))
(o.cond (.t s36) (dSeq (dSeq (dDraw (lN s37 (o.fa 0 (.t s4))
(lN s38 (o.ldN 2 (.t s37))
(lM s39 s1
(lN s40 (o.nchk (.t s39))
(lN s41 (o.fa 0 (.t s40))
(lN s42 (o.fa 1 (.t s41))
(lN s43 (o.ld1 (.t s42))
(lM s44 s2
(lN s45 (o.sub (.t s43) (.t s44))
(lE [] [] (some s46) (actC p115 [(.t s38),(.t s45)])
(lM s9 s46
sEnd))))))))))))
(dSeq (dOps (vM s47 s9
(dV s48 (o.eqp true (.t s47) (.c .nilp))
dE)))
(o.cond (.t s48) (dSeq (dDraw (lM s49 s9
(lN s50 (o.nchk (.t s49))
(lN s51 (o.fa 0 (.t s50))
(lN s52 (o.ldN 3 (.t s51))
(lM s53 s9
(lN s54 (o.nchk (.t s53))
(lN s55 (o.fa 0 (.t s54))
(lN s56 (o.fa 2 (.t s55))
(lN s57 (o.ld1 (.t s56))
(lM s58 s3
(lE [] [] (some s59) (actC p81 [(.t s52),(.t s57),(.c (.int .i64 (.ofNat 0))),(.t s58)])
(lE [] [] none (actV (oSt 6 (.t s8) (.t s59)))
sEnd)))))))))))))
dRet) dSkip)))
(dSeq (dDraw (lM s60 s1
(lN s61 (o.nchk (.t s60))
(lN s62 (o.fa 0 (.t s61))
(lN s63 (o.fa 1 (.t s62))
(lN s64 (o.ld1 (.t s63))
(lM s65 s2
(lN s66 (o.sub (.t s64) (.t s65))
(lN s67 (o.fa 0 (.t s4))
(lN s68 (o.fa 1 (.t s67))
(lN s69 (o.ld1 (.t s68))
(lN s70 (o.sub (.t s66) (.t s69))
(lM s71 s3
(lN s72 (o.add (.t s70) (.t s71))
(lN s73 (oBuild [(.int .i64 (.ofNat 0)),(.int .i64 (.ofNat 0)),(.bool false),(.str []),.nils,.nils] [(0,1,(.c (.int .i64 (.ofNat 1)))),(1,1,(.t s72))])
(lE [] [] none (actV (oSt 6 (.t s8) (.t s73)))
sEnd))))))))))))))))
dRet)) dSkip))
(dSeq (dOps (vM s74 s1
(dV s75 (o.nchk (.t s74))
(dV s76 (o.fa 0 (.t s75))
(dV s77 (o.ldN 6 (.t s76))
(dC (some s78) p90 [(.t s77)]
(dV s10 (oNew [(.int .i64 (.ofNat 0)),(.int .i64 (.ofNat 0)),(.bool false),(.str []),.nils,.nils] 30)
(dU (oSt 6 (.t s10) (.t s78))
dE))))))))
(dSeq (dSeq (dOps (vM s79 s1
(dV s80 (o.nchk (.t s79))
(dV s81 (o.fa 6 (.t s80))
(dV s82 (o.ld1 (.t s81))
(dV s83 (o.len (.t s82))
(vC s84 (.int .i64 (.ofNat 0))
dE)))))))
(dBlock 0 (dLoop (dSeq (dOps (dV s85 (o.lss (.t s84) (.t s83))
dE))
(dSeq (o.cond (.t s85) dSkip (dExit 0))
(dSeq (dBlock 1 (dSeq (dOps (vM s86 s84
(dV s87 (o.ia 1 (.t s82) (.t s84))
(dV s88 (o.ld1 (.t s87))
(vM s11 s86
(vM s12 s88
dE))))))
(dSeq (dOps (vM s89 s1
(dV s90 (o.nchk (.t s89))
(dV s91 (o.fa 0 (.t s90))
(dV s92 (o.fa 0 (.t s91))
(dV s93 (o.ld1 (.t s92))
(vM s94 s11
(dC (some s95) p116 [(.t s93),(.t s94)]
(vM s13 s95
dE)))))))))
(dDraw (lN s96 (o.fa 5 (.t s10))
(lN s97 (o.ld1 (.t s96))
(lN s98 (o.ldN 3 (.t s4))
(lM s99 s12
(lM s100 s2
(lM s101 s13
(lN s102 (o.add (.t s100) (.t s101))
(lM s103 s3
(lM s104 s13
(lN s105 (o.add (.t s103) (.t s104))
(lE [] [(s97,(o.ld1 (.t s96)))] (some s106) (actC p81 [(.t s98),(.t s99),(.t s102),(.t s105)])
(lA 11 s107 (floatK (.buildS 30 1 [(.int .i64 (.ofNat 0)),(.int .i64 (.ofNat 0)),(.bool false),(.str []),.nils,.nils] [(0,6,(.t s106))]))
(lE [11] [] (some s108) (actV (oApp 30 6 (.t s97) (.t s107)))
(lN s109 (o.fa 5 (.t s10))
(lE [11] [] none (actV (o.st1 (.t s109) (.t s108)))
sEnd)))))))))))))))))))
(dOps (dV s110 (o.add (.t s84) (.c (.int .i64 (.ofNat 1))))
(vM s84 s110
dE)))))))))
(dSeq (dOps (dV s111 (o.ldN 6 (.t s10))
(dU (oSt 6 (.t s8) (.t s111))
dE)))
dRet))))),[(.cN s8 6)]⟩
def af81:AF:=afG81 fastO
def afG82 (o:Ops):AF:=⟨(dSeq (dOps (dV s3 (oBox 30 (.t s0))
(vC s6 (.int .i64 (.ofNat 0))
(vC s7 (.int .i64 (.ofNat 0))
dE))))
(dSeq (dOps (vC s8 (.int .i64 (.ofNat 1))
dE))
(dSeq (dOps (vC s9 (.int .i64 (.ofNat 0))
dE))
(dSeq (dSeq (dOps (vM s13 s1
(dV s14 (o.lss (.t s13) (.c (.int .i64 (.ofNat 1))))
(vM s15 s14
(o.g s15 false (some s16) (vM s16 s2)
(o.g s15 false (some s17) (dV s17 (o.lss (.t s16) (.c (.int .i64 (.ofNat 1)))))
(dV s18 (o.pick (.t s15) (.c (.bool true)) (.t s17))
dE)))))))
(o.cond (.t s18) (dSeq (dOps (vC s6 (.int .i64 (.ofNat 1073741824))
(vC s7 (.int .i64 (.ofNat 1073741824))
dE)))
dRet) dSkip))
(dSeq (dSeq (dOps (vC s10 (.int .i64 (.ofNat 0))
dE))
(dBlock 0 (dLoop (dSeq (dSeq (dOps (vM s19 s10
(dV s20 (o.fa 5 (.t s3))
(dV s21 (o.ld1 (.t s20))
(dV s22 (o.len (.t s21))
(dV s23 (o.lss (.t s19) (.t s22))
dE))))))
(o.cond (.t s23) dSkip (dExit 0)))
(dSeq (dBlock 1 (dSeq (dOps (dV s27 (o.fa 5 (.t s3))
(dV s28 (o.ld1 (.t s27))
(vM s29 s10
(dV s30 (o.ia 6 (.t s28) (.t s29))
(dV s31 (o.ldN 6 (.t s30))
(vM s32 s1
(vM s33 s8
(dV s34 (o.sub (.t s32) (.t s33))
(vM s35 s2
(dV s36 (o.sub (.t s35) (.c (.int .i64 (.ofNat 1))))
(dC (some s37) p82 [(.t s31),(.t s34),(.t s36)]
(vM s26 s37
(dV s38 (o.ext (.t s26) 0)
(dV s39 (o.ext (.t s26) 1)
(vM s11 s38
(vM s12 s39
dE)))))))))))))))))
(dSeq (dOps (vM s40 s8
(vM s41 s11
(dV s42 (o.add (.t s40) (.t s41))
(vM s8 s42
dE)))))
(dSeq (dSeq (dOps (vM s43 s12
(vM s44 s9
(dV s45 (o.gtr (.t s43) (.t s44))
dE))))
(o.cond (.t s45) (dOps (vM s46 s12
(vM s9 s46
dE))) dSkip))
(dSeq (dOps (vM s47 s8
(vM s48 s1
(dV s49 (o.gtr (.t s47) (.t s48))
(vM s50 s49
(o.g s50 false (some s51) (vM s51 s9)
(o.g s50 false (some s52) (vM s52 s2)
(o.g s50 false (some s53) (dV s53 (o.geq (.t s51) (.t s52)))
(dV s54 (o.pick (.t s50) (.c (.bool true)) (.t s53))
dE)))))))))
(o.cond (.t s54) (dSeq (dOps (vC s6 (.int .i64 (.ofNat 1073741824))
(vC s7 (.int .i64 (.ofNat 1073741824))
dE)))
dRet) dSkip))))))
(dOps (vM s24 s10
(dV s25 (o.add (.t s24) (.c (.int .i64 (.ofNat 1))))
(vM s10 s25
dE)))))))))
(dSeq (dOps (vM s55 s8
(vM s56 s9
(dV s57 (o.add (.t s56) (.c (.int .i64 (.ofNat 1))))
(vM s6 s55
(vM s7 s57
dE))))))
dRet)))))),[(.t s6),(.t s7)]⟩
def af82:AF:=afG82 fastO
def afG83 (o:Ops):AF:=⟨(dSeq (dOps (dV s1 (oBox 30 (.t s0))
(vC s2 (.bool false)
dE)))
(dSeq (dOps (dV s8 (o.fa 0 (.t s1))
(dV s9 (o.ld1 (.t s8))
(dC (some s10) p117 [(.t s9)]
(vM s3 s10
dE)))))
(dSeq (dSeq (dOps (vM s11 s3
(dV s12 (o.lss (.t s11) (.c (.int .i64 (.ofNat 0))))
(vM s13 s12
(o.g s13 false (some s14) (vM s14 s3)
(o.g s13 false (some s15) (dV s15 (o.fa 5 (.t s1)))
(o.g s13 false (some s16) (dV s16 (o.ld1 (.t s15)))
(o.g s13 false (some s17) (dV s17 (o.len (.t s16)))
(o.g s13 false (some s18) (dV s18 (o.neq (.t s14) (.t s17)))
(dV s19 (o.pick (.t s13) (.c (.bool true)) (.t s18))
dE))))))))))
(o.cond (.t s19) (dSeq (dOps (vC s2 (.bool false)
dE))
dRet) dSkip))
(dSeq (dSeq (dOps (dV s20 (o.fa 0 (.t s1))
(dV s21 (o.ld1 (.t s20))
dE)))
(dBlock 0 (dSeq (dSeq (dOps (dV s23 (o.eql (.t s21) (.c (.int .i64 (.ofNat 1))))
(vM s22 s23
dE)))
(o.cond (.t s22) dSkip (dOps (dV s24 (o.eql (.t s21) (.c (.int .i64 (.ofNat 11))))
(vM s22 s24
dE)))))
(o.cond (.t s22) (dSeq (dOps (dV s25 (o.fa 1 (.t s1))
(dV s26 (o.ld1 (.t s25))
(dV s27 (o.lss (.t s26) (.c (.int .i64 (.ofNat 0))))
(vM s28 s27
(o.g s28 false (some s29) (dV s29 (o.fa 1 (.t s1)))
(o.g s28 false (some s30) (dV s30 (o.ld1 (.t s29)))
(o.g s28 false (some s31) (dV s31 (o.gtr (.t s30) (.c (.int .i64 (.ofNat 1073741824)))))
(dV s32 (o.pick (.t s28) (.c (.bool true)) (.t s31))
dE)))))))))
(o.cond (.t s32) (dSeq (dOps (vC s2 (.bool false)
dE))
dRet) dSkip)) (dSeq (dOps (dV s34 (o.eql (.t s21) (.c (.int .i64 (.ofNat 2))))
(vM s33 s34
dE)))
(o.cond (.t s33) (dSeq (dOps (dV s35 (o.fa 4 (.t s1))
(dV s36 (o.ld1 (.t s35))
(dV s37 (o.len (.t s36))
(dV s38 (o.neq (.t s37) (.c (.int .i64 (.ofNat 1))))
dE)))))
(o.cond (.t s38) (dSeq (dOps (vC s2 (.bool false)
dE))
dRet) dSkip)) (dSeq (dOps (dV s40 (o.eql (.t s21) (.c (.int .i64 (.ofNat 7))))
(vM s39 s40
dE)))
(o.cond (.t s39) (dSeq (dOps (dV s41 (o.fa 5 (.t s1))
(dV s42 (o.ld1 (.t s41))
(dV s43 (o.ia 6 (.t s42) (.c (.int .i64 (.ofNat 0))))
(dV s44 (o.fa 0 (.t s43))
(dV s45 (o.ld1 (.t s44))
(dV s46 (o.neq (.t s45) (.c (.int .i64 (.ofNat 6))))
dE)))))))
(o.cond (.t s46) (dSeq (dOps (vC s2 (.bool false)
dE))
dRet) dSkip)) (dSeq (dOps (dV s48 (o.eql (.t s21) (.c (.int .i64 (.ofNat 10))))
(vM s47 s48
dE)))
(o.cond (.t s47) (dSeq (dOps (dV s49 (o.fa 3 (.t s1))
(dV s50 (o.ld1 (.t s49))
(dV s51 (o.eql (.t s50) (.c (.str [])))
(vM s52 s51
(o.g s52 false (some s53) (dV s53 (o.fa 3 (.t s1)))
(o.g s52 false (some s54) (dV s54 (o.ld1 (.t s53)))
(o.g s52 false (some s55) (dV s55 (oLenS (.t s54)))
(o.g s52 false (some s56) (dV s56 (o.gtr (.t s55) (.c (.int .i64 (.ofNat 60)))))
(dV s57 (o.pick (.t s52) (.c (.bool true)) (.t s56))
dE))))))))))
(o.cond (.t s57) (dSeq (dOps (vC s2 (.bool false)
dE))
dRet) dSkip)) dSkip))))))))))
(dSeq (dSeq (dOps (dV s58 (o.fa 0 (.t s1))
(dV s59 (o.ld1 (.t s58))
(dV s60 (o.eql (.t s59) (.c (.int .i64 (.ofNat 2))))
(vM s61 s60
(o.g s61 false (some s62) (dV s62 (o.fa 0 (.t s1)))
(o.g s61 false (some s63) (dV s63 (o.ld1 (.t s62)))
(o.g s61 false (some s64) (dV s64 (o.eql (.t s63) (.c (.int .i64 (.ofNat 10)))))
(dV s65 (o.pick (.t s61) (.c (.bool true)) (.t s64))
dE)))))))))
(o.cond (.t s65) (dSeq (dOps (vC s4 (.int .i64 (.ofNat 0))
dE))
(dBlock 1 (dLoop (dSeq (dSeq (dOps (vM s66 s4
(dV s67 (o.fa 4 (.t s1))
(dV s68 (o.ld1 (.t s67))
(dV s69 (o.len (.t s68))
(dV s70 (o.lss (.t s66) (.t s69))
dE))))))
(o.cond (.t s70) dSkip (dExit 1)))
(dSeq (dBlock 2 (dSeq (dOps (dV s73 (o.fa 4 (.t s1))
(dV s74 (o.ld1 (.t s73))
(vM s75 s4
(dV s76 (o.ia 2 (.t s74) (.t s75))
(dV s77 (o.ldN 2 (.t s76))
(dC (some s78) p118 [(.t s77)]
(vM s5 s78
dE))))))))
(dSeq (dOps (vM s79 s5
(dV s80 (o.not (.t s79))
dE)))
(o.cond (.t s80) (dSeq (dOps (vC s2 (.bool false)
dE))
dRet) dSkip))))
(dOps (vM s71 s4
(dV s72 (o.add (.t s71) (.c (.int .i64 (.ofNat 1))))
(vM s4 s72
dE))))))))) dSkip))
(dSeq (dSeq (dOps (vC s6 (.int .i64 (.ofNat 0))
dE))
(dBlock 3 (dLoop (dSeq (dSeq (dOps (vM s81 s6
(vM s82 s3
(dV s83 (o.lss (.t s81) (.t s82))
dE))))
(o.cond (.t s83) dSkip (dExit 3)))
(dSeq (dBlock 4 (dSeq (dOps (dV s86 (o.fa 5 (.t s1))
(dV s87 (o.ld1 (.t s86))
(vM s88 s6
(dV s89 (o.ia 6 (.t s87) (.t s88))
(dV s90 (o.ldN 6 (.t s89))
(dC (some s91) p83 [(.t s90)]
(vM s7 s91
dE))))))))
(dSeq (dOps (vM s92 s7
(dV s93 (o.not (.t s92))
dE)))
(o.cond (.t s93) (dSeq (dOps (vC s2 (.bool false)
dE))
dRet) dSkip))))
(dOps (vM s84 s6
(dV s85 (o.add (.t s84) (.c (.int .i64 (.ofNat 1))))
(vM s6 s85
dE)))))))))
(dSeq (dOps (vC s2 (.bool true)
dE))
dRet))))))),[(.t s2)]⟩
def af83:AF:=afG83 fastO
def afG84 (o:Ops):AF:=⟨(dSeq (dOps (vC s4 .nils
dE))
(dSeq (dBlock 0 (dLoop (dSeq (dSeq (dOps (vM s5 s1
(dV s6 (o.geq (.t s5) (.c (.int .i64 (.ofNat 128))))
dE)))
(o.cond (.t s6) dSkip (dExit 0)))
(dBlock 1 (dSeq (dOps (vM s7 s0
(vM s8 s1
(dV s9 (oAr .rem (.t s8) (.c (.int .i64 (.ofNat 128))))
(dV s10 (oCvI .u8 (.t s9))
(dV s11 (o.add (.t s10) (.c (.int .u8 (.ofNat 128))))
(dV s12 (oBuildS 5 1 [(.int .u8 (.ofNat 0))] [(0,1,(.t s11))])
(dV s13 (oApp 5 1 (.t s7) (.t s12))
(vM s0 s13
dE)))))))))
(dOps (vM s14 s1
(dV s15 (oAr .quo (.t s14) (.c (.int .i64 (.ofNat 128))))
(vM s1 s15
dE)))))))))
(dSeq (dOps (vM s16 s0
(vM s17 s1
(dV s18 (oCvI .u8 (.t s17))
(dV s19 (oBuildS 5 1 [(.int .u8 (.ofNat 0))] [(0,1,(.t s18))])
(dV s20 (oApp 5 1 (.t s16) (.t s19))
(vM s4 s20
dE)))))))
dRet))),[(.t s4)]⟩
def af84:AF:=afG84 fastO
def afG85 (o:Ops):AF:=⟨(dSeq (dOps (dV s3 (oBox 50 (.t s1))
(vC s4 .nils
dE)))
(dSeq (dDraw (lM s6 s0
(lN s7 (o.fa 0 (.t s3))
(lN s8 (o.ld1 (.t s7))
(lN s10 (o.fa 1 (.t s3))
(lN s11 (o.ld1 (.t s10))
(lN s12 (o.len (.t s11))
(lE [] [(s11,(o.ld1 (.t s10)))] (some s9) (actC p84 [(.t s6),(.t s8)])
(lE [] [] (some s13) (actC p84 [(.t s9),(.t s12)])
(lE [] [] (some s0) (actV (oMv (.t s13)))
sEnd))))))))))
(dSeq (dSeq (dOps (vC s5 (.int .i64 (.ofNat 0))
dE))
(dBlock 0 (dLoop (dSeq (dSeq (dOps (vM s14 s5
(dV s15 (o.fa 1 (.t s3))
(dV s16 (o.ld1 (.t s15))
(dV s17 (o.len (.t s16))
(dV s18 (o.lss (.t s14) (.t s17))
dE))))))
(o.cond (.t s18) dSkip (dExit 0)))
(dSeq (dBlock 1 (dDraw (lM s21 s0
(lN s22 (o.fa 1 (.t s3))
(lN s23 (o.ld1 (.t s22))
(lM s24 s5
(lN s25 (o.ia 2 (.t s23) (.t s24))
(lN s26 (o.fa 0 (.t s25))
(lN s27 (o.ld1 (.t s26))
(lN s29 (o.fa 1 (.t s3))
(lN s30 (o.ld1 (.t s29))
(lM s31 s5
(lN s32 (o.ia 2 (.t s30) (.t s31))
(lN s33 (o.fa 1 (.t s32))
(lN s34 (o.ld1 (.t s33))
(lE [] [(s30,(o.ld1 (.t s29))),(s34,(o.ld1 (.t s33)))] (some s28) (actC p84 [(.t s21),(.t s27)])
(lE [] [] (some s35) (actC p84 [(.t s28),(.t s34)])
(lE [] [] (some s0) (actV (oMv (.t s35)))
sEnd))))))))))))))))))
(dOps (vM s19 s5
(dV s20 (o.add (.t s19) (.c (.int .i64 (.ofNat 1))))
(vM s5 s20
dE)))))))))
(dSeq (dOps (vM s36 s0
(vM s4 s36
dE)))
dRet)))),[(.t s4)]⟩
def af85:AF:=afG85 fastO
def afG86 (o:Ops):AF:=⟨(dSeq (dOps (vC s4 .nils
dE))
(dSeq (dOps (vM s5 s0
(vM s6 s1
(dV s7 (oLenS (.t s6))
(dC (some s8) p84 [(.t s5),(.t s7)]
(vM s9 s1
(dV s10 (oApp 5 1 (.t s8) (.t s9))
(vM s4 s10
dE))))))))
dRet)),[(.t s4)]⟩
def af86:AF:=afG86 fastO
def afG87 (o:Ops):AF:=⟨(dSeq (dOps (dV s1 (oBox 33 (.t s0))
(vC s2 (.int .i64 (.ofNat 0))
dE)))
(dSeq (dSeq (dOps (dV s4 (o.fa 0 (.t s1))
(dV s5 (o.ld1 (.t s4))
(dV s6 (o.lss (.t s5) (.c (.int .i64 (.ofNat 1))))
(vM s7 s6
(o.g s7 false (some s8) (dV s8 (o.fa 0 (.t s1)))
(o.g s7 false (some s9) (dV s9 (o.ld1 (.t s8)))
(o.g s7 false (some s10) (dV s10 (o.gtr (.t s9) (.c (.int .i64 (.ofNat 3)))))
(dV s11 (o.pick (.t s7) (.c (.bool true)) (.t s10))
(vM s12 s11
(o.g s12 false (some s13) (dV s13 (o.fa 1 (.t s1)))
(o.g s12 false (some s14) (dV s14 (o.ld1 (.t s13)))
(o.g s12 false (some s15) (dC (some s15) p119 [(.t s14)])
(o.g s12 false (some s16) (dV s16 (o.not (.t s15)))
(dV s17 (o.pick (.t s12) (.c (.bool true)) (.t s16))
dE)))))))))))))))
(o.cond (.t s17) (dSeq (dOps (vC s2 (.int .i64 (.ofNat 10))
dE))
dRet) dSkip))
(dSeq (dSeq (dOps (dV s18 (o.fa 2 (.t s1))
(dV s19 (o.ld1 (.t s18))
(dV s20 (o.lss (.t s19) (.c (.int .i64 (.ofNat 0))))
(vM s21 s20
(o.g s21 false (some s22) (dV s22 (o.fa 2 (.t s1)))
(o.g s21 false (some s23) (dV s23 (o.ld1 (.t s22)))
(o.g s21 false (some s24) (dV s24 (o.gtr (.t s23) (.c (.int .i64 (.ofNat 8)))))
(dV s25 (o.pick (.t s21) (.c (.bool true)) (.t s24))
dE)))))))))
(o.cond (.t s25) (dSeq (dOps (vC s2 (.int .i64 (.ofNat 13))
dE))
dRet) dSkip))
(dSeq (dSeq (dOps (dV s26 (o.fa 3 (.t s1))
(dV s27 (o.ldN 6 (.t s26))
(dC (some s28) p41 [(.t s27)]
(vM s3 s28
dE)))))
(dSeq (dOps (vM s29 s3
(dV s30 (o.neq (.t s29) (.c (.int .i64 (.ofNat 0))))
dE)))
(o.cond (.t s30) (dSeq (dOps (vM s31 s3
(vM s2 s31
dE)))
dRet) dSkip)))
(dSeq (dSeq (dOps (dV s32 (o.fa 0 (.t s1))
(dV s33 (o.ld1 (.t s32))
dE)))
(dBlock 0 (dSeq (dOps (dV s35 (o.eql (.t s33) (.c (.int .i64 (.ofNat 2))))
(vM s34 s35
dE)))
(o.cond (.t s34) (dSeq (dOps (dV s36 (o.fa 9 (.t s1))
(dV s37 (o.ldN 6 (.t s36))
(dC (some s38) p41 [(.t s37)]
(vM s2 s38
dE)))))
dRet) (dSeq (dOps (dV s40 (o.eql (.t s33) (.c (.int .i64 (.ofNat 3))))
(vM s39 s40
dE)))
(o.cond (.t s39) (dSeq (dOps (dV s41 (o.ldN 17 (.t s1))
(dC (some s42) p120 [(.t s41)]
(vM s2 s42
dE))))
dRet) dSkip))))))
(dSeq (dOps (vC s2 (.int .i64 (.ofNat 0))
dE))
dRet)))))),[(.t s2)]⟩
def af87:AF:=afG87 fastO
def afG88 (o:Ops):AF:=⟨(dSeq (dOps (vM s4 s0
(vM s5 s1
(dV s6 (o.len (.t s5))
(dC (some s7) p121 [(.t s4),(.t s6)]
dE)))))
(dOps (vM s8 s1
(vM s9 s0
(dV s10 (oMkf 123 [(.t s9)] [])
(dC (some s11) p122 [(.t s8),(.t s10)]
dE)))))),[]⟩
def af88:AF:=afG88 fastO
def afG89 (o:Ops):AF:=⟨(dSeq (dOps (vC s2 .nils
(vC s3 (.int .i64 (.ofNat 0))
dE)))
(dSeq (dSeq (dOps (vM s4 s0
(dV s5 (o.nchk (.t s4))
(dV s6 (o.fa 1 (.t s5))
(dV s7 (o.ld1 (.t s6))
dE)))))
(o.cond (.t s7) (dSeq (dOps (vC s2 .nils
(vC s3 (.int .i64 (.ofNat 2))
dE)))
dRet) dSkip))
(dSeq (dOps (vM s8 s0
(dV s9 (o.nchk (.t s8))
(dV s10 (o.fa 0 (.t s9))
(dV s11 (o.ld1 (.t s10))
(vM s2 s11
(vC s3 (.int .i64 (.ofNat 0))
dE)))))))
dRet))),[(.t s2),(.t s3)]⟩
def af89:AF:=afG89 fastO
def afG90 (o:Ops):AF:=⟨(dSeq (dOps (dV s1 (oBox 30 (.t s0))
(dV s2 (oNew [(.int .i64 (.ofNat 0)),(.int .i64 (.ofNat 0)),(.bool false),(.str []),.nils,.nils] 30)
dE)))
(dSeq (dSeq (dOps (dV s8 (o.ldN 6 (.t s1))
(dC (some s9) p71 [(.t s8),(.c (.int .i64 (.ofNat 16777216))),(.c (.int .i64 (.ofNat 65536)))]
(vM s7 s9
(dV s10 (o.ext (.t s7) 0)
(dV s11 (o.ext (.t s7) 1)
(vM s3 s10
(vM s4 s11
dE))))))))
(dSeq (dOps (vM s12 s4
(dV s13 (o.neq (.t s12) (.c (.int .i64 (.ofNat 0))))
dE)))
(o.cond (.t s13) (dSeq (dOps (dV s14 (oBuild [(.int .i64 (.ofNat 0)),(.int .i64 (.ofNat 0)),(.bool false),(.str []),.nils,.nils] [])
(dU (oSt 6 (.t s2) (.t s14))
dE)))
dRet) dSkip)))
(dSeq (dOps (dV s16 (o.ldN 6 (.t s1))
(dV s17 (oBuild [(.int .i64 (.ofNat 0)),(.int .i64 (.ofNat 0))] [])
(dC (some s18) p124 [(.t s16),(.t s17),(.c (.fn (.func 125) [] [])),(.c (.fn (.func 126) [] []))]
(vM s15 s18
(dV s19 (o.ext (.t s15) 0)
(dV s20 (o.ext (.t s15) 1)
(dV s5 (oNew [(.int .i64 (.ofNat 0)),(.int .i64 (.ofNat 0)),(.bool false),(.str []),.nils,.nils] 30)
(dU (oSt 6 (.t s5) (.t s19))
(vM s6 s20
dE))))))))))
(dSeq (dOps (dV s21 (o.ldN 6 (.t s5))
(dU (oSt 6 (.t s2) (.t s21))
dE)))
dRet)))),[(.cN s2 6)]⟩
def af90:AF:=afG90 fastO
def afG91 (o:Ops):AF:=⟨(dSeq (dOps (vC s4 (.int .i64 (.ofNat 0))
dE))
(dSeq (dSeq (dOps (vM s6 s0
(dV s7 (o.len (.t s6))
(vC s8 (.int .i64 (.ofNat 0))
dE))))
(dBlock 0 (dLoop (dSeq (dOps (dV s9 (o.lss (.t s8) (.t s7))
dE))
(dSeq (o.cond (.t s9) dSkip (dExit 0))
(dSeq (dBlock 1 (dSeq (dOps (vM s10 s8
(vM s5 s10
dE)))
(dSeq (dOps (vM s11 s1
(vM s12 s0
(vM s13 s5
(dV s14 (o.ia 6 (.t s12) (.t s13))
(dV s15 (o.ldN 6 (.t s14))
(dCv (some s16) (.t s11) [(.t s15)]
dE)))))))
(o.cond (.t s16) (dSeq (dOps (vM s17 s5
(vM s4 s17
dE)))
dRet) dSkip))))
(dOps (dV s18 (o.add (.t s8) (.c (.int .i64 (.ofNat 1))))
(vM s8 s18
dE)))))))))
(dSeq (dOps (vC s4 (.int .i64 (.negSucc 0))
dE))
dRet))),[(.t s4)]⟩
def af91:AF:=afG91 fastO
def afG92 (o:Ops):AF:=⟨(dSeq (dOps (dV s1 (oBox 30 (.t s0))
(vC s2 (.int .i64 (.ofNat 0))
dE)))
(dSeq (dSeq (dOps (dV s5 (o.ldN 6 (.t s1))
(dC (some s6) p41 [(.t s5)]
(dV s7 (o.neq (.t s6) (.c (.int .i64 (.ofNat 0))))
dE))))
(o.cond (.t s7) (dSeq (dOps (vC s2 (.int .i64 (.ofNat 0))
dE))
dRet) dSkip))
(dSeq (dOps (dV s9 (o.ldN 6 (.t s1))
(dV s10 (oBuild [(.int .i64 (.ofNat 0)),(.int .i64 (.ofNat 0))] [])
(dC (some s11) p72 [(.t s9),(.t s10),(.c (.fn (.func 127) [] [])),(.c (.fn (.func 128) [] []))]
(vM s8 s11
(dV s12 (o.ext (.t s8) 0)
(dV s13 (o.ext (.t s8) 1)
(vM s3 s12
(vM s4 s13
dE)))))))))
(dSeq (dOps (vM s14 s3
(vM s2 s14
dE)))
dRet)))),[(.t s2)]⟩
def af92:AF:=afG92 fastO
def afG93 (o:Ops):AF:=⟨(dSeq (dOps (vC s2 (.bool false)
dE))
(dSeq (dOps (vM s3 s0
(dV s4 (o.neq (.t s3) (.c (.str [])))
(vM s5 s4
(o.g s5 true (some s6) (vM s6 s0)
(o.g s5 true (some s7) (dV s7 (oLenS (.t s6)))
(o.g s5 true (some s8) (dV s8 (o.leq (.t s7) (.c (.int .i64 (.ofNat 60)))))
(dV s9 (o.pick (.t s5) (.t s8) (.c (.bool false)))
(vM s2 s9
dE)))))))))
dRet)),[(.t s2)]⟩
def af93:AF:=afG93 fastO
def afG94 (o:Ops):AF:=⟨(dSeq (dOps (dV s2 (oBox 30 (.t s0))
(vC s4 (.int .i64 (.ofNat 0))
dE)))
(dSeq (dSeq (dOps (dV s9 (o.fa 0 (.t s2))
(dV s10 (o.ld1 (.t s9))
(dV s11 (o.eql (.t s10) (.c (.int .i64 (.ofNat 1))))
dE))))
(o.cond (.t s11) (dSeq (dSeq (dOps (dV s12 (o.fa 1 (.t s2))
(dV s13 (o.ld1 (.t s12))
(vM s14 s1
(dV s15 (o.lss (.t s13) (.t s14))
dE)))))
(o.cond (.t s15) (dSeq (dOps (vC s4 (.int .i64 (.ofNat 0))
dE))
dRet) dSkip))
(dSeq (dOps (dV s16 (o.fa 1 (.t s2))
(dV s17 (o.ld1 (.t s16))
(vM s18 s1
(dV s19 (o.sub (.t s17) (.t s18))
(dV s20 (o.add (.t s19) (.c (.int .i64 (.ofNat 1))))
(vM s4 s20
dE)))))))
dRet)) dSkip))
(dSeq (dOps (vC s5 (.int .i64 (.ofNat 0))
dE))
(dSeq (dSeq (dOps (vC s6 (.int .i64 (.ofNat 0))
dE))
(dBlock 0 (dLoop (dSeq (dSeq (dOps (vM s21 s6
(dV s22 (o.fa 5 (.t s2))
(dV s23 (o.ld1 (.t s22))
(dV s24 (o.len (.t s23))
(dV s25 (o.lss (.t s21) (.t s24))
dE))))))
(o.cond (.t s25) dSkip (dExit 0)))
(dSeq (dBlock 1 (dSeq (dOps (vM s28 s1
(vM s7 s28
dE)))
(dSeq (dSeq (dOps (vM s29 s6
(dV s30 (o.eql (.t s29) (.c (.int .i64 (.ofNat 1))))
(vM s31 s30
(o.g s31 true (some s32) (dV s32 (o.fa 0 (.t s2)))
(o.g s31 true (some s33) (dV s33 (o.ld1 (.t s32)))
(o.g s31 true (some s34) (dC (some s34) p129 [(.t s33)])
(dV s35 (o.pick (.t s31) (.t s34) (.c (.bool false)))
dE))))))))
(o.cond (.t s35) (dOps (vM s36 s7
(dV s37 (o.add (.t s36) (.c (.int .i64 (.ofNat 1))))
(vM s7 s37
dE)))) dSkip))
(dSeq (dOps (dV s38 (o.fa 5 (.t s2))
(dV s39 (o.ld1 (.t s38))
(vM s40 s6
(dV s41 (o.ia 6 (.t s39) (.t s40))
(dV s42 (o.ldN 6 (.t s41))
(vM s43 s7
(dC (some s44) p94 [(.t s42),(.t s43)]
(vM s8 s44
dE)))))))))
(dSeq (dOps (vM s45 s8
(vM s46 s5
(dV s47 (o.gtr (.t s45) (.t s46))
dE))))
(o.cond (.t s47) (dOps (vM s48 s8
(vM s5 s48
dE))) dSkip))))))
(dOps (vM s26 s6
(dV s27 (o.add (.t s26) (.c (.int .i64 (.ofNat 1))))
(vM s6 s27
dE)))))))))
(dSeq (dOps (vM s49 s5
(vM s4 s49
dE)))
dRet))))),[(.t s4)]⟩
def af94:AF:=afG94 fastO
def afG95 (o:Ops):AF:=⟨(dSeq (dOps (dV s4 (oBox 30 (.t s1))
(dV s5 (oBox 141 (.t s2))
(vC s6 (.int .i64 (.ofNat 0))
(vC s7 (.int .i64 (.ofNat 0))
dE)))))
(dSeq (dOps (vM s8 s0
(dV s9 (o.nchk (.t s8))
(dV s10 (o.fa 0 (.t s9))
(dV s11 (o.ld1 (.t s10))
(dV s12 (o.sub (.t s11) (.c (.int .i64 (.ofNat 1))))
(dV s13 (o.nchk (.t s8))
(dV s14 (o.fa 0 (.t s13))
(dU (o.st1 (.t s14) (.t s12))
dE)))))))))
(dSeq (dSeq (dDraw (lM s15 s0
(lN s16 (o.nchk (.t s15))
(lN s17 (o.fa 0 (.t s16))
(lN s18 (o.ld1 (.t s17))
(lN s19 (o.lss (.t s18) (.c (.int .i64 (.ofNat 0))))
(lM s20 s19
(lG s20 false s21 (o.fa 1 (.t s5))
(lG s20 false s22 (o.ld1 (.t s21))
(lG s20 false s23 (oMv (.t s0))
(lG s20 false s24 (o.nchk (.t s23))
(lG s20 false s25 (o.fa 1 (.t s24))
(lG s20 false s26 (o.ld1 (.t s25))
(lG s20 false s27 (o.geq (.t s22) (.t s26))
(lN s28 (o.pick (.t s20) (.c (.bool true)) (.t s27))
sEnd)))))))))))))))
(o.cond (.t s28) (dSeq (dOps (vC s6 (.int .i64 (.ofNat 0))
(vC s7 (.int .i64 (.ofNat 2))
dE)))
dRet) dSkip))
(dSeq (dOps (vC s6 (.int .i64 (.ofNat 1))
(vC s7 (.int .i64 (.ofNat 0))
dE)))
dRet)))),[(.t s6),(.t s7)]⟩
def af95:AF:=afG95 fastO
def afG96 (o:Ops):AF:=⟨(dSeq (dOps (dV s1 (oBox 30 (.t s0))
(dV s2 (oNew [.nils,.nils] 190)
dE)))
(dSeq (dDraw (lN s5 (o.fa 5 (.t s1))
(lN s6 (o.ld1 (.t s5))
(lN s7 (o.len (.t s6))
(lN s8 (o.fa 5 (.t s1))
(lN s9 (o.ld1 (.t s8))
(lN s10 (o.len (.t s9))
(lM s3 s7
(lM s4 s10
sEnd)))))))))
(dSeq (dSeq (dOps (dV s11 (o.fa 0 (.t s1))
(dV s12 (o.ld1 (.t s11))
(dV s13 (o.eql (.t s12) (.c (.int .i64 (.ofNat 3))))
(vM s14 s13
(o.g s14 false (some s15) (dV s15 (o.fa 0 (.t s1)))
(o.g s14 false (some s16) (dV s16 (o.ld1 (.t s15)))
(o.g s14 false (some s17) (dV s17 (o.eql (.t s16) (.c (.int .i64 (.ofNat 4)))))
(dV s18 (o.pick (.t s14) (.c (.bool true)) (.t s17))
(vM s19 s18
(o.g s19 false (some s20) (dV s20 (o.fa 0 (.t s1)))
(o.g s19 false (some s21) (dV s21 (o.ld1 (.t s20)))
(o.g s19 false (some s22) (dV s22 (o.eql (.t s21) (.c (.int .i64 (.ofNat 6)))))
(dV s23 (o.pick (.t s19) (.c (.bool true)) (.t s22))
dE))))))))))))))
(o.cond (.t s23) (dOps (vM s24 s3
(dV s25 (oMm false [(.t s24),(.c (.int .i64 (.ofNat 1)))])
(vM s3 s25
dE)))) dSkip))
(dSeq (dDraw (lN s26 (o.fa 5 (.t s1))
(lN s27 (o.ld1 (.t s26))
(lM s28 s3
(lM s29 s3
(lN s30 (oSl 6 (.t s27) none (some (.t s28)) (some (.t s29)))
(lN s31 (o.fa 5 (.t s1))
(lN s32 (o.ld1 (.t s31))
(lM s33 s3
(lM s34 s4
(lM s35 s4
(lN s36 (oSl 6 (.t s32) (some (.t s33)) (some (.t s34)) (some (.t s35)))
(lN s37 (oBuild [.nils,.nils] [(0,1,(.t s30)),(1,1,(.t s36))])
(lE [] [] none (actV (oSt 2 (.t s2) (.t s37)))
sEnd))))))))))))))
dRet)))),[(.cN s2 2)]⟩
def af96:AF:=afG96 fastO
def afG97 (o:Ops):AF:=⟨(dSeq (dOps (vC s2 (.int .i64 (.ofNat 0))
dE))
(dSeq (dOps (vC s3 (.int .i64 (.ofNat 0))
dE))
(dSeq (dSeq (dOps (vM s4 s0
dE))
(dBlock 0 (dSeq (dBlock 4 (dSeq (dBlock 3 (dSeq (dBlock 2 (dSeq (dBlock 1 (dSeq (dSeq (dSeq (dOps (dV s6 (o.eql (.t s4) (.c (.int .i64 (.ofNat 7))))
(vM s5 s6
dE)))
(o.cond (.t s5) (dExit 1) dSkip))
(dSeq (dSeq (dSeq (dOps (dV s8 (o.eql (.t s4) (.c (.int .i64 (.ofNat 3))))
(vM s7 s8
dE)))
(o.cond (.t s7) dSkip (dSeq (dOps (dV s9 (o.eql (.t s4) (.c (.int .i64 (.ofNat 4))))
(vM s7 s9
dE)))
(o.cond (.t s7) dSkip (dSeq (dOps (dV s10 (o.eql (.t s4) (.c (.int .i64 (.ofNat 5))))
(vM s7 s10
dE)))
(o.cond (.t s7) dSkip (dOps (dV s11 (o.eql (.t s4) (.c (.int .i64 (.ofNat 6))))
(vM s7 s11
dE)))))))))
(o.cond (.t s7) (dExit 2) dSkip))
(dSeq (dSeq (dSeq (dOps (dV s13 (o.eql (.t s4) (.c (.int .i64 (.ofNat 8))))
(vM s12 s13
dE)))
(o.cond (.t s12) dSkip (dOps (dV s14 (o.eql (.t s4) (.c (.int .i64 (.ofNat 9))))
(vM s12 s14
dE)))))
(o.cond (.t s12) (dExit 3) dSkip))
(dSeq (dSeq (dOps (dV s16 (o.eql (.t s4) (.c (.int .i64 (.ofNat 1))))
(vM s15 s16
dE)))
(o.cond (.t s15) dSkip (dSeq (dOps (dV s17 (o.eql (.t s4) (.c (.int .i64 (.ofNat 2))))
(vM s15 s17
dE)))
(o.cond (.t s15) dSkip (dSeq (dOps (dV s18 (o.eql (.t s4) (.c (.int .i64 (.ofNat 10))))
(vM s15 s18
dE)))
(o.cond (.t s15) dSkip (dOps (dV s19 (o.eql (.t s4) (.c (.int .i64 (.ofNat 11))))
(vM s15 s19
dE)))))))))
(o.cond (.t s15) (dExit 4) dSkip)))))
(dExit 0)))
(dOps (vM s20 s3
(dV s21 (o.add (.t s20) (.c (.int .i64 (.ofNat 1))))
(vM s3 s21
dE))))))
(dOps (vM s22 s3
(dV s23 (o.add (.t s22) (.c (.int .i64 (.ofNat 1))))
(vM s3 s23
dE))))))
(dOps (vM s24 s3
(dV s25 (o.add (.t s24) (.c (.int .i64 (.ofNat 1))))
(vM s3 s25
dE))))))
(dSeq (dSeq (dOps (vM s26 s3
(vM s2 s26
dE)))
dRet)
(dExit 0)))))
(dSeq (dOps (vC s2 (.int .i64 (.negSucc 0))
dE))
dRet)))),[(.t s2)]⟩
def af97:AF:=afG97 fastO
def afG98 (o:Ops):AF:=⟨(dSeq (dOps (dV s1 (oBox 30 (.t s0))
(vC s2 (.bool false)
dE)))
(dSeq (dSeq (dOps (dV s3 (o.fa 0 (.t s1))
(dV s4 (o.ld1 (.t s3))
dE)))
(dBlock 0 (dSeq (dSeq (dOps (dV s6 (o.eql (.t s4) (.c (.int .i64 (.ofNat 1))))
(vM s5 s6
dE)))
(o.cond (.t s5) dSkip (dOps (dV s7 (o.eql (.t s4) (.c (.int .i64 (.ofNat 11))))
(vM s5 s7
dE)))))
(o.cond (.t s5) (dSeq (dOps (dV s8 (o.fa 1 (.t s1))
(dV s9 (o.ld1 (.t s8))
(dV s10 (o.leq (.c (.int .i64 (.ofNat 0))) (.t s9))
(vM s11 s10
(o.g s11 true (some s12) (dV s12 (o.fa 1 (.t s1)))
(o.g s11 true (some s13) (dV s13 (o.ld1 (.t s12)))
(o.g s11 true (some s14) (dV s14 (o.leq (.t s13) (.c (.int .i64 (.ofNat 1073741824)))))
(dV s15 (o.pick (.t s11) (.t s14) (.c (.bool false)))
(vM s2 s15
dE))))))))))
dRet) (dSeq (dOps (dV s17 (o.eql (.t s4) (.c (.int .i64 (.ofNat 7))))
(vM s16 s17
dE)))
(o.cond (.t s16) (dSeq (dOps (dV s18 (o.fa 5 (.t s1))
(dV s19 (o.ld1 (.t s18))
(dV s20 (o.ia 6 (.t s19) (.c (.int .i64 (.ofNat 0))))
(dV s21 (o.fa 0 (.t s20))
(dV s22 (o.ld1 (.t s21))
(dV s23 (o.eql (.t s22) (.c (.int .i64 (.ofNat 6))))
(vM s2 s23
dE))))))))
dRet) (dSeq (dOps (dV s25 (o.eql (.t s4) (.c (.int .i64 (.ofNat 2))))
(vM s24 s25
dE)))
(o.cond (.t s24) (dSeq (dOps (dV s26 (o.fa 4 (.t s1))
(dV s27 (o.ld1 (.t s26))
(dV s28 (o.len (.t s27))
(dV s29 (o.eql (.t s28) (.c (.int .i64 (.ofNat 1))))
(vM s30 s29
(o.g s30 true (some s31) (dV s31 (o.fa 4 (.t s1)))
(o.g s30 true (some s32) (dV s32 (o.ld1 (.t s31)))
(o.g s30 true (some s33) (dV s33 (o.ia 2 (.t s32) (.c (.int .i64 (.ofNat 0)))))
(o.g s30 true (some s34) (dV s34 (o.ldN 2 (.t s33)))
(o.g s30 true (some s35) (dC (some s35) p130 [(.t s34)])
(dV s36 (o.pick (.t s30) (.t s35) (.c (.bool false)))
(vM s2 s36
dE)))))))))))))
dRet) (dSeq (dOps (dV s38 (o.eql (.t s4) (.c (.int .i64 (.ofNat 10))))
(vM s37 s38
dE)))
(o.cond (.t s37) (dSeq (dOps (dV s39 (o.fa 3 (.t s1))
(dV s40 (o.ld1 (.t s39))
(dV s41 (o.neq (.t s40) (.c (.str [])))
(vM s42 s41
(o.g s42 true (some s43) (dV s43 (o.fa 3 (.t s1)))
(o.g s42 true (some s44) (dV s44 (o.ld1 (.t s43)))
(o.g s42 true (some s45) (dV s45 (oLenS (.t s44)))
(o.g s42 true (some s46) (dV s46 (o.leq (.t s45) (.c (.int .i64 (.ofNat 60)))))
(dV s47 (o.pick (.t s42) (.t s46) (.c (.bool false)))
(vM s48 s47
(o.g s48 true (some s49) (dV s49 (o.fa 4 (.t s1)))
(o.g s48 true (some s50) (dV s50 (o.ld1 (.t s49)))
(o.g s48 true (some s51) (dC (some s51) p131 [(.t s50),(.c (.fn (.func 132) [] []))])
(o.g s48 true (some s52) (dV s52 (o.not (.t s51)))
(dV s53 (o.pick (.t s48) (.t s52) (.c (.bool false)))
(vM s2 s53
dE)))))))))))))))))
dRet) dSkip))))))))))
(dSeq (dOps (vC s2 (.bool true)
dE))
dRet))),[(.t s2)]⟩
def af98:AF:=afG98 fastO
def afG99 (o:Ops):AF:=⟨(dSeq (dOps (dV s4 (oNew [.nilp] 152)
dE))
(dSeq (dOps (vM s5 s0
(vM s6 s1
(dC (some s7) p133 [(.t s5),(.t s6)]
(dV s8 (oBuild [.nilp] [(0,1,(.t s7))])
(dU (o.st1 (.t s4) (.t s8))
dE))))))
dRet)),[(.cN s4 1)]⟩
def af99:AF:=afG99 fastO
def afG100 (o:Ops):AF:=⟨(dSeq (dOps (dV s1 (oBox 152 (.t s0))
(vC s2 .nilp
dE)))
(dSeq (dDraw (lN s3 (o.ldN 1 (.t s1))
(lA 1 s4 (floatK (.mkM))
(lE [] [(s3,(o.ldN 1 (.t s1)))] (some s5) (actC p134 [])
(lN s6 (oBuild [.nilp,.nils,.nilm,.nilf,.nilf,.nilf,.nilf,.nilf,.nilf,.nilf,.nilf,.nilf,.nilf,.nilf,.nilf] [(0,1,(.t s3)),(2,1,(.t s4)),(3,12,(.t s5))])
(lA 4 s7 (aBox 242 (.t s6))
(lM s2 s7
sEnd)))))))
dRet)),[(.t s2)]⟩
def af100:AF:=afG100 fastO
def afG101 (o:Ops):AF:=⟨(dSeq (dOps (dV s0 (oNew [.nilf,.nilf,.nilf,.nilf,.nilf,.nilf,.nilf,.nilf,.nilf,.nilf,.nilf,.nilf] 155)
dE))
(dSeq (dOps (dV s1 (oBuild [.nilf,.nilf,.nilf,.nilf,.nilf,.nilf,.nilf,.nilf,.nilf,.nilf,.nilf,.nilf] [(1,1,(.c (.fn (.func 135) [] []))),(2,1,(.c (.fn (.func 136) [] []))),(3,1,(.c (.fn (.func 137) [] []))),(4,1,(.c (.fn (.func 138) [] []))),(5,1,(.c (.fn (.func 139) [] []))),(6,1,(.c (.fn (.func 137) [] []))),(7,1,(.c (.fn (.func 140) [] []))),(8,1,(.c (.fn (.func 141) [] []))),(9,1,(.c (.fn (.func 142) [] []))),(10,1,(.c (.fn (.func 143) [] []))),(11,1,(.c (.fn (.func 144) [] [])))])
(dU (oSt 12 (.t s0) (.t s1))
dE)))
dRet)),[(.cN s0 12)]⟩
def af101:AF:=afG101 fastO
def afG102 (o:Ops):AF:=⟨(dSeq (dOps (dV s1 (oBox 70 (.t s0))
(dV s2 (oNew [.nilp,(.int .i64 (.ofNat 0))] 70)
dE)))
(dSeq (dDraw (lN s3 (o.fa 0 (.t s1))
(lN s4 (o.ldN 2 (.t s3))
(lN s5 (o.fa 0 (.t s1))
(lN s6 (o.fa 1 (.t s5))
(lN s7 (o.ld1 (.t s6))
(lE [] [(s4,(o.ldN 2 (.t s3)))] (some s8) (actC p146 [(.t s7)])
(lE [] [] (some s9) (actC p145 [(.t s4),(.t s8)])
(lN s10 (oBuild [.nilp,(.int .i64 (.ofNat 0))] [(0,2,(.t s9))])
(lE [] [] none (actV (oSt 2 (.t s2) (.t s10)))
sEnd))))))))))
dRet)),[(.cN s2 2)]⟩
def af102:AF:=afG102 fastO
def afG103 (o:Ops):AF:=⟨(dSeq (dOps (dV s2 (oBox 73 (.t s0))
(dV s4 (oNew [.nilp] 73)
dE)))
(dSeq (dOps (vM s5 s1
(dV s6 (o.ldN 1 (.t s2))
(dV s7 (oBuild [.nilf,(.bool false),.nilp,.nilp] [(0,1,(.t s5)),(3,1,(.t s6))])
(dV s8 (oBox 245 (.t s7))
(dV s9 (oBuild [.nilp] [(0,1,(.t s8))])
(dU (o.st1 (.t s4) (.t s9))
dE)))))))
dRet)),[(.cN s4 1)]⟩
def af103:AF:=afG103 fastO
def afG104 (o:Ops):AF:=⟨(dSeq (dOps (dV s2 (oNew [.nilp] 104)
dE))
(dSeq (dOps (dV s3 (o.fa 0 (.t s0))
(dV s4 (o.ldN 2 (.t s3))
(dV s5 (o.ldN 6 (.t s1))
(dC (some s6) p77 [(.t s4),(.t s5)]
(dU (o.st1 (.t s2) (.t s6))
dE))))))
dRet)),[(.cN s2 1)]⟩
def af104:AF:=afG104 fastO
def afG105 (o:Ops):AF:=⟨(dSeq (dOps (dV s1 (oBox 30 (.t s0))
(vC s2 .nilp
dE)))
(dSeq (dOps (dV s7 (o.ldN 6 (.t s1))
(dV s8 (oBuild [(.int .i64 (.ofNat 0)),(.int .i64 (.ofNat 0)),(.bool false),(.str []),.nils,.nils,.nils,(.int .i64 (.ofNat 0)),(.int .i64 (.ofNat 0)),(.int .i64 (.ofNat 0)),.nils,.nilp] [(0,6,(.t s7)),(7,1,(.c (.int .i64 (.ofNat 1))))])
(dV s9 (oBox 205 (.t s8))
(vM s3 s9
dE)))))
(dSeq (dOps (vM s10 s3
(dV s11 (o.nchk (.t s10))
(dV s12 (o.fa 0 (.t s11))
(dV s13 (o.fa 5 (.t s12))
(dU (o.st1 (.t s13) (.c .nils))
dE))))))
(dSeq (dSeq (dOps (dV s14 (o.fa 0 (.t s1))
(dV s15 (o.ld1 (.t s14))
(dV s16 (o.eql (.t s15) (.c (.int .i64 (.ofNat 1))))
dE))))
(o.cond (.t s16) (dOps (vM s17 s3
(dV s18 (o.fa 1 (.t s1))
(dV s19 (o.ld1 (.t s18))
(dV s20 (o.add (.t s19) (.c (.int .i64 (.ofNat 1))))
(dV s21 (o.nchk (.t s17))
(dV s22 (o.fa 9 (.t s21))
(dU (o.st1 (.t s22) (.t s20))
dE)))))))) dSkip))
(dSeq (dSeq (dOps (dV s23 (o.fa 5 (.t s1))
(dV s24 (o.ld1 (.t s23))
(dV s25 (o.len (.t s24))
(vC s26 (.int .i64 (.ofNat 0))
dE)))))
(dBlock 0 (dLoop (dSeq (dOps (dV s27 (o.lss (.t s26) (.t s25))
dE))
(dSeq (o.cond (.t s27) dSkip (dExit 0))
(dSeq (dBlock 1 (dSeq (dOps (vM s28 s26
(dV s29 (o.ia 6 (.t s24) (.t s26))
(dV s30 (o.ldN 6 (.t s29))
(dV s5 (oNew [(.int .i64 (.ofNat 0)),(.int .i64 (.ofNat 0)),(.bool false),(.str []),.nils,.nils] 30)
(vM s4 s28
(dU (oSt 6 (.t s5) (.t s30))
dE)))))))
(dSeq (dOps (dV s31 (o.ldN 6 (.t s5))
(dC (some s32) p105 [(.t s31)]
(vM s6 s32
dE))))
(dSeq (dOps (vM s33 s3
(vM s34 s3
(dV s35 (o.nchk (.t s34))
(dV s36 (o.fa 6 (.t s35))
(dV s37 (o.ld1 (.t s36))
(vM s38 s6
(dV s39 (oBuildS 166 1 [.nilp] [(0,1,(.t s38))])
(dV s40 (oApp 166 1 (.t s37) (.t s39))
(dV s41 (o.nchk (.t s33))
(dV s42 (o.fa 6 (.t s41))
(dU (o.st1 (.t s42) (.t s40))
dE))))))))))))
(dSeq (dDraw (lM s43 s3
(lN s44 (o.nchk (.t s43))
(lN s45 (o.fa 7 (.t s44))
(lN s46 (o.ld1 (.t s45))
(lM s47 s6
(lN s48 (o.nchk (.t s47))
(lN s49 (o.fa 7 (.t s48))
(lN s50 (o.ld1 (.t s49))
(lN s51 (o.add (.t s46) (.t s50))
(lN s52 (o.nchk (.t s43))
(lN s53 (o.fa 7 (.t s52))
(lE [] [] none (actV (o.st1 (.t s53) (.t s51)))
sEnd)))))))))))))
(dSeq (dDraw (lM s54 s3
(lM s55 s3
(lN s56 (o.nchk (.t s55))
(lN s57 (o.fa 8 (.t s56))
(lN s58 (o.ld1 (.t s57))
(lM s59 s6
(lN s60 (o.nchk (.t s59))
(lN s61 (o.fa 8 (.t s60))
(lN s62 (o.ld1 (.t s61))
(lN s63 (oMm true [(.t s58),(.t s62)])
(lN s64 (o.nchk (.t s54))
(lN s65 (o.fa 8 (.t s64))
(lE [] [] none (actV (o.st1 (.t s65) (.t s63)))
sEnd))))))))))))))
(dDraw (lM s66 s3
(lM s67 s3
(lN s68 (o.nchk (.t s67))
(lN s69 (o.fa 9 (.t s68))
(lN s70 (o.ld1 (.t s69))
(lM s71 s6
(lN s72 (o.nchk (.t s71))
(lN s73 (o.fa 9 (.t s72))
(lN s74 (o.ld1 (.t s73))
(lM s75 s3
(lN s76 (o.nchk (.t s75))
(lN s77 (o.fa 0 (.t s76))
(lN s78 (o.fa 0 (.t s77))
(lN s79 (o.ld1 (.t s78))
(lM s80 s4
(lE [] [(s70,(o.ld1 (.t s69))),(s74,(o.ld1 (.t s73)))] (some s81) (actC p116 [(.t s79),(.t s80)])
(lN s82 (o.sub (.t s74) (.t s81))
(lN s83 (oMm true [(.t s70),(.t s82)])
(lN s84 (o.nchk (.t s66))
(lN s85 (o.fa 9 (.t s84))
(lE [] [] none (actV (o.st1 (.t s85) (.t s83)))
sEnd))))))))))))))))))))))))))))
(dOps (dV s86 (o.add (.t s26) (.c (.int .i64 (.ofNat 1))))
(vM s26 s86
dE)))))))))
(dSeq (dOps (vM s87 s3
(dV s88 (o.nchk (.t s87))
(dV s89 (o.fa 8 (.t s88))
(dV s90 (o.ld1 (.t s89))
(dV s91 (o.add (.t s90) (.c (.int .i64 (.ofNat 1))))
(dV s92 (o.nchk (.t s87))
(dV s93 (o.fa 8 (.t s92))
(dU (o.st1 (.t s93) (.t s91))
dE)))))))))
(dSeq (dOps (vM s94 s3
(vM s2 s94
dE)))
dRet))))))),[(.t s2)]⟩
def af105:AF:=afG105 fastO
def afG106 (o:Ops):AF:=⟨(dSeq (dOps (dV s1 (oBox 168 (.t s0))
(vC s2 .nilp
dE)))
(dSeq (dSeq (dOps (dV s4 (o.fa 2 (.t s1))
(dV s5 (o.ld1 (.t s4))
(dV s6 (o.nchk (.t s5))
(dV s7 (o.fa 0 (.t s6))
(dV s8 (o.fa 0 (.t s7))
(dV s9 (o.ld1 (.t s8))
(dV s10 (o.eql (.t s9) (.c (.int .i64 (.ofNat 1))))
dE))))))))
(o.cond (.t s10) (dSeq (dDraw (lN s11 (o.fa 0 (.t s1))
(lN s12 (o.ldN 2 (.t s11))
(lN s13 (o.fa 2 (.t s1))
(lN s14 (o.ld1 (.t s13))
(lN s15 (o.nchk (.t s14))
(lN s16 (o.fa 0 (.t s15))
(lN s17 (o.fa 1 (.t s16))
(lN s18 (o.ld1 (.t s17))
(lE [] [] (some s19) (actC p115 [(.t s12),(.t s18)])
(lM s3 s19
sEnd)))))))))))
(dSeq (dOps (vM s20 s3
(dV s21 (o.eqp true (.t s20) (.c .nilp))
dE)))
(o.cond (.t s21) (dSeq (dOps (vM s22 s3
(vM s2 s22
dE)))
dRet) dSkip))) dSkip))
(dSeq (dSeq (dOps (dV s23 (o.fa 2 (.t s1))
(dV s24 (o.ld1 (.t s23))
(dV s25 (o.nchk (.t s24))
(dV s26 (o.fa 9 (.t s25))
(dV s27 (o.ld1 (.t s26))
(dV s28 (o.eql (.t s27) (.c (.int .i64 (.ofNat 0))))
dE)))))))
(o.cond (.t s28) (dOps (dV s29 (oBuild [.nilp,(.int .i64 (.ofNat 0))] [])
(dV s30 (o.fa 0 (.t s1))
(dU (oSt 2 (.t s30) (.t s29))
dE)))) dSkip))
(dSeq (dOps (dV s31 (o.ldN 3 (.t s1))
(dC (some s32) p147 [(.t s31)]
(vM s2 s32
dE))))
dRet)))),[(.t s2)]⟩
def af106:AF:=afG106 fastO
def afG108 (o:Ops):AF:=⟨(dSeq (dOps (vC s2 (.int .i64 (.ofNat 0))
dE))
(dSeq (dDraw (lN s3 (o.fa 0 (.t s0))
(lN s4 (o.ld1 (.t s3))
(lN s5 (o.nchk (.t s4))
(lN s6 (o.fa 2 (.t s5))
(lN s7 (o.ldN 1 (.t s6))
(lN s8 (o.ldN 1 (.t s1))
(lN s9 (o.fa 1 (.t s0))
(lN s10 (o.fa 0 (.t s9))
(lN s11 (o.ldN 2 (.t s10))
(lE [] [(s4,(o.ld1 (.t s3))),(s7,(o.ldN 1 (.t s6))),(s8,(o.ldN 1 (.t s1)))] (some s12) (actC p48 [(.t s11)])
(lE [] [] (some s13) (actC p109 [(.t s7),(.t s8),(.t s12)])
sEnd))))))))))))
(dSeq (dOps (vC s2 (.int .i64 (.ofNat 0))
dE))
dRet))),[(.t s2)]⟩
def af108:AF:=afG108 fastO
def afG109 (o:Ops):AF:=⟨(dSeq (dOps (dV s3 (oBox 152 (.t s0))
(dV s4 (oBox 104 (.t s1))
dE)))
(dSeq (dOps (dV s6 (o.fa 0 (.t s3))
(dV s7 (o.ld1 (.t s6))
(vM s8 s2
(dV s9 (o.nchk (.t s7))
(dV s10 (o.fa 3 (.t s9))
(dU (o.st1 (.t s10) (.t s8))
dE)))))))
(dDraw (lN s11 (o.fa 0 (.t s3))
(lN s12 (o.ld1 (.t s11))
(lN s13 (o.fa 0 (.t s4))
(lN s14 (o.ld1 (.t s13))
(lN s15 (o.nchk (.t s14))
(lN s16 (o.fa 3 (.t s15))
(lN s17 (o.ldN 4 (.t s16))
(lE [] [] (some s18) (actC p150 [(.t s12),(.t s17)])
sEnd))))))))))),[]⟩
def af109:AF:=afG109 fastO
def afG110 (o:Ops):AF:=⟨(dSeq (dOps (vC s2 .nili
dE))
(dSeq (dSeq (dOps (vM s3 s0
(dV s4 (o.eql (.t s3) (.c (.int .i64 (.ofNat 0))))
dE)))
(o.cond (.t s4) (dSeq (dOps (vC s2 .nili
dE))
dRet) dSkip))
(dSeq (dOps (vM s5 s0
(dV s6 (oBuild [(.int .i64 (.ofNat 0))] [(0,1,(.t s5))])
(dV s7 (oMki 162 (.t s6))
(vM s2 s7
dE)))))
dRet))),[(.t s2)]⟩
def af110:AF:=afG110 fastO
def afG115 (o:Ops):AF:=⟨(dSeq (dOps (dV s2 (oBox 68 (.t s0))
(vC s4 .nilp
dE)))
(dSeq (dSeq (dOps (vM s6 s1
(dV s7 (o.lss (.t s6) (.c (.int .i64 (.ofNat 0))))
(vM s8 s7
(o.g s8 false (some s9) (vM s9 s1)
(o.g s8 false (some s10) (dV s10 (o.fa 1 (.t s2)))
(o.g s8 false (some s11) (dV s11 (o.ld1 (.t s10)))
(o.g s8 false (some s12) (dV s12 (o.geq (.t s9) (.t s11)))
(dV s13 (o.pick (.t s8) (.c (.bool true)) (.t s12))
dE)))))))))
(o.cond (.t s13) (dSeq (dOps (vC s4 .nilp
dE))
dRet) dSkip))
(dSeq (dOps (dV s14 (o.fa 0 (.t s2))
(dV s15 (o.ld1 (.t s14))
(vM s5 s15
dE))))
(dSeq (dSeq (dOps (vM s16 s1
(vC s17 (.int .i64 (.ofNat 0))
dE)))
(dBlock 0 (dLoop (dSeq (dOps (dV s18 (o.lss (.t s17) (.t s16))
dE))
(dSeq (o.cond (.t s18) dSkip (dExit 0))
(dSeq (dBlock 1 (dOps (vM s19 s5
(dV s20 (o.nchk (.t s19))
(dV s21 (o.fa 1 (.t s20))
(dV s22 (o.ld1 (.t s21))
(vM s5 s22
dE)))))))
(dOps (dV s23 (o.add (.t s17) (.c (.int .i64 (.ofNat 1))))
(vM s17 s23
dE)))))))))
(dSeq (dOps (vM s24 s5
(dV s25 (o.nchk (.t s24))
(dV s26 (o.fa 0 (.t s25))
(dV s27 (o.ld1 (.t s26))
(vM s4 s27
dE))))))
dRet))))),[(.t s4)]⟩
def af115:AF:=afG115 fastO
def afG116 (o:Ops):AF:=⟨(dSeq (dOps (vC s4 (.int .i64 (.ofNat 0))
dE))
(dSeq (dSeq (dOps (vM s5 s1
(dV s6 (o.eql (.t s5) (.c (.int .i64 (.ofNat 1))))
(vM s7 s6
(o.g s7 true (some s8) (vM s8 s0)
(o.g s7 true (some s9) (dV s9 (o.eql (.t s8) (.c (.int .i64 (.ofNat 3)))))
(o.g s7 true (some s10) (vM s10 s9)
(o.g s10 false (some s11) (vM s11 s0)
(o.g s10 false (some s12) (dV s12 (o.eql (.t s11) (.c (.int .i64 (.ofNat 4)))))
(o.g s7 true (some s13) (dV s13 (o.pick (.t s10) (.c (.bool true)) (.t s12)))
(o.g s7 true (some s14) (vM s14 s13)
(o.g s14 false (some s15) (vM s15 s0)
(o.g s14 false (some s16) (dV s16 (o.eql (.t s15) (.c (.int .i64 (.ofNat 6)))))
(o.g s7 true (some s17) (dV s17 (o.pick (.t s14) (.c (.bool true)) (.t s16)))
(dV s18 (o.pick (.t s7) (.t s17) (.c (.bool false)))
dE)))))))))))))))
(o.cond (.t s18) (dSeq (dOps (vC s4 (.int .i64 (.ofNat 1))
dE))
dRet) dSkip))
(dSeq (dOps (vC s4 (.int .i64 (.ofNat 0))
dE))
dRet))),[(.t s4)]⟩
def af116:AF:=afG116 fastO
def afG117 (o:Ops):AF:=⟨(dSeq (dOps (vC s2 (.int .i64 (.ofNat 0))
dE))
(dSeq (dSeq (dOps (vM s3 s0
dE))
(dBlock 0 (dSeq (dSeq (dOps (dV s5 (o.eql (.t s3) (.c (.int .i64 (.ofNat 1))))
(vM s4 s5
dE)))
(o.cond (.t s4) dSkip (dSeq (dOps (dV s6 (o.eql (.t s3) (.c (.int .i64 (.ofNat 2))))
(vM s4 s6
dE)))
(o.cond (.t s4) dSkip (dSeq (dOps (dV s7 (o.eql (.t s3) (.c (.int .i64 (.ofNat 10))))
(vM s4 s7
dE)))
(o.cond (.t s4) dSkip (dOps (dV s8 (o.eql (.t s3) (.c (.int .i64 (.ofNat 11))))
(vM s4 s8
dE)))))))))
(o.cond (.t s4) (dSeq (dOps (vC s2 (.int .i64 (.ofNat 0))
dE))
dRet) (dSeq (dSeq (dOps (dV s10 (o.eql (.t s3) (.c (.int .i64 (.ofNat 8))))
(vM s9 s10
dE)))
(o.cond (.t s9) dSkip (dOps (dV s11 (o.eql (.t s3) (.c (.int .i64 (.ofNat 9))))
(vM s9 s11
dE)))))
(o.cond (.t s9) (dSeq (dOps (vC s2 (.int .i64 (.ofNat 1))
dE))
dRet) (dSeq (dSeq (dOps (dV s13 (o.eql (.t s3) (.c (.int .i64 (.ofNat 3))))
(vM s12 s13
dE)))
(o.cond (.t s12) dSkip (dSeq (dOps (dV s14 (o.eql (.t s3) (.c (.int .i64 (.ofNat 4))))
(vM s12 s14
dE)))
(o.cond (.t s12) dSkip (dSeq (dOps (dV s15 (o.eql (.t s3) (.c (.int .i64 (.ofNat 5))))
(vM s12 s15
dE)))
(o.cond (.t s12) dSkip (dOps (dV s16 (o.eql (.t s3) (.c (.int .i64 (.ofNat 6))))
(vM s12 s16
dE)))))))))
(o.cond (.t s12) (dSeq (dOps (vC s2 (.int .i64 (.ofNat 2))
dE))
dRet) (dSeq (dOps (dV s18 (o.eql (.t s3) (.c (.int .i64 (.ofNat 7))))
(vM s17 s18
dE)))
(o.cond (.t s17) (dSeq (dOps (vC s2 (.int .i64 (.ofNat 3))
dE))
dRet) dSkip))))))))))
(dSeq (dOps (vC s2 (.int .i64 (.negSucc 0))
dE))
dRet))),[(.t s2)]⟩
def af117:AF:=afG117 fastO
def afG118 (o:Ops):AF:=⟨(dSeq (dOps (dV s1 (oBox 50 (.t s0))
(vC s2 (.bool false)
dE)))
(dSeq (dOps (dV s7 (o.ldN 2 (.t s1))
(dC (some s8) p154 [(.t s7)]
(vM s6 s8
(dV s9 (o.ext (.t s6) 0)
(dV s10 (o.ext (.t s6) 1)
(dV s3 (oNew [(.int .i64 (.ofNat 0)),.nils] 50)
(dU (oSt 2 (.t s3) (.t s9))
(vM s4 s10
dE)))))))))
(dSeq (dSeq (dOps (vM s11 s4
(dV s12 (o.neq (.t s11) (.c (.int .i64 (.ofNat 0))))
(vM s13 s12
(o.g s13 false (some s14) (dV s14 (o.fa 0 (.t s3)))
(o.g s13 false (some s15) (dV s15 (o.ld1 (.t s14)))
(o.g s13 false (some s16) (dV s16 (o.fa 0 (.t s1)))
(o.g s13 false (some s17) (dV s17 (o.ld1 (.t s16)))
(o.g s13 false (some s18) (dV s18 (o.neq (.t s15) (.t s17)))
(dV s19 (o.pick (.t s13) (.c (.bool true)) (.t s18))
(vM s20 s19
(o.g s20 false (some s21) (dV s21 (o.fa 1 (.t s3)))
(o.g s20 false (some s22) (dV s22 (o.ld1 (.t s21)))
(o.g s20 false (some s23) (dV s23 (o.len (.t s22)))
(o.g s20 false (some s24) (dV s24 (o.fa 1 (.t s1)))
(o.g s20 false (some s25) (dV s25 (o.ld1 (.t s24)))
(o.g s20 false (some s26) (dV s26 (o.len (.t s25)))
(o.g s20 false (some s27) (dV s27 (o.neq (.t s23) (.t s26)))
(dV s28 (o.pick (.t s20) (.c (.bool true)) (.t s27))
dE)))))))))))))))))))
(o.cond (.t s28) (dSeq (dOps (vC s2 (.bool false)
dE))
dRet) dSkip))
(dSeq (dSeq (dOps (vC s5 (.int .i64 (.ofNat 0))
dE))
(dBlock 0 (dLoop (dSeq (dSeq (dOps (vM s29 s5
(dV s30 (o.fa 1 (.t s3))
(dV s31 (o.ld1 (.t s30))
(dV s32 (o.len (.t s31))
(dV s33 (o.lss (.t s29) (.t s32))
dE))))))
(o.cond (.t s33) dSkip (dExit 0)))
(dSeq (dBlock 1 (dSeq (dDraw (lN s36 (o.fa 1 (.t s3))
(lN s37 (o.ld1 (.t s36))
(lM s38 s5
(lN s39 (o.ia 2 (.t s37) (.t s38))
(lN s40 (o.ldN 2 (.t s39))
(lN s41 (o.fa 1 (.t s1))
(lN s42 (o.ld1 (.t s41))
(lM s43 s5
(lN s44 (o.ia 2 (.t s42) (.t s43))
(lN s45 (o.ldN 2 (.t s44))
(lN s46 (o.neq (.t s40) (.t s45))
sEnd))))))))))))
(o.cond (.t s46) (dSeq (dOps (vC s2 (.bool false)
dE))
dRet) dSkip)))
(dOps (vM s34 s5
(dV s35 (o.add (.t s34) (.c (.int .i64 (.ofNat 1))))
(vM s5 s35
dE)))))))))
(dSeq (dOps (vC s2 (.bool true)
dE))
dRet))))),[(.t s2)]⟩
def af118:AF:=afG118 fastO
def afG119 (o:Ops):AF:=⟨(dSeq (dOps (vC s2 (.bool false)
dE))
(dSeq (dOps (vM s3 s0
(dV s4 (o.neq (.t s3) (.c (.str [])))
(vM s5 s4
(o.g s5 true (some s6) (vM s6 s0)
(o.g s5 true (some s7) (dV s7 (oLenS (.t s6)))
(o.g s5 true (some s8) (dV s8 (o.leq (.t s7) (.c (.int .i64 (.ofNat 60)))))
(dV s9 (o.pick (.t s5) (.t s8) (.c (.bool false)))
(vM s2 s9
dE)))))))))
dRet)),[(.t s2)]⟩
def af119:AF:=afG119 fastO
def afG120 (o:Ops):AF:=⟨(dSeq (dOps (dV s1 (oBox 33 (.t s0))
(vC s2 (.int .i64 (.ofNat 0))
dE)))
(dSeq (dSeq (dOps (dV s6 (o.fa 15 (.t s1))
(dV s7 (o.ld1 (.t s6))
(dV s8 (o.lss (.t s7) (.c (.int .i64 (.ofNat 0))))
(vM s9 s8
(o.g s9 false (some s10) (dV s10 (o.fa 15 (.t s1)))
(o.g s9 false (some s11) (dV s11 (o.ld1 (.t s10)))
(o.g s9 false (some s12) (dV s12 (o.gtr (.t s11) (.c (.int .i64 (.ofNat 60)))))
(dV s13 (o.pick (.t s9) (.c (.bool true)) (.t s12))
(vM s14 s13
(o.g s14 false (some s15) (dV s15 (o.fa 16 (.t s1)))
(o.g s14 false (some s16) (dV s16 (o.ld1 (.t s15)))
(o.g s14 false (some s17) (dV s17 (o.len (.t s16)))
(o.g s14 false (some s18) (dV s18 (o.gtr (.t s17) (.c (.int .i64 (.ofNat 40)))))
(dV s19 (o.pick (.t s14) (.c (.bool true)) (.t s18))
dE)))))))))))))))
(o.cond (.t s19) (dSeq (dOps (vC s2 (.int .i64 (.ofNat 2))
dE))
dRet) dSkip))
(dSeq (dSeq (dOps (dV s20 (o.fa 16 (.t s1))
(dV s21 (o.ld1 (.t s20))
(dV s22 (o.len (.t s21))
(vC s23 (.int .i64 (.ofNat 0))
dE)))))
(dBlock 0 (dLoop (dSeq (dOps (dV s24 (o.lss (.t s23) (.t s22))
dE))
(dSeq (o.cond (.t s24) dSkip (dExit 0))
(dSeq (dBlock 1 (dSeq (dOps (dV s25 (o.ia 7 (.t s21) (.t s23))
(dV s26 (o.ldN 7 (.t s25))
(dV s4 (oNew [(.str []),(.int .i64 (.ofNat 0)),(.int .i64 (.ofNat 0)),(.bool false),(.str []),.nils,.nils] 61)
(dU (oSt 7 (.t s4) (.t s26))
dE)))))
(dSeq (dSeq (dOps (dV s27 (o.fa 0 (.t s4))
(dV s28 (o.ld1 (.t s27))
(dC (some s29) p119 [(.t s28)]
(dV s30 (o.not (.t s29))
dE)))))
(o.cond (.t s30) (dSeq (dOps (vC s2 (.int .i64 (.ofNat 10))
dE))
dRet) dSkip))
(dSeq (dOps (dV s31 (o.fa 1 (.t s4))
(dV s32 (o.ldN 6 (.t s31))
(dC (some s33) p41 [(.t s32)]
(vM s5 s33
dE)))))
(dSeq (dOps (vM s34 s5
(dV s35 (o.neq (.t s34) (.c (.int .i64 (.ofNat 0))))
dE)))
(o.cond (.t s35) (dSeq (dOps (vM s36 s5
(vM s2 s36
dE)))
dRet) dSkip))))))
(dOps (dV s37 (o.add (.t s23) (.c (.int .i64 (.ofNat 1))))
(vM s23 s37
dE)))))))))
(dSeq (dOps (vC s2 (.int .i64 (.ofNat 0))
dE))
dRet)))),[(.t s2)]⟩
def af120:AF:=afG120 fastO
def afG121 (o:Ops):AF:=⟨(dSeq (dOps (vM s5 s1
(dV s6 (oCvI .u64 (.t s5))
(vM s4 s6
dE))))
(dSeq (dBlock 0 (dLoop (dSeq (dSeq (dOps (vM s7 s4
(dV s8 (o.gtr (.t s7) (.c (.int .u64 (.ofNat 127))))
dE)))
(o.cond (.t s8) dSkip (dExit 0)))
(dSeq (dBlock 1 (dOps (vM s11 s0
(vM s12 s4
(dV s13 (oCvI .u8 (.t s12))
(dV s14 (oAr .or (.t s13) (.c (.int .u8 (.ofNat 128))))
(dV s15 (oBuildS 5 1 [(.int .u8 (.ofNat 0))] [(0,1,(.t s14))])
(dC (some s16) p155 [(.t s11),(.t s15)]
dE))))))))
(dOps (vM s9 s4
(dV s10 (oAr .shr (.t s9) (.c (.int .u64 (.ofNat 7))))
(vM s4 s10
dE))))))))
(dOps (vM s17 s0
(vM s18 s4
(dV s19 (oCvI .u8 (.t s18))
(dV s20 (oBuildS 5 1 [(.int .u8 (.ofNat 0))] [(0,1,(.t s19))])
(dC (some s21) p155 [(.t s17),(.t s20)]
dE)))))))),[]⟩
def af121:AF:=afG121 fastO
def afG122 (o:Ops):AF:=⟨(dSeq (dOps (vM s6 s0
(dV s7 (o.len (.t s6))
(vC s8 (.int .i64 (.ofNat 0))
dE))))
(dBlock 0 (dLoop (dSeq (dOps (dV s9 (o.lss (.t s8) (.t s7))
dE))
(dSeq (o.cond (.t s9) dSkip (dExit 0))
(dSeq (dBlock 1 (dSeq (dOps (dV s10 (o.ia 17 (.t s6) (.t s8))
(dV s11 (o.ldN 17 (.t s10))
(dV s5 (oNew [(.int .i64 (.ofNat 0)),(.str []),(.int .i64 (.ofNat 0)),(.int .i64 (.ofNat 0)),(.int .i64 (.ofNat 0)),(.bool false),(.str []),.nils,.nils,(.int .i64 (.ofNat 0)),(.int .i64 (.ofNat 0)),(.bool false),(.str []),.nils,.nils,(.int .i64 (.ofNat 0)),.nils] 33)
(dU (oSt 17 (.t s5) (.t s11))
dE)))))
(dOps (vM s12 s1
(dV s13 (o.ldN 17 (.t s5))
(dCv (some s14) (.t s12) [(.t s13)]
dE))))))
(dOps (dV s15 (o.add (.t s8) (.c (.int .i64 (.ofNat 1))))
(vM s8 s15
dE))))))))),[]⟩
def af122:AF:=afG122 fastO
def afG123 (o:Ops):AF:=⟨(dSeq (dOps (dV s3 (oBox 33 (.t s1))
dE))
(dSeq (dOps (vM s4 s0
(dV s5 (o.fa 0 (.t s3))
(dV s6 (o.ld1 (.t s5))
(dC (some s7) p121 [(.t s4),(.t s6)]
dE)))))
(dSeq (dOps (vM s8 s0
(dV s9 (o.fa 1 (.t s3))
(dV s10 (o.ld1 (.t s9))
(dC (some s11) p156 [(.t s8),(.t s10)]
dE)))))
(dSeq (dOps (vM s12 s0
(dV s13 (o.fa 2 (.t s3))
(dV s14 (o.ld1 (.t s13))
(dC (some s15) p121 [(.t s12),(.t s14)]
dE)))))
(dSeq (dOps (vM s16 s0
(dV s17 (o.fa 3 (.t s3))
(dV s18 (o.ldN 6 (.t s17))
(dC (some s19) p157 [(.t s16),(.t s18)]
dE)))))
(dSeq (dOps (dV s20 (o.fa 0 (.t s3))
(dV s21 (o.ld1 (.t s20))
dE)))
(dBlock 0 (dSeq (dOps (dV s23 (o.eql (.t s21) (.c (.int .i64 (.ofNat 2))))
(vM s22 s23
dE)))
(o.cond (.t s22) (dOps (vM s24 s0
(dV s25 (o.fa 9 (.t s3))
(dV s26 (o.ldN 6 (.t s25))
(dC (some s27) p157 [(.t s24),(.t s26)]
dE))))) (dSeq (dOps (dV s29 (o.eql (.t s21) (.c (.int .i64 (.ofNat 3))))
(vM s28 s29
dE)))
(o.cond (.t s28) (dSeq (dOps (vM s30 s0
(dV s31 (o.fa 15 (.t s3))
(dV s32 (o.ld1 (.t s31))
(dC (some s33) p121 [(.t s30),(.t s32)]
dE)))))
(dSeq (dOps (vM s34 s0
(dV s35 (o.fa 16 (.t s3))
(dV s36 (o.ld1 (.t s35))
(dV s37 (o.len (.t s36))
(dC (some s38) p121 [(.t s34),(.t s37)]
dE))))))
(dOps (dV s39 (o.fa 16 (.t s3))
(dV s40 (o.ld1 (.t s39))
(vM s41 s0
(dV s42 (oMkf 159 [(.t s41)] [])
(dC (some s43) p158 [(.t s40),(.t s42)]
dE)))))))) dSkip))))))))))),[]⟩
def af123:AF:=afG123 fastO
def afG124 (o:Ops):AF:=⟨(dSeq (dOps (dV s4 (oBox 30 (.t s0))
(dV s5 (oBox 141 (.t s1))
(dV s8 (oNew [(.int .i64 (.ofNat 0)),(.int .i64 (.ofNat 0)),(.bool false),(.str []),.nils,.nils] 30)
(vC s9 (.int .i64 (.ofNat 0))
dE)))))
(dSeq (dOps (vM s20 s2
(dV s21 (o.ldN 6 (.t s4))
(dV s22 (o.ldN 2 (.t s5))
(dCv (some s23) (.t s20) [(.t s21),(.t s22)]
(vM s19 s23
(dV s24 (o.ext (.t s19) 0)
(dV s25 (o.ext (.t s19) 1)
(dV s10 (oNew [(.int .i64 (.ofNat 0)),(.int .i64 (.ofNat 0)),(.bool false),(.str []),.nils,.nils] 30)
(dU (oSt 6 (.t s10) (.t s24))
(vM s11 s25
dE)))))))))))
(dSeq (dSeq (dOps (vM s26 s11
(dV s27 (o.neq (.t s26) (.c (.int .i64 (.ofNat 0))))
dE)))
(o.cond (.t s27) (dSeq (dOps (dV s28 (o.ldN 6 (.t s10))
(vM s29 s11
(dU (oSt 6 (.t s8) (.t s28))
(vM s9 s29
dE)))))
dRet) dSkip))
(dSeq (dSeq (dOps (dV s30 (o.ldN 6 (.t s4))
(dC (some s31) p96 [(.t s30)]
(vC s32 (.int .i64 (.ofNat 0))
dE))))
(dBlock 0 (dLoop (dSeq (dOps (dV s33 (o.lss (.t s32) (.c (.int .i64 (.ofNat 2))))
dE))
(dSeq (o.cond (.t s33) dSkip (dExit 0))
(dSeq (dBlock 1 (dSeq (dOps (vM s34 s32
(dV s35 (oIx1 2 (.t s31) (.t s32))
(vM s12 s34
(vM s13 s35
dE)))))
(dSeq (dOps (dV s36 (o.fa 0 (.t s5))
(dV s37 (o.ld1 (.t s36))
(vM s38 s12
(dV s39 (o.add (.t s37) (.t s38))
(dV s40 (o.fa 1 (.t s5))
(dV s41 (o.ld1 (.t s40))
(dV s42 (o.add (.t s41) (.c (.int .i64 (.ofNat 1))))
(dV s43 (oBuild [(.int .i64 (.ofNat 0)),(.int .i64 (.ofNat 0))] [(0,1,(.t s39)),(1,1,(.t s42))])
(dV s14 (oNew [(.int .i64 (.ofNat 0)),(.int .i64 (.ofNat 0))] 141)
(dU (oSt 2 (.t s14) (.t s43))
dE)))))))))))
(dSeq (dOps (vM s44 s13
(dV s45 (o.len (.t s44))
(vC s46 (.int .i64 (.ofNat 0))
dE))))
(dBlock 2 (dLoop (dSeq (dOps (dV s47 (o.lss (.t s46) (.t s45))
dE))
(dSeq (o.cond (.t s47) dSkip (dExit 2))
(dSeq (dBlock 3 (dSeq (dOps (dV s48 (o.ia 6 (.t s44) (.t s46))
(dV s49 (o.ldN 6 (.t s48))
(dV s16 (oNew [(.int .i64 (.ofNat 0)),(.int .i64 (.ofNat 0)),(.bool false),(.str []),.nils,.nils] 30)
(dU (oSt 6 (.t s16) (.t s49))
dE)))))
(dSeq (dOps (dV s51 (o.ldN 6 (.t s16))
(dV s52 (o.ldN 2 (.t s14))
(vM s53 s2
(vM s54 s3
(dC (some s55) p124 [(.t s51),(.t s52),(.t s53),(.t s54)]
(vM s50 s55
(dV s56 (o.ext (.t s50) 0)
(dV s57 (o.ext (.t s50) 1)
(dV s17 (oNew [(.int .i64 (.ofNat 0)),(.int .i64 (.ofNat 0)),(.bool false),(.str []),.nils,.nils] 30)
(dU (oSt 6 (.t s17) (.t s56))
(vM s18 s57
dE))))))))))))
(dSeq (dSeq (dOps (vM s58 s18
(dV s59 (o.neq (.t s58) (.c (.int .i64 (.ofNat 0))))
dE)))
(o.cond (.t s59) (dSeq (dOps (dV s60 (o.ldN 6 (.t s10))
(vM s61 s18
(dU (oSt 6 (.t s8) (.t s60))
(vM s9 s61
dE)))))
dRet) dSkip))
(dOps (vM s62 s3
(dV s63 (o.ldN 6 (.t s10))
(dV s64 (o.ldN 6 (.t s17))
(dCv (some s65) (.t s62) [(.t s63),(.t s64)]
(dU (oSt 6 (.t s10) (.t s65))
dE))))))))))
(dOps (dV s66 (o.add (.t s46) (.c (.int .i64 (.ofNat 1))))
(vM s46 s66
dE))))))))))))
(dOps (dV s67 (o.add (.t s32) (.c (.int .i64 (.ofNat 1))))
(vM s32 s67
dE)))))))))
(dSeq (dOps (dV s68 (o.ldN 6 (.t s10))
(dU (oSt 6 (.t s8) (.t s68))
(vC s9 (.int .i64 (.ofNat 0))
dE))))
dRet))))),[(.cN s8 6),(.t s9)]⟩
def af124:AF:=afG124 fastO
def afG125 (o:Ops):AF:=⟨(dSeq (dOps (dV s2 (oBox 30 (.t s0))
(dV s3 (oBox 141 (.t s1))
(dV s4 (oNew [(.int .i64 (.ofNat 0)),(.int .i64 (.ofNat 0)),(.bool false),(.str []),.nils,.nils] 30)
(vC s5 (.int .i64 (.ofNat 0))
dE)))))
(dSeq (dOps (dV s6 (o.ldN 6 (.t s2))
(dC (some s7) p160 [(.t s6)]
(dU (oSt 6 (.t s4) (.t s7))
(vC s5 (.int .i64 (.ofNat 0))
dE)))))
dRet)),[(.cN s4 6),(.t s5)]⟩
def af125:AF:=afG125 fastO
def afG126 (o:Ops):AF:=⟨(dSeq (dOps (dV s2 (oBox 30 (.t s0))
(dV s3 (oBox 30 (.t s1))
(dV s4 (oNew [(.int .i64 (.ofNat 0)),(.int .i64 (.ofNat 0)),(.bool false),(.str []),.nils,.nils] 30)
dE))))
(dSeq (dOps (dV s5 (o.fa 5 (.t s2))
(dV s6 (o.ld1 (.t s5))
(dV s7 (o.ldN 6 (.t s3))
(dV s8 (oBuildS 30 1 [(.int .i64 (.ofNat 0)),(.int .i64 (.ofNat 0)),(.bool false),(.str []),.nils,.nils] [(0,6,(.t s7))])
(dV s9 (oApp 30 6 (.t s6) (.t s8))
(dV s10 (o.fa 5 (.t s2))
(dU (o.st1 (.t s10) (.t s9))
dE))))))))
(dSeq (dOps (dV s11 (o.ldN 6 (.t s2))
(dU (oSt 6 (.t s4) (.t s11))
dE)))
dRet))),[(.cN s4 6)]⟩
def af126:AF:=afG126 fastO
def afG127 (o:Ops):AF:=⟨(dSeq (dOps (dV s2 (oBox 30 (.t s0))
(dV s3 (oBox 141 (.t s1))
(vC s4 (.int .i64 (.ofNat 0))
(vC s5 (.int .i64 (.ofNat 0))
dE)))))
(dSeq (dSeq (dOps (dV s6 (o.fa 0 (.t s2))
(dV s7 (o.ld1 (.t s6))
(dV s8 (o.neq (.t s7) (.c (.int .i64 (.ofNat 1))))
dE))))
(o.cond (.t s8) (dSeq (dOps (vC s4 (.int .i64 (.ofNat 0))
(vC s5 (.int .i64 (.ofNat 0))
dE)))
dRet) dSkip))
(dSeq (dOps (dV s9 (o.fa 1 (.t s2))
(dV s10 (o.ld1 (.t s9))
(dV s11 (o.fa 0 (.t s3))
(dV s12 (o.ld1 (.t s11))
(dV s13 (o.sub (.t s10) (.t s12))
(dV s14 (o.add (.t s13) (.c (.int .i64 (.ofNat 1))))
(dV s15 (oMm true [(.c (.int .i64 (.ofNat 0))),(.t s14)])
(vM s4 s15
(vC s5 (.int .i64 (.ofNat 0))
dE))))))))))
dRet))),[(.t s4),(.t s5)]⟩
def af127:AF:=afG127 fastO
def afG128 (o:Ops):AF:=⟨(dSeq (dOps (vC s4 (.int .i64 (.ofNat 0))
dE))
(dSeq (dOps (vM s5 s0
(vM s6 s1
(dV s7 (oMm true [(.t s5),(.t s6)])
(vM s4 s7
dE)))))
dRet)),[(.t s4)]⟩
def af128:AF:=afG128 fastO
def afG129 (o:Ops):AF:=⟨(dSeq (dOps (vC s2 (.bool false)
dE))
(dSeq (dOps (vM s3 s0
(dV s4 (o.eql (.t s3) (.c (.int .i64 (.ofNat 3))))
(vM s5 s4
(o.g s5 false (some s6) (vM s6 s0)
(o.g s5 false (some s7) (dV s7 (o.eql (.t s6) (.c (.int .i64 (.ofNat 4)))))
(dV s8 (o.pick (.t s5) (.c (.bool true)) (.t s7))
(vM s9 s8
(o.g s9 false (some s10) (vM s10 s0)
(o.g s9 false (some s11) (dV s11 (o.eql (.t s10) (.c (.int .i64 (.ofNat 6)))))
(dV s12 (o.pick (.t s9) (.c (.bool true)) (.t s11))
(vM s2 s12
dE))))))))))))
dRet)),[(.t s2)]⟩
def af129:AF:=afG129 fastO
def afG130 (o:Ops):AF:=⟨(dSeq (dOps (dV s1 (oBox 50 (.t s0))
(vC s2 (.bool false)
dE)))
(dSeq (dOps (dV s6 (o.ldN 2 (.t s1))
(dC (some s7) p161 [(.t s6)]
(vM s5 s7
(dV s8 (o.ext (.t s5) 0)
(dV s9 (o.ext (.t s5) 1)
(dV s3 (oNew [(.int .i64 (.ofNat 0)),.nils] 50)
(dU (oSt 2 (.t s3) (.t s8))
(vM s4 s9
dE)))))))))
(dSeq (dOps (vM s10 s4
(dV s11 (o.eql (.t s10) (.c (.int .i64 (.ofNat 0))))
(vM s12 s11
(o.g s12 true (some s13) (dV s13 (o.ldN 2 (.t s3)))
(o.g s12 true (some s14) (dV s14 (o.ldN 2 (.t s1)))
(o.g s12 true (some s15) (dC (some s15) p162 [(.t s13),(.t s14)])
(dV s16 (o.pick (.t s12) (.t s15) (.c (.bool false)))
(vM s2 s16
dE)))))))))
dRet))),[(.t s2)]⟩
def af130:AF:=afG130 fastO
def afG131 (o:Ops):AF:=⟨(dSeq (dOps (vC s4 (.bool false)
dE))
(dSeq (dOps (vM s5 s0
(vM s6 s1
(dC (some s7) p163 [(.t s5),(.t s6)]
(dV s8 (o.geq (.t s7) (.c (.int .i64 (.ofNat 0))))
(vM s4 s8
dE))))))
dRet)),[(.t s4)]⟩
def af131:AF:=afG131 fastO
def afG132 (o:Ops):AF:=⟨(dSeq (dOps (dV s1 (oBox 50 (.t s0))
(vC s2 (.bool false)
dE)))
(dSeq (dOps (dV s3 (o.ldN 2 (.t s1))
(dC (some s4) p130 [(.t s3)]
(dV s5 (o.not (.t s4))
(vM s2 s5
dE)))))
dRet)),[(.t s2)]⟩
def af132:AF:=afG132 fastO
def afG133 (o:Ops):AF:=⟨(dSeq (dOps (vC s4 .nilp
dE))
(dSeq (dOps (vM s5 s0
(vM s6 s1
(dV s7 (oMkM)
(dV s8 (oMkM)
(dV s9 (oBuild [.nilp,(.int .i64 (.ofNat 0)),(.int .i64 (.ofNat 0)),(.int .i64 (.ofNat 0)),(.int .i64 (.ofNat 0)),.nilm,.nilm,.nils,.nilp,(.int .i64 (.ofNat 0)),.nilp,.nilp,.nilp,(.int .i64 (.ofNat 0)),(.int .i64 (.ofNat 0)),(.int .i64 (.ofNat 0)),(.int .i64 (.ofNat 0)),(.int .i64 (.ofNat 0)),(.int .i64 (.ofNat 0))] [(0,1,(.t s5)),(1,1,(.t s6)),(2,1,(.c (.int .i64 (.ofNat 20000)))),(5,1,(.t s7)),(6,1,(.t s8))])
(dV s10 (oBox 259 (.t s9))
(vM s4 s10
dE))))))))
dRet)),[(.t s4)]⟩
def af133:AF:=afG133 fastO
def afG134 (o:Ops):AF:=⟨(dSeq (dOps (dV s0 (oNew [.nilf,.nilf,.nilf,.nilf,.nilf,.nilf,.nilf,.nilf,.nilf,.nilf,.nilf,.nilf] 236)
dE))
(dSeq (dOps (dV s1 (oBuild [.nilf,.nilf,.nilf,.nilf,.nilf,.nilf,.nilf,.nilf,.nilf,.nilf,.nilf,.nilf] [(1,1,(.c (.fn (.func 164) [] []))),(11,1,(.c (.fn (.func 164) [] []))),(2,1,(.c (.fn (.func 165) [] []))),(10,1,(.c (.fn (.func 165) [] []))),(3,1,(.c (.fn (.func 166) [] []))),(6,1,(.c (.fn (.func 166) [] []))),(5,1,(.c (.fn (.func 167) [] []))),(8,1,(.c (.fn (.func 168) [] []))),(9,1,(.c (.fn (.func 168) [] [])))])
(dU (oSt 12 (.t s0) (.t s1))
dE)))
dRet)),[(.cN s0 12)]⟩
def af134:AF:=afG134 fastO
def afG135 (o:Ops):AF:=⟨(dSeq (dOps (dV s1 (oBox 109 (.t s0))
(dV s2 (oNew [.nilp] 104)
(vC s3 .nili
dE))))
(dSeq (dOps (dV s7 (o.fa 4 (.t s1))
(dV s8 (o.ldN 1 (.t s7))
(dC (some s9) p169 [(.t s8)]
(vM s6 s9
(dV s10 (o.ext (.t s6) 0)
(dV s11 (o.ext (.t s6) 1)
(vM s4 s10
(vM s5 s11
dE)))))))))
(dSeq (dSeq (dOps (vM s12 s5
(dV s13 (o.not (.t s12))
dE)))
(o.cond (.t s13) (dSeq (dOps (dV s14 (oBuild [.nilp] [])
(dC (some s15) p110 [(.c (.int .i64 (.ofNat 11)))]
(dU (o.st1 (.t s2) (.t s14))
(vM s3 s15
dE)))))
dRet) dSkip))
(dSeq (dOps (dV s16 (o.fa 1 (.t s1))
(dV s17 (o.ldN 3 (.t s16))
(vM s18 s4
(dC (some s19) p170 [(.t s17),(.t s18)]
(dU (o.st1 (.t s2) (.t s19))
(vC s3 .nili
dE)))))))
dRet)))),[(.cN s2 1),(.t s3)]⟩
def af135:AF:=afG135 fastO
def afG136 (o:Ops):AF:=⟨(dSeq (dOps (dV s1 (oBox 109 (.t s0))
(dV s2 (oNew [.nilp] 104)
(vC s3 .nili
dE))))
(dSeq (dOps (dV s5 (o.fa 4 (.t s1))
(dV s6 (o.ldN 1 (.t s5))
(dC (some s7) p78 [(.t s6)]
(dV s8 (o.fld1 4 (.t s7))
(dV s9 (o.ia 2 (.t s8) (.c (.int .i64 (.ofNat 0))))
(dV s10 (o.ldN 2 (.t s9))
(dV s4 (oNew [(.int .i64 (.ofNat 0)),.nils] 50)
(dU (oSt 2 (.t s4) (.t s10))
dE)))))))))
(dSeq (dSeq (dOps (dV s11 (o.fa 0 (.t s1))
(dV s12 (o.ld1 (.t s11))
(dV s13 (o.ldN 2 (.t s4))
(dC (some s14) p171 [(.t s12),(.t s13)]
(dV s15 (o.not (.t s14))
dE))))))
(o.cond (.t s15) (dSeq (dOps (dV s16 (oBuild [.nilp] [])
(dC (some s17) p110 [(.c (.int .i64 (.ofNat 13)))]
(dU (o.st1 (.t s2) (.t s16))
(vM s3 s17
dE)))))
dRet) dSkip))
(dSeq (dOps (dV s18 (o.ldN 2 (.t s4))
(dC (some s19) p173 [(.t s18),(.c (.int .i64 (.ofNat 1)))]
(dV s20 (o.ext (.t s19) 0)
(dV s21 (o.ext (.t s19) 1)
(dC (some s22) p172 [(.t s20),(.t s21)]
(dV s23 (o.ext (.t s22) 0)
(dV s24 (o.ext (.t s22) 1)
(dU (o.st1 (.t s2) (.t s23))
(vM s3 s24
dE))))))))))
dRet)))),[(.cN s2 1),(.t s3)]⟩
def af136:AF:=afG136 fastO
def afG137 (o:Ops):AF:=⟨(dSeq (dOps (dV s1 (oBox 109 (.t s0))
(dV s2 (oNew [.nilp] 104)
(vC s3 .nili
dE))))
(dSeq (dOps (dV s8 (o.ldN 5 (.t s1))
(dC (some s9) p174 [(.t s8),(.c (.int .i64 (.ofNat 0)))]
(dC (some s10) p175 [(.t s9)]
(vM s7 s10
(dV s11 (o.ext (.t s7) 0)
(dV s12 (o.ext (.t s7) 1)
(dV s4 (oNew [(.int .i64 (.ofNat 0)),.nils] 50)
(dU (oSt 2 (.t s4) (.t s11))
(vM s5 s12
dE))))))))))
(dSeq (dSeq (dOps (vM s13 s5
(dV s14 (oEq .i true (.t s13) (.c .nili))
dE)))
(o.cond (.t s14) (dSeq (dOps (dV s15 (oBuild [.nilp] [])
(vM s16 s5
(dU (o.st1 (.t s2) (.t s15))
(vM s3 s16
dE)))))
dRet) dSkip))
(dSeq (dOps (dV s18 (o.ldN 5 (.t s1))
(dC (some s19) p176 [(.t s18)]
(dC (some s20) p175 [(.t s19)]
(vM s17 s20
(dV s21 (o.ext (.t s17) 0)
(dV s22 (o.ext (.t s17) 1)
(dV s6 (oNew [(.int .i64 (.ofNat 0)),.nils] 50)
(dU (oSt 2 (.t s6) (.t s21))
(vM s5 s22
dE))))))))))
(dSeq (dSeq (dOps (vM s23 s5
(dV s24 (oEq .i true (.t s23) (.c .nili))
dE)))
(o.cond (.t s24) (dSeq (dOps (dV s25 (oBuild [.nilp] [])
(vM s26 s5
(dU (o.st1 (.t s2) (.t s25))
(vM s3 s26
dE)))))
dRet) dSkip))
(dSeq (dOps (dV s27 (o.ldN 2 (.t s4))
(dV s28 (o.ldN 2 (.t s6))
(dC (some s29) p177 [(.t s27),(.t s28)]
(dV s30 (o.ext (.t s29) 0)
(dV s31 (o.ext (.t s29) 1)
(dC (some s32) p172 [(.t s30),(.t s31)]
(dV s33 (o.ext (.t s32) 0)
(dV s34 (o.ext (.t s32) 1)
(dU (o.st1 (.t s2) (.t s33))
(vM s3 s34
dE)))))))))))
dRet)))))),[(.cN s2 1),(.t s3)]⟩
def af137:AF:=afG137 fastO
def afG138 (o:Ops):AF:=⟨(dSeq (dOps (dV s1 (oBox 109 (.t s0))
(dV s2 (oNew [.nilp] 104)
(vC s3 .nili
dE))))
(dSeq (dOps (dV s9 (o.ldN 5 (.t s1))
(dC (some s10) p174 [(.t s9),(.c (.int .i64 (.ofNat 0)))]
(dV s4 (oNew [.nilp,.nilp,(.int .i64 (.ofNat 0)),.nilp,.nilp] 109)
(dU (oSt 5 (.t s4) (.t s10))
dE)))))
(dSeq (dSeq (dOps (dV s12 (o.ldN 5 (.t s4))
(dC (some s13) p175 [(.t s12)]
(vM s11 s13
(dV s14 (o.ext (.t s11) 0)
(dV s15 (o.ext (.t s11) 1)
(dV s5 (oNew [(.int .i64 (.ofNat 0)),.nils] 50)
(dU (oSt 2 (.t s5) (.t s14))
(vM s6 s15
dE)))))))))
(dSeq (dOps (vM s16 s6
(dV s17 (oEq .i true (.t s16) (.c .nili))
dE)))
(o.cond (.t s17) (dSeq (dOps (dV s18 (oBuild [.nilp] [])
(vM s19 s6
(dU (o.st1 (.t s2) (.t s18))
(vM s3 s19
dE)))))
dRet) dSkip)))
(dSeq (dOps (dV s21 (o.ldN 5 (.t s1))
(dC (some s22) p176 [(.t s21)]
(dC (some s23) p45 [(.t s22)]
(vM s20 s23
(dV s24 (o.ext (.t s20) 0)
(dV s25 (o.ext (.t s20) 1)
(dV s7 (oNew [.nilp] 104)
(dU (o.st1 (.t s7) (.t s24))
(vM s8 s25
dE))))))))))
(dSeq (dSeq (dOps (vM s26 s8
(dV s27 (oEq .i true (.t s26) (.c .nili))
dE)))
(o.cond (.t s27) (dSeq (dOps (dV s28 (oBuild [.nilp] [])
(vM s29 s8
(dU (o.st1 (.t s2) (.t s28))
(vM s3 s29
dE)))))
dRet) dSkip))
(dSeq (dDraw (lN s30 (o.fa 1 (.t s1))
(lN s31 (o.fa 0 (.t s30))
(lN s32 (o.ldN 2 (.t s31))
(lN s33 (o.fa 4 (.t s1))
(lN s34 (o.ldN 1 (.t s33))
(lN s37 (o.fa 4 (.t s4))
(lN s38 (o.ldN 1 (.t s37))
(lN s39 (o.ldN 1 (.t s7))
(lE [] [(s32,(o.ldN 2 (.t s31))),(s38,(o.ldN 1 (.t s37))),(s39,(o.ldN 1 (.t s7)))] (some s35) (actC p78 [(.t s34)])
(lN s36 (o.fld1 2 (.t s35))
(lE [] [] (some s40) (actC p178 [(.t s32),(.t s36),(.t s38),(.t s39)])
(lE [] [] none (actV (o.st1 (.t s2) (.t s40)))
(lC s3 .nili
sEnd))))))))))))))
dRet)))))),[(.cN s2 1),(.t s3)]⟩
def af138:AF:=afG138 fastO
def afG139 (o:Ops):AF:=⟨(dSeq (dOps (dV s1 (oBox 109 (.t s0))
(dV s2 (oNew [.nilp] 104)
(vC s3 .nili
dE))))
(dSeq (dOps (dV s9 (o.ldN 5 (.t s1))
(dC (some s10) p174 [(.t s9),(.c (.int .i64 (.ofNat 0)))]
(dC (some s11) p179 [(.t s10),(.c (.int .i64 (.ofNat 3))),(.c (.int .i64 (.ofNat 14)))]
(vM s8 s11
(dV s12 (o.ext (.t s8) 0)
(dV s13 (o.ext (.t s8) 1)
(dV s4 (oNew [.nilp] 290)
(dU (o.st1 (.t s4) (.t s12))
(vM s5 s13
dE))))))))))
(dSeq (dSeq (dOps (vM s14 s5
(dV s15 (oEq .i true (.t s14) (.c .nili))
dE)))
(o.cond (.t s15) (dSeq (dOps (dV s16 (oBuild [.nilp] [])
(vM s17 s5
(dU (o.st1 (.t s2) (.t s16))
(vM s3 s17
dE)))))
dRet) dSkip))
(dSeq (dOps (dV s18 (o.ldN 5 (.t s1))
(dC (some s19) p174 [(.t s18),(.c (.int .i64 (.ofNat 1)))]
(dV s6 (oNew [.nilp,.nilp,(.int .i64 (.ofNat 0)),.nilp,.nilp] 109)
(dU (oSt 5 (.t s6) (.t s19))
dE)))))
(dSeq (dSeq (dDraw (lN s20 (o.ldN 5 (.t s6))
(lN s21 (o.ldN 1 (.t s4))
(lN s22 (o.fa 1 (.t s1))
(lN s23 (o.fa 0 (.t s22))
(lN s24 (o.ldN 2 (.t s23))
(lE [] [(s20,(o.ldN 5 (.t s6))),(s21,(o.ldN 1 (.t s4)))] (some s25) (actC p48 [(.t s24)])
(lE [] [(s20,(o.ldN 5 (.t s6)))] (some s26) (actC p181 [(.t s21),(.c (.int .i64 (.ofNat 0))),(.t s25)])
(lE [] [] (some s27) (actC p180 [(.t s20),(.t s26)])
(lM s7 s27
sEnd))))))))))
(dSeq (dOps (vM s28 s7
(dV s29 (oEq .i true (.t s28) (.c .nili))
dE)))
(o.cond (.t s29) (dSeq (dOps (dV s30 (oBuild [.nilp] [])
(vM s31 s7
(dU (o.st1 (.t s2) (.t s30))
(vM s3 s31
dE)))))
dRet) dSkip)))
(dSeq (dOps (dV s32 (o.ldN 1 (.t s4))
(dV s33 (o.fa 4 (.t s6))
(dV s34 (o.ldN 1 (.t s33))
(dC (some s35) p182 [(.t s32),(.t s34)]
(dU (o.st1 (.t s2) (.t s35))
(vC s3 .nili
dE)))))))
dRet)))))),[(.cN s2 1),(.t s3)]⟩
def af139:AF:=afG139 fastO
def afG140 (o:Ops):AF:=⟨(dSeq (dOps (dV s1 (oBox 109 (.t s0))
(dV s2 (oNew [.nilp] 104)
(vC s3 .nili
dE))))
(dSeq (dDraw (lN s10 (o.ldN 5 (.t s1))
(lN s12 (o.ldN 5 (.t s1))
(lN s14 (o.ldN 5 (.t s1))
(lA 6 s4 (aNew [.nilp,.nilp,(.int .i64 (.ofNat 0)),.nilp,.nilp] 109)
(lA 7 s5 (aNew [.nilp,.nilp,(.int .i64 (.ofNat 0)),.nilp,.nilp] 109)
(lA 8 s6 (aNew [.nilp,.nilp,(.int .i64 (.ofNat 0)),.nilp,.nilp] 109)
(lE [] [(s12,(o.ldN 5 (.t s1))),(s14,(o.ldN 5 (.t s1)))] (some s11) (actC p174 [(.t s10),(.c (.int .i64 (.ofNat 0)))])
(lE [] [(s14,(o.ldN 5 (.t s1)))] (some s13) (actC p174 [(.t s12),(.c (.int .i64 (.ofNat 1)))])
(lE [] [] (some s15) (actC p174 [(.t s14),(.c (.int .i64 (.ofNat 2)))])
(lE [6,7,8] [] none (actV (oSt 5 (.t s4) (.t s11)))
(lE [6,7,8] [] none (actV (oSt 5 (.t s5) (.t s13)))
(lE [6,7,8] [] none (actV (oSt 5 (.t s6) (.t s15)))
sEnd)))))))))))))
(dSeq (dSeq (dOps (dV s17 (o.ldN 5 (.t s4))
(dC (some s18) p175 [(.t s17)]
(vM s16 s18
(dV s19 (o.ext (.t s16) 0)
(dV s20 (o.ext (.t s16) 1)
(dV s7 (oNew [(.int .i64 (.ofNat 0)),.nils] 50)
(dU (oSt 2 (.t s7) (.t s19))
(vM s8 s20
dE)))))))))
(dSeq (dOps (vM s21 s8
(dV s22 (oEq .i true (.t s21) (.c .nili))
dE)))
(o.cond (.t s22) (dSeq (dOps (dV s23 (oBuild [.nilp] [])
(vM s24 s8
(dU (o.st1 (.t s2) (.t s23))
(vM s3 s24
dE)))))
dRet) dSkip)))
(dSeq (dSeq (dDraw (lN s25 (o.ldN 5 (.t s5))
(lN s26 (o.ldN 5 (.t s4))
(lE [] [(s25,(o.ldN 5 (.t s5)))] (some s27) (actC p174 [(.t s26),(.c (.int .i64 (.ofNat 0)))])
(lN s28 (o.fld 1 4 (.t s27))
(lE [] [] (some s29) (actC p180 [(.t s25),(.t s28)])
(lM s9 s29
sEnd)))))))
(dSeq (dOps (vM s30 s9
(dV s31 (oEq .i true (.t s30) (.c .nili))
dE)))
(o.cond (.t s31) (dSeq (dOps (dV s32 (oBuild [.nilp] [])
(vM s33 s9
(dU (o.st1 (.t s2) (.t s32))
(vM s3 s33
dE)))))
dRet) dSkip)))
(dSeq (dDraw (lN s34 (o.fa 4 (.t s4))
(lN s35 (o.ldN 1 (.t s34))
(lN s36 (o.ldN 5 (.t s6))
(lN s37 (o.fa 4 (.t s4))
(lN s38 (o.ldN 1 (.t s37))
(lN s39 (o.fa 4 (.t s5))
(lN s40 (o.ldN 1 (.t s39))
(lE [] [(s35,(o.ldN 1 (.t s34))),(s36,(o.ldN 5 (.t s6)))] (some s41) (actC p183 [(.t s38),(.t s40)])
(lE [] [(s35,(o.ldN 1 (.t s34)))] (some s42) (actC p180 [(.t s36),(.t s41)])
(lE [] [] none (actV (o.st1 (.t s2) (.t s35)))
(lM s3 s42
sEnd))))))))))))
dRet))))),[(.cN s2 1),(.t s3)]⟩
def af140:AF:=afG140 fastO
def afG141 (o:Ops):AF:=⟨(dSeq (dOps (dV s1 (oBox 109 (.t s0))
(dV s2 (oNew [.nilp] 104)
(vC s3 .nili
dE))))
(dSeq (dOps (dV s7 (o.ldN 5 (.t s1))
(dC (some s8) p174 [(.t s7),(.c (.int .i64 (.ofNat 0)))]
(dC (some s9) p179 [(.t s8),(.c (.int .i64 (.ofNat 6))),(.c (.int .i64 (.ofNat 15)))]
(vM s6 s9
(dV s10 (o.ext (.t s6) 0)
(dV s11 (o.ext (.t s6) 1)
(dV s4 (oNew [.nilp] 290)
(dU (o.st1 (.t s4) (.t s10))
(vM s5 s11
dE))))))))))
(dSeq (dSeq (dOps (vM s12 s5
(dV s13 (oEq .i true (.t s12) (.c .nili))
dE)))
(o.cond (.t s13) (dSeq (dOps (dV s14 (oBuild [.nilp] [])
(vM s15 s5
(dU (o.st1 (.t s2) (.t s14))
(vM s3 s15
dE)))))
dRet) dSkip))
(dSeq (dDraw (lN s16 (o.ldN 1 (.t s4))
(lN s17 (o.fa 1 (.t s1))
(lN s18 (o.fa 0 (.t s17))
(lN s19 (o.ldN 2 (.t s18))
(lE [] [(s16,(o.ldN 1 (.t s4)))] (some s20) (actC p48 [(.t s19)])
(lE [] [] (some s21) (actC p181 [(.t s16),(.c (.int .i64 (.ofNat 0))),(.t s20)])
(lE [] [] none (actV (o.st1 (.t s2) (.t s21)))
(lC s3 .nili
sEnd)))))))))
dRet)))),[(.cN s2 1),(.t s3)]⟩
def af141:AF:=afG141 fastO
def afG142 (o:Ops):AF:=⟨(dSeq (dOps (dV s1 (oBox 109 (.t s0))
(dV s2 (oNew [.nilp] 104)
(vC s3 .nili
dE))))
(dSeq (dOps (dV s7 (o.ldN 5 (.t s1))
(dC (some s8) p174 [(.t s7),(.c (.int .i64 (.ofNat 0)))]
(dV s4 (oNew [.nilp,.nilp,(.int .i64 (.ofNat 0)),.nilp,.nilp] 109)
(dU (oSt 5 (.t s4) (.t s8))
dE)))))
(dSeq (dOps (dV s10 (o.ldN 5 (.t s4))
(dC (some s11) p179 [(.t s10),(.c (.int .i64 (.ofNat 6))),(.c (.int .i64 (.ofNat 15)))]
(vM s9 s11
(dV s12 (o.ext (.t s9) 0)
(dV s13 (o.ext (.t s9) 1)
(dV s5 (oNew [.nilp] 290)
(dU (o.st1 (.t s5) (.t s12))
(vM s6 s13
dE)))))))))
(dSeq (dSeq (dOps (vM s14 s6
(dV s15 (oEq .i true (.t s14) (.c .nili))
dE)))
(o.cond (.t s15) (dSeq (dOps (dV s16 (oBuild [.nilp] [])
(vM s17 s6
(dU (o.st1 (.t s2) (.t s16))
(vM s3 s17
dE)))))
dRet) dSkip))
(dSeq (dDraw (lN s18 (o.ldN 1 (.t s5))
(lN s19 (o.fa 4 (.t s4))
(lN s20 (o.ldN 1 (.t s19))
(lE [] [(s18,(o.ldN 1 (.t s5)))] (some s21) (actC p184 [(.t s20),(.c (.int .i64 (.ofNat 8)))])
(lE [] [] (some s22) (actC p182 [(.t s18),(.t s21)])
(lE [] [] none (actV (o.st1 (.t s2) (.t s22)))
(lC s3 .nili
sEnd))))))))
dRet))))),[(.cN s2 1),(.t s3)]⟩
def af142:AF:=afG142 fastO
def afG143 (o:Ops):AF:=⟨(dSeq (dOps (dV s1 (oBox 109 (.t s0))
(dV s2 (oNew [.nilp] 104)
(vC s3 .nili
dE))))
(dSeq (dOps (dV s9 (o.fa 4 (.t s1))
(dV s10 (o.ldN 1 (.t s9))
(dC (some s11) p78 [(.t s10)]
(dV s4 (oNew [(.int .i64 (.ofNat 0)),(.int .i64 (.ofNat 0)),(.bool false),(.str []),.nils,.nils] 30)
(dU (oSt 6 (.t s4) (.t s11))
dE))))))
(dSeq (dOps (dV s13 (o.fa 0 (.t s1))
(dV s14 (o.ld1 (.t s13))
(dV s15 (o.ldN 6 (.t s4))
(dC (some s16) p185 [(.t s14),(.t s15)]
(vM s12 s16
(dV s17 (o.ext (.t s12) 0)
(dV s18 (o.ext (.t s12) 1)
(dV s5 (oNew [.nilp] 104)
(dU (o.st1 (.t s5) (.t s17))
(vM s6 s18
dE)))))))))))
(dSeq (dSeq (dOps (vM s19 s6
(dV s20 (oEq .i true (.t s19) (.c .nili))
dE)))
(o.cond (.t s20) (dSeq (dOps (dV s21 (oBuild [.nilp] [])
(vM s22 s6
(dU (o.st1 (.t s2) (.t s21))
(vM s3 s22
dE)))))
dRet) dSkip))
(dSeq (dSeq (dOps (dV s23 (o.fa 4 (.t s4))
(dV s24 (o.ld1 (.t s23))
(dV s25 (o.len (.t s24))
(vC s26 (.int .i64 (.ofNat 0))
dE)))))
(dBlock 0 (dLoop (dSeq (dOps (dV s27 (o.lss (.t s26) (.t s25))
dE))
(dSeq (o.cond (.t s27) dSkip (dExit 0))
(dSeq (dBlock 1 (dSeq (dOps (dV s28 (o.ia 2 (.t s24) (.t s26))
(dV s29 (o.ldN 2 (.t s28))
(dV s8 (oNew [(.int .i64 (.ofNat 0)),.nils] 50)
(dU (oSt 2 (.t s8) (.t s29))
dE)))))
(dSeq (dOps (dV s30 (o.fa 0 (.t s1))
(dV s31 (o.ld1 (.t s30))
(dV s32 (o.ldN 2 (.t s8))
(dC (some s33) p171 [(.t s31),(.t s32)]
(dV s34 (o.not (.t s33))
dE))))))
(o.cond (.t s34) (dSeq (dOps (dV s35 (oBuild [.nilp] [])
(dC (some s36) p110 [(.c (.int .i64 (.ofNat 13)))]
(dU (o.st1 (.t s2) (.t s35))
(vM s3 s36
dE)))))
dRet) dSkip))))
(dOps (dV s37 (o.add (.t s26) (.c (.int .i64 (.ofNat 1))))
(vM s26 s37
dE)))))))))
(dSeq (dOps (dV s38 (o.ldN 1 (.t s5))
(dU (o.st1 (.t s2) (.t s38))
(vC s3 .nili
dE))))
dRet)))))),[(.cN s2 1),(.t s3)]⟩
def af143:AF:=afG143 fastO
def afG144 (o:Ops):AF:=⟨(dSeq (dOps (dV s1 (oBox 109 (.t s0))
(dV s2 (oNew [.nilp] 104)
(vC s3 .nili
dE))))
(dSeq (dOps (dV s4 (oBuild [.nilp] [])
(dC (some s5) p110 [(.c (.int .i64 (.ofNat 10)))]
(dU (o.st1 (.t s2) (.t s4))
(vM s3 s5
dE)))))
dRet)),[(.cN s2 1),(.t s3)]⟩
def af144:AF:=afG144 fastO
def afG145 (o:Ops):AF:=⟨(dSeq (dOps (dV s2 (oBox 68 (.t s0))
(dV s4 (oNew [.nilp,(.int .i64 (.ofNat 0))] 68)
dE)))
(dSeq (dOps (vM s5 s1
(dV s6 (o.fa 0 (.t s2))
(dV s7 (o.ld1 (.t s6))
(dV s8 (oBuild [.nilp,.nilp] [(0,1,(.t s5)),(1,1,(.t s7))])
(dV s9 (oBox 276 (.t s8))
(dV s10 (o.fa 1 (.t s2))
(dV s11 (o.ld1 (.t s10))
(dV s12 (o.add (.t s11) (.c (.int .i64 (.ofNat 1))))
(dV s13 (oBuild [.nilp,(.int .i64 (.ofNat 0))] [(0,1,(.t s9)),(1,1,(.t s12))])
(dU (oSt 2 (.t s4) (.t s13))
dE)))))))))))
dRet)),[(.cN s4 2)]⟩
def af145:AF:=afG145 fastO
def afG146 (o:Ops):AF:=⟨(dSeq (dOps (vC s2 .nilp
dE))
(dSeq (dOps (vM s5 s0
(dV s6 (o.sub (.c (.int .i64 (.negSucc 0))) (.t s5))
(dV s7 (oBuild [(.int .i64 (.ofNat 0)),(.int .i64 (.ofNat 0)),(.bool false),(.str []),.nils,.nils] [(0,1,(.c (.int .i64 (.ofNat 1)))),(1,1,(.t s6))])
(dC (some s8) p105 [(.t s7)]
(vM s3 s8
dE))))))
(dSeq (dOps (vM s9 s3
(dV s10 (oBuild [.nilp,(.int .i64 (.ofNat 0)),.nilp] [(2,1,(.t s9))])
(dC (some s11) p147 [(.t s10)]
(vM s4 s11
dE)))))
(dSeq (dOps (vM s12 s4
(vM s13 s0
(dV s14 (o.add (.t s13) (.c (.int .i64 (.ofNat 1))))
(dV s15 (o.nchk (.t s12))
(dV s16 (o.fa 3 (.t s15))
(dV s17 (o.fa 3 (.t s16))
(dU (o.st1 (.t s17) (.t s14))
dE))))))))
(dSeq (dOps (vM s18 s4
(vM s2 s18
dE)))
dRet))))),[(.t s2)]⟩
def af146:AF:=afG146 fastO
def afG147 (o:Ops):AF:=⟨(dSeq (dOps (dV s1 (oBox 168 (.t s0))
(vC s2 .nilp
dE)))
(dSeq (dDraw (lN s3 (o.ldN 3 (.t s1))
(lN s4 (o.ldN 3 (.t s1))
(lE [] [(s3,(o.ldN 3 (.t s1)))] (some s5) (actC p186 [(.t s4)])
(lN s6 (oBuild [.nilp,(.int .i64 (.ofNat 0)),.nilp,(.int .i64 (.ofNat 0)),(.int .i64 (.ofNat 0)),(.int .i64 (.ofNat 0)),(.int .i64 (.ofNat 0)),.nilp,(.int .i64 (.ofNat 0)),(.int .i64 (.ofNat 0)),(.int .i64 (.ofNat 0)),(.int .i64 (.ofNat 0)),.nilp,(.int .i64 (.ofNat 0))] [(0,3,(.t s3)),(3,4,(.t s5))])
(lA 4 s7 (aBox 174 (.t s6))
(lM s2 s7
sEnd)))))))
dRet)),[(.t s2)]⟩
def af147:AF:=afG147 fastO
def afG150 (o:Ops):AF:=⟨(dSeq (dOps (dV s3 (oBox 170 (.t s1))
dE))
(dSeq (dDraw (lN s4 (o.fa 0 (.t s3))
(lN s5 (o.ld1 (.t s4))
(lN s6 (o.gtr (.t s5) (.c (.int .i64 (.ofNat 20000))))
(lM s7 s6
(lG s7 false s8 (o.fa 1 (.t s3))
(lG s7 false s9 (o.ld1 (.t s8))
(lG s7 false s10 (o.gtr (.t s9) (.c (.int .i64 (.ofNat 500))))
(lN s11 (o.pick (.t s7) (.c (.bool true)) (.t s10))
(lM s12 s11
(lG s12 false s13 (o.fa 2 (.t s3))
(lG s12 false s14 (o.ld1 (.t s13))
(lG s12 false s15 (oMv (.t s0))
(lG s12 false s16 (o.nchk (.t s15))
(lG s12 false s17 (o.fa 3 (.t s16))
(lG s12 false s18 (o.ld1 (.t s17))
(lG s12 false s19 (o.add (.t s14) (.t s18))
(lG s12 false s20 (o.gtr (.t s19) (.c (.int .i64 (.ofNat 1073741824))))
(lN s21 (o.pick (.t s12) (.c (.bool true)) (.t s20))
sEnd)))))))))))))))))))
(o.cond (.t s21) (dOps (dC (some s22) p187 [(.c (.int .i64 (.ofNat 2)))]
dE)) dSkip))),[]⟩
def af150:AF:=afG150 fastO
def afG154 (o:Ops):AF:=⟨(dSeq (dOps (dV s1 (oBox 50 (.t s0))
(dV s2 (oNew [(.int .i64 (.ofNat 0)),.nils] 50)
(vC s3 (.int .i64 (.ofNat 0))
dE))))
(dSeq (dOps (dV s5 (o.ldN 2 (.t s1))
(dC (some s6) p188 [(.t s5)]
(vM s4 s6
dE))))
(dSeq (dSeq (dOps (vM s7 s4
(dV s8 (o.not (.t s7))
dE)))
(o.cond (.t s8) (dSeq (dOps (dV s9 (oBuild [(.int .i64 (.ofNat 0)),.nils] [])
(dU (oSt 2 (.t s2) (.t s9))
(vC s3 (.int .i64 (.ofNat 13))
dE))))
dRet) dSkip))
(dSeq (dOps (dV s10 (o.ldN 2 (.t s1))
(dC (some s11) p189 [(.t s10)]
(dU (oSt 2 (.t s2) (.t s11))
(vC s3 (.int .i64 (.ofNat 0))
dE)))))
dRet)))),[(.cN s2 2),(.t s3)]⟩
def af154:AF:=afG154 fastO
def afG155 (o:Ops):AF:=⟨(dSeq (dOps (vM s4 s0
(vM s5 s0
(dV s6 (o.nchk (.t s5))
(dV s7 (o.fa 1 (.t s6))
(dV s8 (o.ld1 (.t s7))
(vM s9 s8
(o.g s9 false (some s10) (vM s10 s0)
(o.g s9 false (some s11) (dV s11 (o.nchk (.t s10)))
(o.g s9 false (some s12) (dV s12 (o.fa 0 (.t s11)))
(o.g s9 false (some s13) (dV s13 (o.ld1 (.t s12)))
(o.g s9 false (some s14) (dV s14 (o.len (.t s13)))
(o.g s9 false (some s15) (vM s15 s1)
(o.g s9 false (some s16) (dV s16 (o.len (.t s15)))
(o.g s9 false (some s17) (dV s17 (o.add (.t s14) (.t s16)))
(o.g s9 false (some s18) (dV s18 (o.gtr (.t s17) (.c (.int .i64 (.ofNat 1000000)))))
(dV s19 (o.pick (.t s9) (.c (.bool true)) (.t s18))
(dV s20 (o.nchk (.t s4))
(dV s21 (o.fa 1 (.t s20))
(dU (o.st1 (.t s21) (.t s19))
dE))))))))))))))))))))
(dSeq (dOps (vM s22 s0
(dV s23 (o.nchk (.t s22))
(dV s24 (o.fa 1 (.t s23))
(dV s25 (o.ld1 (.t s24))
(dV s26 (o.not (.t s25))
dE))))))
(o.cond (.t s26) (dOps (vM s27 s0
(vM s28 s0
(dV s29 (o.nchk (.t s28))
(dV s30 (o.fa 0 (.t s29))
(dV s31 (o.ld1 (.t s30))
(vM s32 s1
(dV s33 (oApp 5 1 (.t s31) (.t s32))
(dV s34 (o.nchk (.t s27))
(dV s35 (o.fa 0 (.t s34))
(dU (o.st1 (.t s35) (.t s33))
dE))))))))))) dSkip))),[]⟩
def af155:AF:=afG155 fastO
def afG156 (o:Ops):AF:=⟨(dSeq (dOps (vM s4 s0
(vM s5 s1
(dV s6 (oLenS (.t s5))
(dC (some s7) p121 [(.t s4),(.t s6)]
dE)))))
(dOps (vM s8 s0
(vM s9 s1
(dV s10 (oCvB 5 (.t s9))
(dC (some s11) p155 [(.t s8),(.t s10)]
dE)))))),[]⟩
def af156:AF:=afG156 fastO
def afG157 (o:Ops):AF:=⟨(dSeq (dOps (dV s3 (oBox 30 (.t s1))
dE))
(dSeq (dOps (vM s4 s0
(dV s5 (o.fa 0 (.t s3))
(dV s6 (o.ld1 (.t s5))
(dC (some s7) p121 [(.t s4),(.t s6)]
dE)))))
(dSeq (dSeq (dOps (dV s8 (o.fa 0 (.t s3))
(dV s9 (o.ld1 (.t s8))
dE)))
(dBlock 0 (dSeq (dBlock 4 (dSeq (dBlock 3 (dSeq (dBlock 2 (dSeq (dBlock 1 (dSeq (dSeq (dSeq (dSeq (dOps (dV s11 (o.eql (.t s9) (.c (.int .i64 (.ofNat 1))))
(vM s10 s11
dE)))
(o.cond (.t s10) dSkip (dOps (dV s12 (o.eql (.t s9) (.c (.int .i64 (.ofNat 11))))
(vM s10 s12
dE)))))
(o.cond (.t s10) (dExit 1) dSkip))
(dSeq (dSeq (dSeq (dOps (dV s14 (o.eql (.t s9) (.c (.int .i64 (.ofNat 3))))
(vM s13 s14
dE)))
(o.cond (.t s13) dSkip (dSeq (dOps (dV s15 (o.eql (.t s9) (.c (.int .i64 (.ofNat 4))))
(vM s13 s15
dE)))
(o.cond (.t s13) dSkip (dOps (dV s16 (o.eql (.t s9) (.c (.int .i64 (.ofNat 5))))
(vM s13 s16
dE)))))))
(o.cond (.t s13) (dExit 2) dSkip))
(dSeq (dSeq (dOps (dV s18 (o.eql (.t s9) (.c (.int .i64 (.ofNat 10))))
(vM s17 s18
dE)))
(o.cond (.t s17) (dExit 3) dSkip))
(dSeq (dOps (dV s20 (o.eql (.t s9) (.c (.int .i64 (.ofNat 2))))
(vM s19 s20
dE)))
(o.cond (.t s19) (dExit 4) dSkip)))))
(dExit 0)))
(dSeq (dOps (vM s21 s0
(dV s22 (o.fa 1 (.t s3))
(dV s23 (o.ld1 (.t s22))
(dC (some s24) p121 [(.t s21),(.t s23)]
dE)))))
(dExit 0))))
(dSeq (dOps (vM s25 s0
(dV s26 (o.fa 2 (.t s3))
(dV s27 (o.ld1 (.t s26))
(dC (some s28) p190 [(.t s25),(.t s27)]
dE)))))
(dExit 0))))
(dSeq (dOps (vM s29 s0
(dV s30 (o.fa 3 (.t s3))
(dV s31 (o.ld1 (.t s30))
(dC (some s32) p156 [(.t s29),(.t s31)]
dE)))))
(dOps (vM s33 s0
(dV s34 (o.fa 4 (.t s3))
(dV s35 (o.ld1 (.t s34))
(dV s36 (o.len (.t s35))
(dC (some s37) p121 [(.t s33),(.t s36)]
dE)))))))))
(dSeq (dOps (dV s38 (o.fa 4 (.t s3))
(dV s39 (o.ld1 (.t s38))
(vM s40 s0
(dV s41 (oMkf 192 [(.t s40)] [])
(dC (some s42) p191 [(.t s39),(.t s41)]
dE))))))
(dExit 0)))))
(dOps (dV s43 (o.fa 5 (.t s3))
(dV s44 (o.ld1 (.t s43))
(vM s45 s0
(dV s46 (oMkf 157 [(.t s45)] [])
(dC (some s47) p193 [(.t s44),(.t s46)]
dE))))))))),[]⟩
def af157:AF:=afG157 fastO
def afG158 (o:Ops):AF:=⟨(dSeq (dOps (vM s6 s0
(dV s7 (o.len (.t s6))
(vC s8 (.int .i64 (.ofNat 0))
dE))))
(dBlock 0 (dLoop (dSeq (dOps (dV s9 (o.lss (.t s8) (.t s7))
dE))
(dSeq (o.cond (.t s9) dSkip (dExit 0))
(dSeq (dBlock 1 (dSeq (dOps (dV s10 (o.ia 7 (.t s6) (.t s8))
(dV s11 (o.ldN 7 (.t s10))
(dV s5 (oNew [(.str []),(.int .i64 (.ofNat 0)),(.int .i64 (.ofNat 0)),(.bool false),(.str []),.nils,.nils] 61)
(dU (oSt 7 (.t s5) (.t s11))
dE)))))
(dOps (vM s12 s1
(dV s13 (o.ldN 7 (.t s5))
(dCv (some s14) (.t s12) [(.t s13)]
dE))))))
(dOps (dV s15 (o.add (.t s8) (.c (.int .i64 (.ofNat 1))))
(vM s8 s15
dE))))))))),[]⟩
def af158:AF:=afG158 fastO
def afG159 (o:Ops):AF:=⟨(dSeq (dOps (dV s3 (oBox 61 (.t s1))
dE))
(dSeq (dOps (vM s4 s0
(dV s5 (o.fa 0 (.t s3))
(dV s6 (o.ld1 (.t s5))
(dC (some s7) p156 [(.t s4),(.t s6)]
dE)))))
(dOps (vM s8 s0
(dV s9 (o.fa 1 (.t s3))
(dV s10 (o.ldN 6 (.t s9))
(dC (some s11) p157 [(.t s8),(.t s10)]
dE))))))),[]⟩
def af159:AF:=afG159 fastO
def afG160 (o:Ops):AF:=⟨(dSeq (dOps (dV s1 (oBox 30 (.t s0))
(dV s2 (oNew [(.int .i64 (.ofNat 0)),(.int .i64 (.ofNat 0)),(.bool false),(.str []),.nils,.nils] 30)
dE)))
(dSeq (dOps (dV s5 (o.fa 0 (.t s1))
(dV s6 (o.ld1 (.t s5))
(dV s7 (oBuild [(.int .i64 (.ofNat 0)),(.int .i64 (.ofNat 0)),(.bool false),(.str []),.nils,.nils] [(0,1,(.t s6))])
(dV s3 (oNew [(.int .i64 (.ofNat 0)),(.int .i64 (.ofNat 0)),(.bool false),(.str []),.nils,.nils] 30)
(dU (oSt 6 (.t s3) (.t s7))
dE))))))
(dSeq (dSeq (dOps (dV s8 (o.fa 0 (.t s1))
(dV s9 (o.ld1 (.t s8))
dE)))
(dBlock 0 (dSeq (dBlock 4 (dSeq (dBlock 3 (dSeq (dBlock 2 (dSeq (dBlock 1 (dSeq (dSeq (dSeq (dSeq (dOps (dV s11 (o.eql (.t s9) (.c (.int .i64 (.ofNat 1))))
(vM s10 s11
dE)))
(o.cond (.t s10) dSkip (dOps (dV s12 (o.eql (.t s9) (.c (.int .i64 (.ofNat 11))))
(vM s10 s12
dE)))))
(o.cond (.t s10) (dExit 1) dSkip))
(dSeq (dSeq (dSeq (dOps (dV s14 (o.eql (.t s9) (.c (.int .i64 (.ofNat 3))))
(vM s13 s14
dE)))
(o.cond (.t s13) dSkip (dSeq (dOps (dV s15 (o.eql (.t s9) (.c (.int .i64 (.ofNat 4))))
(vM s13 s15
dE)))
(o.cond (.t s13) dSkip (dOps (dV s16 (o.eql (.t s9) (.c (.int .i64 (.ofNat 5))))
(vM s13 s16
dE)))))))
(o.cond (.t s13) (dExit 2) dSkip))
(dSeq (dSeq (dOps (dV s18 (o.eql (.t s9) (.c (.int .i64 (.ofNat 10))))
(vM s17 s18
dE)))
(o.cond (.t s17) (dExit 3) dSkip))
(dSeq (dOps (dV s20 (o.eql (.t s9) (.c (.int .i64 (.ofNat 2))))
(vM s19 s20
dE)))
(o.cond (.t s19) (dExit 4) dSkip)))))
(dExit 0)))
(dSeq (dOps (dV s21 (o.fa 1 (.t s1))
(dV s22 (o.ld1 (.t s21))
(dV s23 (o.fa 1 (.t s3))
(dU (o.st1 (.t s23) (.t s22))
dE)))))
(dExit 0))))
(dSeq (dOps (dV s24 (o.fa 2 (.t s1))
(dV s25 (o.ld1 (.t s24))
(dV s26 (o.fa 2 (.t s3))
(dU (o.st1 (.t s26) (.t s25))
dE)))))
(dExit 0))))
(dOps (dV s27 (o.fa 3 (.t s1))
(dV s28 (o.ld1 (.t s27))
(dV s29 (o.fa 3 (.t s3))
(dU (o.st1 (.t s29) (.t s28))
dE)))))))
(dSeq (dOps (dV s30 (o.fa 4 (.t s1))
(dV s31 (o.ld1 (.t s30))
(dC (some s32) p194 [(.t s31)]
(dV s33 (o.fa 4 (.t s3))
(dU (o.st1 (.t s33) (.t s32))
dE))))))
(dExit 0)))))
(dSeq (dSeq (dOps (dV s34 (o.fa 5 (.t s1))
(dV s35 (o.ld1 (.t s34))
(dV s36 (o.len (.t s35))
(vM s4 s36
dE)))))
(dSeq (dOps (vM s37 s4
(dV s38 (o.gtr (.t s37) (.c (.int .i64 (.ofNat 0))))
dE)))
(o.cond (.t s38) (dOps (vM s39 s4
(dV s40 (oMkS 30 6 [(.int .i64 (.ofNat 0)),(.int .i64 (.ofNat 0)),(.bool false),(.str []),.nils,.nils] (.c (.int .i64 (.ofNat 0))) (.t s39))
(dV s41 (o.fa 5 (.t s3))
(dU (o.st1 (.t s41) (.t s40))
dE))))) dSkip)))
(dSeq (dOps (dV s42 (o.ldN 6 (.t s3))
(dU (oSt 6 (.t s2) (.t s42))
dE)))
dRet))))),[(.cN s2 6)]⟩
def af160:AF:=afG160 fastO
def afG161 (o:Ops):AF:=⟨(dSeq (dOps (dV s1 (oBox 50 (.t s0))
(dV s2 (oNew [(.int .i64 (.ofNat 0)),.nils] 50)
(vC s3 (.int .i64 (.ofNat 0))
dE))))
(dSeq (dSeq (dOps (dV s4 (o.ldN 2 (.t s1))
(dC (some s5) p195 [(.t s4)]
(dV s6 (o.not (.t s5))
dE))))
(o.cond (.t s6) (dSeq (dOps (dV s7 (oBuild [(.int .i64 (.ofNat 0)),.nils] [])
(dU (oSt 2 (.t s2) (.t s7))
(vC s3 (.int .i64 (.ofNat 13))
dE))))
dRet) dSkip))
(dSeq (dOps (dV s8 (o.fa 0 (.t s1))
(dV s9 (o.ld1 (.t s8))
(dV s10 (o.fa 1 (.t s1))
(dV s11 (o.ld1 (.t s10))
(dC (some s12) p196 [(.t s9),(.t s11)]
(dV s13 (o.ext (.t s12) 0)
(dV s14 (o.ext (.t s12) 1)
(dU (oSt 2 (.t s2) (.t s13))
(vM s3 s14
dE))))))))))
dRet))),[(.cN s2 2),(.t s3)]⟩
def af161:AF:=afG161 fastO
def afG162 (o:Ops):AF:=⟨(dSeq (dOps (dV s2 (oBox 50 (.t s0))
(dV s3 (oBox 50 (.t s1))
(vC s4 (.bool false)
dE))))
(dSeq (dOps (dV s5 (o.fa 0 (.t s2))
(dV s6 (o.ld1 (.t s5))
(dV s7 (o.fa 0 (.t s3))
(dV s8 (o.ld1 (.t s7))
(dV s9 (o.eql (.t s6) (.t s8))
(vM s10 s9
(o.g s10 true (some s11) (dV s11 (o.fa 1 (.t s2)))
(o.g s10 true (some s12) (dV s12 (o.ld1 (.t s11)))
(o.g s10 true (some s13) (dV s13 (o.fa 1 (.t s3)))
(o.g s10 true (some s14) (dV s14 (o.ld1 (.t s13)))
(o.g s10 true (some s15) (dC (some s15) p197 [(.t s12),(.t s14)])
(dV s16 (o.pick (.t s10) (.t s15) (.c (.bool false)))
(vM s4 s16
dE))))))))))))))
dRet)),[(.t s4)]⟩
def af162:AF:=afG162 fastO
def afG163 (o:Ops):AF:=⟨(dSeq (dOps (vC s4 (.int .i64 (.ofNat 0))
dE))
(dSeq (dSeq (dOps (vM s6 s0
(dV s7 (o.len (.t s6))
(vC s8 (.int .i64 (.ofNat 0))
dE))))
(dBlock 0 (dLoop (dSeq (dOps (dV s9 (o.lss (.t s8) (.t s7))
dE))
(dSeq (o.cond (.t s9) dSkip (dExit 0))
(dSeq (dBlock 1 (dSeq (dOps (vM s10 s8
(vM s5 s10
dE)))
(dSeq (dOps (vM s11 s1
(vM s12 s0
(vM s13 s5
(dV s14 (o.ia 2 (.t s12) (.t s13))
(dV s15 (o.ldN 2 (.t s14))
(dCv (some s16) (.t s11) [(.t s15)]
dE)))))))
(o.cond (.t s16) (dSeq (dOps (vM s17 s5
(vM s4 s17
dE)))
dRet) dSkip))))
(dOps (dV s18 (o.add (.t s8) (.c (.int .i64 (.ofNat 1))))
(vM s8 s18
dE)))))))))
(dSeq (dOps (vC s4 (.int .i64 (.negSucc 0))
dE))
dRet))),[(.t s4)]⟩
def af163:AF:=afG163 fastO
def afG164 (o:Ops):AF:=⟨(dSeq (dOps (dV s1 (oBox 292 (.t s0))
(vC s2 .nils
(vC s3 (.bool false)
dE))))
(dSeq (dDraw (lN s4 (o.fa 0 (.t s1))
(lN s5 (o.ldN 1 (.t s4))
(lN s8 (o.fa 1 (.t s1))
(lN s9 (o.ldN 1 (.t s8))
(lE [] [(s9,(o.ldN 1 (.t s8)))] (some s6) (actC p198 [(.t s5)])
(lN s7 (o.fld1 1 (.t s6))
(lE [] [] (some s10) (actC p198 [(.t s9)])
(lN s11 (o.fld1 1 (.t s10))
(lN s12 (o.eql (.t s7) (.t s11))
(lC s2 .nils
(lM s3 s12
sEnd))))))))))))
dRet)),[(.t s2),(.t s3)]⟩
def af164:AF:=afG164 fastO
def afG165 (o:Ops):AF:=⟨(dSeq (dOps (dV s1 (oBox 292 (.t s0))
(vC s2 .nils
(vC s3 (.bool false)
dE))))
(dSeq (dDraw (lN s7 (o.fa 0 (.t s1))
(lN s8 (o.ldN 1 (.t s7))
(lN s10 (o.fa 1 (.t s1))
(lN s11 (o.ldN 1 (.t s10))
(lA 6 s4 (aNew [(.int .i64 (.ofNat 0)),(.int .i64 (.ofNat 0)),(.bool false),(.str []),.nils,.nils] 30)
(lA 7 s5 (aNew [(.int .i64 (.ofNat 0)),(.int .i64 (.ofNat 0)),(.bool false),(.str []),.nils,.nils] 30)
(lE [] [(s11,(o.ldN 1 (.t s10)))] (some s9) (actC p198 [(.t s8)])
(lE [] [] (some s12) (actC p198 [(.t s11)])
(lE [6,7] [] none (actV (oSt 6 (.t s4) (.t s9)))
(lE [6,7] [] none (actV (oSt 6 (.t s5) (.t s12)))
sEnd)))))))))))
(dSeq (dOps (dV s13 (o.fa 0 (.t s4))
(dV s14 (o.ld1 (.t s13))
(dV s15 (o.eql (.t s14) (.c (.int .i64 (.ofNat 2))))
(vM s16 s15
(o.g s16 false (some s17) (dV s17 (o.fa 3 (.t s4)))
(o.g s16 false (some s18) (dV s18 (o.ld1 (.t s17)))
(o.g s16 false (some s19) (dV s19 (o.fa 3 (.t s5)))
(o.g s16 false (some s20) (dV s20 (o.ld1 (.t s19)))
(o.g s16 false (some s21) (dV s21 (o.eql (.t s18) (.t s20)))
(dV s22 (o.pick (.t s16) (.c (.bool true)) (.t s21))
(vM s6 s22
dE))))))))))))
(dSeq (dOps (vM s23 s6
(vM s24 s23
(o.g s24 true (some s25) (dV s25 (o.fa 4 (.t s4)))
(o.g s24 true (some s26) (dV s26 (o.ld1 (.t s25)))
(o.g s24 true (some s27) (dV s27 (o.fa 4 (.t s5)))
(o.g s24 true (some s28) (dV s28 (o.ld1 (.t s27)))
(o.g s24 true (some s29) (dC (some s29) p199 [(.t s26),(.t s28),(.c (.fn (.func 200) [] []))])
(dV s30 (o.pick (.t s24) (.t s29) (.c (.bool false)))
(vC s2 .nils
(vM s3 s30
dE)))))))))))
dRet)))),[(.t s2),(.t s3)]⟩
def af165:AF:=afG165 fastO
def afG166 (o:Ops):AF:=⟨(dSeq (dOps (dV s1 (oBox 292 (.t s0))
(vC s2 .nils
(vC s3 (.bool false)
dE))))
(dSeq (dDraw (lN s4 (o.ldN 3 (.t s1))
(lN s5 (o.fa 2 (.t s1))
(lN s6 (o.ld1 (.t s5))
(lN s8 (o.ldN 3 (.t s1))
(lN s9 (o.fa 2 (.t s1))
(lN s10 (o.ld1 (.t s9))
(lN s11 (o.add (.t s10) (.c (.int .i64 (.ofNat 1))))
(lE [] [(s8,(o.ldN 3 (.t s1))),(s10,(o.ld1 (.t s9)))] (some s7) (actC p201 [(.t s4),(.c (.int .i64 (.ofNat 0))),(.t s6)])
(lE [] [] (some s12) (actC p201 [(.t s8),(.c (.int .i64 (.ofNat 1))),(.t s11)])
(lA 9 s13 (floatK (.buildS 323 2 [.nilp,.nilp,(.int .i64 (.ofNat 0)),.nilp,.nilp,(.int .i64 (.ofNat 0))] [(0,3,(.t s7)),(3,3,(.t s12))]))
(lM s2 s13
(lC s3 (.bool true)
sEnd)))))))))))))
dRet)),[(.t s2),(.t s3)]⟩
def af166:AF:=afG166 fastO
def afG167 (o:Ops):AF:=⟨(dSeq (dOps (dV s1 (oBox 292 (.t s0))
(vC s2 .nils
(vC s3 (.bool false)
dE))))
(dSeq (dDraw (lN s11 (o.fa 0 (.t s1))
(lN s12 (o.ldN 1 (.t s11))
(lN s14 (o.fa 1 (.t s1))
(lN s15 (o.ldN 1 (.t s14))
(lE [] [(s15,(o.ldN 1 (.t s14)))] (some s13) (actC p202 [(.t s12)])
(lE [] [] (some s16) (actC p202 [(.t s15)])
(lM s4 s13
(lM s5 s16
sEnd)))))))))
(dSeq (dOps (vM s17 s4
(dV s18 (o.len (.t s17))
(vM s19 s5
(dV s20 (o.len (.t s19))
(dV s21 (oMm false [(.t s18),(.t s20)])
(vM s6 s21
dE)))))))
(dSeq (dOps (vM s22 s4
(dV s23 (o.len (.t s22))
(vM s24 s6
(dV s25 (o.sub (.t s23) (.t s24))
(vM s26 s5
(dV s27 (o.len (.t s26))
(vM s28 s6
(dV s29 (o.sub (.t s27) (.t s28))
(vM s7 s25
(vM s8 s29
dE)))))))))))
(dSeq (dDraw (lN s30 (o.fa 0 (.t s1))
(lN s31 (o.ldN 1 (.t s30))
(lM s32 s7
(lN s34 (o.fa 1 (.t s1))
(lN s35 (o.ldN 1 (.t s34))
(lM s36 s8
(lN s38 (o.fa 2 (.t s1))
(lN s39 (o.ld1 (.t s38))
(lE [] [(s35,(o.ldN 1 (.t s34))),(s39,(o.ld1 (.t s38)))] (some s33) (actC p203 [(.t s31),(.t s32)])
(lE [] [(s39,(o.ld1 (.t s38)))] (some s37) (actC p203 [(.t s35),(.t s36)])
(lN s40 (oBuild [.nilp,.nilp,(.int .i64 (.ofNat 0))] [(0,1,(.t s33)),(1,1,(.t s37)),(2,1,(.t s39))])
(lA 11 s41 (floatK (.buildS 323 1 [.nilp,.nilp,(.int .i64 (.ofNat 0))] [(0,3,(.t s40))]))
(lM s9 s41
sEnd))))))))))))))
(dSeq (dSeq (dOps (vM s42 s6
(vC s43 (.int .i64 (.ofNat 0))
dE)))
(dBlock 0 (dLoop (dSeq (dOps (dV s44 (o.lss (.t s43) (.t s42))
dE))
(dSeq (o.cond (.t s44) dSkip (dExit 0))
(dSeq (dBlock 1 (dSeq (dOps (vM s45 s43
(vM s10 s45
dE)))
(dDraw (lM s46 s9
(lM s47 s4
(lM s48 s7
(lM s49 s10
(lN s50 (o.add (.t s48) (.t s49))
(lN s51 (o.ia 1 (.t s47) (.t s50))
(lN s52 (o.ldN 1 (.t s51))
(lM s53 s5
(lM s54 s8
(lM s55 s10
(lN s56 (o.add (.t s54) (.t s55))
(lN s57 (o.ia 1 (.t s53) (.t s56))
(lN s58 (o.ldN 1 (.t s57))
(lN s59 (o.fa 2 (.t s1))
(lN s60 (o.ld1 (.t s59))
(lN s61 (oBuild [.nilp,.nilp,(.int .i64 (.ofNat 0))] [(0,1,(.t s52)),(1,1,(.t s58)),(2,1,(.t s60))])
(lA 16 s62 (floatK (.buildS 323 1 [.nilp,.nilp,(.int .i64 (.ofNat 0))] [(0,3,(.t s61))]))
(lE [16] [] (some s63) (actV (oApp 323 3 (.t s46) (.t s62)))
(lE [16] [] (some s9) (actV (oMv (.t s63)))
sEnd))))))))))))))))))))))
(dOps (dV s64 (o.add (.t s43) (.c (.int .i64 (.ofNat 1))))
(vM s43 s64
dE)))))))))
(dSeq (dOps (vM s65 s9
(vM s2 s65
(vC s3 (.bool true)
dE))))
dRet))))))),[(.t s2),(.t s3)]⟩
def af167:AF:=afG167 fastO
def afG168 (o:Ops):AF:=⟨(dSeq (dOps (dV s1 (oBox 292 (.t s0))
(vC s2 .nils
(vC s3 (.bool false)
dE))))
(dSeq (dOps (dV s4 (o.ldN 3 (.t s1))
(dV s5 (o.fa 2 (.t s1))
(dV s6 (o.ld1 (.t s5))
(dC (some s7) p201 [(.t s4),(.c (.int .i64 (.ofNat 0))),(.t s6)]
(dV s8 (oBuildS 323 1 [.nilp,.nilp,(.int .i64 (.ofNat 0))] [(0,3,(.t s7))])
(vM s2 s8
(vC s3 (.bool true)
dE))))))))
dRet)),[(.t s2),(.t s3)]⟩
def af168:AF:=afG168 fastO
def afG169 (o:Ops):AF:=⟨(dSeq (dOps (dV s1 (oBox 104 (.t s0))
(vC s2 (.int .i64 (.ofNat 0))
(vC s3 (.bool false)
dE))))
(dSeq (dDraw (lN s4 (o.fa 0 (.t s1))
(lN s5 (o.ld1 (.t s4))
(lN s6 (o.nchk (.t s5))
(lN s7 (o.fa 0 (.t s6))
(lN s8 (o.fa 2 (.t s7))
(lN s9 (o.ld1 (.t s8))
(lN s10 (o.nchk (.t s9))
(lN s11 (o.fa 0 (.t s10))
(lN s12 (o.fa 1 (.t s11))
(lN s13 (o.ld1 (.t s12))
(lN s14 (o.sub (.c (.int .i64 (.negSucc 0))) (.t s13))
(lN s15 (o.fa 0 (.t s1))
(lN s16 (o.ld1 (.t s15))
(lN s17 (o.nchk (.t s16))
(lN s18 (o.fa 0 (.t s17))
(lN s19 (o.fa 2 (.t s18))
(lN s20 (o.ld1 (.t s19))
(lN s21 (o.nchk (.t s20))
(lN s22 (o.fa 0 (.t s21))
(lN s23 (o.fa 0 (.t s22))
(lN s24 (o.ld1 (.t s23))
(lN s25 (o.eql (.t s24) (.c (.int .i64 (.ofNat 1))))
(lM s26 s25
(lG s26 true s27 (o.fa 0 (.t s1))
(lG s26 true s28 (o.ld1 (.t s27))
(lG s26 true s29 (o.nchk (.t s28))
(lG s26 true s30 (o.fa 0 (.t s29))
(lG s26 true s31 (o.fa 2 (.t s30))
(lG s26 true s32 (o.ld1 (.t s31))
(lG s26 true s33 (o.nchk (.t s32))
(lG s26 true s34 (o.fa 0 (.t s33))
(lG s26 true s35 (o.fa 1 (.t s34))
(lG s26 true s36 (o.ld1 (.t s35))
(lG s26 true s37 (o.lss (.t s36) (.c (.int .i64 (.ofNat 0))))
(lN s38 (o.pick (.t s26) (.t s37) (.c (.bool false)))
(lM s2 s14
(lM s3 s38
sEnd))))))))))))))))))))))))))))))))))))))
dRet)),[(.t s2),(.t s3)]⟩
def af169:AF:=afG169 fastO
def afG170 (o:Ops):AF:=⟨(dSeq (dOps (dV s2 (oBox 75 (.t s0))
(dV s4 (oNew [.nilp] 104)
dE)))
(dSeq (dDraw (lN s5 (o.fa 2 (.t s2))
(lN s6 (o.ldN 1 (.t s5))
(lN s7 (o.fa 0 (.t s2))
(lN s8 (o.ldN 2 (.t s7))
(lM s11 s1
(lE [] [(s6,(o.ldN 1 (.t s5)))] (some s9) (actC p48 [(.t s8)])
(lN s10 (o.sub (.t s9) (.c (.int .i64 (.ofNat 1))))
(lN s12 (o.sub (.t s10) (.t s11))
(lE [] [] (some s13) (actC p204 [(.t s6),(.t s12)])
(lE [] [] none (actV (o.st1 (.t s4) (.t s13)))
sEnd)))))))))))
dRet)),[(.cN s4 1)]⟩
def af170:AF:=afG170 fastO
def afG171 (o:Ops):AF:=⟨(dSeq (dOps (dV s3 (oBox 50 (.t s1))
(vC s4 (.bool false)
dE)))
(dSeq (dDraw (lN s5 (o.ldN 2 (.t s3))
(lM s7 s0
(lN s8 (o.nchk (.t s7))
(lN s9 (o.fa 1 (.t s8))
(lN s10 (o.ld1 (.t s9))
(lN s11 (oMm true [(.t s10),(.c (.int .i64 (.ofNat 0)))])
(lE [] [(s10,(o.ld1 (.t s9)))] (some s6) (actC p205 [(.t s5)])
(lN s12 (o.leq (.t s6) (.t s11))
(lM s4 s12
sEnd))))))))))
dRet)),[(.t s4)]⟩
def af171:AF:=afG171 fastO
def afG172 (o:Ops):AF:=⟨(dSeq (dOps (dV s2 (oBox 50 (.t s0))
(dV s4 (oNew [.nilp] 104)
(vC s5 .nili
dE))))
(dSeq (dSeq (dOps (vM s6 s1
(dV s7 (o.neq (.t s6) (.c (.int .i64 (.ofNat 0))))
dE)))
(o.cond (.t s7) (dSeq (dOps (dV s8 (oBuild [.nilp] [])
(vM s9 s1
(dC (some s10) p110 [(.t s9)]
(dU (o.st1 (.t s4) (.t s8))
(vM s5 s10
dE))))))
dRet) dSkip))
(dSeq (dOps (dV s11 (oBuild [.nilp,(.int .i64 (.ofNat 0))] [])
(dV s12 (o.ldN 2 (.t s2))
(dV s13 (oBuildS 50 1 [(.int .i64 (.ofNat 0)),.nils] [(0,2,(.t s12))])
(dV s14 (oBuild [(.int .i64 (.ofNat 0)),(.int .i64 (.ofNat 0)),(.bool false),(.str []),.nils,.nils] [(0,1,(.c (.int .i64 (.ofNat 2)))),(4,1,(.t s13))])
(dC (some s15) p77 [(.t s11),(.t s14)]
(dU (o.st1 (.t s4) (.t s15))
(vC s5 .nili
dE))))))))
dRet))),[(.cN s4 1),(.t s5)]⟩
def af172:AF:=afG172 fastO
def afG173 (o:Ops):AF:=⟨(dSeq (dOps (dV s2 (oBox 50 (.t s0))
(dV s4 (oNew [(.int .i64 (.ofNat 0)),.nils] 50)
(vC s5 (.int .i64 (.ofNat 0))
dE))))
(dSeq (dSeq (dOps (dV s6 (o.ldN 2 (.t s2))
(dC (some s7) p195 [(.t s6)]
(dV s8 (o.not (.t s7))
dE))))
(o.cond (.t s8) (dSeq (dOps (dV s9 (oBuild [(.int .i64 (.ofNat 0)),.nils] [])
(dU (oSt 2 (.t s4) (.t s9))
(vC s5 (.int .i64 (.ofNat 13))
dE))))
dRet) dSkip))
(dSeq (dSeq (dOps (vM s10 s1
(dV s11 (o.lss (.t s10) (.c (.int .i64 (.ofNat 0))))
dE)))
(o.cond (.t s11) (dSeq (dOps (dV s12 (oBuild [(.int .i64 (.ofNat 0)),.nils] [])
(dU (oSt 2 (.t s4) (.t s12))
(vC s5 (.int .i64 (.ofNat 1))
dE))))
dRet) dSkip))
(dSeq (dOps (dV s13 (o.ldN 2 (.t s2))
(vM s14 s1
(dC (some s15) p206 [(.t s13),(.t s14)]
(dV s16 (o.ext (.t s15) 0)
(dV s17 (o.ext (.t s15) 1)
(dC (some s18) p196 [(.t s16),(.t s17)]
(dV s19 (o.ext (.t s18) 0)
(dV s20 (o.ext (.t s18) 1)
(dU (oSt 2 (.t s4) (.t s19))
(vM s5 s20
dE)))))))))))
dRet)))),[(.cN s4 2),(.t s5)]⟩
def af173:AF:=afG173 fastO
def afG174 (o:Ops):AF:=⟨(dSeq (dOps (dV s2 (oBox 109 (.t s0))
(dV s4 (oNew [.nilp,.nilp,(.int .i64 (.ofNat 0)),.nilp,.nilp] 109)
dE)))
(dSeq (dDraw (lN s5 (o.fa 0 (.t s2))
(lN s6 (o.ld1 (.t s5))
(lN s7 (o.fa 1 (.t s2))
(lN s8 (o.ldN 3 (.t s7))
(lN s9 (o.fa 4 (.t s2))
(lN s10 (o.ldN 1 (.t s9))
(lM s11 s1
(lN s12 (o.fa 1 (.t s2))
(lN s13 (o.fa 0 (.t s12))
(lN s14 (o.ldN 2 (.t s13))
(lE [] [(s6,(o.ld1 (.t s5))),(s8,(o.ldN 3 (.t s7))),(s10,(o.ldN 1 (.t s9)))] (some s15) (actC p48 [(.t s14)])
(lE [] [(s6,(o.ld1 (.t s5))),(s8,(o.ldN 3 (.t s7)))] (some s16) (actC p207 [(.t s10),(.t s11),(.t s15)])
(lN s17 (oBuild [.nilp,.nilp,(.int .i64 (.ofNat 0)),.nilp,.nilp] [(0,1,(.t s6)),(1,3,(.t s8)),(4,1,(.t s16))])
(lE [] [] none (actV (oSt 5 (.t s4) (.t s17)))
sEnd)))))))))))))))
dRet)),[(.cN s4 5)]⟩
def af174:AF:=afG174 fastO
def afG175 (o:Ops):AF:=⟨(dSeq (dOps (dV s1 (oBox 109 (.t s0))
(dV s2 (oNew [(.int .i64 (.ofNat 0)),.nils] 50)
(vC s3 .nili
dE))))
(dSeq (dOps (dV s7 (o.ldN 5 (.t s1))
(dC (some s8) p179 [(.t s7),(.c (.int .i64 (.ofNat 2))),(.c (.int .i64 (.ofNat 16)))]
(vM s6 s8
(dV s9 (o.ext (.t s6) 0)
(dV s10 (o.ext (.t s6) 1)
(dV s4 (oNew [.nilp] 290)
(dU (o.st1 (.t s4) (.t s9))
(vM s5 s10
dE)))))))))
(dSeq (dSeq (dOps (vM s11 s5
(dV s12 (oEq .i true (.t s11) (.c .nili))
dE)))
(o.cond (.t s12) (dSeq (dOps (dV s13 (oBuild [(.int .i64 (.ofNat 0)),.nils] [])
(vM s14 s5
(dU (oSt 2 (.t s2) (.t s13))
(vM s3 s14
dE)))))
dRet) dSkip))
(dSeq (dOps (dV s15 (o.ldN 1 (.t s4))
(dC (some s16) p198 [(.t s15)]
(dV s17 (o.fld1 4 (.t s16))
(dV s18 (o.ia 2 (.t s17) (.c (.int .i64 (.ofNat 0))))
(dV s19 (o.ldN 2 (.t s18))
(dU (oSt 2 (.t s2) (.t s19))
(vC s3 .nili
dE))))))))
dRet)))),[(.cN s2 2),(.t s3)]⟩
def af175:AF:=afG175 fastO
def afG176 (o:Ops):AF:=⟨(dSeq (dOps (dV s1 (oBox 109 (.t s0))
(dV s2 (oNew [.nilp,.nilp,(.int .i64 (.ofNat 0)),.nilp,.nilp] 109)
dE)))
(dSeq (dDraw (lN s3 (o.fa 0 (.t s1))
(lN s4 (o.ld1 (.t s3))
(lN s5 (o.fa 1 (.t s1))
(lN s6 (o.ldN 3 (.t s5))
(lN s7 (o.ldN 5 (.t s1))
(lN s11 (o.fa 4 (.t s1))
(lN s12 (o.ldN 1 (.t s11))
(lN s13 (o.fa 1 (.t s1))
(lN s14 (o.fa 0 (.t s13))
(lN s15 (o.ldN 2 (.t s14))
(lE [] [(s4,(o.ld1 (.t s3))),(s6,(o.ldN 3 (.t s5))),(s12,(o.ldN 1 (.t s11))),(s15,(o.ldN 2 (.t s14)))] (some s8) (actC p174 [(.t s7),(.c (.int .i64 (.ofNat 0)))])
(lN s9 (o.fld 1 4 (.t s8))
(lE [] [(s4,(o.ld1 (.t s3))),(s12,(o.ldN 1 (.t s11))),(s15,(o.ldN 2 (.t s14)))] (some s10) (actC p208 [(.t s6),(.t s9)])
(lE [] [(s4,(o.ld1 (.t s3))),(s12,(o.ldN 1 (.t s11)))] (some s16) (actC p48 [(.t s15)])
(lE [] [(s4,(o.ld1 (.t s3)))] (some s17) (actC p207 [(.t s12),(.c (.int .i64 (.ofNat 1))),(.t s16)])
(lN s18 (oBuild [.nilp,.nilp,(.int .i64 (.ofNat 0)),.nilp,.nilp] [(0,1,(.t s4)),(1,3,(.t s10)),(4,1,(.t s17))])
(lE [] [] none (actV (oSt 5 (.t s2) (.t s18)))
sEnd))))))))))))))))))
dRet)),[(.cN s2 5)]⟩
def af176:AF:=afG176 fastO
def afG177 (o:Ops):AF:=⟨(dSeq (dOps (dV s2 (oBox 50 (.t s0))
(dV s3 (oBox 50 (.t s1))
(dV s4 (oNew [(.int .i64 (.ofNat 0)),.nils] 50)
(vC s5 (.int .i64 (.ofNat 0))
dE)))))
(dSeq (dSeq (dOps (dV s6 (o.ldN 2 (.t s2))
(dC (some s7) p195 [(.t s6)]
(dV s8 (o.not (.t s7))
(vM s9 s8
(o.g s9 false (some s10) (dV s10 (o.ldN 2 (.t s3)))
(o.g s9 false (some s11) (dC (some s11) p195 [(.t s10)])
(o.g s9 false (some s12) (dV s12 (o.not (.t s11)))
(dV s13 (o.pick (.t s9) (.c (.bool true)) (.t s12))
dE)))))))))
(o.cond (.t s13) (dSeq (dOps (dV s14 (oBuild [(.int .i64 (.ofNat 0)),.nils] [])
(dU (oSt 2 (.t s4) (.t s14))
(vC s5 (.int .i64 (.ofNat 13))
dE))))
dRet) dSkip))
(dSeq (dDraw (lN s15 (o.fa 0 (.t s2))
(lN s16 (o.ld1 (.t s15))
(lN s17 (o.fa 0 (.t s3))
(lN s18 (o.ld1 (.t s17))
(lN s19 (oMm true [(.t s16),(.t s18)])
(lN s20 (o.fa 1 (.t s2))
(lN s21 (o.ld1 (.t s20))
(lN s22 (o.fa 1 (.t s3))
(lN s23 (o.ld1 (.t s22))
(lA 9 s24 (floatK (.buildS 48 2 [.nils,.nils] [(0,1,(.t s21)),(1,1,(.t s23))]))
(lE [9] [(s16,(o.ld1 (.t s15))),(s18,(o.ld1 (.t s17)))] (some s25) (actC p209 [(.t s24)])
(lE [9] [] (some s26) (actC p196 [(.t s19),(.t s25)])
(lN s27 (o.ext (.t s26) 0)
(lN s28 (o.ext (.t s26) 1)
(lE [9] [] none (actV (oSt 2 (.t s4) (.t s27)))
(lM s5 s28
sEnd)))))))))))))))))
dRet))),[(.cN s4 2),(.t s5)]⟩
def af177:AF:=afG177 fastO
def afG178 (o:Ops):AF:=⟨(dSeq (dOps (dV s4 (oBox 70 (.t s0))
(dV s6 (oBox 104 (.t s2))
(dV s7 (oBox 104 (.t s3))
(dV s8 (oNew [.nilp] 104)
dE)))))
(dSeq (dOps (dV s11 (oBuild [(.int .i64 (.ofNat 0)),(.int .i64 (.ofNat 0)),(.bool false),(.str []),.nils,.nils] [(0,1,(.c (.int .i64 (.ofNat 1)))),(1,1,(.c (.int .i64 (.ofNat 1))))])
(dV s9 (oNew [(.int .i64 (.ofNat 0)),(.int .i64 (.ofNat 0)),(.bool false),(.str []),.nils,.nils] 30)
(dU (oSt 6 (.t s9) (.t s11))
dE))))
(dSeq (dOps (vM s12 s1
(dV s13 (o.ldN 6 (.t s9))
(dV s14 (o.ldN 6 (.t s9))
(dV s15 (oBuildS 30 2 [(.int .i64 (.ofNat 0)),(.int .i64 (.ofNat 0)),(.bool false),(.str []),.nils,.nils,(.int .i64 (.ofNat 0)),(.int .i64 (.ofNat 0)),(.bool false),(.str []),.nils,.nils] [(0,6,(.t s13)),(6,6,(.t s14))])
(dV s16 (oBuild [(.int .i64 (.ofNat 0)),(.int .i64 (.ofNat 0)),(.bool false),(.str []),.nils,.nils] [(0,1,(.c (.int .i64 (.ofNat 3)))),(2,1,(.t s12)),(5,1,(.t s15))])
(dV s10 (oNew [(.int .i64 (.ofNat 0)),(.int .i64 (.ofNat 0)),(.bool false),(.str []),.nils,.nils] 30)
(dU (oSt 6 (.t s10) (.t s16))
dE))))))))
(dSeq (dSeq (dDraw (lN s17 (o.fa 0 (.t s7))
(lN s18 (o.ld1 (.t s17))
(lN s19 (o.nchk (.t s18))
(lN s20 (o.fa 3 (.t s19))
(lN s21 (o.fa 3 (.t s20))
(lN s22 (o.ld1 (.t s21))
(lN s23 (o.fa 0 (.t s4))
(lN s24 (o.fa 1 (.t s23))
(lN s25 (o.ld1 (.t s24))
(lN s26 (o.leq (.t s22) (.t s25))
sEnd)))))))))))
(o.cond (.t s26) (dSeq (dDraw (lN s27 (oBuild [.nilp,(.int .i64 (.ofNat 0))] [])
(lN s28 (o.fa 0 (.t s6))
(lN s29 (o.ld1 (.t s28))
(lN s31 (o.fa 0 (.t s7))
(lN s32 (o.ld1 (.t s31))
(lN s34 (o.ldN 6 (.t s10))
(lE [] [(s32,(o.ld1 (.t s31))),(s34,(o.ldN 6 (.t s10)))] (some s30) (actC p145 [(.t s27),(.t s29)])
(lE [] [(s34,(o.ldN 6 (.t s10)))] (some s33) (actC p145 [(.t s30),(.t s32)])
(lE [] [] (some s35) (actC p105 [(.t s34)])
(lN s36 (oBuild [.nilp,(.int .i64 (.ofNat 0)),.nilp] [(0,2,(.t s33)),(2,1,(.t s35))])
(lE [] [] (some s37) (actC p147 [(.t s36)])
(lN s38 (oBuild [.nilp] [(0,1,(.t s37))])
(lE [] [] none (actV (o.st1 (.t s8) (.t s38)))
sEnd))))))))))))))
dRet) dSkip))
(dSeq (dDraw (lN s39 (o.ldN 1 (.t s6))
(lN s40 (o.fa 0 (.t s4))
(lN s41 (o.fa 1 (.t s40))
(lN s42 (o.ld1 (.t s41))
(lN s44 (o.ldN 1 (.t s7))
(lN s45 (o.fa 0 (.t s4))
(lN s46 (o.fa 1 (.t s45))
(lN s47 (o.ld1 (.t s46))
(lN s48 (o.add (.t s47) (.c (.int .i64 (.ofNat 1))))
(lE [] [(s44,(o.ldN 1 (.t s7))),(s47,(o.ld1 (.t s46)))] (some s43) (actC p47 [(.t s39),(.t s42)])
(lE [] [] (some s49) (actC p47 [(.t s44),(.t s48)])
(lA 11 s50 (floatK (.buildS 30 2 [(.int .i64 (.ofNat 0)),(.int .i64 (.ofNat 0)),(.bool false),(.str []),.nils,.nils,(.int .i64 (.ofNat 0)),(.int .i64 (.ofNat 0)),(.bool false),(.str []),.nils,.nils] [(0,6,(.t s43)),(6,6,(.t s49))]))
(lN s51 (o.fa 5 (.t s10))
(lE [11] [] none (actV (o.st1 (.t s51) (.t s50)))
sEnd)))))))))))))))
(dSeq (dOps (dV s52 (o.ldN 2 (.t s4))
(dV s53 (o.ldN 6 (.t s10))
(dC (some s54) p77 [(.t s52),(.t s53)]
(dU (o.st1 (.t s8) (.t s54))
dE)))))
dRet)))))),[(.cN s8 1)]⟩
def af178:AF:=afG178 fastO
def afG179 (o:Ops):AF:=⟨(dSeq (dOps (dV s3 (oBox 109 (.t s0))
(dV s6 (oNew [.nilp] 290)
(vC s7 .nili
dE))))
(dSeq (dOps (dV s13 (o.ldN 5 (.t s3))
(dC (some s14) p45 [(.t s13)]
(vM s12 s14
(dV s15 (o.ext (.t s12) 0)
(dV s16 (o.ext (.t s12) 1)
(dV s8 (oNew [.nilp] 104)
(dU (o.st1 (.t s8) (.t s15))
(vM s9 s16
dE)))))))))
(dSeq (dSeq (dOps (vM s17 s9
(dV s18 (oEq .i true (.t s17) (.c .nili))
dE)))
(o.cond (.t s18) (dSeq (dOps (dV s19 (oBuild [.nilp] [])
(vM s20 s9
(dU (o.st1 (.t s6) (.t s19))
(vM s7 s20
dE)))))
dRet) dSkip))
(dSeq (dOps (dV s22 (oMkf 211 [] [(.t s3),(.t s8)])
(dC (some s23) p210 [(.t s22)]
(vM s21 s23
(dV s24 (o.ext (.t s21) 0)
(dV s25 (o.ext (.t s21) 1)
(dV s10 (oNew [.nilp] 290)
(dU (o.st1 (.t s10) (.t s24))
(vM s11 s25
dE)))))))))
(dSeq (dSeq (dOps (vM s26 s11
(dV s27 (o.eql (.t s26) (.c (.int .i64 (.ofNat 0))))
(vM s28 s27
(o.g s28 true (some s29) (dV s29 (o.ldN 1 (.t s10)))
(o.g s28 true (some s30) (dC (some s30) p213 [(.t s29)])
(o.g s28 true (some s31) (vM s31 s1)
(o.g s28 true (some s32) (dV s32 (o.neq (.t s30) (.t s31)))
(dV s33 (o.pick (.t s28) (.t s32) (.c (.bool false)))
dE)))))))))
(o.cond (.t s33) (dOps (vM s34 s2
(vM s11 s34
dE))) dSkip))
(dSeq (dDraw (lN s35 (o.ldN 1 (.t s10))
(lM s36 s11
(lE [] [(s35,(o.ldN 1 (.t s10)))] (some s37) (actC p110 [(.t s36)])
(lE [] [] none (actV (o.st1 (.t s6) (.t s35)))
(lM s7 s37
sEnd))))))
dRet)))))),[(.cN s6 1),(.t s7)]⟩
def af179:AF:=afG179 fastO
theorem ok3:FunSem Tryz.prog 3 af3:=okF (g:=afG3) (.of mixed (by kernel_rfl))
theorem ok4:FunSem Tryz.prog 4 af4:=okF (g:=afG4) (.of mixed (by kernel_rfl))
theorem ok5:FunSem Tryz.prog 5 af5:=okF (g:=afG5) (.of mixed (by kernel_rfl))
theorem ok6:FunSem Tryz.prog 6 af6:=okF (g:=afG6) (.of mixed (by kernel_rfl))
theorem ok7:FunSem Tryz.prog 7 af7:=okF (g:=afG7) (.of mixed (by kernel_rfl))
theorem ok8:FunSem Tryz.prog 8 af8:=okF (g:=afG8) (.of mixed (by kernel_rfl))
theorem ok9:FunSem Tryz.prog 9 af9:=okF (g:=afG9) (.of mixed (by kernel_rfl))
theorem ok10:FunSem Tryz.prog 10 af10:=okF (g:=afG10) (.of mixed (by kernel_rfl))
theorem ok11:FunSem Tryz.prog 11 af11:=okF (g:=afG11) (.of mixed (by kernel_rfl))
theorem ok12:FunSem Tryz.prog 12 af12:=okF (g:=afG12) (.of mixed (by kernel_rfl))
theorem ok13:FunSem Tryz.prog 13 af13:=okF (g:=afG13) (.of mixed (by kernel_rfl))
theorem ok14:FunSem Tryz.prog 14 af14:=okF (g:=afG14) (.of mixed (by kernel_rfl))
theorem ok15:FunSem Tryz.prog 15 af15:=okF (g:=afG15) (.of mixed (by kernel_rfl))
theorem ok16:FunSem Tryz.prog 16 af16:=okF (g:=afG16) (.of mixed (by kernel_rfl))
theorem ok17:FunSem Tryz.prog 17 af17:=okF (g:=afG17) (.of mixed (by kernel_rfl))
theorem ok18:FunSem Tryz.prog 18 af18:=okF (g:=afG18) (.of mixed (by kernel_rfl))
theorem ok19:FunSem Tryz.prog 19 af19:=okF (g:=afG19) (.of mixed (by kernel_rfl))
theorem ok20:FunSem Tryz.prog 20 af20:=okF (g:=afG20) (.of mixed (by kernel_rfl))
theorem ok21:FunSem Tryz.prog 21 af21:=okF (g:=afG21) (.of mixed (by kernel_rfl))
theorem ok22:FunSem Tryz.prog 22 af22:=okF (g:=afG22) (.of mixed (by kernel_rfl))
theorem ok23:FunSem Tryz.prog 23 af23:=okF (g:=afG23) (.of mixed (by kernel_rfl))
theorem ok24:FunSem Tryz.prog 24 af24:=okF (g:=afG24) (.of mixed (by kernel_rfl))
theorem ok25:FunSem Tryz.prog 25 af25:=okF (g:=afG25) (.of mixed (by kernel_rfl))
theorem ok26:FunSem Tryz.prog 26 af26:=okF (g:=afG26) (.of mixed (by kernel_rfl))
theorem ok27:FunSem Tryz.prog 27 af27:=okF (g:=afG27) (.of mixed (by kernel_rfl))
theorem ok28:FunSem Tryz.prog 28 af28:=okF (g:=afG28) (.of mixed (by kernel_rfl))
theorem ok29:FunSem Tryz.prog 29 af29:=okF (g:=afG29) (.of mixed (by kernel_rfl))
theorem ok30:FunSem Tryz.prog 30 af30:=okF (g:=afG30) (.of mixed (by kernel_rfl))
theorem ok31:FunSem Tryz.prog 31 af31:=okF (g:=afG31) (.of mixed (by kernel_rfl))
theorem ok32:FunSem Tryz.prog 32 af32:=okF (g:=afG32) (.of mixed (by kernel_rfl))
theorem ok33:FunSem Tryz.prog 33 af33:=okF (g:=afG33) (.of mixed (by kernel_rfl))
theorem ok34:FunSem Tryz.prog 34 af34:=okF (g:=afG34) (.of mixed (by kernel_rfl))
theorem ok35:FunSem Tryz.prog 35 af35:=okF (g:=afG35) (.of mixed (by kernel_rfl))
theorem ok36:FunSem Tryz.prog 36 af36:=okF (g:=afG36) (.of mixed (by kernel_rfl))
theorem ok37:FunSem Tryz.prog 37 af37:=okF (g:=afG37) (.of mixed (by kernel_rfl))
theorem ok39:FunSem Tryz.prog 39 af39:=okF (g:=afG39) (.of mixed (by kernel_rfl))
theorem ok40:FunSem Tryz.prog 40 af40:=okF (g:=afG40) (.of mixed (by kernel_rfl))
theorem ok41:FunSem Tryz.prog 41 af41:=okF (g:=afG41) (.of mixed (by kernel_rfl))
theorem ok42:FunSem Tryz.prog 42 af42:=okF (g:=afG42) (.of mixed (by kernel_rfl))
theorem ok43:FunSem Tryz.prog 43 af43:=okF (g:=afG43) (.of mixed (by kernel_rfl))
theorem ok44:FunSem Tryz.prog 44 af44:=okF (g:=afG44) (.of mixed (by kernel_rfl))
theorem ok45:FunSem Tryz.prog 45 af45:=okF (g:=afG45) (.of mixed (by kernel_rfl))
theorem ok46:FunSem Tryz.prog 46 af46:=okF (g:=afG46) (.of mixed (by kernel_rfl))
theorem ok47:FunSem Tryz.prog 47 af47:=okF (g:=afG47) (.of mixed (by kernel_rfl))
theorem ok48:FunSem Tryz.prog 48 af48:=okF (g:=afG48) (.of mixed (by kernel_rfl))
theorem ok49:FunSem Tryz.prog 49 af49:=okF (g:=afG49) (.of mixed (by kernel_rfl))
theorem ok50:FunSem Tryz.prog 50 af50:=okF (g:=afG50) (.of mixed (by kernel_rfl))
theorem ok51:FunSem Tryz.prog 51 af51:=okF (g:=afG51) (.of mixed (by kernel_rfl))
theorem ok52:FunSem Tryz.prog 52 af52:=okF (g:=afG52) (.of mixed (by kernel_rfl))
theorem ok53:FunSem Tryz.prog 53 af53:=okF (g:=afG53) (.of mixed (by kernel_rfl))
theorem ok54:FunSem Tryz.prog 54 af54:=okF (g:=afG54) (.of mixed (by kernel_rfl))
theorem ok55:FunSem Tryz.prog 55 af55:=okF (g:=afG55) (.of mixed (by kernel_rfl))
theorem ok56:FunSem Tryz.prog 56 af56:=okF (g:=afG56) (.of mixed (by kernel_rfl))
theorem ok57:FunSem Tryz.prog 57 af57:=okF (g:=afG57) (.of mixed (by kernel_rfl))
theorem ok58:FunSem Tryz.prog 58 af58:=okF (g:=afG58) (.of mixed (by kernel_rfl))
theorem ok59:FunSem Tryz.prog 59 af59:=okF (g:=afG59) (.of mixed (by kernel_rfl))
theorem ok60:FunSem Tryz.prog 60 af60:=okF (g:=afG60) (.of mixed (by kernel_rfl))
theorem ok61:FunSem Tryz.prog 61 af61:=okF (g:=afG61) (.of mixed (by kernel_rfl))
theorem ok62:FunSem Tryz.prog 62 af62:=okF (g:=afG62) (.of mixed (by kernel_rfl))
theorem ok64:FunSem Tryz.prog 64 af64:=okF (g:=afG64) (.of mixed (by kernel_rfl))
theorem ok65:FunSem Tryz.prog 65 af65:=okF (g:=afG65) (.of mixed (by kernel_rfl))
theorem ok66:FunSem Tryz.prog 66 af66:=okF (g:=afG66) (.of mixed (by kernel_rfl))
theorem ok67:FunSem Tryz.prog 67 af67:=okF (g:=afG67) (.of mixed (by kernel_rfl))
theorem ok68:FunSem Tryz.prog 68 af68:=okF (g:=afG68) (.of mixed (by kernel_rfl))
theorem ok69:FunSem Tryz.prog 69 af69:=okF (g:=afG69) (.of mixed (by kernel_rfl))
theorem ok70:FunSem Tryz.prog 70 af70:=okF (g:=afG70) (.of mixed (by kernel_rfl))
theorem ok71:FunSem Tryz.prog 71 af71:=okF (g:=afG71) (.of mixed (by kernel_rfl))
theorem ok72:FunSem Tryz.prog 72 af72:=okF (g:=afG72) (.of mixed (by kernel_rfl))
theorem ok73:FunSem Tryz.prog 73 af73:=okF (g:=afG73) (.of mixed (by kernel_rfl))
theorem ok74:FunSem Tryz.prog 74 af74:=okF (g:=afG74) (.of mixed (by kernel_rfl))
theorem ok75:FunSem Tryz.prog 75 af75:=okF (g:=afG75) (.of mixed (by kernel_rfl))
theorem ok76:FunSem Tryz.prog 76 af76:=okF (g:=afG76) (.of mixed (by kernel_rfl))
theorem ok77:FunSem Tryz.prog 77 af77:=okF (g:=afG77) (.of mixed (by kernel_rfl))
theorem ok78:FunSem Tryz.prog 78 af78:=okF (g:=afG78) (.of mixed (by kernel_rfl))
theorem ok79:FunSem Tryz.prog 79 af79:=okF (g:=afG79) (.of mixed (by kernel_rfl))
theorem ok81:FunSem Tryz.prog 81 af81:=okF (g:=afG81) (.of mixed (by kernel_rfl))
theorem ok82:FunSem Tryz.prog 82 af82:=okF (g:=afG82) (.of mixed (by kernel_rfl))
theorem ok83:FunSem Tryz.prog 83 af83:=okF (g:=afG83) (.of mixed (by kernel_rfl))
theorem ok84:FunSem Tryz.prog 84 af84:=okF (g:=afG84) (.of mixed (by kernel_rfl))
theorem ok85:FunSem Tryz.prog 85 af85:=okF (g:=afG85) (.of mixed (by kernel_rfl))
theorem ok86:FunSem Tryz.prog 86 af86:=okF (g:=afG86) (.of mixed (by kernel_rfl))
theorem ok87:FunSem Tryz.prog 87 af87:=okF (g:=afG87) (.of mixed (by kernel_rfl))
theorem ok88:FunSem Tryz.prog 88 af88:=okF (g:=afG88) (.of mixed (by kernel_rfl))
theorem ok89:FunSem Tryz.prog 89 af89:=okF (g:=afG89) (.of mixed (by kernel_rfl))
theorem ok90:FunSem Tryz.prog 90 af90:=okF (g:=afG90) (.of mixed (by kernel_rfl))
theorem ok91:FunSem Tryz.prog 91 af91:=okF (g:=afG91) (.of mixed (by kernel_rfl))
theorem ok92:FunSem Tryz.prog 92 af92:=okF (g:=afG92) (.of mixed (by kernel_rfl))
theorem ok93:FunSem Tryz.prog 93 af93:=okF (g:=afG93) (.of mixed (by kernel_rfl))
theorem ok94:FunSem Tryz.prog 94 af94:=okF (g:=afG94) (.of mixed (by kernel_rfl))
theorem ok95:FunSem Tryz.prog 95 af95:=okF (g:=afG95) (.of mixed (by kernel_rfl))
theorem ok96:FunSem Tryz.prog 96 af96:=okF (g:=afG96) (.of mixed (by kernel_rfl))
theorem ok97:FunSem Tryz.prog 97 af97:=okF (g:=afG97) (.of mixed (by kernel_rfl))
theorem ok98:FunSem Tryz.prog 98 af98:=okF (g:=afG98) (.of mixed (by kernel_rfl))
theorem ok99:FunSem Tryz.prog 99 af99:=okF (g:=afG99) (.of mixed (by kernel_rfl))
theorem ok100:FunSem Tryz.prog 100 af100:=okF (g:=afG100) (.of mixed (by kernel_rfl))
theorem ok101:FunSem Tryz.prog 101 af101:=okF (g:=afG101) (.of mixed (by kernel_rfl))
theorem ok102:FunSem Tryz.prog 102 af102:=okF (g:=afG102) (.of mixed (by kernel_rfl))
theorem ok103:FunSem Tryz.prog 103 af103:=okF (g:=afG103) (.of mixed (by kernel_rfl))
theorem ok104:FunSem Tryz.prog 104 af104:=okF (g:=afG104) (.of mixed (by kernel_rfl))
theorem ok105:FunSem Tryz.prog 105 af105:=okF (g:=afG105) (.of mixed (by kernel_rfl))
theorem ok106:FunSem Tryz.prog 106 af106:=okF (g:=afG106) (.of mixed (by kernel_rfl))
theorem ok108:FunSem Tryz.prog 108 af108:=okF (g:=afG108) (.of mixed (by kernel_rfl))
theorem ok109:FunSem Tryz.prog 109 af109:=okF (g:=afG109) (.of mixed (by kernel_rfl))
theorem ok110:FunSem Tryz.prog 110 af110:=okF (g:=afG110) (.of mixed (by kernel_rfl))
theorem ok115:FunSem Tryz.prog 115 af115:=okF (g:=afG115) (.of mixed (by kernel_rfl))
theorem ok116:FunSem Tryz.prog 116 af116:=okF (g:=afG116) (.of mixed (by kernel_rfl))
theorem ok117:FunSem Tryz.prog 117 af117:=okF (g:=afG117) (.of mixed (by kernel_rfl))
theorem ok118:FunSem Tryz.prog 118 af118:=okF (g:=afG118) (.of mixed (by kernel_rfl))
theorem ok119:FunSem Tryz.prog 119 af119:=okF (g:=afG119) (.of mixed (by kernel_rfl))
theorem ok120:FunSem Tryz.prog 120 af120:=okF (g:=afG120) (.of mixed (by kernel_rfl))
theorem ok121:FunSem Tryz.prog 121 af121:=okF (g:=afG121) (.of mixed (by kernel_rfl))
theorem ok122:FunSem Tryz.prog 122 af122:=okF (g:=afG122) (.of mixed (by kernel_rfl))
theorem ok123:FunSem Tryz.prog 123 af123:=okF (g:=afG123) (.of mixed (by kernel_rfl))
theorem ok124:FunSem Tryz.prog 124 af124:=okF (g:=afG124) (.of mixed (by kernel_rfl))
theorem ok125:FunSem Tryz.prog 125 af125:=okF (g:=afG125) (.of mixed (by kernel_rfl))
theorem ok126:FunSem Tryz.prog 126 af126:=okF (g:=afG126) (.of mixed (by kernel_rfl))
theorem ok127:FunSem Tryz.prog 127 af127:=okF (g:=afG127) (.of mixed (by kernel_rfl))
theorem ok128:FunSem Tryz.prog 128 af128:=okF (g:=afG128) (.of mixed (by kernel_rfl))
theorem ok129:FunSem Tryz.prog 129 af129:=okF (g:=afG129) (.of mixed (by kernel_rfl))
theorem ok130:FunSem Tryz.prog 130 af130:=okF (g:=afG130) (.of mixed (by kernel_rfl))
theorem ok131:FunSem Tryz.prog 131 af131:=okF (g:=afG131) (.of mixed (by kernel_rfl))
theorem ok132:FunSem Tryz.prog 132 af132:=okF (g:=afG132) (.of mixed (by kernel_rfl))
theorem ok133:FunSem Tryz.prog 133 af133:=okF (g:=afG133) (.of mixed (by kernel_rfl))
theorem ok134:FunSem Tryz.prog 134 af134:=okF (g:=afG134) (.of mixed (by kernel_rfl))
theorem ok135:FunSem Tryz.prog 135 af135:=okF (g:=afG135) (.of mixed (by kernel_rfl))
theorem ok136:FunSem Tryz.prog 136 af136:=okF (g:=afG136) (.of mixed (by kernel_rfl))
theorem ok137:FunSem Tryz.prog 137 af137:=okF (g:=afG137) (.of mixed (by kernel_rfl))
theorem ok138:FunSem Tryz.prog 138 af138:=okF (g:=afG138) (.of mixed (by kernel_rfl))
theorem ok139:FunSem Tryz.prog 139 af139:=okF (g:=afG139) (.of mixed (by kernel_rfl))
theorem ok140:FunSem Tryz.prog 140 af140:=okF (g:=afG140) (.of mixed (by kernel_rfl))
theorem ok141:FunSem Tryz.prog 141 af141:=okF (g:=afG141) (.of mixed (by kernel_rfl))
theorem ok142:FunSem Tryz.prog 142 af142:=okF (g:=afG142) (.of mixed (by kernel_rfl))
theorem ok143:FunSem Tryz.prog 143 af143:=okF (g:=afG143) (.of mixed (by kernel_rfl))
theorem ok144:FunSem Tryz.prog 144 af144:=okF (g:=afG144) (.of mixed (by kernel_rfl))
theorem ok145:FunSem Tryz.prog 145 af145:=okF (g:=afG145) (.of mixed (by kernel_rfl))
theorem ok146:FunSem Tryz.prog 146 af146:=okF (g:=afG146) (.of mixed (by kernel_rfl))
theorem ok147:FunSem Tryz.prog 147 af147:=okF (g:=afG147) (.of mixed (by kernel_rfl))
theorem ok150:FunSem Tryz.prog 150 af150:=okF (g:=afG150) (.of mixed (by kernel_rfl))
theorem ok154:FunSem Tryz.prog 154 af154:=okF (g:=afG154) (.of mixed (by kernel_rfl))
theorem ok155:FunSem Tryz.prog 155 af155:=okF (g:=afG155) (.of mixed (by kernel_rfl))
theorem ok156:FunSem Tryz.prog 156 af156:=okF (g:=afG156) (.of mixed (by kernel_rfl))
theorem ok157:FunSem Tryz.prog 157 af157:=okF (g:=afG157) (.of mixed (by kernel_rfl))
theorem ok158:FunSem Tryz.prog 158 af158:=okF (g:=afG158) (.of mixed (by kernel_rfl))
theorem ok159:FunSem Tryz.prog 159 af159:=okF (g:=afG159) (.of mixed (by kernel_rfl))
theorem ok160:FunSem Tryz.prog 160 af160:=okF (g:=afG160) (.of mixed (by kernel_rfl))
theorem ok161:FunSem Tryz.prog 161 af161:=okF (g:=afG161) (.of mixed (by kernel_rfl))
theorem ok162:FunSem Tryz.prog 162 af162:=okF (g:=afG162) (.of mixed (by kernel_rfl))
theorem ok163:FunSem Tryz.prog 163 af163:=okF (g:=afG163) (.of mixed (by kernel_rfl))
theorem ok164:FunSem Tryz.prog 164 af164:=okF (g:=afG164) (.of mixed (by kernel_rfl))
theorem ok165:FunSem Tryz.prog 165 af165:=okF (g:=afG165) (.of mixed (by kernel_rfl))
theorem ok166:FunSem Tryz.prog 166 af166:=okF (g:=afG166) (.of mixed (by kernel_rfl))
theorem ok167:FunSem Tryz.prog 167 af167:=okF (g:=afG167) (.of mixed (by kernel_rfl))
theorem ok168:FunSem Tryz.prog 168 af168:=okF (g:=afG168) (.of mixed (by kernel_rfl))
theorem ok169:FunSem Tryz.prog 169 af169:=okF (g:=afG169) (.of mixed (by kernel_rfl))
theorem ok170:FunSem Tryz.prog 170 af170:=okF (g:=afG170) (.of mixed (by kernel_rfl))
theorem ok171:FunSem Tryz.prog 171 af171:=okF (g:=afG171) (.of mixed (by kernel_rfl))
theorem ok172:FunSem Tryz.prog 172 af172:=okF (g:=afG172) (.of mixed (by kernel_rfl))
theorem ok173:FunSem Tryz.prog 173 af173:=okF (g:=afG173) (.of mixed (by kernel_rfl))
theorem ok174:FunSem Tryz.prog 174 af174:=okF (g:=afG174) (.of mixed (by kernel_rfl))
theorem ok175:FunSem Tryz.prog 175 af175:=okF (g:=afG175) (.of mixed (by kernel_rfl))
theorem ok176:FunSem Tryz.prog 176 af176:=okF (g:=afG176) (.of mixed (by kernel_rfl))
theorem ok177:FunSem Tryz.prog 177 af177:=okF (g:=afG177) (.of mixed (by kernel_rfl))
theorem ok178:FunSem Tryz.prog 178 af178:=okF (g:=afG178) (.of mixed (by kernel_rfl))
theorem ok179:FunSem Tryz.prog 179 af179:=okF (g:=afG179) (.of mixed (by kernel_rfl))
end Go.Proofs.YtcakhpfonailhaaGreatDoor.X
