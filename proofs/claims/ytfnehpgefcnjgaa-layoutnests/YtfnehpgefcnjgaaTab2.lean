/- The table of functions, the example of chapter 13 told. -/
import Derived.Test.YtfnehpgefcnjgaaXLW
set_option maxRecDepth 100000
namespace Go.Proofs.Ytfnehpgefcnjgaa.X
open Go.RowKit
def funs2 : T AF := (.m (.m (.m (.n (.n (.n .l af31 .l) af15 .l) af7 (.m (.n .l af39 .l) .l)) (.n (.m (.n .l af35 .l) .l) af11 (.n (.n .l af43 .l) af27 .l))) (.n (.m (.n (.n .l af33 .l) af17 .l) (.n (.n .l af41 .l) af25 .l)) af5 (.n (.m (.n .l af37 .l) .l) af13 (.n (.n .l af45 .l) af29 .l)))) (.m (.n (.n (.n (.n .l af32 .l) af16 .l) af8 (.n (.n .l af40 .l) af24 .l)) af4 (.n (.m (.n .l af36 .l) .l) af12 (.n (.n .l af44 .l) af28 .l))) (.n (.m (.n (.n .l af34 .l) af18 .l) (.n (.n .l af42 .l) af26 .l)) liveAF (.n (.m (.n .l af38 .l) .l) af14 (.n .l af30 .l)))))
theorem funs2_ok : FunsOk Try.prog funs2 := TabOk.funs (.m (.m (.m (.n ok7 (.n ok15 (.n ok31 .l .l) .l) (.m (.n ok39 .l .l) .l)) (.n ok11 (.m (.n ok35 .l .l) .l) (.n ok27 (.n ok43 .l .l) .l))) (.n ok5 (.m (.n ok17 (.n ok33 .l .l) .l) (.n ok25 (.n ok41 .l .l) .l)) (.n ok13 (.m (.n ok37 .l .l) .l) (.n ok29 (.n ok45 .l .l) .l)))) (.m (.n ok4 (.n ok8 (.n ok16 (.n ok32 .l .l) .l) (.n ok24 (.n ok40 .l .l) .l)) (.n ok12 (.m (.n ok36 .l .l) .l) (.n ok28 (.n ok44 .l .l) .l))) (.n live13 (.m (.n ok18 (.n ok34 .l .l) .l) (.n ok26 (.n ok42 .l .l) .l)) (.n ok14 (.m (.n ok38 .l .l) .l) (.n ok30 .l .l)))))
end Go.Proofs.Ytfnehpgefcnjgaa.X
