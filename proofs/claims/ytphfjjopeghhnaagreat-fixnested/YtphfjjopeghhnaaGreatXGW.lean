/- An executor for closed calls, 14b: what is asked of the world ahead of the call: here nothing. -/
import Derived.Test.YtphfjjopeghhnaaGreatXA
namespace Go.Proofs.YtphfjjopeghhnaaGreat.X
open Go.RowKit
def GW:World→Prop:=fun _=>True
theorem GW.below {w0 w:World} (_:GW w0) (_:Below w0.heap.size w0 w):GW w:=trivial
end Go.Proofs.YtphfjjopeghhnaaGreat.X
