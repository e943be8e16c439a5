/- The contract of telamonref1.Clean, form by form. -/
import Derived.Test.YtgfgpjcnfnopnaaGreatFD
import Derived.Test.YtgfgpjcnfnopnaaGreatFF
import Derived.Test.YtgfgpjcnfnopnaaGreatFG
namespace Go.Proofs.YtgfgpjcnfnopnaaGreat
open Go.RowKit Go.Sort
theorem Clean_any (t:Tm):∀(v:Value) (w:World),smT 1000000 t→formedB t=true→TV w v t→Calls Tryz.prog 45 #[v] w fun e w'=>∃v',e=.returned v'∧ShapeT v'∧TF w' (fun k=>decide (k<w.heap.size)) v' (cleanT t)∧RowKit.Below w.heap.size w w':=by
 refine Tm.ind (P:=fun t=>∀(v:Value) (w:World),smT 1000000 t→formedB t=true→TV w v t→Calls Tryz.prog 45 #[v] w fun e w'=>∃v',e=.returned v'∧ShapeT v'∧TF w' (fun k=>decide (k<w.heap.size)) v' (cleanT t)∧RowKit.Below w.heap.size w w') ?_ t
 intro f n hd nm ls ks ih v w hsm hfm hv
 have hkl:=(formed_len hfm).1
 by_cases h3:f=3
 ·subst h3;exact Clean3 n hd nm ls ks ih v w hsm hfm hv
 by_cases h4:f=4
 ·subst h4;exact Clean4 n hd nm ls ks ih v w hsm hfm hv
 by_cases h5:f=5
 ·subst h5;exact Clean5 n hd nm ls ks ih v w hsm hfm hv
 by_cases h6:f=6
 ·subst h6;exact Clean6 n hd nm ls ks ih v w hsm hfm hv
 by_cases h7:f=7
 ·subst h7;exact Clean7 n hd nm ls ks ih v w hsm hfm hv
 by_cases h8:f=8
 ·subst h8;exact Clean8 n hd nm ls ks ih v w hsm hfm hv
 by_cases h9:f=9
 ·subst h9;exact Clean9 n hd nm ls ks ih v w hsm hfm hv
 by_cases h1:f=1
 ·subst h1;exact Clean1 n hd nm ls ks ih v w hsm hfm hv
 by_cases h11:f=11
 ·subst h11;exact Clean11 n hd nm ls ks ih v w hsm hfm hv
 by_cases h2:f=2
 ·subst h2;exact Clean2 n hd nm ls ks ih v w hsm hfm hv
 by_cases h10:f=10
 ·subst h10;exact Clean10 n hd nm ls ks ih v w hsm hfm hv
 exfalso
 unfold kidsR at hkl
 rw [if_neg (by omega),if_neg (by omega),if_neg (by omega),if_neg (by omega)] at hkl
 omega
end Go.Proofs.YtgfgpjcnfnopnaaGreat
