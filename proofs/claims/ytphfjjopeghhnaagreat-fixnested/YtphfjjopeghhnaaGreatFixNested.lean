/- For every argument: FixNested answers true, and leaves its arguments as they were; no condition. -/
import Derived.Test.YtphfjjopeghhnaaGreatRows
import Derived.Test.YtphfjjopeghhnaaGreatRunN0
import Derived.Test.YtphfjjopeghhnaaGreatRunN1
import Derived.Test.YtphfjjopeghhnaaGreatRunN2
import Derived.Test.YtphfjjopeghhnaaGreatRunN3
import Derived.Test.YtphfjjopeghhnaaGreatRunN4
import Derived.Test.YtphfjjopeghhnaaGreatRunN5
import Derived.Test.YtphfjjopeghhnaaGreatRunN6
import Derived.Test.YtphfjjopeghhnaaGreatRunN7
import Derived.WalkKit
import Derived.WalkSpells
import Derived.WalkLawsBesides
import Derived.ChangeShapes
import Derived.Carry
import Derived.ProofKit
import Derived.OpenShut
import Derived.Below
namespace Go.Proofs.YtphfjjopeghhnaaGreat
open Go.ChangeShapes Go.WideShapes Go.ChangeAt Go.RowKit
namespace fixNested
theorem r1:∀ (more:Bool),X.callN X.funs2 100000 .l X.p5 [.int .i64 (.ofNat 1),.bool more] .l .e X.isT=True
 | false=>X.nst1x0
 | true=>X.nst1x1
theorem r2:∀ (more:Bool),X.callN X.funs2 100000 .l X.p5 [.int .i64 (.ofNat 2),.bool more] .l .e X.isT=True
 | false=>X.nst2x0
 | true=>X.nst2x1
theorem r3:∀ (more:Bool),X.callN X.funs2 100000 .l X.p5 [.int .i64 (.ofNat 3),.bool more] .l .e X.isT=True
 | false=>X.nst3x0
 | true=>X.nst3x1
theorem r4:∀ (more:Bool),X.callN X.funs2 100000 .l X.p5 [.int .i64 (.ofNat 4),.bool more] .l .e X.isT=True
 | false=>X.nst4x0
 | true=>X.nst4x1
theorem r5:∀ (more:Bool),X.callN X.funs2 100000 .l X.p5 [.int .i64 (.ofNat 5),.bool more] .l .e X.isT=True
 | false=>X.nst5x0
 | true=>X.nst5x1
theorem r6:∀ (more:Bool),X.callN X.funs2 100000 .l X.p5 [.int .i64 (.ofNat 6),.bool more] .l .e X.isT=True
 | false=>X.nst6x0
 | true=>X.nst6x1
theorem r7:∀ (more:Bool),X.callN X.funs2 100000 .l X.p5 [.int .i64 (.ofNat 7),.bool more] .l .e X.isT=True
 | false=>X.nst7x0
 | true=>X.nst7x1
theorem r8:∀ (more:Bool),X.callN X.funs2 100000 .l X.p5 [.int .i64 (.ofNat 8),.bool more] .l .e X.isT=True
 | false=>X.nst8x0
 | true=>X.nst8x1
theorem r9:∀ (more:Bool),X.callN X.funs2 100000 .l X.p5 [.int .i64 (.ofNat 9),.bool more] .l .e X.isT=True
 | false=>X.nst9x0
 | true=>X.nst9x1
theorem r10:∀ (more:Bool),X.callN X.funs2 100000 .l X.p5 [.int .i64 (.ofNat 10),.bool more] .l .e X.isT=True
 | false=>X.nst10x0
 | true=>X.nst10x1
theorem r11:∀ (more:Bool),X.callN X.funs2 100000 .l X.p5 [.int .i64 (.ofNat 11),.bool more] .l .e X.isT=True
 | false=>X.nst11x0
 | true=>X.nst11x1
theorem r12:∀ (more:Bool),X.callN X.funs2 100000 .l X.p5 [.int .i64 (.ofNat 12),.bool more] .l .e X.isT=True
 | false=>X.nst12x0
 | true=>X.nst12x1
theorem runs:∀ (n:Nat) (more:Bool),(1≤n)→(n≤12)→X.callN X.funs2 100000 .l X.p5 [.int .i64 (.ofNat n),.bool more] .l .e X.isT=True
 | 0,more,h,_=>by omega
 | 1,more,_,_=>r1 more
 | 2,more,_,_=>r2 more
 | 3,more,_,_=>r3 more
 | 4,more,_,_=>r4 more
 | 5,more,_,_=>r5 more
 | 6,more,_,_=>r6 more
 | 7,more,_,_=>r7 more
 | 8,more,_,_=>r8 more
 | 9,more,_,_=>r9 more
 | 10,more,_,_=>r10 more
 | 11,more,_,_=>r11 more
 | 12,more,_,_=>r12 more
 | n+13,more,_,h=>by omega
theorem walk_in (n:Nat) (more:Bool) (ln:1≤n) (un:n≤12) (w:World):Calls Tryz.prog 5 #[.int .i64 (Int.ofNat n),.bool more] w fun e w'=>e=.returned (.bool true)∧RowKit.Below w.heap.size w w' :=
 X.true_of_run (p:=X.p5) X.funs2_ok w #[.int .i64 (Int.ofNat n),.bool more] ⟨fun _=>by simp [X.concL,X.conc],fun _=>by simp [X.okL,X.okV]⟩ (runs n more ln un)
set_option maxRecDepth 100000 in
set_option maxHeartbeats 2000000 in
theorem walk (n:Int) (more:Bool) (w:World):Calls Tryz.prog 5 #[.int .i64 n,.bool more] w fun e w'=>e=.returned (.bool true)∧RowKit.Below w.heap.size w w':=by
 by_cases h:1≤n∧n≤12
 ·have hh:=h
  obtain ⟨mn,rfl⟩:=Int.eq_ofNat_of_zero_le (show 0≤n by omega)
  exact walk_in mn more (by omega) (by omega) w
 ·rcases (show (n<1)∨((1≤n∧12<n)) by omega) with c1 | ⟨c1,c2⟩
  all_goals
   clear h
   go_enter Tryz.func5,Tryz.ntmps5
   go_wp2_with (go_at_call 6; refine (X.alive15_any w trivial).mono ?_; rintro e w1 ⟨rfl,hb1⟩)
   go_ret
   exact ⟨rfl,hb1⟩
theorem own:ownKnob Tryz.prog.godebug=none:=by kernel_rfl
set_option maxRecDepth 100000 in
theorem lifted (os:Os) (started:os.Started) (H:Type) (enc:TypeId × Value→H) :
  ReturnsInHanded {} Tryz.checked os 5 .any (Rows.fixNestedSpec.pre6 enc Tryz.prog Tryz.f5 Rows.fixNestedRow.domain false) (Rows.fixNestedSpec.post enc Tryz.prog Tryz.f5 false true false false):=by
 refine returnsInHanded_of_change (C:=Tryz.checked) own started (by kernel_rfl) Tryz.func5
  (ChangeSpec.witness6 (enc:=enc) (C:=Tryz.checked) false ⟨#[],#[.int .i64 0,.bool false],[]⟩ 8 (by kernel_rfl) (by kernel_rfl) (by kernel_rfl) (by kernel_rfl)) ?_
 intro W base args ds gs before hval0 hW hcnd _
 have hval:∀ (j:Nat) t v,Tryz.f5.params[j]?=some t→args[j]?=some v→Value.okWide Tryz.prog W .any base t v:=hval0
 have hW':=hW
 obtain ⟨p,q,hA0,hV,rfl,hfz,hnd⟩:=hW
 have hA:DataW.TrodAll enc Tryz.prog W 0 (fun _=>true) true Tryz.f5.params.toList args.toList ds p:=hA0
 rw [Tryz.params5] at hA hval
 obtain ⟨v0,v1,d0,d1,p0,p1,rfl,rfl,rfl,h0,h1⟩:=trodAll_two hA
 obtain ⟨rfl,rfl⟩:=trodVars_none hV
 obtain ⟨a0,rfl,rfl,rfl,w0⟩:=open_int Tryz.underlying3 (hval 0 3 v0 rfl rfl) h0
 obtain ⟨a1,rfl,rfl,rfl⟩:=open_bool Tryz.underlying4 (hval 1 4 v1 rfl rfl) h1
 clear hA0 hval0
 simp only [List.append_nil] at hW'
 refine (walk a0 a1 W).mono fun e W' ⟨he,bel⟩=>?_
 subst he
 exact ⟨_,rfl,_,_,_,[],[],[],hW',trodAll_mk1 (shut_bool Tryz.underlying4 _),trodAll_mk2 (shut_int Tryz.underlying3 w0) (shut_bool Tryz.underlying4 _),rfl,bel.frame _,fun h=>by cases h⟩
theorem over:Rows.fixNestedRow.holds Tryz.pinned (OpenSpec.ofChange Rows.fixNestedSpec) :=
 OpenClaim.holds_of_wide 5 Tryz.f5 rfl rfl rfl rfl rfl rfl rfl ⟨rfl,rfl,rfl,rfl,rfl⟩ rfl rfl rfl rfl rfl (by kernel_rfl) Tryz.func5 (by kernel_rfl)
  (of_decide_eq_true (by kernel_rfl)) (by unfold Func.isWrapper; first | (rw [if_pos (by decide +kernel)]; kernel_rfl) | (rw [if_neg (by decide +kernel)]; exact ⟨rfl,rfl⟩))
  (fun os started H enc _=>lifted os started H enc)
end fixNested
theorem fixNested_holds:Rows.FixNestedSaid:=fixNested.over
#print axioms fixNested_holds
end Go.Proofs.YtphfjjopeghhnaaGreat
