/- For every argument: FixForms answers true, and leaves its arguments as they were; no condition. -/
import Derived.Test.YtphfjjopeghhnaaGreatRows
import Derived.Test.YtphfjjopeghhnaaGreatRunF0
import Derived.Test.YtphfjjopeghhnaaGreatRunF1
import Derived.Test.YtphfjjopeghhnaaGreatRunF2
import Derived.Test.YtphfjjopeghhnaaGreatRunF3
import Derived.WalkKit
import Derived.WalkSpells
import Derived.WalkLawsBesides
import Derived.ChangeShapes
import Derived.Carry
import Derived.ProofKit
import Derived.OpenShut
import Derived.Below
namespace Go.Proofs.YtphfjjopeghhnaaGreat
open Go.ChangeShapes Go.WideShapes Go.ChangeAt Go.RowKit
namespace fixForms
theorem runs:∀ n:Nat,n≤33→X.callN X.funs2 100000 .l X.p3 [.int .i64 (.ofNat n)] .l .e X.isT=True
 | 0,_=>X.forms0
 | 1,_=>X.forms1
 | 2,_=>X.forms2
 | 3,_=>X.forms3
 | 4,_=>X.forms4
 | 5,_=>X.forms5
 | 6,_=>X.forms6
 | 7,_=>X.forms7
 | 8,_=>X.forms8
 | 9,_=>X.forms9
 | 10,_=>X.forms10
 | 11,_=>X.forms11
 | 12,_=>X.forms12
 | 13,_=>X.forms13
 | 14,_=>X.forms14
 | 15,_=>X.forms15
 | 16,_=>X.forms16
 | 17,_=>X.forms17
 | 18,_=>X.forms18
 | 19,_=>X.forms19
 | 20,_=>X.forms20
 | 21,_=>X.forms21
 | 22,_=>X.forms22
 | 23,_=>X.forms23
 | 24,_=>X.forms24
 | 25,_=>X.forms25
 | 26,_=>X.forms26
 | 27,_=>X.forms27
 | 28,_=>X.forms28
 | 29,_=>X.forms29
 | 30,_=>X.forms30
 | 31,_=>X.forms31
 | 32,_=>X.forms32
 | 33,_=>X.forms33
 | n+34,h=>by omega
set_option maxRecDepth 100000 in
theorem walk (n:Int) (w:World):Calls Tryz.prog 3 #[.int .i64 n] w fun e w'=>e=.returned (.bool true)∧RowKit.Below w.heap.size w w':=by
 cases n with
 | negSucc k=>exact X.true_of_run (p:=X.p3) X.funs2_ok w #[.int .i64 (.negSucc k)] ⟨fun _=>by simp [X.concL,X.conc],fun _=>by simp [X.okL,X.okV]⟩ (X.formsneg k)
 | ofNat m =>
  rcases Nat.lt_or_ge 33 m with h | h
  ·obtain ⟨k,rfl⟩:∃ k,m=k+34:=⟨m - 34,by omega⟩
   exact X.true_of_run (p:=X.p3) X.funs2_ok w #[.int .i64 (.ofNat (k+34))] ⟨fun _=>by simp [X.concL,X.conc],fun _=>by simp [X.okL,X.okV]⟩ (X.formsfar k)
  ·exact X.true_of_run (p:=X.p3) X.funs2_ok w #[.int .i64 (.ofNat m)] ⟨fun _=>by simp [X.concL,X.conc],fun _=>by simp [X.okL,X.okV]⟩ (runs m h)
theorem own:ownKnob Tryz.prog.godebug=none:=by kernel_rfl
set_option maxRecDepth 100000 in
theorem lifted (os:Os) (started:os.Started) (H:Type) (enc:TypeId × Value→H) :
  ReturnsInHanded {} Tryz.checked os 3 .any (Rows.fixFormsSpec.pre6 enc Tryz.prog Tryz.f3 Rows.fixFormsRow.domain false) (Rows.fixFormsSpec.post enc Tryz.prog Tryz.f3 false true false false):=by
 refine returnsInHanded_of_change (C:=Tryz.checked) own started (by kernel_rfl) Tryz.func3
  (ChangeSpec.witness6 (enc:=enc) (C:=Tryz.checked) false ⟨#[],#[.int .i64 0],[]⟩ 8 (by kernel_rfl) (by kernel_rfl) (by kernel_rfl) (by kernel_rfl)) ?_
 intro W base args ds gs before hval0 hW hcnd _
 have hval:∀ (j:Nat) t v,Tryz.f3.params[j]?=some t→args[j]?=some v→Value.okWide Tryz.prog W .any base t v:=hval0
 have hW':=hW
 obtain ⟨p,q,hA0,hV,rfl,hfz,hnd⟩:=hW
 have hA:DataW.TrodAll enc Tryz.prog W 0 (fun _=>true) true Tryz.f3.params.toList args.toList ds p:=hA0
 rw [Tryz.params3] at hA hval
 obtain ⟨v0,d0,rfl,rfl,h0⟩:=trodAll_one hA
 obtain ⟨rfl,rfl⟩:=trodVars_none hV
 obtain ⟨a0,rfl,rfl,rfl,w0⟩:=open_int Tryz.underlying3 (hval 0 3 v0 rfl rfl) h0
 clear hA0 hval0
 simp only [List.append_nil] at hW'
 refine (walk a0 W).mono fun e W' ⟨he,bel⟩=>?_
 subst he
 exact ⟨_,rfl,_,_,_,[],[],[],hW',trodAll_mk1 (shut_bool Tryz.underlying4 _),trodAll_mk1 (shut_int Tryz.underlying3 w0),rfl,bel.frame _,fun h=>by cases h⟩
theorem over:Rows.fixFormsRow.holds Tryz.pinned (OpenSpec.ofChange Rows.fixFormsSpec) :=
 OpenClaim.holds_of_wide 3 Tryz.f3 rfl rfl rfl rfl rfl rfl rfl ⟨rfl,rfl,rfl,rfl,rfl⟩ rfl rfl rfl rfl rfl (by kernel_rfl) Tryz.func3 (by kernel_rfl)
  (of_decide_eq_true (by kernel_rfl)) (by unfold Func.isWrapper; first | (rw [if_pos (by decide +kernel)]; kernel_rfl) | (rw [if_neg (by decide +kernel)]; exact ⟨rfl,rfl⟩))
  (fun os started H enc _=>lifted os started H enc)
end fixForms
theorem fixForms_holds:Rows.FixFormsSaid:=fixForms.over
#print axioms fixForms_holds
end Go.Proofs.YtphfjjopeghhnaaGreat
