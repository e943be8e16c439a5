/- reduce.Try of each type: what it puts off does nothing where nothing panics. -/
import Derived.Test.YtlejihhbliodoaaGreatXTY
import Derived.Test.YtlejihhbliodoaaGreatProg
import Derived.WalkKit
namespace Go.Proofs.YtlejihhbliodoaaGreat.X
open Go.RowKit

def tryAF21 : AF := ⟨den (.seq (.ops [⟨(some (.o .e)), (.v (.new [(.bool false)] 4)), none⟩, ⟨(some (.z (.z .e))), (.v (.new [(.int .i64 (.ofNat 0))] 30)), none⟩]) (.seq (.ops [⟨(some (.o (.z .e))), (.v (.mkf 37 [] [(.t (.o .e)), (.t (.z (.z .e)))])), none⟩]) (.seq (.ops [⟨(some (.z (.o .e))), (.v (.mv (.t .e))), none⟩, ⟨(some (.o (.o .e))), (.callv (.t (.z (.o .e))) []), none⟩, ⟨none, (.v (.st 1 (.t (.o .e)) (.t (.o (.o .e))))), none⟩, ⟨none, (.v (.st 1 (.t (.z (.z .e))) (.c (.int .i64 (.ofNat 0))))), none⟩]) .ret))), [(.c1 (.o .e)), (.c1 (.z (.z .e)))]⟩

theorem try_idle21 (x y : Value) (w : World) : CallsD Tryz.prog 37 #[x, y] .returning w fun e u' w' => (∃ v, e = .returned v) ∧ u' = .returning ∧ w' = w := by
  refine callsD_of_wpS Tryz.func37 rfl fun c₀ cs hu => ?_
  apply wpS_seq
  apply wpS_region
  simp [wpOpsS, go_sem, recoverD, hu, Tryz.ntmps37, Exit.thenS]
  apply wpS_seq
  apply wpS_region
  simp [wpOpsS, go_sem, Exit.thenS]
  refine wpS_cond (t := false) (by simp [Act.eval, Array.replicate]) ?_
  simp only [Bool.false_eq_true, if_false]
  refine wpS_of_wp (wp_skip ?_)
  cases c₀
  simp_all [bodyPostS, results, Tryz.results37]

theorem try_ok21 : FunSem Tryz.prog 21 tryAF21 :=
  try_sem (by kernel_rfl) Tryz.func21 (by kernel_rfl) rfl Tryz.func37 (by kernel_rfl) rfl (by kernel_rfl) (by kernel_rfl) (by kernel_rfl) (by kernel_rfl) rfl rfl rfl (fun args w h => by
    match args, h with
    | ⟨[x, y]⟩, _ => exact try_idle21 x y w)

end Go.Proofs.YtlejihhbliodoaaGreat.X
