/- reduce.Try of each type: what it puts off does nothing where nothing panics. -/
import Derived.Test.YtkcpnbfhoamlfaaGreatDoorXTY
import Derived.Test.YtkcpnbfhoamlfaaGreatDoorProg
import Derived.WalkKit
namespace Go.Proofs.YtkcpnbfhoamlfaaGreatDoor.X
open Go.RowKit

def tryAF121 : AF := ⟨fun ch => den (.seq (.ops [⟨(some (.o .e)), (.v (.new [(.bool false)] 4)), none⟩, ⟨(some (.z (.z .e))), (.v (.new [(.int .i64 (.ofNat 0))] 32)), none⟩]) (.seq (.ops [⟨(some (.o (.z .e))), (.v (.mkf 177 [] [(.t (.o .e)), (.t (.z (.z .e)))])), none⟩]) (.seq (.ops [⟨(some (.z (.o .e))), (.v (.mv (.t .e))), none⟩, ⟨(some (.o (.o .e))), (.callv (.t (.z (.o .e))) []), none⟩, ⟨none, (.v (.st 1 (.t (.o .e)) (.t (.o (.o .e))))), none⟩, ⟨none, (.v (.st 1 (.t (.z (.z .e))) (.c (.int .i64 (.ofNat 0))))), none⟩]) .ret))) ch.calm, [(.c1 (.o .e)), (.c1 (.z (.z .e)))]⟩

theorem try_idle121 (x y : Value) (w : World) : CallsD Tryz.prog 177 #[x, y] .returning w fun e u' w' => (∃ v, e = .returned v) ∧ u' = .returning ∧ w' = w := by
  refine callsD_of_wpS Tryz.func177 rfl fun c₀ cs hu => ?_
  apply wpS_seq
  apply wpS_region
  simp [wpOpsS, go_sem, recoverD, hu, Tryz.ntmps177, Exit.thenS]
  apply wpS_seq
  apply wpS_region
  simp [wpOpsS, go_sem, Exit.thenS]
  refine wpS_cond (t := false) (by simp [Act.eval, Array.replicate]) ?_
  simp only [Bool.false_eq_true, if_false]
  refine wpS_of_wp (wp_skip ?_)
  cases c₀
  simp_all [bodyPostS, results, Tryz.results177]

theorem try_ok121 : FunSem Tryz.prog 121 tryAF121 :=
  try_sem (by kernel_rfl) Tryz.func121 (by kernel_rfl) rfl Tryz.func177 (by kernel_rfl) rfl (by kernel_rfl) (by kernel_rfl) (by kernel_rfl) (by kernel_rfl) rfl rfl rfl (fun args w h => by
    match args, h with
    | ⟨[x, y]⟩, _ => exact try_idle121 x y w)

def tryAF163 : AF := ⟨fun ch => den (.seq (.ops [⟨(some (.o .e)), (.v (.new [.nilp] 204)), none⟩, ⟨(some (.z (.z .e))), (.v (.new [(.int .i64 (.ofNat 0))] 32)), none⟩]) (.seq (.ops [⟨(some (.o (.z .e))), (.v (.mkf 221 [] [(.t (.o .e)), (.t (.z (.z .e)))])), none⟩]) (.seq (.ops [⟨(some (.z (.o .e))), (.v (.mv (.t .e))), none⟩, ⟨(some (.o (.o .e))), (.callv (.t (.z (.o .e))) []), none⟩, ⟨none, (.v (.st 1 (.t (.o .e)) (.t (.o (.o .e))))), none⟩, ⟨none, (.v (.st 1 (.t (.z (.z .e))) (.c (.int .i64 (.ofNat 0))))), none⟩]) .ret))) ch.calm, [(.cN (.o .e) 1), (.c1 (.z (.z .e)))]⟩

theorem try_idle163 (x y : Value) (w : World) : CallsD Tryz.prog 221 #[x, y] .returning w fun e u' w' => (∃ v, e = .returned v) ∧ u' = .returning ∧ w' = w := by
  refine callsD_of_wpS Tryz.func221 rfl fun c₀ cs hu => ?_
  apply wpS_seq
  apply wpS_region
  simp [wpOpsS, go_sem, recoverD, hu, Tryz.ntmps221, Exit.thenS]
  apply wpS_seq
  apply wpS_region
  simp [wpOpsS, go_sem, Exit.thenS]
  refine wpS_cond (t := false) (by simp [Act.eval, Array.replicate]) ?_
  simp only [Bool.false_eq_true, if_false]
  refine wpS_of_wp (wp_skip ?_)
  cases c₀
  simp_all [bodyPostS, results, Tryz.results221]

theorem try_ok163 : FunSem Tryz.prog 163 tryAF163 :=
  try_sem (by kernel_rfl) Tryz.func163 (by kernel_rfl) rfl Tryz.func221 (by kernel_rfl) rfl (by kernel_rfl) (by kernel_rfl) (by kernel_rfl) (by kernel_rfl) rfl rfl rfl (fun args w h => by
    match args, h with
    | ⟨[x, y]⟩, _ => exact try_idle163 x y w)

def tryAF174 : AF := ⟨fun ch => den (.seq (.ops [⟨(some (.o .e)), (.v (.new [(.int .i64 (.ofNat 0))] 3)), none⟩, ⟨(some (.z (.z .e))), (.v (.new [(.int .i64 (.ofNat 0))] 32)), none⟩]) (.seq (.ops [⟨(some (.o (.z .e))), (.v (.mkf 231 [] [(.t (.o .e)), (.t (.z (.z .e)))])), none⟩]) (.seq (.ops [⟨(some (.z (.o .e))), (.v (.mv (.t .e))), none⟩, ⟨(some (.o (.o .e))), (.callv (.t (.z (.o .e))) []), none⟩, ⟨none, (.v (.st 1 (.t (.o .e)) (.t (.o (.o .e))))), none⟩, ⟨none, (.v (.st 1 (.t (.z (.z .e))) (.c (.int .i64 (.ofNat 0))))), none⟩]) .ret))) ch.calm, [(.c1 (.o .e)), (.c1 (.z (.z .e)))]⟩

theorem try_idle174 (x y : Value) (w : World) : CallsD Tryz.prog 231 #[x, y] .returning w fun e u' w' => (∃ v, e = .returned v) ∧ u' = .returning ∧ w' = w := by
  refine callsD_of_wpS Tryz.func231 rfl fun c₀ cs hu => ?_
  apply wpS_seq
  apply wpS_region
  simp [wpOpsS, go_sem, recoverD, hu, Tryz.ntmps231, Exit.thenS]
  apply wpS_seq
  apply wpS_region
  simp [wpOpsS, go_sem, Exit.thenS]
  refine wpS_cond (t := false) (by simp [Act.eval, Array.replicate]) ?_
  simp only [Bool.false_eq_true, if_false]
  refine wpS_of_wp (wp_skip ?_)
  cases c₀
  simp_all [bodyPostS, results, Tryz.results231]

theorem try_ok174 : FunSem Tryz.prog 174 tryAF174 :=
  try_sem (by kernel_rfl) Tryz.func174 (by kernel_rfl) rfl Tryz.func231 (by kernel_rfl) rfl (by kernel_rfl) (by kernel_rfl) (by kernel_rfl) (by kernel_rfl) rfl rfl rfl (fun args w h => by
    match args, h with
    | ⟨[x, y]⟩, _ => exact try_idle174 x y w)

end Go.Proofs.YtkcpnbfhoamlfaaGreatDoor.X
