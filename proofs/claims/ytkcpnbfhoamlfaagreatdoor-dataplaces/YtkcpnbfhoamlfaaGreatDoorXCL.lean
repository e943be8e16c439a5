/- An executor for closed calls, 40: maps.Clone told, of the tables' maps. -/
import Derived.Test.YtkcpnbfhoamlfaaGreatDoorXRA
import Derived.Test.YtkcpnbfhoamlfaaGreatDoorProg
import Derived.WalkKit
import Derived.Shelf.SlMaps.Clone
namespace Go.Proofs.YtkcpnbfhoamlfaaGreatDoor.X
open Go.RowKit Go.Sort Go.Lib

set_option maxRecDepth 100000 in
set_option maxHeartbeats 2000000 in
theorem mclone_none (w : World) : Calls Tryz.prog 130 #[.map none] w fun e w' => e = .returned (.map none) ∧ w' = w := by
  have hq := map_nil none
  go_enter Tryz.func130, Tryz.ntmps130
  go_wp2
  go_ret
  exact ⟨rfl, rfl⟩

set_option maxRecDepth 100000 in
set_option maxHeartbeats 2000000 in
theorem mclone_some (b : Nat) (es : Array MapEntry) (ck : Nat) (w : World) (hb : w.heap[b]? = some (.map es ck)) : Calls Tryz.prog 130 #[.map (some b)] w fun e w' => e = .returned (.map (some w.heap.size)) ∧ w' = w.alloc (.map es ck) := by
  have hq := map_nil (some b)
  go_enter Tryz.func130, Tryz.ntmps130
  go_wp2
  rw [run_callFunc_extern Tryz.func187 (by kernel_rfl) (by kernel_rfl) (by kernel_rfl) (e := Extern.MapsClone.clone) (by kernel_rfl), run_maps_clone_sl w 51 hb]
  simp only [Result.andThen]
  rw [Oper.upon_value]
  go_wp2
  rw [run_typeAssert_map_sl _ 51 _ _ _ _ Tryz.underlying51]
  simp only [Result.andThen]
  rw [Oper.upon_value]
  go_wp2
  go_ret
  exact ⟨rfl, rfl⟩

def cloneAF : AF := ⟨fun _ tm h nx K => match tm.find (.z .e) with
  | none => tm.getK .e fun x => match x with
    | .map k => h.getK k fun o => match o with
      | .map es c => h.setK (.map es c) nx fun h => forceP nx.succ fun nx' => tm.setK (.map nx) .e fun tm => K .ret tm h nx'
      | _ => False
    | .nilm => K .ret tm h nx
    | _ => False
  | some _ => False, [.t .e]⟩

theorem clone_sem : FunSem Tryz.prog 130 cloneAF := by
  intro w0 ch hcur hch args h nx K r w R hk hE H ha hR _
  obtain ⟨tm, h1, h2, h3, h4⟩ := argsK_full hk
  refine ⟨⟨_, _, Tryz.func130, by kernel_rfl, rfl⟩, ?_⟩
  have h1 : (match tm.find (.z .e) with
    | none => tm.getK .e fun x => match x with
      | .map k => h.getK k fun o => match o with
        | .map es c => h.setK (.map es c) nx fun h => forceP nx.succ fun nx' => tm.setK (.map nx) .e fun tm => retK cloneAF.res K .ret tm h nx'
        | _ => False
      | .nilm => retK cloneAF.res K .ret tm h nx
      | _ => False
    | some _ => False) := h1
  split at h1
  · rename_i hn
    rw [T.getK_iff] at h1
    obtain ⟨x, hx, h1⟩ := h1
    have hargs : args = [x] := by
      match args, h3, h4 with
      | [], _, h4 => have := h4 .e (by simp [Pt.toNat]); rw [hx, T.find_l] at this; cases this
      | [a], h3, _ =>
        have h5 := h3 .e 0 a rfl rfl
        rw [hx] at h5; cases h5; rfl
      | a :: b :: l, h3, _ => have := h3 (.z .e) 1 b rfl rfl; rw [hn] at this; cases this
    subst hargs
    split at h1
    · rename_i k
      rw [T.getK_iff] at h1
      obtain ⟨o, ho, h1⟩ := h1
      split at h1
      · rename_i es c
        rw [T.setK_iff, forceP_iff, T.setK_iff] at h1
        have h1 : ((tm.set (.map nx) .e).getK .e fun v => K v (h.set (.map es c) nx) nx.succ) := h1
        rw [T.getK_iff, T.find_set] at h1
        obtain ⟨v, hv, h1⟩ := h1
        cases hv
        obtain ⟨g1, g2, g3, es', c', g4, M, Bi⟩ := H.has k _ ho
        have ea : (concL r [AV.map k]).toArray = #[.map (some (r.blk k))] := by simp [concL, conc]
        rw [ea]
        refine (mclone_some (r.blk k) _ _ w g4).mono fun en w' hw' => ?_
        obtain ⟨rfl, rfl⟩ := hw'
        have hle := Rho.le_more H.fresh w.heap.size 0
        have hoo : okO (r.more nx w.heap.size 0).has (.map es c) := g3.mono hle.has
        have hb0 : BR Tryz.prog r k (.map es c) (some (.map (es'.map (concE r)).toArray c')) := ⟨es', c', rfl, M, Bi⟩
        have hb1 : BR Tryz.prog (r.more nx w.heap.size 0) nx (.map es c) (some (.map (es'.map (concE r)).toArray c')) := (hb0.le hle g1 g3 : BR Tryz.prog (r.more nx w.heap.size 0) k (.map es c) _)
        obtain ⟨W, E⟩ := H.alloc (.map es c) 0 _ hoo hb1
        have := hR (.map nx) _ _ _ _ h1 W E (by simp only [okV]; exact .inl rfl)
        simpa [conc, Rho.more_blk] using this
      · exact h1.elim
    · have h1 : (tm.getK .e fun v => K v h nx) := h1
      rw [T.getK_iff] at h1
      obtain ⟨v, hv, h1⟩ := h1
      rw [hx] at hv
      cases hv
      have ea : (concL r [AV.nilm]).toArray = #[.map none] := by simp [concL, conc]
      rw [ea]
      refine (mclone_none w).mono fun en w' hw' => ?_
      obtain ⟨rfl, rfl⟩ := hw'
      have := hR .nilm _ _ _ _ h1 H (.refl r h w') (by simp [okV])
      simpa [conc] using this
    · exact h1.elim
  · exact h1.elim

end Go.Proofs.YtkcpnbfhoamlfaaGreatDoor.X
