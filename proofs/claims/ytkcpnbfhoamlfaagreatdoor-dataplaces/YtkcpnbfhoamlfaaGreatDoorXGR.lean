/- An executor for closed calls, 41: slices.Grow told, of no slice of pairs of integers. -/
import Derived.Test.YtkcpnbfhoamlfaaGreatDoorXRA
import Derived.Test.YtkcpnbfhoamlfaaGreatDoorS2
namespace Go.Proofs.YtkcpnbfhoamlfaaGreatDoor.X
open Go.RowKit Go.Sort Go.Shelf Go.Lib

def pairs0 : Nat → List AV
  | 0 => []
  | n + 1 => .int .i64 (.ofNat 0) :: .int .i64 (.ofNat 0) :: pairs0 n

theorem pairs0_ok (m : Pt → Prop) : ∀ n, okL m (pairs0 n)
  | 0 => by simp [pairs0, okL]
  | n + 1 => by simp only [pairs0, okL, okV, true_and]; exact pairs0_ok m n

theorem pairs0_conc (r : Rho) : ∀ n, concL r (pairs0 n) = List.replicate (n * 2) (.int .i64 0)
  | 0 => by simp [pairs0, concL]
  | n + 1 => by
    simp only [pairs0, concL, conc]
    rw [pairs0_conc r n, Nat.succ_mul, List.replicate_succ, List.replicate_succ]
    rfl

theorem zeros_two (n : Nat) : (Builtin.zeroCells #[.int .i64 0, .int .i64 0] n).toList = List.replicate (n * 2) (.int .i64 0) := by
  refine List.eq_replicate_iff.2 ⟨by rw [Array.length_toList, zeroCells_size]; rfl, fun b hb => ?_⟩
  simp only [Builtin.zeroCells, Array.toList_map, List.mem_map] at hb
  obtain ⟨i, -, rfl⟩ := hb
  have h2 : i % 2 = 0 ∨ i % 2 = 1 := Nat.mod_two_eq_zero_or_one i
  show (#[Value.int .i64 0, Value.int .i64 0])[i % 2]! = _
  rcases h2 with h | h <;> rw [h] <;> rfl

def growAF : AF := ⟨fun _ tm h nx K => match tm.find (.o .e) with
  | none => tm.getK .e fun x => tm.getK (.z .e) fun y => match x, y with
    | .nils, .int .i64 (.ofNat n) => Bool.rec (motive := fun _ => Prop)
        (Bool.rec (motive := fun _ => Prop) False (forceL (pairs0 n) fun us => h.setK (.cells us 46) nx fun h' => forceP nx.succ fun n' => tm.setK (.sl nx 0 0 n true) .e fun tm => K .ret tm h' n') (Nat.ble n 1000000))
        (K .ret tm h nx) (Nat.beq n 0)
    | _, _ => False
  | some _ => False, [.t .e]⟩

set_option maxRecDepth 100000 in
theorem grow_sem : FunSem Tryz.prog 257 growAF := by
  intro w0 ch hcur hch args h nx K r w R hk hE H ha hR _
  obtain ⟨tm, h1, h2, h3, h4⟩ := argsK_full hk
  refine ⟨⟨_, _, Tryz.func257, by kernel_rfl, rfl⟩, ?_⟩
  have h1 : (match tm.find (.o .e) with
    | none => tm.getK .e fun x => tm.getK (.z .e) fun y => match x, y with
      | .nils, .int .i64 (.ofNat n) => Bool.rec (motive := fun _ => Prop)
          (Bool.rec (motive := fun _ => Prop) False (forceL (pairs0 n) fun us => h.setK (.cells us 46) nx fun h' => forceP nx.succ fun n' => tm.setK (.sl nx 0 0 n true) .e fun tm => retK growAF.res K .ret tm h' n') (Nat.ble n 1000000))
          (retK growAF.res K .ret tm h nx) (Nat.beq n 0)
      | _, _ => False
    | some _ => False) := h1
  split at h1
  · rename_i hn
    rw [T.getK_iff] at h1
    obtain ⟨x, hx, h1⟩ := h1
    rw [T.getK_iff] at h1
    obtain ⟨y, hy, h1⟩ := h1
    have hargs : args = [x, y] := by
      match args, h3, h4 with
      | [], _, h4 => have := h4 .e (by simp [Pt.toNat]); rw [hx, T.find_l] at this; cases this
      | [a], _, h4 => have := h4 (.z .e) (by simp [Pt.toNat]); rw [hy, T.find_l] at this; cases this
      | [a, b], h3, _ =>
        have h5 := h3 .e 0 a rfl rfl
        have h6 := h3 (.z .e) 1 b rfl rfl
        rw [hx] at h5; rw [hy] at h6; cases h5; cases h6; rfl
      | a :: b :: c :: l, h3, _ => have := h3 (.o .e) 2 c rfl rfl; rw [hn] at this; cases this
    subst hargs
    split at h1
    · rename_i n
      have ea : (concL r [AV.nils, .int .i64 (.ofNat n)]).toArray = #[.slice none 0 0, .int .i64 (n : Int)] := by simp [concL, conc]
      rw [ea]
      cases hb : Nat.beq n 0 with
      | true =>
        rw [hb] at h1
        obtain rfl := Nat.eq_of_beq_eq_true hb
        have h1 : (tm.getK .e fun v => K v h nx) := h1
        rw [T.getK_iff] at h1
        obtain ⟨v, hv, h1⟩ := h1
        rw [hx] at hv; cases hv
        refine Calls.mono (Any8.slices_Grow_room Tryz.growL none 0 0 0 w (by omega) (by omega) (by omega) (by omega)) ?_
        rintro e w' ⟨rfl, rfl⟩
        have := hR .nils h nx r w' h1 H (.refl r h w') (by simp [okV])
        simpa [conc] using this
      | false =>
        rw [hb] at h1
        obtain ⟨hle, h1⟩ := brec h1
        have hle := Nat.le_of_ble_eq_true hle
        have hpos : 0 < n := by
          rcases Nat.eq_zero_or_pos n with rfl | h
          · cases hb
          · exact h
        rw [forceL_iff, T.setK_iff, forceP_iff, T.setK_iff] at h1
        have h1 : ((tm.set (.sl nx 0 0 n true) .e).getK .e fun v => K v (h.set (.cells (pairs0 n) 46) nx) nx.succ) := h1
        rw [T.getK_iff, T.find_set] at h1
        obtain ⟨v, hv, h1⟩ := h1
        cases hv
        obtain ⟨i0, hi, hz0, hz1, hz2⟩ : ∃ j, Tryz.prog.info? 46 = some j ∧ j.zero = some (.agg #[.int .i64 0, .int .i64 0]) ∧ j.size = 2 ∧ j.bytes = 16 := by
          have hI : (Tryz.prog.info? 46).map (fun i => (i.zero, i.size, i.bytes)) = some (some (.agg #[.int .i64 0, .int .i64 0]), 2, 16) := by kernel_rfl
          cases hj : Tryz.prog.info? 46 with
          | none => rw [hj] at hI; cases hI
          | some j =>
            rw [hj] at hI
            simp only [Option.map_some, Option.some.injEq, Prod.mk.injEq] at hI
            exact ⟨j, rfl, hI.1, hI.2.1, hI.2.2⟩
        have key : Calls Tryz.prog 257 #[.slice none 0 0, .int .i64 (n : Int)] w fun e w' => e = .returned (.slice (some ⟨w.heap.size, 0, none⟩) 0 (grownCap w (0 + n) 0 46)) ∧
            w' = w.drew.alloc (.cells (([] : List Value).toArray ++ Builtin.zeroCells #[.int .i64 0, .int .i64 0] (0 + n - 0) ++ Builtin.zeroCells #[.int .i64 0, .int .i64 0] (grownCap w (0 + n) 0 46 - (0 + n))) 46) :=
          Any8.slices_Grow_grow Tryz.growL i0 (.agg #[.int .i64 0, .int .i64 0]) hi hz0 (by rw [hz1]; decide) none 0 0 n [] w (Nat.le_refl _) (by omega) (by rw [hz2]; omega) (by omega) (by simp) (fun _ => rfl) (fun a h => by cases h)
        have hg : 0 + n ≤ grownCap w (0 + n) 0 46 := grownCap_ge w (0 + n) 0 46
        generalize grownCap w (0 + n) 0 46 = cap at key hg
        refine Calls.mono key ?_
        rintro e w' ⟨rfl, rfl⟩
        obtain ⟨x, rfl⟩ : ∃ x, cap = n + x := ⟨cap - n, by omega⟩
        have e1 : n + x - (0 + n) = x := by omega
        have e2 : 0 + n - 0 = n := by omega
        rw [e1, e2]
        obtain ⟨g1, g2⟩ := (H.drew (w.drawn + 1)).alloc (.cells (pairs0 n) 46) x
          (.cells (([] : List Value).toArray ++ Builtin.zeroCells #[.int .i64 0, .int .i64 0] n ++ Builtin.zeroCells #[.int .i64 0, .int .i64 0] x) 46)
          (pairs0_ok _ n) ⟨(Builtin.zeroCells #[.int .i64 0, .int .i64 0] x).toList, by
            congr 2
            apply Array.ext'
            rw [pairs0_conc, ← zeros_two n]
            simp, by
            show _ = (r.more nx w.heap.size x).ext nx * _
            rw [r.more_ext, Array.length_toList, zeroCells_size, sizeT_of hi, hz1]; rfl⟩
        have := hR (.sl nx 0 0 n true) _ _ _ _ h1 g1 ((Ev.drew _).trans g2) (by simp only [okV]; exact .inl rfl)
        have ec : conc (r.more nx w.heap.size x) (.sl nx 0 0 n true) = .slice (some ⟨w.heap.size, 0, none⟩) 0 (n + x) := by
          simp only [conc, if_true, r.more_blk, r.more_ext]
        have ec' : conc (r.more nx ({ w with drawn := w.drawn + 1 } : World).heap.size x) (.sl nx 0 0 n true) = .slice (some ⟨w.heap.size, 0, none⟩) 0 (n + x) := ec
        rw [ec'] at this
        exact this
    · exact h1.elim
  · exact h1.elim

end Go.Proofs.YtkcpnbfhoamlfaaGreatDoor.X
