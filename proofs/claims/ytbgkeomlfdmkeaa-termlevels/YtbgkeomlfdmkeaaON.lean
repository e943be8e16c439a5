/- The contract of telamonlaw2.alive. -/
import Derived.Test.YtbgkeomlfdmkeaaOM
import Derived.Test.YtbgkeomlfdmkeaaTH
namespace Go.Proofs.Ytbgkeomlfdmkeaa
open Go.RowKit Go.Sort

theorem sm_con : smT 1000000 tCon := sm_leaf _ _ _ _ _ (by decide) (by simp) (by simp)
theorem sm_set : smT 1000000 (tSet 0) := sm_leaf _ _ _ _ _ (by decide) (by simp) (by simp)
theorem sm_var (n : Int) : smT 1000000 (tVar n) := sm_leaf _ _ _ _ _ (by decide) (by simp) (by simp)

/-- Subst at the document's example -/
theorem Subst_exa (va vc : Value) (w : World) (ha : TV w va (tLam (tSet 0) (tVar 1))) (hc : TV w vc tCon) : Calls Try.prog 30 #[va, .int .i64 0, vc] w fun e w' => ∃ v, e = .returned (.tuple #[v, .int .i64 0]) ∧ ShapeT v ∧ TO w' w.heap.size w'.heap.size v (tLam (tSet 0) tCon) ∧ RowKit.Below w.heap.size w w' := by
  have h := TSubst_any _ va 0 _ vc w ha hc (sm_two 4 0 false _ _ sm_set (sm_var 1)) sm_con (by decide)
  rw [exs1] at h
  refine h.mono fun _ _ ⟨⟨v, he, hT⟩, hb⟩ => ⟨v, he, hT.shapeE, hT, hb⟩

/-- Lift at the document's example -/
theorem Lift_exa (va : Value) (w : World) (ha : TV w va (tLam (tSet 0) (tApp (tVar 0) (tVar 1)))) : Calls Try.prog 22 #[va, .int .i64 0, .int .i64 2] w fun e w' => ∃ v, e = .returned (.tuple #[v, .int .i64 0]) ∧ ShapeT v ∧ TV w' v (tLam (tSet 0) (tApp (tVar 0) (tVar 3))) ∧ RowKit.Below w.heap.size w w' := by
  have h := Lift_any _ va 0 2 w ha (sm_two 4 0 false _ _ sm_set (sm_two 5 0 false _ _ (sm_var 0) (sm_var 1)))
  rw [exs2] at h
  refine h.mono fun _ _ ⟨⟨v, he, hT⟩, hb⟩ => ⟨v, he, hT.shapeE, hT.tv, hb⟩

theorem Size_exa (va : Value) (w : World) (ha : TV w va (tLam (tSet 0) tCon)) : Calls Try.prog 16 #[va] w fun e w' => e = .returned (.int .i64 3) ∧ RowKit.Below w.heap.size w w' := by
  have h := Size_any _ va w ha (sm_two 4 0 false _ _ sm_set sm_con)
  rwa [exs3] at h

theorem Exactly_exa (va vb : Value) (t : Tm) (w : World) (hs : smT 1000000 t) (ha : TV w va t) (hb : TV w vb t) : Calls Try.prog 25 #[va, vb] w fun e w' => e = .returned (.bool true) ∧ RowKit.Below w.heap.size w w' :=
  (Exactly_same t va vb w (smT_lv _ _ hs) ha hb).mono fun _ _ ⟨h1, h2⟩ => ⟨h1, h2.below⟩

set_option maxRecDepth 100000 in
set_option maxHeartbeats 20000000 in
theorem alive2_any (w : World) : Calls Try.prog 9 #[] w fun e w' => e = .returned (.bool true) ∧ RowKit.Below w.heap.size w w' := by
  have mx := mixed
  go_enter Try.func9, Try.ntmps9
  go_wp2_with fail
  refine (Const_any { data := #[99] } w).mono ?_
  rintro e w1 ⟨vc, rfl, htc, hb1⟩
  obtain ⟨z0, z1, z2, z3, z4, z5, z6, z7, z8, z9, rfl⟩ := htc.shapeT
  go_wp2_with fail
  obtain ⟨W1, hW1⟩ : ∃ W, w1.alloc (.cells #[.int .i64 z0, .int .i64 z1, .bool z2, .string z3, .slice z4 z5 z6, .slice z7 z8 z9] 25) = W := ⟨_, rfl⟩
  have HC1 : Hid (W1.heap[w1.heap.size]? = some (.cells #[.int .i64 z0, .int .i64 z1, .bool z2, .string z3, .slice z4 z5 z6, .slice z7 z8 z9] 25 (0, 0))) := by unfold Hid; rw [← hW1]; exact alloc_new _ _
  have HTC : Hid (TV W1 (.agg #[.int .i64 z0, .int .i64 z1, .bool z2, .string z3, .slice z4 z5 z6, .slice z7 z8 z9]) tCon) := by unfold Hid; rw [← hW1]; exact TV.on htc ((Below.refl _ _).alloc (Nat.le_refl _) _)
  have HB1 : Hid (RowKit.Below w.heap.size w W1) := by unfold Hid; rw [← hW1]; exact hb1.alloc hb1.size _
  rw [hW1]
  clear hW1 htc hb1
  obtain ⟨c0, c1, c2, c3, c4, c5, c6⟩ := cells6 HC1.out
  have HCEL : Hid (∀ W : World, RowKit.Below W1.heap.size W1 W → W.cell? ⟨w1.heap.size, 0, none⟩ = some (.int .i64 z0) ∧ W.cell? ⟨w1.heap.size, 1, none⟩ = some (.int .i64 z1) ∧ W.cell? ⟨w1.heap.size, 2, none⟩ = some (.bool z2) ∧ W.cell? ⟨w1.heap.size, 3, none⟩ = some (.string z3) ∧ W.cell? ⟨w1.heap.size, 4, none⟩ = some (.slice z4 z5 z6) ∧ W.cell? ⟨w1.heap.size, 5, none⟩ = some (.slice z7 z8 z9)) := fun W h => ⟨(h.cell (p := ⟨w1.heap.size, 0, none⟩) c6).trans c0, (h.cell (p := ⟨w1.heap.size, 1, none⟩) c6).trans c1, (h.cell (p := ⟨w1.heap.size, 2, none⟩) c6).trans c2, (h.cell (p := ⟨w1.heap.size, 3, none⟩) c6).trans c3, (h.cell (p := ⟨w1.heap.size, 4, none⟩) c6).trans c4, (h.cell (p := ⟨w1.heap.size, 5, none⟩) c6).trans c5⟩
  have HCE6 : Hid (∀ (W : World) (h : RowKit.Below W1.heap.size W1 W) (K : Nat) (hK : W1.heap.size ≤ K) (a0 a1 a2 a3 a4 a5 : Value), ((((((W.setCell ⟨K, 0, none⟩ a0).setCell ⟨K, 1, none⟩ a1).setCell ⟨K, 2, none⟩ a2).setCell ⟨K, 3, none⟩ a3).setCell ⟨K, 4, none⟩ a4).setCell ⟨K, 5, none⟩ a5).cell? ⟨w1.heap.size, 0, none⟩ = some (.int .i64 z0) ∧ ((((((W.setCell ⟨K, 0, none⟩ a0).setCell ⟨K, 1, none⟩ a1).setCell ⟨K, 2, none⟩ a2).setCell ⟨K, 3, none⟩ a3).setCell ⟨K, 4, none⟩ a4).setCell ⟨K, 5, none⟩ a5).cell? ⟨w1.heap.size, 1, none⟩ = some (.int .i64 z1) ∧ ((((((W.setCell ⟨K, 0, none⟩ a0).setCell ⟨K, 1, none⟩ a1).setCell ⟨K, 2, none⟩ a2).setCell ⟨K, 3, none⟩ a3).setCell ⟨K, 4, none⟩ a4).setCell ⟨K, 5, none⟩ a5).cell? ⟨w1.heap.size, 2, none⟩ = some (.bool z2) ∧ ((((((W.setCell ⟨K, 0, none⟩ a0).setCell ⟨K, 1, none⟩ a1).setCell ⟨K, 2, none⟩ a2).setCell ⟨K, 3, none⟩ a3).setCell ⟨K, 4, none⟩ a4).setCell ⟨K, 5, none⟩ a5).cell? ⟨w1.heap.size, 3, none⟩ = some (.string z3) ∧ ((((((W.setCell ⟨K, 0, none⟩ a0).setCell ⟨K, 1, none⟩ a1).setCell ⟨K, 2, none⟩ a2).setCell ⟨K, 3, none⟩ a3).setCell ⟨K, 4, none⟩ a4).setCell ⟨K, 5, none⟩ a5).cell? ⟨w1.heap.size, 4, none⟩ = some (.slice z4 z5 z6) ∧ ((((((W.setCell ⟨K, 0, none⟩ a0).setCell ⟨K, 1, none⟩ a1).setCell ⟨K, 2, none⟩ a2).setCell ⟨K, 3, none⟩ a3).setCell ⟨K, 4, none⟩ a4).setCell ⟨K, 5, none⟩ a5).cell? ⟨w1.heap.size, 5, none⟩ = some (.slice z7 z8 z9)) := fun W h K hK a0 a1 a2 a3 a4 a5 => by
    obtain ⟨e0, e1, e2, e3, e4, e5⟩ := HCEL.out W h
    have hl : w1.heap.size < W.heap.size := Nat.lt_of_lt_of_le c6 h.size
    have K6 := keep6 (P := fun k => k = K) (w := W) (b := K) (a0 := a0) (a1 := a1) (a2 := a2) (a3 := a3) (a4 := a4) (a5 := a5) rfl
    exact ⟨(K6.cell (p := ⟨w1.heap.size, 0, none⟩) hl (by simp; omega)).trans e0, (K6.cell (p := ⟨w1.heap.size, 1, none⟩) hl (by simp; omega)).trans e1, (K6.cell (p := ⟨w1.heap.size, 2, none⟩) hl (by simp; omega)).trans e2, (K6.cell (p := ⟨w1.heap.size, 3, none⟩) hl (by simp; omega)).trans e3, (K6.cell (p := ⟨w1.heap.size, 4, none⟩) hl (by simp; omega)).trans e4, (K6.cell (p := ⟨w1.heap.size, 5, none⟩) hl (by simp; omega)).trans e5⟩
  go_region_held3 (fun w' => w'.cell? ⟨w1.heap.size, 0, none⟩ = some (.int .i64 z0) ∧ w'.cell? ⟨w1.heap.size, 1, none⟩ = some (.int .i64 z1) ∧ w'.cell? ⟨w1.heap.size, 2, none⟩ = some (.bool z2) ∧ w'.cell? ⟨w1.heap.size, 3, none⟩ = some (.string z3) ∧ w'.cell? ⟨w1.heap.size, 4, none⟩ = some (.slice z4 z5 z6) ∧ w'.cell? ⟨w1.heap.size, 5, none⟩ = some (.slice z7 z8 z9))
    (first | with_reducible exact HCEL.out _ hbS | with_reducible exact HCEL.out _ (hbS.alloc hbS.size _) | with_reducible exact HCE6.out _ hbS _ hK _ _ _ _ _ _ | exact HCEL.out _ (Below.refl _ _).drew | exact HCEL.out _ (((Below.refl _ _).alloc (Nat.le_refl _) _).drew))
    (first | (go_at_call 31; refine (Set_any 0 _).mono ?_; rintro e wa ⟨va, rfl, hta, hba⟩; have hbS : RowKit.Below W1.heap.size W1 wa := (by first | exact (Below.refl _ _).drew.trans hba | exact ((Below.refl W1.heap.size W1).alloc (Nat.le_refl _) _).drew.trans (hba.mono (by simp))); (first | (have hk := (hba.block W1.heap.size (by simp)).trans (alloc_new W1 _); have hK : W1.heap.size ≤ W1.heap.size := Nat.le_refl _) | skip); clear hba)
             | (go_at_call 35; refine (Var_any 1 _).mono ?_; rintro e wb ⟨vb, rfl, htb, hbb⟩; have hta' : TV wb va (tSet 0) := (by first | exact TV.on hta hbb | exact TV.on (TV.on hta ((Below.refl _ _).alloc (Nat.le_refl _) _)) hbb); (first | (replace hk := (hbb.block _ (heap_lt hk)).trans hk) | (have hk := (hbb.block wa.heap.size (by simp)).trans (alloc_new wa _); have hK : W1.heap.size ≤ wa.heap.size := hbS.size) | skip); have hbS' : RowKit.Below W1.heap.size W1 wb := (by first | exact hbS.trans (hbb.mono hbS.size) | exact (hbS.alloc hbS.size _).trans (hbb.mono (Nat.le_trans hbS.size (by simp)))); clear hbS hta hbb; have hbS := hbS'; clear hbS')
             | (go_at_call 34; (first | refine (Lam_any _ _ _ _ _ hta' htb).mono ?_ | refine (Lam_any _ _ _ _ _ (TV.on hta' ((Below.refl _ _).alloc (Nat.le_refl _) _)) (TV.on htb ((Below.refl _ _).alloc (Nat.le_refl _) _))).mono ?_); rintro e wc ⟨vl, rfl, htl, hbc⟩; (first | (replace hk := (hbc.block _ (heap_lt hk)).trans hk) | (have hk := (hbc.block wb.heap.size (by simp)).trans (alloc_new wb _); have hK : W1.heap.size ≤ wb.heap.size := hbS.size) | skip); have hbS' : RowKit.Below W1.heap.size W1 wc := (by first | exact hbS.trans (hbc.mono hbS.size) | exact (hbS.alloc hbS.size _).trans (hbc.mono (Nat.le_trans hbS.size (by simp)))); clear hbS hta' htb hbc; have hbS := hbS'; clear hbS')
             | (go_at_call 30; (first | refine (Subst_exa _ _ _ htl (TV.on HTC.out hbS)).mono ?_ | refine (Subst_exa _ _ _ (TV.on htl ((Below.refl _ _).alloc (Nat.le_refl _) _)) (TV.on HTC.out (hbS.alloc hbS.size _))).mono ?_); rintro e wd ⟨vt, rfl, ⟨t0, t1, t2, t3, t4, t5, t6, t7, t8, t9, rfl⟩, htt, hbd⟩; (first | (have hKB := heap_lt hk) | skip); (first | (replace hk := (hbd.block _ (heap_lt hk)).trans hk) | (have hk := (hbd.block wc.heap.size (by simp)).trans (alloc_new wc _); have hK : W1.heap.size ≤ wc.heap.size := hbS.size) | skip); have hbS' : RowKit.Below W1.heap.size W1 wd := (by first | exact hbS.trans (hbd.mono hbS.size) | exact (hbS.alloc hbS.size _).trans (hbd.mono (Nat.le_trans hbS.size (by simp)))); clear hbS htl hbd; have hbS := hbS'; clear hbS'; (try (obtain ⟨y0, y1, y2, y3, y4, y5, y6⟩ := cells6 hk; have fr := frz hk))))
  all_goals
    first
      | (obtain ⟨W2, K, hKe, hWe, hF⟩ : ∃ W2 K, wd.heap.size = K ∧ wd.alloc (.cells #[.int .i64 t0, .int .i64 t1, .bool t2, .string t3, .slice t4 t5 t6, .slice t7 t8 t9] 25) = W2 ∧ (W2.heap[K]? = some (.cells #[.int .i64 t0, .int .i64 t1, .bool t2, .string t3, .slice t4 t5 t6, .slice t7 t8 t9] 25 (0, 0)) ∧ RowKit.Below W1.heap.size W1 W2 ∧ W1.heap.size ≤ K ∧ TV W2 (.agg #[.int .i64 t0, .int .i64 t1, .bool t2, .string t3, .slice t4 t5 t6, .slice t7 t8 t9]) (tLam (tSet 0) tCon)) := ⟨_, _, rfl, rfl, alloc_new _ _, hbS.alloc hbS.size _, hbS.size, TV.on htt.tv ((Below.refl _ _).alloc (Nat.le_refl _) _)⟩; rw [hWe]; rw [hKe]; clear hWe hKe)
      | (obtain ⟨W2, K, hKe, hWe, hF⟩ : ∃ W2 K, W1.heap.size = K ∧ ((((((wd.setCell ⟨W1.heap.size, 0, none⟩ (.int .i64 t0)).setCell ⟨W1.heap.size, 1, none⟩ (.int .i64 t1)).setCell ⟨W1.heap.size, 2, none⟩ (.bool t2)).setCell ⟨W1.heap.size, 3, none⟩ (.string t3)).setCell ⟨W1.heap.size, 4, none⟩ (.slice t4 t5 t6)).setCell ⟨W1.heap.size, 5, none⟩ (.slice t7 t8 t9)) = W2 ∧ (W2.heap[K]? = some (.cells #[.int .i64 t0, .int .i64 t1, .bool t2, .string t3, .slice t4 t5 t6, .slice t7 t8 t9] 25 (0, 0)) ∧ RowKit.Below W1.heap.size W1 W2 ∧ W1.heap.size ≤ K ∧ TV W2 (.agg #[.int .i64 t0, .int .i64 t1, .bool t2, .string t3, .slice t4 t5 t6, .slice t7 t8 t9]) (tLam (tSet 0) tCon)) := ⟨_, _, rfl, rfl, set6 hk, hbS.trans ((keep6 (P := fun k => k = W1.heap.size) rfl).below hbS.size (fun k e => by rw [e]; exact hK)), hK, (TO.on htt (fun k h1 h2 => (keep6 (P := fun k => k = W1.heap.size) rfl).block k h2 (fun e => by rw [e] at h1; exact Nat.lt_irrefl _ (Nat.lt_of_lt_of_le hKB h1)))).tv⟩; rw [hWe]; rw [hKe]; clear hWe hKe)
      | (obtain ⟨W2, K, hKe, hWe, hF⟩ : ∃ W2 K, wa.heap.size = K ∧ ((((((wd.setCell ⟨wa.heap.size, 0, none⟩ (.int .i64 t0)).setCell ⟨wa.heap.size, 1, none⟩ (.int .i64 t1)).setCell ⟨wa.heap.size, 2, none⟩ (.bool t2)).setCell ⟨wa.heap.size, 3, none⟩ (.string t3)).setCell ⟨wa.heap.size, 4, none⟩ (.slice t4 t5 t6)).setCell ⟨wa.heap.size, 5, none⟩ (.slice t7 t8 t9)) = W2 ∧ (W2.heap[K]? = some (.cells #[.int .i64 t0, .int .i64 t1, .bool t2, .string t3, .slice t4 t5 t6, .slice t7 t8 t9] 25 (0, 0)) ∧ RowKit.Below W1.heap.size W1 W2 ∧ W1.heap.size ≤ K ∧ TV W2 (.agg #[.int .i64 t0, .int .i64 t1, .bool t2, .string t3, .slice t4 t5 t6, .slice t7 t8 t9]) (tLam (tSet 0) tCon)) := ⟨_, _, rfl, rfl, set6 hk, hbS.trans ((keep6 (P := fun k => k = wa.heap.size) rfl).below hbS.size (fun k e => by rw [e]; exact hK)), hK, (TO.on htt (fun k h1 h2 => (keep6 (P := fun k => k = wa.heap.size) rfl).block k h2 (fun e => by rw [e] at h1; exact Nat.lt_irrefl _ (Nat.lt_of_lt_of_le hKB h1)))).tv⟩; rw [hWe]; rw [hKe]; clear hWe hKe)
      | (obtain ⟨W2, K, hKe, hWe, hF⟩ : ∃ W2 K, wb.heap.size = K ∧ ((((((wd.setCell ⟨wb.heap.size, 0, none⟩ (.int .i64 t0)).setCell ⟨wb.heap.size, 1, none⟩ (.int .i64 t1)).setCell ⟨wb.heap.size, 2, none⟩ (.bool t2)).setCell ⟨wb.heap.size, 3, none⟩ (.string t3)).setCell ⟨wb.heap.size, 4, none⟩ (.slice t4 t5 t6)).setCell ⟨wb.heap.size, 5, none⟩ (.slice t7 t8 t9)) = W2 ∧ (W2.heap[K]? = some (.cells #[.int .i64 t0, .int .i64 t1, .bool t2, .string t3, .slice t4 t5 t6, .slice t7 t8 t9] 25 (0, 0)) ∧ RowKit.Below W1.heap.size W1 W2 ∧ W1.heap.size ≤ K ∧ TV W2 (.agg #[.int .i64 t0, .int .i64 t1, .bool t2, .string t3, .slice t4 t5 t6, .slice t7 t8 t9]) (tLam (tSet 0) tCon)) := ⟨_, _, rfl, rfl, set6 hk, hbS.trans ((keep6 (P := fun k => k = wb.heap.size) rfl).below hbS.size (fun k e => by rw [e]; exact hK)), hK, (TO.on htt (fun k h1 h2 => (keep6 (P := fun k => k = wb.heap.size) rfl).block k h2 (fun e => by rw [e] at h1; exact Nat.lt_irrefl _ (Nat.lt_of_lt_of_le hKB h1)))).tv⟩; rw [hWe]; rw [hKe]; clear hWe hKe)
      | (obtain ⟨W2, K, hKe, hWe, hF⟩ : ∃ W2 K, wc.heap.size = K ∧ ((((((wd.setCell ⟨wc.heap.size, 0, none⟩ (.int .i64 t0)).setCell ⟨wc.heap.size, 1, none⟩ (.int .i64 t1)).setCell ⟨wc.heap.size, 2, none⟩ (.bool t2)).setCell ⟨wc.heap.size, 3, none⟩ (.string t3)).setCell ⟨wc.heap.size, 4, none⟩ (.slice t4 t5 t6)).setCell ⟨wc.heap.size, 5, none⟩ (.slice t7 t8 t9)) = W2 ∧ (W2.heap[K]? = some (.cells #[.int .i64 t0, .int .i64 t1, .bool t2, .string t3, .slice t4 t5 t6, .slice t7 t8 t9] 25 (0, 0)) ∧ RowKit.Below W1.heap.size W1 W2 ∧ W1.heap.size ≤ K ∧ TV W2 (.agg #[.int .i64 t0, .int .i64 t1, .bool t2, .string t3, .slice t4 t5 t6, .slice t7 t8 t9]) (tLam (tSet 0) tCon)) := ⟨_, _, rfl, rfl, set6 hk, hbS.trans ((keep6 (P := fun k => k = wc.heap.size) rfl).below hbS.size (fun k e => by rw [e]; exact hK)), hK, (TO.on htt (fun k h1 h2 => (keep6 (P := fun k => k = wc.heap.size) rfl).block k h2 (fun e => by rw [e, World.size_alloc] at h1; omega))).tv⟩; rw [hWe]; rw [hKe]; clear hWe hKe)
  all_goals
    obtain ⟨hk2, hB2, hK2, ht2⟩ := hF
    have HK2 := Hid.mk hk2
    have HB2 := Hid.mk hB2
    have HT2 := Hid.mk ht2
    have HKK := Hid.mk hK2
    clear hk2 hB2 ht2 hK2 hbS htt HCE6 HCEL
    (try clear hk hK hKB fr y0 y1 y2 y3 y4 y5 y6)
    (try clear hta hta')
    go_wp2_with fail
    refine (Set_any 0 _).mono ?_
    rintro e w3 ⟨v3, rfl, h3, b3⟩
    go_wp2_with fail
    refine (Var_any 0 _).mono ?_
    rintro e w4 ⟨v4, rfl, h4, b4⟩
    go_wp2_with fail
    refine (Var_any 1 _).mono ?_
    rintro e w5 ⟨v5, rfl, h5, b5⟩
    go_wp2_with fail
    refine (App_any _ _ _ _ _ (TV.on h4 b5) h5).mono ?_
    rintro e w6 ⟨v6, rfl, h6, b6⟩
    go_wp2_with fail
    refine (Lam_any _ _ _ _ _ (((h3.on b4).on b5).on b6) h6).mono ?_
    rintro e w7 ⟨v7, rfl, h7, b7⟩
    go_wp2_with fail
    refine (Lift_exa _ _ h7).mono ?_
    rintro e w9 ⟨vu, rfl, ⟨u0, u1, u2, u3, u4, u5, u6, u7, u8, u9, rfl⟩, h9, b9⟩
    have HB9 : Hid (RowKit.Below W2.heap.size W2 w9) := ((((((b3.trans (b4.mono b3.size)).trans (b5.mono (Nat.le_trans b3.size b4.size))).trans (b6.mono (Nat.le_trans b3.size (Nat.le_trans b4.size b5.size)))).trans (b7.mono (Nat.le_trans b3.size (Nat.le_trans b4.size (Nat.le_trans b5.size b6.size)))))).trans (b9.mono (Nat.le_trans b3.size (Nat.le_trans b4.size (Nat.le_trans b5.size (Nat.le_trans b6.size b7.size))))))
    have H9 := Hid.mk h9
    clear h3 b3 h4 b4 h5 b5 h6 b6 h7 b7 h9 b9
    go_wp2_with fail
    obtain ⟨W3, hW3⟩ : ∃ W, w9.alloc (.cells #[.int .i64 u0, .int .i64 u1, .bool u2, .string u3, .slice u4 u5 u6, .slice u7 u8 u9] 25) = W := ⟨_, rfl⟩
    have HU3 : Hid (W3.heap[w9.heap.size]? = some (.cells #[.int .i64 u0, .int .i64 u1, .bool u2, .string u3, .slice u4 u5 u6, .slice u7 u8 u9] 25 (0, 0))) := by unfold Hid; rw [← hW3]; exact alloc_new _ _
    have HTU : Hid (TV W3 (.agg #[.int .i64 u0, .int .i64 u1, .bool u2, .string u3, .slice u4 u5 u6, .slice u7 u8 u9]) (tLam (tSet 0) (tApp (tVar 0) (tVar 3)))) := by unfold Hid; rw [← hW3]; exact TV.on H9.out ((Below.refl _ _).alloc (Nat.le_refl _) _)
    have HB23 : Hid (RowKit.Below W2.heap.size W2 W3) := by unfold Hid; rw [← hW3]; exact HB9.out.alloc HB9.out.size _
    rw [hW3]
    clear hW3 H9
    have HB13 : Hid (RowKit.Below W1.heap.size W1 W3) := HB2.out.trans (HB23.out.mono HB2.out.size)
    have HTT : Hid (TV W3 (.agg #[.int .i64 t0, .int .i64 t1, .bool t2, .string t3, .slice t4 t5 t6, .slice t7 t8 t9]) (tLam (tSet 0) tCon)) := TV.on HT2.out HB23.out
    have HTC3 : Hid (TV W3 (.agg #[.int .i64 z0, .int .i64 z1, .bool z2, .string z3, .slice z4 z5 z6, .slice z7 z8 z9]) tCon) := TV.on HTC.out HB13.out
    have HBW3 : Hid (RowKit.Below w.heap.size w W3) := HB1.out.trans (HB13.out.mono HB1.out.size)
    obtain ⟨p0, p1, p2, p3, p4, p5, p6⟩ := cells6 ((HB13.out.block w1.heap.size c6).trans HC1.out)
    obtain ⟨q0, q1, q2, q3, q4, q5, q6⟩ := cells6 ((HB23.out.block K (heap_lt HK2.out)).trans HK2.out)
    obtain ⟨r0, r1, r2, r3, r4, r5, r6⟩ := cells6 HU3.out
    have HCEL : Hid (∀ W : World, RowKit.Below W3.heap.size W3 W → W.cell? ⟨w1.heap.size, 0, none⟩ = some (.int .i64 z0) ∧ W.cell? ⟨w1.heap.size, 1, none⟩ = some (.int .i64 z1) ∧ W.cell? ⟨w1.heap.size, 2, none⟩ = some (.bool z2) ∧ W.cell? ⟨w1.heap.size, 3, none⟩ = some (.string z3) ∧ W.cell? ⟨w1.heap.size, 4, none⟩ = some (.slice z4 z5 z6) ∧ W.cell? ⟨w1.heap.size, 5, none⟩ = some (.slice z7 z8 z9) ∧ W.cell? ⟨K, 0, none⟩ = some (.int .i64 t0) ∧ W.cell? ⟨K, 1, none⟩ = some (.int .i64 t1) ∧ W.cell? ⟨K, 2, none⟩ = some (.bool t2) ∧ W.cell? ⟨K, 3, none⟩ = some (.string t3) ∧ W.cell? ⟨K, 4, none⟩ = some (.slice t4 t5 t6) ∧ W.cell? ⟨K, 5, none⟩ = some (.slice t7 t8 t9) ∧ W.cell? ⟨w9.heap.size, 0, none⟩ = some (.int .i64 u0) ∧ W.cell? ⟨w9.heap.size, 1, none⟩ = some (.int .i64 u1) ∧ W.cell? ⟨w9.heap.size, 2, none⟩ = some (.bool u2) ∧ W.cell? ⟨w9.heap.size, 3, none⟩ = some (.string u3) ∧ W.cell? ⟨w9.heap.size, 4, none⟩ = some (.slice u4 u5 u6) ∧ W.cell? ⟨w9.heap.size, 5, none⟩ = some (.slice u7 u8 u9)) := fun W h => ⟨(h.cell (p := ⟨w1.heap.size, 0, none⟩) p6).trans p0, (h.cell (p := ⟨w1.heap.size, 1, none⟩) p6).trans p1, (h.cell (p := ⟨w1.heap.size, 2, none⟩) p6).trans p2, (h.cell (p := ⟨w1.heap.size, 3, none⟩) p6).trans p3, (h.cell (p := ⟨w1.heap.size, 4, none⟩) p6).trans p4, (h.cell (p := ⟨w1.heap.size, 5, none⟩) p6).trans p5, (h.cell (p := ⟨K, 0, none⟩) q6).trans q0, (h.cell (p := ⟨K, 1, none⟩) q6).trans q1, (h.cell (p := ⟨K, 2, none⟩) q6).trans q2, (h.cell (p := ⟨K, 3, none⟩) q6).trans q3, (h.cell (p := ⟨K, 4, none⟩) q6).trans q4, (h.cell (p := ⟨K, 5, none⟩) q6).trans q5, (h.cell (p := ⟨w9.heap.size, 0, none⟩) r6).trans r0, (h.cell (p := ⟨w9.heap.size, 1, none⟩) r6).trans r1, (h.cell (p := ⟨w9.heap.size, 2, none⟩) r6).trans r2, (h.cell (p := ⟨w9.heap.size, 3, none⟩) r6).trans r3, (h.cell (p := ⟨w9.heap.size, 4, none⟩) r6).trans r4, (h.cell (p := ⟨w9.heap.size, 5, none⟩) r6).trans r5⟩
    clear c0 c1 c2 c3 c4 c5 c6
    have HEX1 : ∀ (W : World) (vL : Value), RowKit.Below W3.heap.size W3 W → TV W vL (tLam (tSet 0) tCon) → Calls Try.prog 25 #[.agg #[.int .i64 t0, .int .i64 t1, .bool t2, .string t3, .slice t4 t5 t6, .slice t7 t8 t9], vL] W fun e w' => e = .returned (.bool true) ∧ RowKit.Below W.heap.size W w' := fun W vL h hL => Exactly_exa _ vL (tLam (tSet 0) tCon) W (sm_two 4 0 false _ _ sm_set sm_con) (TV.on HTT.out h) hL
    have HEX2 : ∀ (W : World) (vL : Value), RowKit.Below W3.heap.size W3 W → TV W vL (tLam (tSet 0) (tApp (tVar 0) (tVar 3))) → Calls Try.prog 25 #[.agg #[.int .i64 u0, .int .i64 u1, .bool u2, .string u3, .slice u4 u5 u6, .slice u7 u8 u9], vL] W fun e w' => e = .returned (.bool true) ∧ RowKit.Below W.heap.size W w' := fun W vL h hL => Exactly_exa _ vL (tLam (tSet 0) (tApp (tVar 0) (tVar 3))) W (sm_two 4 0 false _ _ sm_set (sm_two 5 0 false _ _ (sm_var 0) (sm_var 3))) (TV.on HTU.out h) hL
    have HSIZ : ∀ (W : World), RowKit.Below W3.heap.size W3 W → Calls Try.prog 16 #[.agg #[.int .i64 t0, .int .i64 t1, .bool t2, .string t3, .slice t4 t5 t6, .slice t7 t8 t9]] W fun e w' => e = .returned (.int .i64 3) ∧ RowKit.Below W.heap.size W w' := fun W h => Size_exa _ W (TV.on HTT.out h)
    have HLM1 : ∀ (W : World) (vA : Value), RowKit.Below W3.heap.size W3 W → TV W vA (tSet 0) → Calls Try.prog 34 #[vA, .agg #[.int .i64 z0, .int .i64 z1, .bool z2, .string z3, .slice z4 z5 z6, .slice z7 z8 z9]] W fun e w' => ∃ v, e = .returned v ∧ TV w' v (tLam (tSet 0) tCon) ∧ RowKit.Below W.heap.size W w' := fun W vA h hA => Lam_any vA _ (tSet 0) tCon W hA (TV.on HTC3.out h)
    have HLM2 : ∀ (W : World) (vA vP : Value), TV W vA (tSet 0) → TV W vP (tApp (tVar 0) (tVar 3)) → Calls Try.prog 34 #[vA, vP] W fun e w' => ∃ v, e = .returned v ∧ TV w' v (tLam (tSet 0) (tApp (tVar 0) (tVar 3))) ∧ RowKit.Below W.heap.size W w' := fun W vA vP hA hP => Lam_any vA vP (tSet 0) (tApp (tVar 0) (tVar 3)) W hA hP
    have HAP : ∀ (W : World) (vA vP : Value), TV W vA (tVar 0) → TV W vP (tVar 3) → Calls Try.prog 32 #[vA, vP] W fun e w' => ∃ v, e = .returned v ∧ TV w' v (tApp (tVar 0) (tVar 3)) ∧ RowKit.Below W.heap.size W w' := fun W vA vP hA hP => App_any vA vP (tVar 0) (tVar 3) W hA hP
    have HST : ∀ (W : World), Calls Try.prog 31 #[.int .i64 0] W fun e w' => ∃ v, e = .returned v ∧ TV w' v (tSet 0) ∧ RowKit.Below W.heap.size W w' := fun W => Set_any 0 W
    have HV0 : ∀ (W : World), Calls Try.prog 35 #[.int .i64 0] W fun e w' => ∃ v, e = .returned v ∧ TV w' v (tVar 0) ∧ RowKit.Below W.heap.size W w' := fun W => Var_any 0 W
    have HV3 : ∀ (W : World), Calls Try.prog 35 #[.int .i64 3] W fun e w' => ∃ v, e = .returned v ∧ TV w' v (tVar 3) ∧ RowKit.Below W.heap.size W w' := fun W => Var_any 3 W
    go_region_held3 (fun w' => w'.cell? ⟨w1.heap.size, 0, none⟩ = some (.int .i64 z0) ∧ w'.cell? ⟨w1.heap.size, 1, none⟩ = some (.int .i64 z1) ∧ w'.cell? ⟨w1.heap.size, 2, none⟩ = some (.bool z2) ∧ w'.cell? ⟨w1.heap.size, 3, none⟩ = some (.string z3) ∧ w'.cell? ⟨w1.heap.size, 4, none⟩ = some (.slice z4 z5 z6) ∧ w'.cell? ⟨w1.heap.size, 5, none⟩ = some (.slice z7 z8 z9) ∧ w'.cell? ⟨K, 0, none⟩ = some (.int .i64 t0) ∧ w'.cell? ⟨K, 1, none⟩ = some (.int .i64 t1) ∧ w'.cell? ⟨K, 2, none⟩ = some (.bool t2) ∧ w'.cell? ⟨K, 3, none⟩ = some (.string t3) ∧ w'.cell? ⟨K, 4, none⟩ = some (.slice t4 t5 t6) ∧ w'.cell? ⟨K, 5, none⟩ = some (.slice t7 t8 t9) ∧ w'.cell? ⟨w9.heap.size, 0, none⟩ = some (.int .i64 u0) ∧ w'.cell? ⟨w9.heap.size, 1, none⟩ = some (.int .i64 u1) ∧ w'.cell? ⟨w9.heap.size, 2, none⟩ = some (.bool u2) ∧ w'.cell? ⟨w9.heap.size, 3, none⟩ = some (.string u3) ∧ w'.cell? ⟨w9.heap.size, 4, none⟩ = some (.slice u4 u5 u6) ∧ w'.cell? ⟨w9.heap.size, 5, none⟩ = some (.slice u7 u8 u9))
      (first | with_reducible exact HCEL.out _ hbS | exact HCEL.out _ (Below.refl _ _).drew)
      (first | (go_at_call 14; refine (num2_any _ _).mono ?_; rintro e w' ⟨rfl, rfl⟩)
             | (go_at_call 31; refine (HST _).mono ?_; rintro e wA ⟨vA, rfl, hA, bA⟩; have hbS' : RowKit.Below W3.heap.size W3 wA := (by first | exact hbS.trans (bA.mono hbS.size) | exact (Below.refl _ _).drew.trans bA); (try clear hbS); have hbS := hbS'; clear hbS'; clear bA)
             | (go_at_call 35; (first | (with_reducible refine (HV0 _).mono ?_; rintro e wX ⟨vX, rfl, hX, bX⟩; have hbS' : RowKit.Below W3.heap.size W3 wX := (by first | exact hbS.trans (bX.mono hbS.size) | exact (Below.refl _ _).drew.trans bX); have hA' := TV.on hA bX; clear hA bX hbS; have hA := hA'; clear hA'; have hbS := hbS'; clear hbS') | (with_reducible refine (HV3 _).mono ?_; rintro e wY ⟨vY, rfl, hY, bY⟩; have hbS' : RowKit.Below W3.heap.size W3 wY := (by first | exact hbS.trans (bY.mono hbS.size) | exact (Below.refl _ _).drew.trans bY); have hA' := TV.on hA bY; have hX' := TV.on hX bY; clear hA hX bY hbS; have hA := hA'; have hX := hX'; clear hA' hX'; have hbS := hbS'; clear hbS')))
             | (go_at_call 32; refine (HAP _ _ _ hX hY).mono ?_; rintro e wP ⟨vP, rfl, hP, bP⟩; have hbS' : RowKit.Below W3.heap.size W3 wP := (by first | exact hbS.trans (bP.mono hbS.size) | exact (Below.refl _ _).drew.trans bP); have hA' := TV.on hA bP; clear hA bP hbS hX hY; have hA := hA'; clear hA'; have hbS := hbS'; clear hbS')
             | (go_at_call 34; (first | (refine (HLM2 _ _ _ hA hP).mono ?_; rintro e wL ⟨vL, rfl, hL2, bL⟩; have hbS' : RowKit.Below W3.heap.size W3 wL := (by first | exact hbS.trans (bL.mono hbS.size) | exact (Below.refl _ _).drew.trans bL); clear hA hP bL hbS; have hbS := hbS'; clear hbS') | (refine (HLM1 _ _ hbS hA).mono ?_; rintro e wL ⟨vL, rfl, hL1, bL⟩; have hbS' : RowKit.Below W3.heap.size W3 wL := (by first | exact hbS.trans (bL.mono hbS.size) | exact (Below.refl _ _).drew.trans bL); clear hA bL hbS; have hbS := hbS'; clear hbS')))
             | (go_at_call 25; (first | (refine (HEX2 _ _ hbS hL2).mono ?_; rintro e wE ⟨rfl, bE⟩; have hbS' : RowKit.Below W3.heap.size W3 wE := (by first | exact hbS.trans (bE.mono hbS.size) | exact (Below.refl _ _).drew.trans bE); clear hL2 bE hbS; have hbS := hbS'; clear hbS') | (refine (HEX1 _ _ hbS hL1).mono ?_; rintro e wE ⟨rfl, bE⟩; have hbS' : RowKit.Below W3.heap.size W3 wE := (by first | exact hbS.trans (bE.mono hbS.size) | exact (Below.refl _ _).drew.trans bE); clear hL1 bE hbS; have hbS := hbS'; clear hbS')))
             | (go_at_call 16; refine (HSIZ _ hbS).mono ?_; rintro e wZ ⟨rfl, bZ⟩; have hbS' : RowKit.Below W3.heap.size W3 wZ := (by first | exact hbS.trans (bZ.mono hbS.size) | exact (Below.refl _ _).drew.trans bZ); clear bZ hbS; have hbS := hbS'; clear hbS'))
    go_wp2
    go_ret
    exact ⟨rfl, HBW3.out.trans (hbS.mono HBW3.out.size)⟩
end Go.Proofs.Ytbgkeomlfdmkeaa
