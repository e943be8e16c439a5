/- The contracts of telamonlaw1.Lent and telamonlaw1.Stay. -/
import Derived.Test.YtphemmifckdjjaaRI
namespace Go.Proofs.Ytphemmifckdjjaa
open Go.RowKit Go.Sort Go.Shelf Go.Lib

theorem SL.prefix {w : World} {a : Option Addr} {xs zs : List (Int × Int)} (h : SL w a (xs ++ zs)) : SL w a xs := by
  rcases h with h | ⟨b, off, ha, hlt, hc⟩
  · left; exact (List.append_eq_nil_iff.1 h).1
  · right
    refine ⟨b, off, ha, hlt, fun i hi => ?_⟩
    have := hc i (by simp; omega)
    rw [List.getElem?_append_left hi] at this
    exact this

set_option maxRecDepth 100000 in
set_option maxHeartbeats 8000000 in
theorem Lent_any (n : Int) (xs : List (Int × Int)) (a : Option Addr) (cap : Nat) (w : World) (hS : SL w a xs) (hN : a = none → cap = 0) (hl : xs.length ≤ 200) :
    Calls Try.prog 11 #[.agg #[.int .i64 n, .slice a xs.length cap]] w fun e w' => ∃ g c, e = .returned (.agg #[.int .i64 n, .slice (some ⟨g, 0, none⟩) xs.length c]) ∧ xs.length + 1 ≤ c ∧ OR w.heap.size w' (.slice (some ⟨g, 0, none⟩) (xs.length + 1) c) (xs ++ [(-71, 0)]) ∧ RowKit.Below w.heap.size w w' := by
  have mx := mixed
  obtain ⟨i0, hi, hz0, hz1, hz2⟩ := info_parts infoLVar
  obtain ⟨W0, hW0⟩ : ∃ W0, (w.alloc (.cells #[.int .i64 n, .slice a xs.length cap] 24)).alloc (.cells #[.int .i64 0, .slice none 0 0] 24) = W0 := ⟨_, rfl⟩
  have hA : Grew w W0 := by rw [← hW0]; exact ((Grew.refl w).alloc _).alloc _
  have H0 : Hid (W0.heap[w.heap.size]? = some (.cells #[.int .i64 n, .slice a xs.length cap] 24 (0, 0))) := by rw [← hW0]; exact box_at
  have H1 : Hid (W0.heap[w.heap.size + 1]? = some (.cells #[.int .i64 0, .slice none 0 0] 24 (0, 0))) := by rw [← hW0]; exact box_at1
  have HSZ : Hid (W0.heap.size = w.heap.size + 2) := by unfold Hid; rw [← hW0]; simp
  have HW0 := Hid.mk hW0
  have HA := Hid.mk hA
  have HS := Hid.mk (hS.below hA.below)
  have HNn := Hid.mk hN
  obtain ⟨f0, f1, f2, f3, f4⟩ := cells2 H0.out
  clear hS hW0 hA hN
  have HA1 : Hid (∀ (W w' : World), RowKit.Below W0.heap.size W0 W → W.grownBy w' (none : Option Nat) → RowKit.Below W0.heap.size W0 w' ∧ w'.cell? ⟨w.heap.size, 0, none⟩ = some (.int .i64 n) ∧ w'.cell? ⟨w.heap.size, 1, none⟩ = some (.slice a xs.length cap) ∧ w'.frozen? ⟨w.heap.size, 1, none⟩ = false ∧ w'.heap[w.heap.size + 1]? = some (.cells #[.int .i64 0, .slice none 0 0] 24 (0, 0)) ∧ W0.heap.size ≤ w'.heap.size) := fun W w' h1 h2 => by
    have hb : RowKit.Below W0.heap.size W0 w' := h1.grown h2 h1.size (fun k e => by cases e)
    have hz := HSZ.out
    obtain ⟨p0, p1, p2, p3, p4⟩ := cells2 ((hb.block w.heap.size (by omega)).trans H0.out)
    exact ⟨hb, p0, p1, p3, (hb.block (w.heap.size + 1) (by omega)).trans H1.out, hb.size⟩
  have HA2 : Hid (∀ (W w' : World) (v : Value) (gg cap1 : Nat), RowKit.Below W0.heap.size W0 W → OR W0.heap.size W v xs → w'.ownsRow W0.heap.size 32 2 (.slice (some ⟨gg, 0, none⟩) (xs.length + 1) cap1) (xs.length + 1) (flat xs ++ [.int .i64 (-71), .int .i64 0]) → W.grownBy w' v.ownBlock → RowKit.Below W0.heap.size W0 w' ∧ OR W0.heap.size w' (.slice (some ⟨gg, 0, none⟩) (xs.length + 1) cap1) (xs ++ [(-71, 0)]) ∧ w'.cell? ⟨w.heap.size, 0, none⟩ = some (.int .i64 n) ∧ w'.cell? ⟨w.heap.size, 1, none⟩ = some (.slice a xs.length cap) ∧ w'.frozen? ⟨w.heap.size, 1, none⟩ = false ∧ w'.heap[w.heap.size + 1]? = some (.cells #[.int .i64 0, .slice none 0 0] 24 (0, 0)) ∧ W0.heap.size ≤ w'.heap.size ∧ xs.length + 1 ≤ cap1) := fun W w' v gg cap1 h1 h2 h3 h4 => by
    have hb : RowKit.Below W0.heap.size W0 w' := h1.grown h4 h1.size (fun k e => (World.ownsRow.lt h2 k e).1)
    have hz := HSZ.out
    obtain ⟨p0, p1, p2, p3, p4⟩ := cells2 ((hb.block w.heap.size (by omega)).trans H0.out)
    have hO : OR W0.heap.size w' (.slice (some ⟨gg, 0, none⟩) (xs.length + 1) cap1) (xs ++ [(-71, 0)]) := by
      unfold OR
      rw [flat_append, List.length_append]
      simpa [flat] using h3
    have hc := hO.lt
    exact ⟨hb, hO, p0, p1, p3, (hb.block (w.heap.size + 1) (by omega)).trans H1.out, hb.size, hc.2.2.2.2⟩
  have FO : Hid (∀ (w5 : World) (gg cap1 : Nat), OR W0.heap.size w5 (.slice (some ⟨gg, 0, none⟩) (xs.length + 1) cap1) (xs ++ [(-71, 0)]) → OR w.heap.size (((w5.setCell ⟨w.heap.size, 1, none⟩ (.slice (some ⟨gg, 0, none⟩) xs.length cap1)).setCell ⟨w.heap.size + 1, 0, none⟩ (.int .i64 n)).setCell ⟨w.heap.size + 1, 1, none⟩ (.slice (some ⟨gg, 0, none⟩) xs.length cap1)) (.slice (some ⟨gg, 0, none⟩) (xs.length + 1) cap1) (xs ++ [(-71, 0)])) := fun w5 gg cap1 h => by
    have hz := HSZ.out
    exact OR.mono (((h.setBelow (a := ⟨w.heap.size, 1, none⟩) (by dsimp only; omega) _).setBelow (a := ⟨w.heap.size + 1, 0, none⟩) (by dsimp only; omega) _).setBelow (a := ⟨w.heap.size + 1, 1, none⟩) (by dsimp only; omega) _) (by omega)
  have FB : Hid (∀ (w5 : World) (v : Value), RowKit.Below W0.heap.size W0 w5 → RowKit.Below w.heap.size w (((w5.setCell ⟨w.heap.size, 1, none⟩ v).setCell ⟨w.heap.size + 1, 0, none⟩ (.int .i64 n)).setCell ⟨w.heap.size + 1, 1, none⟩ v)) := fun w5 v h =>
    ((((HA.out.below.trans (h.mono HA.out.below.size)).setCell (p := ⟨w.heap.size, 1, none⟩) (Nat.le_refl _) _).setCell (p := ⟨w.heap.size + 1, 0, none⟩) (Nat.le_succ _) _).setCell (p := ⟨w.heap.size + 1, 1, none⟩) (Nat.le_succ _) _)
  have hw0 : w.heap.size + 2 ≤ W0.heap.size := by rw [HSZ.out]; exact Nat.le_refl _
  go_enter Try.func11, Try.ntmps11
  go_wp2_with fail
  rw [HW0.out]
  refine wp_region_held_drew (S := fun _ => True) (by kernel_rfl) trivial (fun hHeld => ?_)
  refine wpAnyH_take (i := 0) (v := ?_) rfl (by kernel_rfl) (by kernel_rfl) (by kernel_rfl) (fun _ _ _ h => h) (Or.inl ⟨by rfl, ?_⟩) (by assumption) ?_
  rotate_left
  · (intro w hSw; (try dsimp only at hSw); go_simp; (try with_reducible rfl))
  refine wpAnyH_take (i := 3) (v := ?_) rfl (by kernel_rfl) (by kernel_rfl) (by kernel_rfl) (fun _ _ _ h => h) (Or.inl ⟨by rfl, ?_⟩) (by assumption) ?_
  rotate_left
  · (intro w hSw; (try dsimp only at hSw); go_simp; (try with_reducible rfl))
  refine wpAnyH_take (i := 6) (v := ?_) rfl (by kernel_rfl) (by kernel_rfl) (by kernel_rfl) (fun _ _ _ h => h) (Or.inl ⟨by rfl, ?_⟩) (by assumption) ?_
  rotate_left
  · (intro w hSw; (try dsimp only at hSw); go_simp; (try with_reducible rfl))
  refine wpAnyH_ready (rs := [1, 4, 7]) (by kernel_rfl) (by simp) ?_
  refine AllReadyH.cons rfl (fun K hK => ?_) (AllReadyH.cons rfl (fun K hK => ?_) (AllReadyH.cons rfl (fun K hK => ?_) AllReadyH.nil))
  · skip
    go_simp
    refine hK.out _ _ trivial (fun hHeld => ?_)
    clear hK K
    refine wpAnyH_ready (rs := [2, 4, 7]) (by kernel_rfl) (by simp) ?_
    refine AllReadyH.cons rfl (fun K hK => ?_) (AllReadyH.cons rfl (fun K hK => ?_) (AllReadyH.cons rfl (fun K hK => ?_) AllReadyH.nil))
    · skip
      refine step_app rfl _ _ rfl W0.heap.size _ [] xs a cap rfl rfl (OR.nil _ _) (HS.out.below (by first | exact (Below.refl _ _).drew | exact ((Below.refl _ _).alloc (Nat.le_refl _) _).drew)) HNn.out (by simp; omega) (by simp) ?_
      intro v4 w4 hO4 hg4
      obtain ⟨hB4, k0, k1, k2, k3, hz4⟩ := HA1.out _ _ (Below.refl _ _).drew hg4
      have HO4 : Hid (OR W0.heap.size w4 v4 xs) := hO4
      have hlt4 : w.heap.size < w4.heap.size := by omega
      clear hO4 hg4
      refine hK.out _ _ trivial (fun hHeld => ?_)
      clear hK K
      refine wpAnyH_ready (rs := [4, 7]) (by kernel_rfl) (by simp) ?_
      refine AllReadyH.cons rfl (fun K hK => ?_) (AllReadyH.cons rfl (fun K hK => ?_) AllReadyH.nil)
      · skip
        go_simp
        refine hK.out _ _ trivial (fun hHeld => ?_)
        clear hK K
        refine wpAnyH_ready (rs := [5, 7]) (by kernel_rfl) (by simp) ?_
        refine AllReadyH.cons rfl (fun K hK => ?_) (AllReadyH.cons rfl (fun K hK => ?_) AllReadyH.nil)
        · skip
          refine step_append_lies _ (by rfl) _ _ _ (by rfl) W0.heap.size 32 i0 _ 2 16 Try.underlying22 hi hz0 hz1 hz2 rfl (by omega) _ xs.length (flat xs) (by rfl) (HO4.out.alloc _) ⟨w4.heap.size, 0, none⟩ 1 1 [.int .i64 (-71), .int .i64 0] (by rfl) (by rfl) (World.news_of_block (cs := #[.int .i64 (-71), .int .i64 0]) (t := 32) (fr := (0, 0)) (alloc_new _ _)) (by simp [Value.oneCell']) (by omega) (by simp [maxLen]; omega) (by omega) (by first | exact hz4 | (simp; omega)) (w4.heap.size + 1) (by first | rfl | simp) ?_
          intro gg cap1 w5 hown1 hgrow hat hlt1
          obtain ⟨hB5, HO5, m0, m1, m2, m3, hz5, hcap⟩ := HA2.out _ _ _ _ _ (hB4.alloc hB4.size _) (HO4.out.alloc _) hown1 hgrow
          have hcap0 : xs.length ≤ cap1 := by omega
          have hlt5 : w.heap.size < w5.heap.size := by omega
          clear hown1 hgrow hat
          refine hK.out _ _ trivial (fun hHeld => ?_)
          clear hK K
          refine wpAnyH_ready (rs := [7]) (by kernel_rfl) (by simp) ?_
          refine AllReadyH.cons rfl (fun K hK => ?_) AllReadyH.nil
          · skip
            go_simp
            refine hK.out _ _ trivial (fun hHeld => ?_)
            clear hK K
            refine wpAnyH_take (i := 8) (v := ?_) rfl (by kernel_rfl) (by kernel_rfl) (by kernel_rfl) (fun _ _ _ h => h) (Or.inl ⟨by rfl, ?_⟩) (by assumption) ?_
            rotate_left
            · (intro w hSw; (try dsimp only at hSw); go_simp; (try with_reducible rfl))
            refine wpAnyH_take (i := 9) (v := ?_) rfl (by kernel_rfl) (by kernel_rfl) (by kernel_rfl) (fun _ _ _ h => h) (Or.inl ⟨by rfl, ?_⟩) (by assumption) ?_
            rotate_left
            · (intro w hSw; (try dsimp only at hSw); go_simp; (try with_reducible rfl))
            refine wpAnyH_take (i := 10) (v := ?_) rfl (by kernel_rfl) (by kernel_rfl) (by kernel_rfl) (fun _ _ _ h => h) (Or.inl ⟨by rfl, ?_⟩) (by assumption) ?_
            rotate_left
            · (intro w hSw; (try dsimp only at hSw); go_simp; (try with_reducible rfl))
            refine wpAnyH_ready (rs := [11]) (by kernel_rfl) (by simp) ?_
            refine AllReadyH.cons rfl (fun K hK => ?_) AllReadyH.nil
            go_simp
            refine hK.out _ _ trivial (fun hHeld => ?_)
            clear hK K
            refine wpAnyH_done (by kernel_rfl) ?_ _
            obtain ⟨r0, r1, r2, r3, r4⟩ := cells2 m3
            go_wp2
            refine bodyPost_ret (v := .agg #[.int .i64 n, .slice (some ⟨gg, 0, none⟩) xs.length cap1]) (by simp [results, Try.results11, go_sem, r0, r1]) rfl ⟨gg, cap1, rfl, hcap, ?_, ?_⟩
            · exact FO.out _ _ _ HO5
            · exact FB.out _ _ hB5
        · skip
          go_simp
          refine hK.out _ _ trivial (fun hHeld => ?_)
          clear hK K
          refine wpAnyH_take (i := 8) (v := ?_) rfl (by kernel_rfl) (by kernel_rfl) (by kernel_rfl) (fun _ _ _ h => h) (Or.inl ⟨by rfl, ?_⟩) (by assumption) ?_
          rotate_left
          · (intro w hSw; (try dsimp only at hSw); go_simp; (try with_reducible rfl))
          refine wpAnyH_ready (rs := [5]) (by kernel_rfl) (by simp) ?_
          refine AllReadyH.cons rfl (fun K hK => ?_) AllReadyH.nil
          · skip
            refine step_append_lies _ (by rfl) _ _ _ (by rfl) W0.heap.size 32 i0 _ 2 16 Try.underlying22 hi hz0 hz1 hz2 rfl (by omega) _ xs.length (flat xs) (by rfl) (HO4.out.alloc _) ⟨w4.heap.size, 0, none⟩ 1 1 [.int .i64 (-71), .int .i64 0] (by rfl) (by rfl) (World.news_of_block (cs := #[.int .i64 (-71), .int .i64 0]) (t := 32) (fr := (0, 0)) (alloc_new _ _)) (by simp [Value.oneCell']) (by omega) (by simp [maxLen]; omega) (by omega) (by first | exact hz4 | (simp; omega)) (w4.heap.size + 1) (by first | rfl | simp) ?_
            intro gg cap1 w5 hown1 hgrow hat hlt1
            obtain ⟨hB5, HO5, m0, m1, m2, m3, hz5, hcap⟩ := HA2.out _ _ _ _ _ (hB4.alloc hB4.size _) (HO4.out.alloc _) hown1 hgrow
            have hcap0 : xs.length ≤ cap1 := by omega
            have hlt5 : w.heap.size < w5.heap.size := by omega
            clear hown1 hgrow hat
            refine hK.out _ _ trivial (fun hHeld => ?_)
            clear hK K
            refine wpAnyH_take (i := 9) (v := ?_) rfl (by kernel_rfl) (by kernel_rfl) (by kernel_rfl) (fun _ _ _ h => h) (Or.inl ⟨by rfl, ?_⟩) (by assumption) ?_
            rotate_left
            · (intro w hSw; (try dsimp only at hSw); go_simp; (try with_reducible rfl))
            refine wpAnyH_take (i := 10) (v := ?_) rfl (by kernel_rfl) (by kernel_rfl) (by kernel_rfl) (fun _ _ _ h => h) (Or.inl ⟨by rfl, ?_⟩) (by assumption) ?_
            rotate_left
            · (intro w hSw; (try dsimp only at hSw); go_simp; (try with_reducible rfl))
            refine wpAnyH_ready (rs := [11]) (by kernel_rfl) (by simp) ?_
            refine AllReadyH.cons rfl (fun K hK => ?_) AllReadyH.nil
            go_simp
            refine hK.out _ _ trivial (fun hHeld => ?_)
            clear hK K
            refine wpAnyH_done (by kernel_rfl) ?_ _
            obtain ⟨r0, r1, r2, r3, r4⟩ := cells2 m3
            go_wp2
            refine bodyPost_ret (v := .agg #[.int .i64 n, .slice (some ⟨gg, 0, none⟩) xs.length cap1]) (by simp [results, Try.results11, go_sem, r0, r1]) rfl ⟨gg, cap1, rfl, hcap, ?_, ?_⟩
            · exact FO.out _ _ _ HO5
            · exact FB.out _ _ hB5
      · skip
        go_simp
        refine hK.out _ _ trivial (fun hHeld => ?_)
        clear hK K
        refine wpAnyH_take (i := 8) (v := ?_) rfl (by kernel_rfl) (by kernel_rfl) (by kernel_rfl) (fun _ _ _ h => h) (Or.inl ⟨by rfl, ?_⟩) (by assumption) ?_
        rotate_left
        · (intro w hSw; (try dsimp only at hSw); go_simp; (try with_reducible rfl))
        refine wpAnyH_ready (rs := [4]) (by kernel_rfl) (by simp) ?_
        refine AllReadyH.cons rfl (fun K hK => ?_) AllReadyH.nil
        · skip
          go_simp
          refine hK.out _ _ trivial (fun hHeld => ?_)
          clear hK K
          refine wpAnyH_ready (rs := [5]) (by kernel_rfl) (by simp) ?_
          refine AllReadyH.cons rfl (fun K hK => ?_) AllReadyH.nil
          · skip
            refine step_append_lies _ (by rfl) _ _ _ (by rfl) W0.heap.size 32 i0 _ 2 16 Try.underlying22 hi hz0 hz1 hz2 rfl (by omega) _ xs.length (flat xs) (by rfl) (HO4.out.alloc _) ⟨w4.heap.size, 0, none⟩ 1 1 [.int .i64 (-71), .int .i64 0] (by rfl) (by rfl) (World.news_of_block (cs := #[.int .i64 (-71), .int .i64 0]) (t := 32) (fr := (0, 0)) (alloc_new _ _)) (by simp [Value.oneCell']) (by omega) (by simp [maxLen]; omega) (by omega) (by first | exact hz4 | (simp; omega)) (w4.heap.size + 1) (by first | rfl | simp) ?_
            intro gg cap1 w5 hown1 hgrow hat hlt1
            obtain ⟨hB5, HO5, m0, m1, m2, m3, hz5, hcap⟩ := HA2.out _ _ _ _ _ (hB4.alloc hB4.size _) (HO4.out.alloc _) hown1 hgrow
            have hcap0 : xs.length ≤ cap1 := by omega
            have hlt5 : w.heap.size < w5.heap.size := by omega
            clear hown1 hgrow hat
            refine hK.out _ _ trivial (fun hHeld => ?_)
            clear hK K
            refine wpAnyH_take (i := 9) (v := ?_) rfl (by kernel_rfl) (by kernel_rfl) (by kernel_rfl) (fun _ _ _ h => h) (Or.inl ⟨by rfl, ?_⟩) (by assumption) ?_
            rotate_left
            · (intro w hSw; (try dsimp only at hSw); go_simp; (try with_reducible rfl))
            refine wpAnyH_take (i := 10) (v := ?_) rfl (by kernel_rfl) (by kernel_rfl) (by kernel_rfl) (fun _ _ _ h => h) (Or.inl ⟨by rfl, ?_⟩) (by assumption) ?_
            rotate_left
            · (intro w hSw; (try dsimp only at hSw); go_simp; (try with_reducible rfl))
            refine wpAnyH_ready (rs := [11]) (by kernel_rfl) (by simp) ?_
            refine AllReadyH.cons rfl (fun K hK => ?_) AllReadyH.nil
            go_simp
            refine hK.out _ _ trivial (fun hHeld => ?_)
            clear hK K
            refine wpAnyH_done (by kernel_rfl) ?_ _
            obtain ⟨r0, r1, r2, r3, r4⟩ := cells2 m3
            go_wp2
            refine bodyPost_ret (v := .agg #[.int .i64 n, .slice (some ⟨gg, 0, none⟩) xs.length cap1]) (by simp [results, Try.results11, go_sem, r0, r1]) rfl ⟨gg, cap1, rfl, hcap, ?_, ?_⟩
            · exact FO.out _ _ _ HO5
            · exact FB.out _ _ hB5
    · skip
      go_simp
      refine hK.out _ _ trivial (fun hHeld => ?_)
      clear hK K
      refine wpAnyH_ready (rs := [2, 7]) (by kernel_rfl) (by simp) ?_
      refine AllReadyH.cons rfl (fun K hK => ?_) (AllReadyH.cons rfl (fun K hK => ?_) AllReadyH.nil)
      · skip
        refine step_app rfl _ _ rfl W0.heap.size _ [] xs a cap rfl rfl (OR.nil _ _) (HS.out.below (by first | exact (Below.refl _ _).drew | exact ((Below.refl _ _).alloc (Nat.le_refl _) _).drew)) HNn.out (by simp; omega) (by simp) ?_
        intro v4 w4 hO4 hg4
        obtain ⟨hB4, k0, k1, k2, k3, hz4⟩ := HA1.out _ _ ((Below.refl _ _).alloc (Nat.le_refl _) _).drew hg4
        have HX4 : Hid (w4.heap[W0.heap.size]? = some (.cells #[.int .i64 (-71), .int .i64 0] 32 (0, 0))) := (hg4.block W0.heap.size (by simp) (fun e => by have e' : some W0.heap.size = (none : Option Nat) := e; cases e')).trans (alloc_new W0 _)
        have HO4 : Hid (OR W0.heap.size w4 v4 xs) := hO4
        have hlt4 : w.heap.size < w4.heap.size := by omega
        clear hO4 hg4
        refine hK.out _ _ trivial (fun hHeld => ?_)
        clear hK K
        refine wpAnyH_ready (rs := [5, 7]) (by kernel_rfl) (by simp) ?_
        refine AllReadyH.cons rfl (fun K hK => ?_) (AllReadyH.cons rfl (fun K hK => ?_) AllReadyH.nil)
        · skip
          refine step_append_lies _ (by rfl) _ _ _ (by rfl) W0.heap.size 32 i0 _ 2 16 Try.underlying22 hi hz0 hz1 hz2 rfl (by omega) _ xs.length (flat xs) (by rfl) (show World.ownsRow w4 W0.heap.size 32 2 v4 xs.length (flat xs) from HO4.out) ⟨W0.heap.size, 0, none⟩ 1 1 [.int .i64 (-71), .int .i64 0] (by rfl) (by rfl) (World.news_of_block (cs := #[.int .i64 (-71), .int .i64 0]) (t := 32) (fr := (0, 0)) (HX4.out)) (by simp [Value.oneCell']) (by omega) (by simp [maxLen]; omega) (by omega) (by first | exact hz4 | (simp; omega)) (w4.heap.size) (by first | rfl | simp) ?_
          intro gg cap1 w5 hown1 hgrow hat hlt1
          obtain ⟨hB5, HO5, m0, m1, m2, m3, hz5, hcap⟩ := HA2.out _ _ _ _ _ (hB4) (HO4.out) hown1 hgrow
          have hcap0 : xs.length ≤ cap1 := by omega
          have hlt5 : w.heap.size < w5.heap.size := by omega
          clear hown1 hgrow hat
          refine hK.out _ _ trivial (fun hHeld => ?_)
          clear hK K
          refine wpAnyH_ready (rs := [7]) (by kernel_rfl) (by simp) ?_
          refine AllReadyH.cons rfl (fun K hK => ?_) AllReadyH.nil
          · skip
            go_simp
            refine hK.out _ _ trivial (fun hHeld => ?_)
            clear hK K
            refine wpAnyH_take (i := 8) (v := ?_) rfl (by kernel_rfl) (by kernel_rfl) (by kernel_rfl) (fun _ _ _ h => h) (Or.inl ⟨by rfl, ?_⟩) (by assumption) ?_
            rotate_left
            · (intro w hSw; (try dsimp only at hSw); go_simp; (try with_reducible rfl))
            refine wpAnyH_take (i := 9) (v := ?_) rfl (by kernel_rfl) (by kernel_rfl) (by kernel_rfl) (fun _ _ _ h => h) (Or.inl ⟨by rfl, ?_⟩) (by assumption) ?_
            rotate_left
            · (intro w hSw; (try dsimp only at hSw); go_simp; (try with_reducible rfl))
            refine wpAnyH_take (i := 10) (v := ?_) rfl (by kernel_rfl) (by kernel_rfl) (by kernel_rfl) (fun _ _ _ h => h) (Or.inl ⟨by rfl, ?_⟩) (by assumption) ?_
            rotate_left
            · (intro w hSw; (try dsimp only at hSw); go_simp; (try with_reducible rfl))
            refine wpAnyH_ready (rs := [11]) (by kernel_rfl) (by simp) ?_
            refine AllReadyH.cons rfl (fun K hK => ?_) AllReadyH.nil
            go_simp
            refine hK.out _ _ trivial (fun hHeld => ?_)
            clear hK K
            refine wpAnyH_done (by kernel_rfl) ?_ _
            obtain ⟨r0, r1, r2, r3, r4⟩ := cells2 m3
            go_wp2
            refine bodyPost_ret (v := .agg #[.int .i64 n, .slice (some ⟨gg, 0, none⟩) xs.length cap1]) (by simp [results, Try.results11, go_sem, r0, r1]) rfl ⟨gg, cap1, rfl, hcap, ?_, ?_⟩
            · exact FO.out _ _ _ HO5
            · exact FB.out _ _ hB5
        · skip
          go_simp
          refine hK.out _ _ trivial (fun hHeld => ?_)
          clear hK K
          refine wpAnyH_take (i := 8) (v := ?_) rfl (by kernel_rfl) (by kernel_rfl) (by kernel_rfl) (fun _ _ _ h => h) (Or.inl ⟨by rfl, ?_⟩) (by assumption) ?_
          rotate_left
          · (intro w hSw; (try dsimp only at hSw); go_simp; (try with_reducible rfl))
          refine wpAnyH_ready (rs := [5]) (by kernel_rfl) (by simp) ?_
          refine AllReadyH.cons rfl (fun K hK => ?_) AllReadyH.nil
          · skip
            refine step_append_lies _ (by rfl) _ _ _ (by rfl) W0.heap.size 32 i0 _ 2 16 Try.underlying22 hi hz0 hz1 hz2 rfl (by omega) _ xs.length (flat xs) (by rfl) (show World.ownsRow w4 W0.heap.size 32 2 v4 xs.length (flat xs) from HO4.out) ⟨W0.heap.size, 0, none⟩ 1 1 [.int .i64 (-71), .int .i64 0] (by rfl) (by rfl) (World.news_of_block (cs := #[.int .i64 (-71), .int .i64 0]) (t := 32) (fr := (0, 0)) (HX4.out)) (by simp [Value.oneCell']) (by omega) (by simp [maxLen]; omega) (by omega) (by first | exact hz4 | (simp; omega)) (w4.heap.size) (by first | rfl | simp) ?_
            intro gg cap1 w5 hown1 hgrow hat hlt1
            obtain ⟨hB5, HO5, m0, m1, m2, m3, hz5, hcap⟩ := HA2.out _ _ _ _ _ (hB4) (HO4.out) hown1 hgrow
            have hcap0 : xs.length ≤ cap1 := by omega
            have hlt5 : w.heap.size < w5.heap.size := by omega
            clear hown1 hgrow hat
            refine hK.out _ _ trivial (fun hHeld => ?_)
            clear hK K
            refine wpAnyH_take (i := 9) (v := ?_) rfl (by kernel_rfl) (by kernel_rfl) (by kernel_rfl) (fun _ _ _ h => h) (Or.inl ⟨by rfl, ?_⟩) (by assumption) ?_
            rotate_left
            · (intro w hSw; (try dsimp only at hSw); go_simp; (try with_reducible rfl))
            refine wpAnyH_take (i := 10) (v := ?_) rfl (by kernel_rfl) (by kernel_rfl) (by kernel_rfl) (fun _ _ _ h => h) (Or.inl ⟨by rfl, ?_⟩) (by assumption) ?_
            rotate_left
            · (intro w hSw; (try dsimp only at hSw); go_simp; (try with_reducible rfl))
            refine wpAnyH_ready (rs := [11]) (by kernel_rfl) (by simp) ?_
            refine AllReadyH.cons rfl (fun K hK => ?_) AllReadyH.nil
            go_simp
            refine hK.out _ _ trivial (fun hHeld => ?_)
            clear hK K
            refine wpAnyH_done (by kernel_rfl) ?_ _
            obtain ⟨r0, r1, r2, r3, r4⟩ := cells2 m3
            go_wp2
            refine bodyPost_ret (v := .agg #[.int .i64 n, .slice (some ⟨gg, 0, none⟩) xs.length cap1]) (by simp [results, Try.results11, go_sem, r0, r1]) rfl ⟨gg, cap1, rfl, hcap, ?_, ?_⟩
            · exact FO.out _ _ _ HO5
            · exact FB.out _ _ hB5
      · skip
        go_simp
        refine hK.out _ _ trivial (fun hHeld => ?_)
        clear hK K
        refine wpAnyH_take (i := 8) (v := ?_) rfl (by kernel_rfl) (by kernel_rfl) (by kernel_rfl) (fun _ _ _ h => h) (Or.inl ⟨by rfl, ?_⟩) (by assumption) ?_
        rotate_left
        · (intro w hSw; (try dsimp only at hSw); go_simp; (try with_reducible rfl))
        refine wpAnyH_ready (rs := [2]) (by kernel_rfl) (by simp) ?_
        refine AllReadyH.cons rfl (fun K hK => ?_) AllReadyH.nil
        · skip
          refine step_app rfl _ _ rfl W0.heap.size _ [] xs a cap rfl rfl (OR.nil _ _) (HS.out.below (by first | exact (Below.refl _ _).drew | exact ((Below.refl _ _).alloc (Nat.le_refl _) _).drew)) HNn.out (by simp; omega) (by simp) ?_
          intro v4 w4 hO4 hg4
          obtain ⟨hB4, k0, k1, k2, k3, hz4⟩ := HA1.out _ _ ((Below.refl _ _).alloc (Nat.le_refl _) _).drew hg4
          have HX4 : Hid (w4.heap[W0.heap.size]? = some (.cells #[.int .i64 (-71), .int .i64 0] 32 (0, 0))) := (hg4.block W0.heap.size (by simp) (fun e => by have e' : some W0.heap.size = (none : Option Nat) := e; cases e')).trans (alloc_new W0 _)
          have HO4 : Hid (OR W0.heap.size w4 v4 xs) := hO4
          have hlt4 : w.heap.size < w4.heap.size := by omega
          clear hO4 hg4
          refine hK.out _ _ trivial (fun hHeld => ?_)
          clear hK K
          refine wpAnyH_ready (rs := [5]) (by kernel_rfl) (by simp) ?_
          refine AllReadyH.cons rfl (fun K hK => ?_) AllReadyH.nil
          · skip
            refine step_append_lies _ (by rfl) _ _ _ (by rfl) W0.heap.size 32 i0 _ 2 16 Try.underlying22 hi hz0 hz1 hz2 rfl (by omega) _ xs.length (flat xs) (by rfl) (show World.ownsRow w4 W0.heap.size 32 2 v4 xs.length (flat xs) from HO4.out) ⟨W0.heap.size, 0, none⟩ 1 1 [.int .i64 (-71), .int .i64 0] (by rfl) (by rfl) (World.news_of_block (cs := #[.int .i64 (-71), .int .i64 0]) (t := 32) (fr := (0, 0)) (HX4.out)) (by simp [Value.oneCell']) (by omega) (by simp [maxLen]; omega) (by omega) (by first | exact hz4 | (simp; omega)) (w4.heap.size) (by first | rfl | simp) ?_
            intro gg cap1 w5 hown1 hgrow hat hlt1
            obtain ⟨hB5, HO5, m0, m1, m2, m3, hz5, hcap⟩ := HA2.out _ _ _ _ _ (hB4) (HO4.out) hown1 hgrow
            have hcap0 : xs.length ≤ cap1 := by omega
            have hlt5 : w.heap.size < w5.heap.size := by omega
            clear hown1 hgrow hat
            refine hK.out _ _ trivial (fun hHeld => ?_)
            clear hK K
            refine wpAnyH_take (i := 9) (v := ?_) rfl (by kernel_rfl) (by kernel_rfl) (by kernel_rfl) (fun _ _ _ h => h) (Or.inl ⟨by rfl, ?_⟩) (by assumption) ?_
            rotate_left
            · (intro w hSw; (try dsimp only at hSw); go_simp; (try with_reducible rfl))
            refine wpAnyH_take (i := 10) (v := ?_) rfl (by kernel_rfl) (by kernel_rfl) (by kernel_rfl) (fun _ _ _ h => h) (Or.inl ⟨by rfl, ?_⟩) (by assumption) ?_
            rotate_left
            · (intro w hSw; (try dsimp only at hSw); go_simp; (try with_reducible rfl))
            refine wpAnyH_ready (rs := [11]) (by kernel_rfl) (by simp) ?_
            refine AllReadyH.cons rfl (fun K hK => ?_) AllReadyH.nil
            go_simp
            refine hK.out _ _ trivial (fun hHeld => ?_)
            clear hK K
            refine wpAnyH_done (by kernel_rfl) ?_ _
            obtain ⟨r0, r1, r2, r3, r4⟩ := cells2 m3
            go_wp2
            refine bodyPost_ret (v := .agg #[.int .i64 n, .slice (some ⟨gg, 0, none⟩) xs.length cap1]) (by simp [results, Try.results11, go_sem, r0, r1]) rfl ⟨gg, cap1, rfl, hcap, ?_, ?_⟩
            · exact FO.out _ _ _ HO5
            · exact FB.out _ _ hB5
    · skip
      go_simp
      refine hK.out _ _ trivial (fun hHeld => ?_)
      clear hK K
      refine wpAnyH_take (i := 8) (v := ?_) rfl (by kernel_rfl) (by kernel_rfl) (by kernel_rfl) (fun _ _ _ h => h) (Or.inl ⟨by rfl, ?_⟩) (by assumption) ?_
      rotate_left
      · (intro w hSw; (try dsimp only at hSw); go_simp; (try with_reducible rfl))
      refine wpAnyH_ready (rs := [2, 4]) (by kernel_rfl) (by simp) ?_
      refine AllReadyH.cons rfl (fun K hK => ?_) (AllReadyH.cons rfl (fun K hK => ?_) AllReadyH.nil)
      · skip
        refine step_app rfl _ _ rfl W0.heap.size _ [] xs a cap rfl rfl (OR.nil _ _) (HS.out.below (by first | exact (Below.refl _ _).drew | exact ((Below.refl _ _).alloc (Nat.le_refl _) _).drew)) HNn.out (by simp; omega) (by simp) ?_
        intro v4 w4 hO4 hg4
        obtain ⟨hB4, k0, k1, k2, k3, hz4⟩ := HA1.out _ _ (Below.refl _ _).drew hg4
        have HO4 : Hid (OR W0.heap.size w4 v4 xs) := hO4
        have hlt4 : w.heap.size < w4.heap.size := by omega
        clear hO4 hg4
        refine hK.out _ _ trivial (fun hHeld => ?_)
        clear hK K
        refine wpAnyH_ready (rs := [4]) (by kernel_rfl) (by simp) ?_
        refine AllReadyH.cons rfl (fun K hK => ?_) AllReadyH.nil
        · skip
          go_simp
          refine hK.out _ _ trivial (fun hHeld => ?_)
          clear hK K
          refine wpAnyH_ready (rs := [5]) (by kernel_rfl) (by simp) ?_
          refine AllReadyH.cons rfl (fun K hK => ?_) AllReadyH.nil
          · skip
            refine step_append_lies _ (by rfl) _ _ _ (by rfl) W0.heap.size 32 i0 _ 2 16 Try.underlying22 hi hz0 hz1 hz2 rfl (by omega) _ xs.length (flat xs) (by rfl) (HO4.out.alloc _) ⟨w4.heap.size, 0, none⟩ 1 1 [.int .i64 (-71), .int .i64 0] (by rfl) (by rfl) (World.news_of_block (cs := #[.int .i64 (-71), .int .i64 0]) (t := 32) (fr := (0, 0)) (alloc_new _ _)) (by simp [Value.oneCell']) (by omega) (by simp [maxLen]; omega) (by omega) (by first | exact hz4 | (simp; omega)) (w4.heap.size + 1) (by first | rfl | simp) ?_
            intro gg cap1 w5 hown1 hgrow hat hlt1
            obtain ⟨hB5, HO5, m0, m1, m2, m3, hz5, hcap⟩ := HA2.out _ _ _ _ _ (hB4.alloc hB4.size _) (HO4.out.alloc _) hown1 hgrow
            have hcap0 : xs.length ≤ cap1 := by omega
            have hlt5 : w.heap.size < w5.heap.size := by omega
            clear hown1 hgrow hat
            refine hK.out _ _ trivial (fun hHeld => ?_)
            clear hK K
            refine wpAnyH_take (i := 9) (v := ?_) rfl (by kernel_rfl) (by kernel_rfl) (by kernel_rfl) (fun _ _ _ h => h) (Or.inl ⟨by rfl, ?_⟩) (by assumption) ?_
            rotate_left
            · (intro w hSw; (try dsimp only at hSw); go_simp; (try with_reducible rfl))
            refine wpAnyH_take (i := 10) (v := ?_) rfl (by kernel_rfl) (by kernel_rfl) (by kernel_rfl) (fun _ _ _ h => h) (Or.inl ⟨by rfl, ?_⟩) (by assumption) ?_
            rotate_left
            · (intro w hSw; (try dsimp only at hSw); go_simp; (try with_reducible rfl))
            refine wpAnyH_ready (rs := [11]) (by kernel_rfl) (by simp) ?_
            refine AllReadyH.cons rfl (fun K hK => ?_) AllReadyH.nil
            go_simp
            refine hK.out _ _ trivial (fun hHeld => ?_)
            clear hK K
            refine wpAnyH_done (by kernel_rfl) ?_ _
            obtain ⟨r0, r1, r2, r3, r4⟩ := cells2 m3
            go_wp2
            refine bodyPost_ret (v := .agg #[.int .i64 n, .slice (some ⟨gg, 0, none⟩) xs.length cap1]) (by simp [results, Try.results11, go_sem, r0, r1]) rfl ⟨gg, cap1, rfl, hcap, ?_, ?_⟩
            · exact FO.out _ _ _ HO5
            · exact FB.out _ _ hB5
      · skip
        go_simp
        refine hK.out _ _ trivial (fun hHeld => ?_)
        clear hK K
        refine wpAnyH_ready (rs := [2]) (by kernel_rfl) (by simp) ?_
        refine AllReadyH.cons rfl (fun K hK => ?_) AllReadyH.nil
        · skip
          refine step_app rfl _ _ rfl W0.heap.size _ [] xs a cap rfl rfl (OR.nil _ _) (HS.out.below (by first | exact (Below.refl _ _).drew | exact ((Below.refl _ _).alloc (Nat.le_refl _) _).drew)) HNn.out (by simp; omega) (by simp) ?_
          intro v4 w4 hO4 hg4
          obtain ⟨hB4, k0, k1, k2, k3, hz4⟩ := HA1.out _ _ ((Below.refl _ _).alloc (Nat.le_refl _) _).drew hg4
          have HX4 : Hid (w4.heap[W0.heap.size]? = some (.cells #[.int .i64 (-71), .int .i64 0] 32 (0, 0))) := (hg4.block W0.heap.size (by simp) (fun e => by have e' : some W0.heap.size = (none : Option Nat) := e; cases e')).trans (alloc_new W0 _)
          have HO4 : Hid (OR W0.heap.size w4 v4 xs) := hO4
          have hlt4 : w.heap.size < w4.heap.size := by omega
          clear hO4 hg4
          refine hK.out _ _ trivial (fun hHeld => ?_)
          clear hK K
          refine wpAnyH_ready (rs := [5]) (by kernel_rfl) (by simp) ?_
          refine AllReadyH.cons rfl (fun K hK => ?_) AllReadyH.nil
          · skip
            refine step_append_lies _ (by rfl) _ _ _ (by rfl) W0.heap.size 32 i0 _ 2 16 Try.underlying22 hi hz0 hz1 hz2 rfl (by omega) _ xs.length (flat xs) (by rfl) (show World.ownsRow w4 W0.heap.size 32 2 v4 xs.length (flat xs) from HO4.out) ⟨W0.heap.size, 0, none⟩ 1 1 [.int .i64 (-71), .int .i64 0] (by rfl) (by rfl) (World.news_of_block (cs := #[.int .i64 (-71), .int .i64 0]) (t := 32) (fr := (0, 0)) (HX4.out)) (by simp [Value.oneCell']) (by omega) (by simp [maxLen]; omega) (by omega) (by first | exact hz4 | (simp; omega)) (w4.heap.size) (by first | rfl | simp) ?_
            intro gg cap1 w5 hown1 hgrow hat hlt1
            obtain ⟨hB5, HO5, m0, m1, m2, m3, hz5, hcap⟩ := HA2.out _ _ _ _ _ (hB4) (HO4.out) hown1 hgrow
            have hcap0 : xs.length ≤ cap1 := by omega
            have hlt5 : w.heap.size < w5.heap.size := by omega
            clear hown1 hgrow hat
            refine hK.out _ _ trivial (fun hHeld => ?_)
            clear hK K
            refine wpAnyH_take (i := 9) (v := ?_) rfl (by kernel_rfl) (by kernel_rfl) (by kernel_rfl) (fun _ _ _ h => h) (Or.inl ⟨by rfl, ?_⟩) (by assumption) ?_
            rotate_left
            · (intro w hSw; (try dsimp only at hSw); go_simp; (try with_reducible rfl))
            refine wpAnyH_take (i := 10) (v := ?_) rfl (by kernel_rfl) (by kernel_rfl) (by kernel_rfl) (fun _ _ _ h => h) (Or.inl ⟨by rfl, ?_⟩) (by assumption) ?_
            rotate_left
            · (intro w hSw; (try dsimp only at hSw); go_simp; (try with_reducible rfl))
            refine wpAnyH_ready (rs := [11]) (by kernel_rfl) (by simp) ?_
            refine AllReadyH.cons rfl (fun K hK => ?_) AllReadyH.nil
            go_simp
            refine hK.out _ _ trivial (fun hHeld => ?_)
            clear hK K
            refine wpAnyH_done (by kernel_rfl) ?_ _
            obtain ⟨r0, r1, r2, r3, r4⟩ := cells2 m3
            go_wp2
            refine bodyPost_ret (v := .agg #[.int .i64 n, .slice (some ⟨gg, 0, none⟩) xs.length cap1]) (by simp [results, Try.results11, go_sem, r0, r1]) rfl ⟨gg, cap1, rfl, hcap, ?_, ?_⟩
            · exact FO.out _ _ _ HO5
            · exact FB.out _ _ hB5
  · skip
    go_simp
    refine hK.out _ _ trivial (fun hHeld => ?_)
    clear hK K
    refine wpAnyH_ready (rs := [1, 7]) (by kernel_rfl) (by simp) ?_
    refine AllReadyH.cons rfl (fun K hK => ?_) (AllReadyH.cons rfl (fun K hK => ?_) AllReadyH.nil)
    · skip
      go_simp
      refine hK.out _ _ trivial (fun hHeld => ?_)
      clear hK K
      refine wpAnyH_ready (rs := [2, 7]) (by kernel_rfl) (by simp) ?_
      refine AllReadyH.cons rfl (fun K hK => ?_) (AllReadyH.cons rfl (fun K hK => ?_) AllReadyH.nil)
      · skip
        refine step_app rfl _ _ rfl W0.heap.size _ [] xs a cap rfl rfl (OR.nil _ _) (HS.out.below (by first | exact (Below.refl _ _).drew | exact ((Below.refl _ _).alloc (Nat.le_refl _) _).drew)) HNn.out (by simp; omega) (by simp) ?_
        intro v4 w4 hO4 hg4
        obtain ⟨hB4, k0, k1, k2, k3, hz4⟩ := HA1.out _ _ ((Below.refl _ _).alloc (Nat.le_refl _) _).drew hg4
        have HX4 : Hid (w4.heap[W0.heap.size]? = some (.cells #[.int .i64 (-71), .int .i64 0] 32 (0, 0))) := (hg4.block W0.heap.size (by simp) (fun e => by have e' : some W0.heap.size = (none : Option Nat) := e; cases e')).trans (alloc_new W0 _)
        have HO4 : Hid (OR W0.heap.size w4 v4 xs) := hO4
        have hlt4 : w.heap.size < w4.heap.size := by omega
        clear hO4 hg4
        refine hK.out _ _ trivial (fun hHeld => ?_)
        clear hK K
        refine wpAnyH_ready (rs := [5, 7]) (by kernel_rfl) (by simp) ?_
        refine AllReadyH.cons rfl (fun K hK => ?_) (AllReadyH.cons rfl (fun K hK => ?_) AllReadyH.nil)
        · skip
          refine step_append_lies _ (by rfl) _ _ _ (by rfl) W0.heap.size 32 i0 _ 2 16 Try.underlying22 hi hz0 hz1 hz2 rfl (by omega) _ xs.length (flat xs) (by rfl) (show World.ownsRow w4 W0.heap.size 32 2 v4 xs.length (flat xs) from HO4.out) ⟨W0.heap.size, 0, none⟩ 1 1 [.int .i64 (-71), .int .i64 0] (by rfl) (by rfl) (World.news_of_block (cs := #[.int .i64 (-71), .int .i64 0]) (t := 32) (fr := (0, 0)) (HX4.out)) (by simp [Value.oneCell']) (by omega) (by simp [maxLen]; omega) (by omega) (by first | exact hz4 | (simp; omega)) (w4.heap.size) (by first | rfl | simp) ?_
          intro gg cap1 w5 hown1 hgrow hat hlt1
          obtain ⟨hB5, HO5, m0, m1, m2, m3, hz5, hcap⟩ := HA2.out _ _ _ _ _ (hB4) (HO4.out) hown1 hgrow
          have hcap0 : xs.length ≤ cap1 := by omega
          have hlt5 : w.heap.size < w5.heap.size := by omega
          clear hown1 hgrow hat
          refine hK.out _ _ trivial (fun hHeld => ?_)
          clear hK K
          refine wpAnyH_ready (rs := [7]) (by kernel_rfl) (by simp) ?_
          refine AllReadyH.cons rfl (fun K hK => ?_) AllReadyH.nil
          · skip
            go_simp
            refine hK.out _ _ trivial (fun hHeld => ?_)
            clear hK K
            refine wpAnyH_take (i := 8) (v := ?_) rfl (by kernel_rfl) (by kernel_rfl) (by kernel_rfl) (fun _ _ _ h => h) (Or.inl ⟨by rfl, ?_⟩) (by assumption) ?_
            rotate_left
            · (intro w hSw; (try dsimp only at hSw); go_simp; (try with_reducible rfl))
            refine wpAnyH_take (i := 9) (v := ?_) rfl (by kernel_rfl) (by kernel_rfl) (by kernel_rfl) (fun _ _ _ h => h) (Or.inl ⟨by rfl, ?_⟩) (by assumption) ?_
            rotate_left
            · (intro w hSw; (try dsimp only at hSw); go_simp; (try with_reducible rfl))
            refine wpAnyH_take (i := 10) (v := ?_) rfl (by kernel_rfl) (by kernel_rfl) (by kernel_rfl) (fun _ _ _ h => h) (Or.inl ⟨by rfl, ?_⟩) (by assumption) ?_
            rotate_left
            · (intro w hSw; (try dsimp only at hSw); go_simp; (try with_reducible rfl))
            refine wpAnyH_ready (rs := [11]) (by kernel_rfl) (by simp) ?_
            refine AllReadyH.cons rfl (fun K hK => ?_) AllReadyH.nil
            go_simp
            refine hK.out _ _ trivial (fun hHeld => ?_)
            clear hK K
            refine wpAnyH_done (by kernel_rfl) ?_ _
            obtain ⟨r0, r1, r2, r3, r4⟩ := cells2 m3
            go_wp2
            refine bodyPost_ret (v := .agg #[.int .i64 n, .slice (some ⟨gg, 0, none⟩) xs.length cap1]) (by simp [results, Try.results11, go_sem, r0, r1]) rfl ⟨gg, cap1, rfl, hcap, ?_, ?_⟩
            · exact FO.out _ _ _ HO5
            · exact FB.out _ _ hB5
        · skip
          go_simp
          refine hK.out _ _ trivial (fun hHeld => ?_)
          clear hK K
          refine wpAnyH_take (i := 8) (v := ?_) rfl (by kernel_rfl) (by kernel_rfl) (by kernel_rfl) (fun _ _ _ h => h) (Or.inl ⟨by rfl, ?_⟩) (by assumption) ?_
          rotate_left
          · (intro w hSw; (try dsimp only at hSw); go_simp; (try with_reducible rfl))
          refine wpAnyH_ready (rs := [5]) (by kernel_rfl) (by simp) ?_
          refine AllReadyH.cons rfl (fun K hK => ?_) AllReadyH.nil
          · skip
            refine step_append_lies _ (by rfl) _ _ _ (by rfl) W0.heap.size 32 i0 _ 2 16 Try.underlying22 hi hz0 hz1 hz2 rfl (by omega) _ xs.length (flat xs) (by rfl) (show World.ownsRow w4 W0.heap.size 32 2 v4 xs.length (flat xs) from HO4.out) ⟨W0.heap.size, 0, none⟩ 1 1 [.int .i64 (-71), .int .i64 0] (by rfl) (by rfl) (World.news_of_block (cs := #[.int .i64 (-71), .int .i64 0]) (t := 32) (fr := (0, 0)) (HX4.out)) (by simp [Value.oneCell']) (by omega) (by simp [maxLen]; omega) (by omega) (by first | exact hz4 | (simp; omega)) (w4.heap.size) (by first | rfl | simp) ?_
            intro gg cap1 w5 hown1 hgrow hat hlt1
            obtain ⟨hB5, HO5, m0, m1, m2, m3, hz5, hcap⟩ := HA2.out _ _ _ _ _ (hB4) (HO4.out) hown1 hgrow
            have hcap0 : xs.length ≤ cap1 := by omega
            have hlt5 : w.heap.size < w5.heap.size := by omega
            clear hown1 hgrow hat
            refine hK.out _ _ trivial (fun hHeld => ?_)
            clear hK K
            refine wpAnyH_take (i := 9) (v := ?_) rfl (by kernel_rfl) (by kernel_rfl) (by kernel_rfl) (fun _ _ _ h => h) (Or.inl ⟨by rfl, ?_⟩) (by assumption) ?_
            rotate_left
            · (intro w hSw; (try dsimp only at hSw); go_simp; (try with_reducible rfl))
            refine wpAnyH_take (i := 10) (v := ?_) rfl (by kernel_rfl) (by kernel_rfl) (by kernel_rfl) (fun _ _ _ h => h) (Or.inl ⟨by rfl, ?_⟩) (by assumption) ?_
            rotate_left
            · (intro w hSw; (try dsimp only at hSw); go_simp; (try with_reducible rfl))
            refine wpAnyH_ready (rs := [11]) (by kernel_rfl) (by simp) ?_
            refine AllReadyH.cons rfl (fun K hK => ?_) AllReadyH.nil
            go_simp
            refine hK.out _ _ trivial (fun hHeld => ?_)
            clear hK K
            refine wpAnyH_done (by kernel_rfl) ?_ _
            obtain ⟨r0, r1, r2, r3, r4⟩ := cells2 m3
            go_wp2
            refine bodyPost_ret (v := .agg #[.int .i64 n, .slice (some ⟨gg, 0, none⟩) xs.length cap1]) (by simp [results, Try.results11, go_sem, r0, r1]) rfl ⟨gg, cap1, rfl, hcap, ?_, ?_⟩
            · exact FO.out _ _ _ HO5
            · exact FB.out _ _ hB5
      · skip
        go_simp
        refine hK.out _ _ trivial (fun hHeld => ?_)
        clear hK K
        refine wpAnyH_take (i := 8) (v := ?_) rfl (by kernel_rfl) (by kernel_rfl) (by kernel_rfl) (fun _ _ _ h => h) (Or.inl ⟨by rfl, ?_⟩) (by assumption) ?_
        rotate_left
        · (intro w hSw; (try dsimp only at hSw); go_simp; (try with_reducible rfl))
        refine wpAnyH_ready (rs := [2]) (by kernel_rfl) (by simp) ?_
        refine AllReadyH.cons rfl (fun K hK => ?_) AllReadyH.nil
        · skip
          refine step_app rfl _ _ rfl W0.heap.size _ [] xs a cap rfl rfl (OR.nil _ _) (HS.out.below (by first | exact (Below.refl _ _).drew | exact ((Below.refl _ _).alloc (Nat.le_refl _) _).drew)) HNn.out (by simp; omega) (by simp) ?_
          intro v4 w4 hO4 hg4
          obtain ⟨hB4, k0, k1, k2, k3, hz4⟩ := HA1.out _ _ ((Below.refl _ _).alloc (Nat.le_refl _) _).drew hg4
          have HX4 : Hid (w4.heap[W0.heap.size]? = some (.cells #[.int .i64 (-71), .int .i64 0] 32 (0, 0))) := (hg4.block W0.heap.size (by simp) (fun e => by have e' : some W0.heap.size = (none : Option Nat) := e; cases e')).trans (alloc_new W0 _)
          have HO4 : Hid (OR W0.heap.size w4 v4 xs) := hO4
          have hlt4 : w.heap.size < w4.heap.size := by omega
          clear hO4 hg4
          refine hK.out _ _ trivial (fun hHeld => ?_)
          clear hK K
          refine wpAnyH_ready (rs := [5]) (by kernel_rfl) (by simp) ?_
          refine AllReadyH.cons rfl (fun K hK => ?_) AllReadyH.nil
          · skip
            refine step_append_lies _ (by rfl) _ _ _ (by rfl) W0.heap.size 32 i0 _ 2 16 Try.underlying22 hi hz0 hz1 hz2 rfl (by omega) _ xs.length (flat xs) (by rfl) (show World.ownsRow w4 W0.heap.size 32 2 v4 xs.length (flat xs) from HO4.out) ⟨W0.heap.size, 0, none⟩ 1 1 [.int .i64 (-71), .int .i64 0] (by rfl) (by rfl) (World.news_of_block (cs := #[.int .i64 (-71), .int .i64 0]) (t := 32) (fr := (0, 0)) (HX4.out)) (by simp [Value.oneCell']) (by omega) (by simp [maxLen]; omega) (by omega) (by first | exact hz4 | (simp; omega)) (w4.heap.size) (by first | rfl | simp) ?_
            intro gg cap1 w5 hown1 hgrow hat hlt1
            obtain ⟨hB5, HO5, m0, m1, m2, m3, hz5, hcap⟩ := HA2.out _ _ _ _ _ (hB4) (HO4.out) hown1 hgrow
            have hcap0 : xs.length ≤ cap1 := by omega
            have hlt5 : w.heap.size < w5.heap.size := by omega
            clear hown1 hgrow hat
            refine hK.out _ _ trivial (fun hHeld => ?_)
            clear hK K
            refine wpAnyH_take (i := 9) (v := ?_) rfl (by kernel_rfl) (by kernel_rfl) (by kernel_rfl) (fun _ _ _ h => h) (Or.inl ⟨by rfl, ?_⟩) (by assumption) ?_
            rotate_left
            · (intro w hSw; (try dsimp only at hSw); go_simp; (try with_reducible rfl))
            refine wpAnyH_take (i := 10) (v := ?_) rfl (by kernel_rfl) (by kernel_rfl) (by kernel_rfl) (fun _ _ _ h => h) (Or.inl ⟨by rfl, ?_⟩) (by assumption) ?_
            rotate_left
            · (intro w hSw; (try dsimp only at hSw); go_simp; (try with_reducible rfl))
            refine wpAnyH_ready (rs := [11]) (by kernel_rfl) (by simp) ?_
            refine AllReadyH.cons rfl (fun K hK => ?_) AllReadyH.nil
            go_simp
            refine hK.out _ _ trivial (fun hHeld => ?_)
            clear hK K
            refine wpAnyH_done (by kernel_rfl) ?_ _
            obtain ⟨r0, r1, r2, r3, r4⟩ := cells2 m3
            go_wp2
            refine bodyPost_ret (v := .agg #[.int .i64 n, .slice (some ⟨gg, 0, none⟩) xs.length cap1]) (by simp [results, Try.results11, go_sem, r0, r1]) rfl ⟨gg, cap1, rfl, hcap, ?_, ?_⟩
            · exact FO.out _ _ _ HO5
            · exact FB.out _ _ hB5
    · skip
      go_simp
      refine hK.out _ _ trivial (fun hHeld => ?_)
      clear hK K
      refine wpAnyH_take (i := 8) (v := ?_) rfl (by kernel_rfl) (by kernel_rfl) (by kernel_rfl) (fun _ _ _ h => h) (Or.inl ⟨by rfl, ?_⟩) (by assumption) ?_
      rotate_left
      · (intro w hSw; (try dsimp only at hSw); go_simp; (try with_reducible rfl))
      refine wpAnyH_ready (rs := [1]) (by kernel_rfl) (by simp) ?_
      refine AllReadyH.cons rfl (fun K hK => ?_) AllReadyH.nil
      · skip
        go_simp
        refine hK.out _ _ trivial (fun hHeld => ?_)
        clear hK K
        refine wpAnyH_ready (rs := [2]) (by kernel_rfl) (by simp) ?_
        refine AllReadyH.cons rfl (fun K hK => ?_) AllReadyH.nil
        · skip
          refine step_app rfl _ _ rfl W0.heap.size _ [] xs a cap rfl rfl (OR.nil _ _) (HS.out.below (by first | exact (Below.refl _ _).drew | exact ((Below.refl _ _).alloc (Nat.le_refl _) _).drew)) HNn.out (by simp; omega) (by simp) ?_
          intro v4 w4 hO4 hg4
          obtain ⟨hB4, k0, k1, k2, k3, hz4⟩ := HA1.out _ _ ((Below.refl _ _).alloc (Nat.le_refl _) _).drew hg4
          have HX4 : Hid (w4.heap[W0.heap.size]? = some (.cells #[.int .i64 (-71), .int .i64 0] 32 (0, 0))) := (hg4.block W0.heap.size (by simp) (fun e => by have e' : some W0.heap.size = (none : Option Nat) := e; cases e')).trans (alloc_new W0 _)
          have HO4 : Hid (OR W0.heap.size w4 v4 xs) := hO4
          have hlt4 : w.heap.size < w4.heap.size := by omega
          clear hO4 hg4
          refine hK.out _ _ trivial (fun hHeld => ?_)
          clear hK K
          refine wpAnyH_ready (rs := [5]) (by kernel_rfl) (by simp) ?_
          refine AllReadyH.cons rfl (fun K hK => ?_) AllReadyH.nil
          · skip
            refine step_append_lies _ (by rfl) _ _ _ (by rfl) W0.heap.size 32 i0 _ 2 16 Try.underlying22 hi hz0 hz1 hz2 rfl (by omega) _ xs.length (flat xs) (by rfl) (show World.ownsRow w4 W0.heap.size 32 2 v4 xs.length (flat xs) from HO4.out) ⟨W0.heap.size, 0, none⟩ 1 1 [.int .i64 (-71), .int .i64 0] (by rfl) (by rfl) (World.news_of_block (cs := #[.int .i64 (-71), .int .i64 0]) (t := 32) (fr := (0, 0)) (HX4.out)) (by simp [Value.oneCell']) (by omega) (by simp [maxLen]; omega) (by omega) (by first | exact hz4 | (simp; omega)) (w4.heap.size) (by first | rfl | simp) ?_
            intro gg cap1 w5 hown1 hgrow hat hlt1
            obtain ⟨hB5, HO5, m0, m1, m2, m3, hz5, hcap⟩ := HA2.out _ _ _ _ _ (hB4) (HO4.out) hown1 hgrow
            have hcap0 : xs.length ≤ cap1 := by omega
            have hlt5 : w.heap.size < w5.heap.size := by omega
            clear hown1 hgrow hat
            refine hK.out _ _ trivial (fun hHeld => ?_)
            clear hK K
            refine wpAnyH_take (i := 9) (v := ?_) rfl (by kernel_rfl) (by kernel_rfl) (by kernel_rfl) (fun _ _ _ h => h) (Or.inl ⟨by rfl, ?_⟩) (by assumption) ?_
            rotate_left
            · (intro w hSw; (try dsimp only at hSw); go_simp; (try with_reducible rfl))
            refine wpAnyH_take (i := 10) (v := ?_) rfl (by kernel_rfl) (by kernel_rfl) (by kernel_rfl) (fun _ _ _ h => h) (Or.inl ⟨by rfl, ?_⟩) (by assumption) ?_
            rotate_left
            · (intro w hSw; (try dsimp only at hSw); go_simp; (try with_reducible rfl))
            refine wpAnyH_ready (rs := [11]) (by kernel_rfl) (by simp) ?_
            refine AllReadyH.cons rfl (fun K hK => ?_) AllReadyH.nil
            go_simp
            refine hK.out _ _ trivial (fun hHeld => ?_)
            clear hK K
            refine wpAnyH_done (by kernel_rfl) ?_ _
            obtain ⟨r0, r1, r2, r3, r4⟩ := cells2 m3
            go_wp2
            refine bodyPost_ret (v := .agg #[.int .i64 n, .slice (some ⟨gg, 0, none⟩) xs.length cap1]) (by simp [results, Try.results11, go_sem, r0, r1]) rfl ⟨gg, cap1, rfl, hcap, ?_, ?_⟩
            · exact FO.out _ _ _ HO5
            · exact FB.out _ _ hB5
  · skip
    go_simp
    refine hK.out _ _ trivial (fun hHeld => ?_)
    clear hK K
    refine wpAnyH_take (i := 8) (v := ?_) rfl (by kernel_rfl) (by kernel_rfl) (by kernel_rfl) (fun _ _ _ h => h) (Or.inl ⟨by rfl, ?_⟩) (by assumption) ?_
    rotate_left
    · (intro w hSw; (try dsimp only at hSw); go_simp; (try with_reducible rfl))
    refine wpAnyH_ready (rs := [1, 4]) (by kernel_rfl) (by simp) ?_
    refine AllReadyH.cons rfl (fun K hK => ?_) (AllReadyH.cons rfl (fun K hK => ?_) AllReadyH.nil)
    · skip
      go_simp
      refine hK.out _ _ trivial (fun hHeld => ?_)
      clear hK K
      refine wpAnyH_ready (rs := [2, 4]) (by kernel_rfl) (by simp) ?_
      refine AllReadyH.cons rfl (fun K hK => ?_) (AllReadyH.cons rfl (fun K hK => ?_) AllReadyH.nil)
      · skip
        refine step_app rfl _ _ rfl W0.heap.size _ [] xs a cap rfl rfl (OR.nil _ _) (HS.out.below (by first | exact (Below.refl _ _).drew | exact ((Below.refl _ _).alloc (Nat.le_refl _) _).drew)) HNn.out (by simp; omega) (by simp) ?_
        intro v4 w4 hO4 hg4
        obtain ⟨hB4, k0, k1, k2, k3, hz4⟩ := HA1.out _ _ (Below.refl _ _).drew hg4
        have HO4 : Hid (OR W0.heap.size w4 v4 xs) := hO4
        have hlt4 : w.heap.size < w4.heap.size := by omega
        clear hO4 hg4
        refine hK.out _ _ trivial (fun hHeld => ?_)
        clear hK K
        refine wpAnyH_ready (rs := [4]) (by kernel_rfl) (by simp) ?_
        refine AllReadyH.cons rfl (fun K hK => ?_) AllReadyH.nil
        · skip
          go_simp
          refine hK.out _ _ trivial (fun hHeld => ?_)
          clear hK K
          refine wpAnyH_ready (rs := [5]) (by kernel_rfl) (by simp) ?_
          refine AllReadyH.cons rfl (fun K hK => ?_) AllReadyH.nil
          · skip
            refine step_append_lies _ (by rfl) _ _ _ (by rfl) W0.heap.size 32 i0 _ 2 16 Try.underlying22 hi hz0 hz1 hz2 rfl (by omega) _ xs.length (flat xs) (by rfl) (HO4.out.alloc _) ⟨w4.heap.size, 0, none⟩ 1 1 [.int .i64 (-71), .int .i64 0] (by rfl) (by rfl) (World.news_of_block (cs := #[.int .i64 (-71), .int .i64 0]) (t := 32) (fr := (0, 0)) (alloc_new _ _)) (by simp [Value.oneCell']) (by omega) (by simp [maxLen]; omega) (by omega) (by first | exact hz4 | (simp; omega)) (w4.heap.size + 1) (by first | rfl | simp) ?_
            intro gg cap1 w5 hown1 hgrow hat hlt1
            obtain ⟨hB5, HO5, m0, m1, m2, m3, hz5, hcap⟩ := HA2.out _ _ _ _ _ (hB4.alloc hB4.size _) (HO4.out.alloc _) hown1 hgrow
            have hcap0 : xs.length ≤ cap1 := by omega
            have hlt5 : w.heap.size < w5.heap.size := by omega
            clear hown1 hgrow hat
            refine hK.out _ _ trivial (fun hHeld => ?_)
            clear hK K
            refine wpAnyH_take (i := 9) (v := ?_) rfl (by kernel_rfl) (by kernel_rfl) (by kernel_rfl) (fun _ _ _ h => h) (Or.inl ⟨by rfl, ?_⟩) (by assumption) ?_
            rotate_left
            · (intro w hSw; (try dsimp only at hSw); go_simp; (try with_reducible rfl))
            refine wpAnyH_take (i := 10) (v := ?_) rfl (by kernel_rfl) (by kernel_rfl) (by kernel_rfl) (fun _ _ _ h => h) (Or.inl ⟨by rfl, ?_⟩) (by assumption) ?_
            rotate_left
            · (intro w hSw; (try dsimp only at hSw); go_simp; (try with_reducible rfl))
            refine wpAnyH_ready (rs := [11]) (by kernel_rfl) (by simp) ?_
            refine AllReadyH.cons rfl (fun K hK => ?_) AllReadyH.nil
            go_simp
            refine hK.out _ _ trivial (fun hHeld => ?_)
            clear hK K
            refine wpAnyH_done (by kernel_rfl) ?_ _
            obtain ⟨r0, r1, r2, r3, r4⟩ := cells2 m3
            go_wp2
            refine bodyPost_ret (v := .agg #[.int .i64 n, .slice (some ⟨gg, 0, none⟩) xs.length cap1]) (by simp [results, Try.results11, go_sem, r0, r1]) rfl ⟨gg, cap1, rfl, hcap, ?_, ?_⟩
            · exact FO.out _ _ _ HO5
            · exact FB.out _ _ hB5
      · skip
        go_simp
        refine hK.out _ _ trivial (fun hHeld => ?_)
        clear hK K
        refine wpAnyH_ready (rs := [2]) (by kernel_rfl) (by simp) ?_
        refine AllReadyH.cons rfl (fun K hK => ?_) AllReadyH.nil
        · skip
          refine step_app rfl _ _ rfl W0.heap.size _ [] xs a cap rfl rfl (OR.nil _ _) (HS.out.below (by first | exact (Below.refl _ _).drew | exact ((Below.refl _ _).alloc (Nat.le_refl _) _).drew)) HNn.out (by simp; omega) (by simp) ?_
          intro v4 w4 hO4 hg4
          obtain ⟨hB4, k0, k1, k2, k3, hz4⟩ := HA1.out _ _ ((Below.refl _ _).alloc (Nat.le_refl _) _).drew hg4
          have HX4 : Hid (w4.heap[W0.heap.size]? = some (.cells #[.int .i64 (-71), .int .i64 0] 32 (0, 0))) := (hg4.block W0.heap.size (by simp) (fun e => by have e' : some W0.heap.size = (none : Option Nat) := e; cases e')).trans (alloc_new W0 _)
          have HO4 : Hid (OR W0.heap.size w4 v4 xs) := hO4
          have hlt4 : w.heap.size < w4.heap.size := by omega
          clear hO4 hg4
          refine hK.out _ _ trivial (fun hHeld => ?_)
          clear hK K
          refine wpAnyH_ready (rs := [5]) (by kernel_rfl) (by simp) ?_
          refine AllReadyH.cons rfl (fun K hK => ?_) AllReadyH.nil
          · skip
            refine step_append_lies _ (by rfl) _ _ _ (by rfl) W0.heap.size 32 i0 _ 2 16 Try.underlying22 hi hz0 hz1 hz2 rfl (by omega) _ xs.length (flat xs) (by rfl) (show World.ownsRow w4 W0.heap.size 32 2 v4 xs.length (flat xs) from HO4.out) ⟨W0.heap.size, 0, none⟩ 1 1 [.int .i64 (-71), .int .i64 0] (by rfl) (by rfl) (World.news_of_block (cs := #[.int .i64 (-71), .int .i64 0]) (t := 32) (fr := (0, 0)) (HX4.out)) (by simp [Value.oneCell']) (by omega) (by simp [maxLen]; omega) (by omega) (by first | exact hz4 | (simp; omega)) (w4.heap.size) (by first | rfl | simp) ?_
            intro gg cap1 w5 hown1 hgrow hat hlt1
            obtain ⟨hB5, HO5, m0, m1, m2, m3, hz5, hcap⟩ := HA2.out _ _ _ _ _ (hB4) (HO4.out) hown1 hgrow
            have hcap0 : xs.length ≤ cap1 := by omega
            have hlt5 : w.heap.size < w5.heap.size := by omega
            clear hown1 hgrow hat
            refine hK.out _ _ trivial (fun hHeld => ?_)
            clear hK K
            refine wpAnyH_take (i := 9) (v := ?_) rfl (by kernel_rfl) (by kernel_rfl) (by kernel_rfl) (fun _ _ _ h => h) (Or.inl ⟨by rfl, ?_⟩) (by assumption) ?_
            rotate_left
            · (intro w hSw; (try dsimp only at hSw); go_simp; (try with_reducible rfl))
            refine wpAnyH_take (i := 10) (v := ?_) rfl (by kernel_rfl) (by kernel_rfl) (by kernel_rfl) (fun _ _ _ h => h) (Or.inl ⟨by rfl, ?_⟩) (by assumption) ?_
            rotate_left
            · (intro w hSw; (try dsimp only at hSw); go_simp; (try with_reducible rfl))
            refine wpAnyH_ready (rs := [11]) (by kernel_rfl) (by simp) ?_
            refine AllReadyH.cons rfl (fun K hK => ?_) AllReadyH.nil
            go_simp
            refine hK.out _ _ trivial (fun hHeld => ?_)
            clear hK K
            refine wpAnyH_done (by kernel_rfl) ?_ _
            obtain ⟨r0, r1, r2, r3, r4⟩ := cells2 m3
            go_wp2
            refine bodyPost_ret (v := .agg #[.int .i64 n, .slice (some ⟨gg, 0, none⟩) xs.length cap1]) (by simp [results, Try.results11, go_sem, r0, r1]) rfl ⟨gg, cap1, rfl, hcap, ?_, ?_⟩
            · exact FO.out _ _ _ HO5
            · exact FB.out _ _ hB5
    · skip
      go_simp
      refine hK.out _ _ trivial (fun hHeld => ?_)
      clear hK K
      refine wpAnyH_ready (rs := [1]) (by kernel_rfl) (by simp) ?_
      refine AllReadyH.cons rfl (fun K hK => ?_) AllReadyH.nil
      · skip
        go_simp
        refine hK.out _ _ trivial (fun hHeld => ?_)
        clear hK K
        refine wpAnyH_ready (rs := [2]) (by kernel_rfl) (by simp) ?_
        refine AllReadyH.cons rfl (fun K hK => ?_) AllReadyH.nil
        · skip
          refine step_app rfl _ _ rfl W0.heap.size _ [] xs a cap rfl rfl (OR.nil _ _) (HS.out.below (by first | exact (Below.refl _ _).drew | exact ((Below.refl _ _).alloc (Nat.le_refl _) _).drew)) HNn.out (by simp; omega) (by simp) ?_
          intro v4 w4 hO4 hg4
          obtain ⟨hB4, k0, k1, k2, k3, hz4⟩ := HA1.out _ _ ((Below.refl _ _).alloc (Nat.le_refl _) _).drew hg4
          have HX4 : Hid (w4.heap[W0.heap.size]? = some (.cells #[.int .i64 (-71), .int .i64 0] 32 (0, 0))) := (hg4.block W0.heap.size (by simp) (fun e => by have e' : some W0.heap.size = (none : Option Nat) := e; cases e')).trans (alloc_new W0 _)
          have HO4 : Hid (OR W0.heap.size w4 v4 xs) := hO4
          have hlt4 : w.heap.size < w4.heap.size := by omega
          clear hO4 hg4
          refine hK.out _ _ trivial (fun hHeld => ?_)
          clear hK K
          refine wpAnyH_ready (rs := [5]) (by kernel_rfl) (by simp) ?_
          refine AllReadyH.cons rfl (fun K hK => ?_) AllReadyH.nil
          · skip
            refine step_append_lies _ (by rfl) _ _ _ (by rfl) W0.heap.size 32 i0 _ 2 16 Try.underlying22 hi hz0 hz1 hz2 rfl (by omega) _ xs.length (flat xs) (by rfl) (show World.ownsRow w4 W0.heap.size 32 2 v4 xs.length (flat xs) from HO4.out) ⟨W0.heap.size, 0, none⟩ 1 1 [.int .i64 (-71), .int .i64 0] (by rfl) (by rfl) (World.news_of_block (cs := #[.int .i64 (-71), .int .i64 0]) (t := 32) (fr := (0, 0)) (HX4.out)) (by simp [Value.oneCell']) (by omega) (by simp [maxLen]; omega) (by omega) (by first | exact hz4 | (simp; omega)) (w4.heap.size) (by first | rfl | simp) ?_
            intro gg cap1 w5 hown1 hgrow hat hlt1
            obtain ⟨hB5, HO5, m0, m1, m2, m3, hz5, hcap⟩ := HA2.out _ _ _ _ _ (hB4) (HO4.out) hown1 hgrow
            have hcap0 : xs.length ≤ cap1 := by omega
            have hlt5 : w.heap.size < w5.heap.size := by omega
            clear hown1 hgrow hat
            refine hK.out _ _ trivial (fun hHeld => ?_)
            clear hK K
            refine wpAnyH_take (i := 9) (v := ?_) rfl (by kernel_rfl) (by kernel_rfl) (by kernel_rfl) (fun _ _ _ h => h) (Or.inl ⟨by rfl, ?_⟩) (by assumption) ?_
            rotate_left
            · (intro w hSw; (try dsimp only at hSw); go_simp; (try with_reducible rfl))
            refine wpAnyH_take (i := 10) (v := ?_) rfl (by kernel_rfl) (by kernel_rfl) (by kernel_rfl) (fun _ _ _ h => h) (Or.inl ⟨by rfl, ?_⟩) (by assumption) ?_
            rotate_left
            · (intro w hSw; (try dsimp only at hSw); go_simp; (try with_reducible rfl))
            refine wpAnyH_ready (rs := [11]) (by kernel_rfl) (by simp) ?_
            refine AllReadyH.cons rfl (fun K hK => ?_) AllReadyH.nil
            go_simp
            refine hK.out _ _ trivial (fun hHeld => ?_)
            clear hK K
            refine wpAnyH_done (by kernel_rfl) ?_ _
            obtain ⟨r0, r1, r2, r3, r4⟩ := cells2 m3
            go_wp2
            refine bodyPost_ret (v := .agg #[.int .i64 n, .slice (some ⟨gg, 0, none⟩) xs.length cap1]) (by simp [results, Try.results11, go_sem, r0, r1]) rfl ⟨gg, cap1, rfl, hcap, ?_, ?_⟩
            · exact FO.out _ _ _ HO5
            · exact FB.out _ _ hB5
end Go.Proofs.Ytphemmifckdjjaa
