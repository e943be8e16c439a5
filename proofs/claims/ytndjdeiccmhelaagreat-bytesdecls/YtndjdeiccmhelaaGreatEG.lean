/- The contract of the reference's level. -/
import Derived.Test.YtndjdeiccmhelaaGreatEF
namespace Go.Proofs.YtndjdeiccmhelaaGreat
open Go.RowKit Go.Sort Go.Lib

theorem varB_len {p : Int × Int} (h : 0 ≤ p.1 ∧ p.1 ≤ 1000 ∧ 0 ≤ p.2 ∧ p.2 ≤ 1000) : (varB p).length ≤ 18 := by
  unfold varB
  rw [List.length_append]
  have h1 := numB_9 (n := p.1.toNat) (by omega)
  have h2 := numB_9 (n := p.2.toNat) (by omega)
  omega

theorem flat_len {α : Type} {f : α → List UInt8} {c : Nat} : ∀ {xs : List α}, (∀ x ∈ xs, (f x).length ≤ c) → (xs.flatMap f).length ≤ xs.length * c
  | [], _ => by simp
  | x :: xs, h => by
    rw [List.flatMap_cons, List.length_append, List.length_cons, Nat.succ_mul]
    have h1 := h x (by simp)
    have h2 := flat_len (xs := xs) fun y hy => h y (by simp [hy])
    omega

theorem levB_len {l : LvT} (h : rightL l) : (levB l).length ≤ 1200 := by
  unfold levB
  rw [List.length_append, List.length_append]
  have h1 := numB_9 (n := l.1.toNat) (by have := h.2.1; omega)
  have h2 := numB_9 (n := l.2.length) (by have := h.2.2.1; omega)
  have h3 := flat_len (c := 18) (f := varB) fun p hp => varB_len (h.2.2.2 p hp)
  have h4 := h.2.2.1
  omega

set_option maxRecDepth 100000 in
set_option maxHeartbeats 8000000 in
theorem rlevel_any (w0 : World) (v : Value) (bs : List UInt8) (n : Int) (xs : List (Int × Int)) (a : Option Addr) (cap : Nat) (w : World) (hb0 : RowKit.Below w0.heap.size w0 w) (hO : OY w0.heap.size w v bs) (hS : SL w0 a xs) (hr : rightL (n, xs)) (hl : bs.length ≤ 70000000000000) : Calls Tryz.prog 65 #[v, .agg #[.int .i64 n, .slice a xs.length cap]] w (RfPost w0.heap.size v bs (levB (n, xs)) w) := by
  obtain ⟨hn0, hn1, hxl, hxs⟩ := hr
  simp only at hn0 hn1 hxl hxs
  obtain ⟨W0, hW0⟩ : ∃ W0, w.alloc (.cells #[.int .i64 n, .slice a xs.length cap] 105) = W0 := ⟨_, rfl⟩
  have hb : RowKit.Below w.heap.size w W0 := by rw [← hW0]; exact (Below.refl _ _).alloc (Nat.le_refl _) _
  have HX0 : Hid (W0.heap[w.heap.size]? = some (.cells #[.int .i64 n, .slice a xs.length cap] 105 (0, 0))) := by unfold Hid; rw [← hW0]; exact alloc_new _ _
  have HG0 : Hid (GrwV v v w W0) := GrwV.below v hb
  have HB00 : Hid (RowKit.Below w0.heap.size w0 W0) := hb0.trans (hb.mono hb0.size)
  have HO0 : Hid (OY w0.heap.size W0 v bs) := hO.move fun k hk => hb.block k (hO.lt hk).2
  have HOD : Hid (OY w0.heap.size W0.drew v bs) := HO0.out.move fun k _ => rfl
  have HC0 := Hid.mk (rnum_any w0.heap.size v bs n.toNat W0.drew HOD.out HB00.out.size (by omega) (by omega))
  rw [show ((n.toNat : Nat) : Int) = n by omega] at HC0
  have hn9 := numB_9 (n := n.toNat) (by omega)
  have hx9 := numB_9 (n := xs.length) (by omega)
  have HXS := Hid.mk hxs
  have HS := Hid.mk hS
  have HO := Hid.mk hO
  have HW0 := Hid.mk hW0
  obtain ⟨r0, r1, -, -, r4⟩ := cells2 HX0.out
  have hB0s := HB00.out.size
  clear hO hb0 hb hS hxs hW0
  go_enter Tryz.func65, Tryz.ntmps65
  go_wp2_with fail
  rw [HW0.out]
  refine wp_region_held_drew (S := fun w' => w'.cell? ⟨w.heap.size, 0, none⟩ = some (.int .i64 n) ∧ w'.cell? ⟨w.heap.size, 1, none⟩ = some (.slice a xs.length cap)) (by kernel_rfl) ?_ (fun hHeld => ?_)
  · (try dsimp only)
    exact ⟨r0, r1⟩
  refine wpAnyH_take (i := 0) (v := ?_) rfl (by kernel_rfl) (by kernel_rfl) (by kernel_rfl) (fun _ _ _ h => h) (Or.inl ⟨by rfl, ?_⟩) (by assumption) ?_
  rotate_left
  · (intro w hSw; (try dsimp only at hSw); go_simp; (try with_reducible rfl))
  refine wpAnyH_take (i := 1) (v := ?_) rfl (by kernel_rfl) (by kernel_rfl) (by kernel_rfl) (fun _ _ _ h => h) (Or.inl ⟨by rfl, ?_⟩) (by assumption) ?_
  rotate_left
  · (intro w hSw; (try dsimp only at hSw); go_simp; (try with_reducible rfl))
  refine wpAnyH_take (i := 2) (v := ?_) rfl (by kernel_rfl) (by kernel_rfl) (by kernel_rfl) (fun _ _ _ h => h) (Or.inl ⟨by rfl, ?_⟩) (by assumption) ?_
  rotate_left
  · (intro w hSw; (try dsimp only at hSw); go_simp; (try with_reducible rfl))
  refine wpAnyH_take (i := 4) (v := ?_) rfl (by kernel_rfl) (by kernel_rfl) (by kernel_rfl) (fun _ _ _ h => h) (Or.inl ⟨by rfl, ?_⟩) (by assumption) ?_
  rotate_left
  · (intro w hSw; (try dsimp only at hSw); go_simp; (try with_reducible rfl))
  refine wpAnyH_take (i := 5) (v := ?_) rfl (by kernel_rfl) (by kernel_rfl) (by kernel_rfl) (fun _ _ _ h => h) (Or.inl ⟨by rfl, ?_⟩) (by assumption) ?_
  rotate_left
  · (intro w hSw; (try dsimp only at hSw); go_simp; (try with_reducible rfl))
  refine wpAnyH_take (i := 6) (v := ?_) rfl (by kernel_rfl) (by kernel_rfl) (by kernel_rfl) (fun _ _ _ h => h) (Or.inl ⟨by rfl, ?_⟩) (by assumption) ?_
  rotate_left
  · (intro w hSw; (try dsimp only at hSw); go_simp; (try with_reducible rfl))
  refine wpAnyH_ready (rs := [3]) (by kernel_rfl) (by simp) ?_
  refine AllReadyH.cons rfl (fun K hK => ?_) AllReadyH.nil
  go_simp
  go_at_call 34
  refine HC0.out.mono ?_
  rintro e w1 ⟨v1, rfl, hO1, hg1⟩
  have HO1 := Hid.mk hO1
  have hsz1 := hg1.kept.size
  have HG1 : Hid (GrwV v v1 W0 w1) := (GrwV.below v (Below.refl _ W0).drew).trans hg1
  clear r0 r1
  obtain ⟨r0, r1, -, -, r4⟩ := cells2 (HG1.out.box HO.out HX0.out (Nat.le_refl _))
  have HC1 := rnum_any w0.heap.size v1 (bs ++ numB n.toNat) xs.length w1 hO1 (Nat.le_trans hB0s hsz1) (by omega) (by simp; omega)
  clear hO1 hg1
  dsimp only
  refine hK.out _ _ ?_ (fun hHeld => ?_)
  · (try dsimp only)
    exact ⟨r0, r1⟩
  clear hK K
  refine wpAnyH_ready (rs := [7]) (by kernel_rfl) (by simp) ?_
  refine AllReadyH.cons rfl (fun K hK => ?_) AllReadyH.nil
  go_simp
  go_at_call 34
  refine HC1.mono ?_
  rintro e w2 ⟨v2, rfl, hO2, hg2⟩
  have HO2 := Hid.mk hO2
  have HG2 : Hid (GrwV v v2 W0 w2) := HG1.out.trans hg2
  clear r0 r1 HC1
  obtain ⟨r0, r1, -, -, r4⟩ := cells2 (HG2.out.box HO.out HX0.out (Nat.le_refl _))
  clear hO2 hg2
  dsimp only
  refine hK.out _ _ ?_ (fun hHeld => ?_)
  · (try dsimp only)
    exact ⟨r0, r1⟩
  clear hK K
  refine wpAnyH_take (i := 8) (v := ?_) rfl (by kernel_rfl) (by kernel_rfl) (by kernel_rfl) (fun _ _ _ h => h) (Or.inl ⟨by rfl, ?_⟩) (by assumption) ?_
  rotate_left
  · (intro w hSw; (try dsimp only at hSw); go_simp; (try with_reducible rfl))
  refine wpAnyH_done (by kernel_rfl) ?_ _
  clear HC0 hHeld
  go_wp2
  go_loopw [0, 5] (fun u i wr => ∃ k : Nat, k ≤ xs.length ∧ i = .int .i64 k ∧ OY w0.heap.size wr u (bs ++ numB n.toNat ++ numB xs.length ++ (xs.take k).flatMap varB) ∧ GrwV v u W0 wr) (fun _ i _ => xs.length - (intOf i).toNat)
  case atStart => exact ⟨0, Nat.zero_le _, rfl, by simpa using HO2.out, HG2.out⟩
  case round =>
    obtain ⟨k, hk, rfl, hOr, hgr⟩ := hrel
    have HOR := Hid.mk hOr
    have HGR := Hid.mk hgr
    have HBR : Hid (RowKit.Below w0.heap.size w0 wr) := HB00.out.trans (hgr.toBelow HO0.out HB00.out.size)
    obtain ⟨s0, s1, -, -, s4⟩ := cells2 (hgr.box HO.out HX0.out (Nat.le_refl _))
    clear hOr hgr r0 r1 r4
    by_cases hlt : k < xs.length
    · obtain ⟨b, off, x, y, rfl, hbl0, e0, e1, hxy⟩ := HS.out.at hlt
      obtain ⟨hx0, hx1, hy0, hy1⟩ := HXS.out (x, y) (List.mem_of_getElem? hxy.out)
      have c0 := (HBR.out.cell (p := ⟨b, off + k * 2, none⟩) hbl0).trans e0
      have c1 := (HBR.out.cell (p := ⟨b, off + k * 2 + 1, none⟩) hbl0).trans e1
      have hlk : (bs ++ numB n.toNat ++ numB xs.length ++ (xs.take k).flatMap varB).length ≤ 70000000002000 := by
        have h1 := flat_len (c := 18) (f := varB) (xs := xs.take k) fun p hp => varB_len (HXS.out p (List.mem_of_mem_take hp))
        simp only [List.length_append, List.length_take] at h1 ⊢
        omega
      have hy9 := numB_9 (n := x.toNat) (by omega)
      have HN1 := Hid.mk (rnum_any w0.heap.size u0 _ x.toNat wr.drew (HOR.out.move fun k _ => rfl) HBR.out.size (by omega) (by omega))
      rw [show ((x.toNat : Nat) : Int) = x by omega] at HN1
      go_wp2_with fail
      refine wp_region_held_drew (S := fun w' => w'.cell? ⟨w.heap.size, 1, none⟩ = some (.slice (some ⟨b, off, none⟩) xs.length cap) ∧ w'.cell? ⟨b, off + k * 2, none⟩ = some (.int .i64 x) ∧ w'.cell? ⟨b, off + k * 2 + 1, none⟩ = some (.int .i64 y)) (by kernel_rfl) ?_ (fun hHeld => ?_)
      · (try dsimp only)
        exact ⟨s1, c0, c1⟩
      refine wpAnyH_take (i := 0) (v := ?_) rfl (by kernel_rfl) (by kernel_rfl) (by kernel_rfl) (fun _ _ _ h => h) (Or.inl ⟨by rfl, ?_⟩) (by assumption) ?_
      rotate_left
      · (intro w hSw; (try dsimp only at hSw); go_simp; (try with_reducible rfl))
      refine wpAnyH_take (i := 1) (v := ?_) rfl (by kernel_rfl) (by kernel_rfl) (by kernel_rfl) (fun _ _ _ h => h) (Or.inl ⟨by rfl, ?_⟩) (by assumption) ?_
      rotate_left
      · (intro w hSw; (try dsimp only at hSw); go_simp; (try with_reducible rfl))
      refine wpAnyH_take (i := 2) (v := ?_) rfl (by kernel_rfl) (by kernel_rfl) (by kernel_rfl) (fun _ _ _ h => h) (Or.inl ⟨by rfl, ?_⟩) (by assumption) ?_
      rotate_left
      · (intro w hSw; (try dsimp only at hSw); go_simp; (try with_reducible rfl))
      refine wpAnyH_take (i := 3) (v := ?_) rfl (by kernel_rfl) (by kernel_rfl) (by kernel_rfl) (fun _ _ _ h => h) (Or.inl ⟨by rfl, ?_⟩) (by assumption) ?_
      rotate_left
      · (intro w hSw; (try dsimp only at hSw); go_simp; (try with_reducible rfl))
      refine wpAnyH_take (i := 4) (v := ?_) rfl (by kernel_rfl) (by kernel_rfl) (by kernel_rfl) (fun _ _ _ h => h) (Or.inl ⟨by rfl, ?_⟩) (by assumption) ?_
      rotate_left
      · (intro w hSw; (try dsimp only at hSw); go_simp; (try with_reducible rfl))
      refine wpAnyH_take (i := 5) (v := ?_) rfl (by kernel_rfl) (by kernel_rfl) (by kernel_rfl) (fun _ _ _ h => h) (Or.inl ⟨by rfl, ?_⟩) (by assumption) ?_
      rotate_left
      · (intro w hSw; (try dsimp only at hSw); go_simp; (try with_reducible rfl))
      refine wpAnyH_take (i := 6) (v := ?_) rfl (by kernel_rfl) (by kernel_rfl) (by kernel_rfl) (fun _ _ _ h => h) (Or.inl ⟨by rfl, ?_⟩) (by assumption) ?_
      rotate_left
      · (intro w hSw; (try dsimp only at hSw); go_simp; (try with_reducible rfl))
      refine wpAnyH_take (i := 8) (v := ?_) rfl (by kernel_rfl) (by kernel_rfl) (by kernel_rfl) (fun _ _ _ h => h) (Or.inl ⟨by rfl, ?_⟩) (by assumption) ?_
      rotate_left
      · (intro w hSw; (try dsimp only at hSw); go_simp; (try with_reducible rfl))
      refine wpAnyH_take (i := 9) (v := ?_) rfl (by kernel_rfl) (by kernel_rfl) (by kernel_rfl) (fun _ _ _ h => h) (Or.inl ⟨by rfl, ?_⟩) (by assumption) ?_
      rotate_left
      · (intro w hSw; (try dsimp only at hSw); go_simp; (try with_reducible rfl))
      refine wpAnyH_take (i := 10) (v := ?_) rfl (by kernel_rfl) (by kernel_rfl) (by kernel_rfl) (fun _ _ _ h => h) (Or.inl ⟨by rfl, ?_⟩) (by assumption) ?_
      rotate_left
      · (intro w hSw; (try dsimp only at hSw); go_simp; (try with_reducible rfl))
      refine wpAnyH_take (i := 11) (v := ?_) rfl (by kernel_rfl) (by kernel_rfl) (by kernel_rfl) (fun _ _ _ h => h) (Or.inl ⟨by rfl, ?_⟩) (by assumption) ?_
      rotate_left
      · (intro w hSw; (try dsimp only at hSw); go_simp; (try with_reducible rfl))
      refine wpAnyH_take (i := 12) (v := ?_) rfl (by kernel_rfl) (by kernel_rfl) (by kernel_rfl) (fun _ _ _ h => h) (Or.inl ⟨by rfl, ?_⟩) (by assumption) ?_
      rotate_left
      · (intro w hSw; (try dsimp only at hSw); go_simp; (try with_reducible rfl))
      refine wpAnyH_take (i := 13) (v := ?_) rfl (by kernel_rfl) (by kernel_rfl) (by kernel_rfl) (fun _ _ _ h => h) (Or.inl ⟨by rfl, ?_⟩) (by assumption) ?_
      rotate_left
      · (intro w hSw; (try dsimp only at hSw); go_simp; (try with_reducible rfl))
      refine wpAnyH_ready (rs := [7]) (by kernel_rfl) (by simp) ?_
      refine AllReadyH.cons rfl (fun K hK => ?_) AllReadyH.nil
      go_simp
      go_at_call 34
      refine HN1.out.mono ?_
      rintro e w3 ⟨v3, rfl, hO3, hg3⟩
      have HG3 : Hid (GrwV v v3 W0 w3) := HGR.out.trans ((GrwV.below u0 (Below.refl _ wr).drew).trans hg3)
      have hB3 := HB00.out.trans (HG3.out.toBelow HO0.out HB00.out.size)
      have hs1 := (cells2 (HG3.out.box HO.out HX0.out (Nat.le_refl _))).2.1
      have hc0 := (hB3.cell (p := ⟨b, off + k * 2, none⟩) hbl0).trans e0
      have hc1 := (hB3.cell (p := ⟨b, off + k * 2 + 1, none⟩) hbl0).trans e1
      have HN2 := Hid.mk (rnum_any w0.heap.size v3 _ y.toNat w3 hO3 hB3.size (by omega) (by rw [List.length_append]; omega))
      rw [show ((y.toNat : Nat) : Int) = y by omega] at HN2
      have hO3' := Hid.mk hO3
      clear hO3 hg3 hB3 s1 c0 c1
      dsimp only
      refine hK.out _ _ ?_ (fun hHeld => ?_)
      · (try dsimp only)
        exact ⟨hs1, hc0, hc1⟩
      clear hK K
      refine wpAnyH_ready (rs := [14]) (by kernel_rfl) (by simp) ?_
      refine AllReadyH.cons rfl (fun K hK => ?_) AllReadyH.nil
      go_simp
      go_at_call 34
      refine HN2.out.mono ?_
      rintro e w4 ⟨v4, rfl, hO4, hg4⟩
      have HO4 := Hid.mk hO4
      have HG4 : Hid (GrwV v v4 W0 w4) := HG3.out.trans hg4
      have hB4 := HB00.out.trans (HG4.out.toBelow HO0.out HB00.out.size)
      have ks1 := (cells2 (HG4.out.box HO.out HX0.out (Nat.le_refl _))).2.1
      have kc0 := (hB4.cell (p := ⟨b, off + k * 2, none⟩) hbl0).trans e0
      have kc1 := (hB4.cell (p := ⟨b, off + k * 2 + 1, none⟩) hbl0).trans e1
      clear hO4 hg4 hB4 hs1 hc0 hc1
      dsimp only
      refine hK.out _ _ ?_ (fun hHeld => ?_)
      · (try dsimp only)
        exact ⟨ks1, kc0, kc1⟩
      clear hK K
      refine wpAnyH_take (i := 15) (v := ?_) rfl (by kernel_rfl) (by kernel_rfl) (by kernel_rfl) (fun _ _ _ h => h) (Or.inl ⟨by rfl, ?_⟩) (by assumption) ?_
      rotate_left
      · (intro w hSw; (try dsimp only at hSw); go_simp; (try with_reducible rfl))
      refine wpAnyH_done (by kernel_rfl) ?_ _
      clear hHeld ks1 kc0 kc1
      go_wp2
      refine ⟨⟨k + 1, hlt, by go_num, ?_, HG4.out⟩, by simp [intOf]; omega⟩
      rw [flatMap_take hxy.out]
      unfold varB
      rw [← List.append_assoc, ← List.append_assoc]
      exact HO4.out
    · obtain rfl : k = xs.length := by omega
      go_wp2
      go_ret
      refine ⟨_, rfl, ?_, HG0.out.trans HGR.out⟩
      have := HOR.out
      rw [List.take_length] at this
      unfold levB
      rw [← List.append_assoc, ← List.append_assoc]
      exact this
end Go.Proofs.YtndjdeiccmhelaaGreat
