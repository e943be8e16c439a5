/- Induction on terms; a term in a box; the contract of telamonref1.has. -/
import Derived.Test.YtbgkeomlfdmkeaaTA
namespace Go.Proofs.Ytbgkeomlfdmkeaa
open Go.RowKit Go.Sort

theorem Tm.ind {P : Tm → Prop} (h : ∀ f n hd nm ls ks, (∀ k ∈ ks, P k) → P (.mk f n hd nm ls ks)) (t : Tm) : P t :=
  Tm.rec (motive_1 := P) (motive_2 := fun ks => ∀ k ∈ ks, P k) (fun f n hd nm ls ks ih => h f n hd nm ls ks ih) (by simp) (fun k ks h1 h2 => by
    intro x hx
    rcases List.mem_cons.1 hx with rfl | hx
    · exact h1
    · exact h2 x hx) t

theorem cells6 {w : World} {b : Nat} {v0 v1 v2 v3 v4 v5 : Value} {t : TypeId} (h : w.heap[b]? = some (.cells #[v0, v1, v2, v3, v4, v5] t (0, 0))) :
    w.cell? ⟨b, 0, none⟩ = some v0 ∧ w.cell? ⟨b, 1, none⟩ = some v1 ∧ w.cell? ⟨b, 2, none⟩ = some v2 ∧ w.cell? ⟨b, 3, none⟩ = some v3 ∧ w.cell? ⟨b, 4, none⟩ = some v4 ∧ w.cell? ⟨b, 5, none⟩ = some v5 ∧ b < w.heap.size :=
  ⟨by rw [cell_of_row _ b 0 _ _ _ h]; rfl, by rw [cell_of_row _ b 1 _ _ _ h]; rfl, by rw [cell_of_row _ b 2 _ _ _ h]; rfl, by rw [cell_of_row _ b 3 _ _ _ h]; rfl, by rw [cell_of_row _ b 4 _ _ _ h]; rfl, by rw [cell_of_row _ b 5 _ _ _ h]; rfl, (Array.getElem?_eq_some_iff.1 h).1⟩

/-- is there a constant of that name? -/
def hasB (name : ByteArray) : Tm → Bool
  | .mk f _ _ nm _ ks => (f == 10 && nm.toList == name.toList) || ks.attach.any fun k => hasB name k.1
termination_by t => SizeOf.sizeOf t
decreasing_by
  have := List.sizeOf_lt_of_mem k.2
  simp only [Tm.mk.sizeOf_spec]; omega

theorem hasB_mk (name : ByteArray) (f n : Int) (hd : Bool) (nm : ByteArray) (ls : List LvT) (ks : List Tm) : hasB name (.mk f n hd nm ls ks) = ((f == 10 && nm.toList == name.toList) || ks.any (hasB name)) := by
  rw [hasB]
  congr 1
  rw [Bool.eq_iff_iff, List.any_eq_true, List.any_eq_true]
  exact ⟨fun ⟨x, _, h⟩ => ⟨x.1, x.2, h⟩, fun ⟨x, hx, h⟩ => ⟨⟨x, hx⟩, List.mem_attach _ _, h⟩⟩

set_option maxRecDepth 100000 in
set_option maxHeartbeats 2000000 in
theorem has_any (name : ByteArray) (t : Tm) : ∀ (v : Value) (w : World), TV w v t → Calls Try.prog 47 #[v, .string name] w fun e w' => e = .returned (.bool (hasB name t)) ∧ Grew w w' := by
  refine Tm.ind (P := fun t => ∀ (v : Value) (w : World), TV w v t → Calls Try.prog 47 #[v, .string name] w fun e w' => e = .returned (.bool (hasB name t)) ∧ Grew w w') ?_ t
  intro f n hd nm ls ks ih v w hv
  cases hv with
  | @mk _ _ _ _ _ _ la lc ka kc kb ko hl hln hlc hlm hkn hkc hkm hk kids =>
    have HB : Hid (hasB name (.mk f n hd nm ls ks) = ((f == 10 && nm.toList == name.toList) || ks.any (hasB name))) := hasB_mk name f n hd nm ls ks
    generalize hasB name (.mk f n hd nm ls ks) = R at HB ⊢
    have HK := Hid.mk hk
    have HKIDS := Hid.mk kids
    have HIH := Hid.mk ih
    clear hk kids ih hl
    obtain ⟨W0, hW0⟩ : ∃ W0, w.alloc (.cells #[.int .i64 f, .int .i64 n, .bool hd, .string nm, .slice la ls.length lc, .slice ka ks.length kc] 25) = W0 := ⟨_, rfl⟩
    have HG0 : Hid (Grew w W0) := by unfold Hid; rw [← hW0]; exact (Grew.refl w).alloc _
    have HX0 : Hid (W0.heap[w.heap.size]? = some (.cells #[.int .i64 f, .int .i64 n, .bool hd, .string nm, .slice la ls.length lc, .slice ka ks.length kc] 25 (0, 0))) := by unfold Hid; rw [← hW0]; exact alloc_new _ _
    have HW0 := Hid.mk hW0
    clear hW0
    cases hc : (f == 10 && nm.toList == name.toList)
    · have HR : Hid (R = ks.any (hasB name)) := by unfold Hid; rw [HB.out, hc]; rfl
      have hcs : (f == 10) = false ∨ ((f == 10) = true ∧ (nm.toList == name.toList) = false) := by
        cases h : (f == 10)
        · exact .inl rfl
        · rw [h] at hc; exact .inr ⟨rfl, by simpa using hc⟩
      clear hc HB
      rcases hcs with h1 | ⟨h1, h2⟩
      all_goals
        go_enter Try.func47, Try.ntmps47
        go_wp2
        rw [HW0.out]
        go_loopw [5] (fun i wr => ∃ j : Nat, j ≤ ks.length ∧ i = .int .i64 j ∧ Grew W0 wr ∧ (ks.take j).any (hasB name) = false) (fun i _ => ks.length - (intOf i).toNat)
        case atStart => exact ⟨0, Nat.zero_le _, rfl, Grew.refl _, by simp⟩
        case round =>
          obtain ⟨j, hj, rfl, hg, hall⟩ := hrel
          have HG := Hid.mk hg
          have HALL := Hid.mk hall
          clear hg hall
          have hz := HG0.out.below.size
          obtain ⟨x0, x1, x2, x3, x4, x5, x6⟩ := cells6 ((HG.out.below.block w.heap.size (Array.getElem?_eq_some_iff.1 HX0.out).1).trans HX0.out)
          by_cases hlt : j < ks.length
          · obtain ⟨rfl, hkb⟩ := HK.out (by intro e; rw [e] at hlt; simp at hlt)
            have hkt : ks[j]? = some ks[j] := by simp [hlt]
            have htc := ((HKIDS.out j _ hkt).on (HG0.out.trans HG.out).below)
            obtain ⟨v0, v1, v2, v3, v4, v5, c0, c1, c2, c3, c4, c5, hv⟩ := htc.val
            have HCALL := HIH.out ks[j] (List.getElem_mem hlt) _ wr hv
            have HTK := Hid.mk (take_any (p := hasB name) hkt)
            have zj : (j : Int) < (ks.length : Int) := by omega
            obtain ⟨q, hq⟩ : ∃ q, hasB name ks[j] = q := ⟨_, rfl⟩
            rw [hq] at HCALL HTK
            cases q
            · go_wp2_with fail
              refine HCALL.mono ?_
              rintro e w5 ⟨rfl, hg5⟩
              go_wp2
              refine ⟨⟨j + 1, hlt, by go_num, HG.out.trans hg5, by rw [HTK.out, HALL.out]; rfl⟩, by simp [intOf]; omega⟩
            · have HE : Hid (R = true) := by unfold Hid; rw [HR.out]; exact any_yes hkt (by rw [hq])
              go_wp2_with fail
              refine HCALL.mono ?_
              rintro e w5 ⟨rfl, hg5⟩
              go_wp2
              go_ret
              exact ⟨by rw [HE.out]; rfl, (HG0.out.trans HG.out).trans hg5⟩
          · have HE : Hid (R = false) := by unfold Hid; rw [HR.out]; have := HALL.out; rwa [List.take_of_length_le (by omega)] at this
            go_wp2
            go_ret
            exact ⟨by rw [HE.out]; rfl, HG0.out.trans HG.out⟩
    · have HR : Hid (R = true) := by unfold Hid; rw [HB.out, hc]; rfl
      obtain ⟨h1, h2⟩ : (f == 10) = true ∧ (nm.toList == name.toList) = true := by simpa using hc
      clear hc HB
      go_enter Try.func47, Try.ntmps47
      go_wp2
      go_ret
      exact ⟨by rw [HR.out]; rfl, by have := HG0.out; rwa [← HW0.out] at this⟩
end Go.Proofs.Ytbgkeomlfdmkeaa
