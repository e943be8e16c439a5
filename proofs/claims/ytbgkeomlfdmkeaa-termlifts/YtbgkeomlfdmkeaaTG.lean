/- The contract of telamonref1.free, where no index is too great. -/
import Derived.Test.YtbgkeomlfdmkeaaTF
namespace Go.Proofs.Ytbgkeomlfdmkeaa
open Go.RowKit Go.Sort

/-- no number of a variable is below 0, or above 2^30 -/
def varsB : Tm → Bool
  | .mk f n _ _ _ ks => (!(f == 1) || (decide (0 ≤ n) && decide (n ≤ 1073741824))) && ks.attach.all fun k => varsB k.1
termination_by t => SizeOf.sizeOf t
decreasing_by
  have := List.sizeOf_lt_of_mem k.2
  simp only [Tm.mk.sizeOf_spec]; omega

theorem varsB_mk (f n : Int) (hd : Bool) (nm : ByteArray) (ls : List LvT) (ks : List Tm) : varsB (.mk f n hd nm ls ks) = ((!(f == 1) || (decide (0 ≤ n) && decide (n ≤ 1073741824))) && ks.all varsB) := by
  rw [varsB]
  congr 1
  rw [Bool.eq_iff_iff, List.all_eq_true, List.all_eq_true]
  exact ⟨fun h x hx => h ⟨x, hx⟩ (List.mem_attach _ _), fun h x _ => h x.1 x.2⟩

/-- how many binders there are around the i-th kid -/
def deepR (f deep : Int) (i : Nat) : Int := if i = 1 ∧ bindsB f = true then deep + 1 else deep

/-- the least number above all free indices, in the scope of so many binders -/
def freeR : Tm → Int → Int
  | .mk f n _ _ _ ks, deep => if f = 1 then (if n < deep then 0 else n - deep + 1) else (ks.attach.zipIdx.map fun p => freeR p.1.1 (deepR f deep p.2)).foldl max 0
termination_by t => SizeOf.sizeOf t
decreasing_by
  have := List.sizeOf_lt_of_mem p.1.2
  simp only [Tm.mk.sizeOf_spec]; omega

/-- the greatest number of the first kids -/
def freeK (f deep : Int) (ks : List Tm) : Int := (ks.zipIdx.map fun p => freeR p.1 (deepR f deep p.2)).foldl max 0

theorem freeR_mk (f n : Int) (hd : Bool) (nm : ByteArray) (ls : List LvT) (ks : List Tm) (deep : Int) : freeR (.mk f n hd nm ls ks) deep = if f = 1 then (if n < deep then 0 else n - deep + 1) else freeK f deep ks := by
  rw [freeR]
  congr 1
  unfold freeK
  congr 1
  have : ks.zipIdx = ks.attach.zipIdx.map (fun p => (p.1.1, p.2)) := by
    conv => lhs; rw [← List.attach_map_subtype_val ks]
    rw [List.zipIdx_map]
    rfl
  rw [this, List.map_map]
  rfl

theorem freeK_take {f deep : Int} {ks : List Tm} {j : Nat} {k : Tm} (h : ks[j]? = some k) : freeK f deep (ks.take (j + 1)) = max (freeK f deep (ks.take j)) (freeR k (deepR f deep j)) := by
  obtain ⟨hj, rfl⟩ := List.getElem?_eq_some_iff.1 h
  unfold freeK
  rw [List.take_succ_eq_append_getElem hj, List.zipIdx_append, List.map_append, List.foldl_append]
  have : (ks.take j).length = j := by simp; omega
  simp [this]

theorem high_kid {ks : List Tm} {k : Tm} (h : k ∈ ks) : heightT k ≤ (ks.map heightT).foldl max 0 := by
  obtain ⟨j, hj⟩ := List.getElem?_of_mem h
  have h1 := take_high hj
  have h2 := high_take_le ks (j + 1)
  omega

set_option maxRecDepth 100000 in
set_option maxHeartbeats 4000000 in
theorem free_any (t : Tm) : ∀ (deep : Int) (v : Value) (w : World), varsB t = true → 0 ≤ deep → deep + heightT t ≤ 1000000 → TV w v t → Calls Try.prog 45 #[v, .int .i64 deep] w fun e w' => e = .returned (.int .i64 (freeR t deep)) ∧ Grew w w' := by
  refine Tm.ind (P := fun t => ∀ (deep : Int) (v : Value) (w : World), varsB t = true → 0 ≤ deep → deep + heightT t ≤ 1000000 → TV w v t → Calls Try.prog 45 #[v, .int .i64 deep] w fun e w' => e = .returned (.int .i64 (freeR t deep)) ∧ Grew w w') ?_ t
  intro f n hd nm ls ks ih deep v w hvb hd0 hd1 hv
  cases hv with
  | @mk _ _ _ _ _ _ la lc ka kc kb ko hl hln hlc hlm hkn hkc hkm hk kids =>
    rw [varsB_mk, Bool.and_eq_true] at hvb
    obtain ⟨hvn, hvk⟩ := hvb
    rw [heightT_mk] at hd1
    have HR : Hid (freeR (.mk f n hd nm ls ks) deep = if f = 1 then (if n < deep then 0 else n - deep + 1) else freeK f deep ks) := freeR_mk f n hd nm ls ks deep
    generalize freeR (.mk f n hd nm ls ks) deep = R at HR ⊢
    have HK := Hid.mk hk
    have HKIDS := Hid.mk kids
    have HIH := Hid.mk ih
    have HVK : Hid (∀ k ∈ ks, varsB k = true) := List.all_eq_true.1 hvk
    have HHK : Hid (∀ k ∈ ks, deep + 1 + heightT k ≤ 1000000) := fun k hk => by have := high_kid hk; omega
    have hdb : deep ≤ 1000000 := by omega
    clear hk kids ih hl hvk hd1
    obtain ⟨W0, hW0⟩ : ∃ W0, w.alloc (.cells #[.int .i64 f, .int .i64 n, .bool hd, .string nm, .slice la ls.length lc, .slice ka ks.length kc] 25) = W0 := ⟨_, rfl⟩
    have HG0 : Hid (Grew w W0) := by unfold Hid; rw [← hW0]; exact (Grew.refl w).alloc _
    have HX0 : Hid (W0.heap[w.heap.size]? = some (.cells #[.int .i64 f, .int .i64 n, .bool hd, .string nm, .slice la ls.length lc, .slice ka ks.length kc] 25 (0, 0))) := by unfold Hid; rw [← hW0]; exact alloc_new _ _
    have HW0 := Hid.mk hW0
    clear hW0
    by_cases hf : f = 1
    · subst hf
      have hn : 0 ≤ n ∧ n ≤ 1073741824 := by simpa using hvn
      obtain ⟨hn0, hn1⟩ := hn
      clear hvn
      have hR := HR.out
      rw [if_pos rfl] at hR
      by_cases hnd : n < deep
      · rw [if_pos hnd] at hR
        have HE := Hid.mk hR
        clear hR HR
        go_enter Try.func45, Try.ntmps45
        go_wp2
        go_ret
        exact ⟨by rw [HE.out]; rfl, by have := HG0.out; rwa [← HW0.out] at this⟩
      · rw [if_neg hnd] at hR
        have HE := Hid.mk hR
        clear hR HR
        go_enter Try.func45, Try.ntmps45
        go_wp2
        go_ret
        exact ⟨by rw [HE.out]; rfl, by have := HG0.out; rwa [← HW0.out] at this⟩
    · have hR := HR.out
      rw [if_neg hf] at hR
      have HE := Hid.mk hR
      have hf' : (f == 1) = false := by simp [hf]
      clear hR HR hvn hf
      have HBI := fun (W : World) => Binds_any f W
      have HDR : Hid (∀ j, deepR f deep j = if j = 1 ∧ bindsB f = true then deep + 1 else deep) := fun j => rfl
      obtain ⟨bf, hbf⟩ : ∃ bf, bindsB f = bf := ⟨_, rfl⟩
      simp only [hbf] at HBI HDR
      clear hbf
      go_enter Try.func45, Try.ntmps45
      go_wp2
      rw [HW0.out]
      go_loopw [5, 6] (fun vn i wr => ∃ j : Nat, j ≤ ks.length ∧ i = .int .i64 j ∧ vn = .int .i64 (freeK f deep (ks.take j)) ∧ Grew W0 wr) (fun _ i _ => ks.length - (intOf i).toNat)
      case atStart => exact ⟨0, Nat.zero_le _, rfl, rfl, Grew.refl _⟩
      case round =>
        obtain ⟨j, hj, rfl, rfl, hg⟩ := hrel
        have HG := Hid.mk hg
        clear hg
        obtain ⟨x0, x1, x2, x3, x4, x5, x6⟩ := cells6 ((HG.out.below.block w.heap.size (Array.getElem?_eq_some_iff.1 HX0.out).1).trans HX0.out)
        by_cases hlt : j < ks.length
        · obtain ⟨rfl, hkb⟩ := HK.out (by intro e; rw [e] at hlt; simp at hlt)
          have hkt : ks[j]? = some ks[j] := by simp [hlt]
          have htc := (HKIDS.out j _ hkt).on (HG0.out.trans HG.out).below
          have HTF := Hid.mk (freeK_take (f := f) (deep := deep) hkt)
          have hmem : ks[j] ∈ ks := List.getElem_mem hlt
          have HCALL := fun (d : Int) (v : Value) (W : World) (h1 : 0 ≤ d) (h2 : d ≤ deep + 1) (hv : TV W v ks[j]) => HIH.out ks[j] hmem d v W (HVK.out _ hmem) h1 (by have := HHK.out _ hmem; omega) hv
          have zj : (j : Int) < (ks.length : Int) := by omega
          rw [HDR.out] at HTF
          obtain ⟨k, hk⟩ : ∃ k, ks[j] = k := ⟨_, rfl⟩
          rw [hk] at HTF HCALL htc
          have HTC := Hid.mk htc
          clear hk hkt htc hmem
          generalize freeK f deep (ks.take j) = m at *
          rcases (show (j = 1 ∧ bf = true) ∨ (j = 1 ∧ bf = false) ∨ j ≠ 1 by
            by_cases h : j = 1
            · cases bf
              · exact .inr (.inl ⟨h, rfl⟩)
              · exact .inl ⟨h, rfl⟩
            · exact .inr (.inr h)) with ⟨hj1, hb⟩ | ⟨hj1, hb⟩ | hj1
          · have hj1' : ((j : Int) == 1) = true := by simp [hj1]
            have hT := HTF.out
            rw [if_pos ⟨hj1, hb⟩] at hT
            have HT := Hid.mk hT
            subst hb
            have HJ := Hid.mk hj1
            clear hj1 hT HTF
            obtain ⟨v0, v1, v2, v3, v4, v5, c0, c1, c2, c3, c4, c5, hv⟩ := HTC.out.val
            have HC := Hid.mk (HCALL (deep + 1) _ _ (by omega) (by omega) hv)
            clear hv HCALL
            generalize freeR k (deep + 1) = q at HC HT
            go_wp2_with fail
            refine (HBI _).mono ?_
            rintro e w9 ⟨rfl, hw9⟩
            have hw9' := hw9.symm
            subst hw9'
            go_wp2_with fail
            refine HC.out.mono ?_
            rintro e w5 ⟨rfl, hg5⟩
            by_cases hq : m < q
            · go_wp2
              refine ⟨⟨j + 1, hlt, by go_num, by rw [HT.out, show max m q = q by omega], HG.out.trans hg5⟩, by simp [intOf]; omega⟩
            · go_wp2
              refine ⟨⟨j + 1, hlt, by go_num, by rw [HT.out, show max m q = m by omega], HG.out.trans hg5⟩, by simp [intOf]; omega⟩
          · have hj1' : ((j : Int) == 1) = true := by simp [hj1]
            have hT := HTF.out
            rw [if_neg (by rw [hb]; simp)] at hT
            have HT := Hid.mk hT
            subst hb
            have HJ := Hid.mk hj1
            clear hj1 hT HTF
            obtain ⟨v0, v1, v2, v3, v4, v5, c0, c1, c2, c3, c4, c5, hv⟩ := HTC.out.val
            have HC := Hid.mk (HCALL deep _ _ (by omega) (by omega) hv)
            clear hv HCALL
            generalize freeR k deep = q at HC HT
            go_wp2_with fail
            refine (HBI _).mono ?_
            rintro e w9 ⟨rfl, hw9⟩
            have hw9' := hw9.symm
            subst hw9'
            go_wp2_with fail
            refine HC.out.mono ?_
            rintro e w5 ⟨rfl, hg5⟩
            by_cases hq : m < q
            · go_wp2
              refine ⟨⟨j + 1, hlt, by go_num, by rw [HT.out, show max m q = q by omega], HG.out.trans hg5⟩, by simp [intOf]; omega⟩
            · go_wp2
              refine ⟨⟨j + 1, hlt, by go_num, by rw [HT.out, show max m q = m by omega], HG.out.trans hg5⟩, by simp [intOf]; omega⟩
          · have hj1' : ((j : Int) == 1) = false := by simp; omega
            have hT := HTF.out
            rw [if_neg (by omega)] at hT
            have HT := Hid.mk hT
            clear hj1 hT HTF
            obtain ⟨v0, v1, v2, v3, v4, v5, c0, c1, c2, c3, c4, c5, hv⟩ := HTC.out.val
            have HC := Hid.mk (HCALL deep _ _ (by omega) (by omega) hv)
            clear hv HCALL
            generalize freeR k deep = q at HC HT
            go_wp2_with fail
            refine HC.out.mono ?_
            rintro e w5 ⟨rfl, hg5⟩
            by_cases hq : m < q
            · go_wp2
              refine ⟨⟨j + 1, hlt, by go_num, by rw [HT.out, show max m q = q by omega], HG.out.trans hg5⟩, by simp [intOf]; omega⟩
            · go_wp2
              refine ⟨⟨j + 1, hlt, by go_num, by rw [HT.out, show max m q = m by omega], HG.out.trans hg5⟩, by simp [intOf]; omega⟩
        · have HF : Hid (R = freeK f deep (ks.take j)) := by unfold Hid; rw [HE.out, List.take_of_length_le (by omega)]
          go_wp2
          go_ret
          exact ⟨by rw [HF.out]; rfl, HG0.out.trans HG.out⟩
end Go.Proofs.Ytbgkeomlfdmkeaa
