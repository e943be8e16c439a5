/- The contract of the reference's Digits. -/
import Derived.Test.YtmmbnimehmfadaaQQ
import Derived.Test.YtmmbnimehmfadaaQR
namespace Go.Proofs.Ytmmbnimehmfadaa
open Go.RowKit Go.Sort Go.Lib

/-- a digit -/
def dig1 (n : Nat) : ByteArray := ⟨#[UInt8.ofNat (48 + n)]⟩

theorem dig_cut {n : Nat} (h : n ≤ 9) : (ByteArray.extract ⟨#[48, 49, 50, 51, 52, 53, 54, 55, 56, 57]⟩ n (n + 1)) = dig1 n := by
  have h2 : ∀ n : Fin 10, (ByteArray.extract ⟨#[48, 49, 50, 51, 52, 53, 54, 55, 56, 57]⟩ n.1 (n.1 + 1)) = dig1 n.1 := by decide
  exact h2 ⟨n, by omega⟩

set_option maxRecDepth 100000 in
set_option maxHeartbeats 2000000 in
theorem digits_one (n : Nat) (hn : n ≤ 9) (w : World) : Calls Try.prog 6 #[.int .i64 n] w fun e w' => e = .returned (.string (dig1 n)) ∧ w' = w := by
  have hr : ((n : Int) % 10) = (n : Int) := by omega
  have hg : ¬ ((9 : Int) < (n : Int)) := by omega
  go_enter Try.func6, Try.ntmps6
  go_wp2
  go_ret
  exact ⟨by rw [← dig_cut hn]; rfl, rfl⟩

/-- the digits of a number up to 99 -/
def digB (n : Nat) : ByteArray := if n ≤ 9 then dig1 n else dig1 (n / 10) ++ dig1 (n % 10)

set_option maxRecDepth 100000 in
set_option maxHeartbeats 2000000 in
theorem digits_any (n : Nat) (hn : n ≤ 99) (w : World) : Calls Try.prog 6 #[.int .i64 n] w fun e w' => e = .returned (.string (digB n)) ∧ w' = w := by
  by_cases h9 : n ≤ 9
  · unfold digB
    rw [if_pos h9]
    exact digits_one n h9 w
  have hr : ((n : Int) % 10) = ((n % 10 : Nat) : Int) := by omega
  have hq : ((n : Int) / 10) = ((n / 10 : Nat) : Int) := by omega
  have hg : (9 : Int) < (n : Int) := by omega
  have HDB : Hid (digB n = dig1 (n / 10) ++ dig1 (n % 10)) := by unfold Hid digB; rw [if_neg h9]
  have HC := digits_one (n / 10) (by omega) w
  have hc := dig_cut (n := n % 10) (by omega)
  have HCUT := Hid.mk hc
  have hrl : n % 10 ≤ 9 := by omega
  generalize n % 10 = r at *
  generalize n / 10 = q at *
  obtain ⟨N, hN⟩ : ∃ N : Int, (n : Int) = N := ⟨_, rfl⟩
  rw [hN] at hr hq hg ⊢
  have hN0 : 0 ≤ N := by omega
  have hNm : N ≤ 99 := by omega
  clear hN hc
  rw [HDB.out]
  clear HDB
  go_enter Try.func6, Try.ntmps6
  go_wp2_with fail
  refine HC.mono ?_
  rintro e w1 ⟨rfl, hw⟩
  have hw' := hw.symm
  subst hw'
  clear HC
  go_wp2
  go_ret
  refine ⟨?_, rfl⟩
  rw [← HCUT.out]
  rfl
end Go.Proofs.Ytmmbnimehmfadaa

/- Plain facts for SigNames: the names of a family of up to thirty constructors. -/
namespace Go.Proofs.Ytmmbnimehmfadaa
open Go.RowKit Go.Sort Go.Lib

def ctrB (n : Nat) : ByteArray := ⟨#[99]⟩ ++ digB n
def famD (n : Nat) : Dl := ⟨3, natB, 0, setT, .mk 0 0 false { data := #[] } [] [], 0, (List.range n).map fun i => (ctrB i, natT)⟩
def axD (s : ByteArray) : Dl := ⟨1, s, 0, setT, .mk 0 0 false { data := #[] } [] [], 0, []⟩

/-- is it written, and closed? -/
def preB (d : Dl) : Bool := match declsRes [d] with
  | .error _ => false
  | .ok _ => !(termsD (cleanD d)).any openT

theorem putRes_pre {ds : List Dl} {d : Dl} (h : preB d = true) : putRes ds d = if 500 ≤ ds.length then 2 else if twiceB ds (cleanD d) = true then 20 else 0 := by
  unfold preB at h
  unfold putRes
  cases hd : declsRes [d] with
  | error e => rw [hd] at h; cases h
  | ok bs =>
    rw [hd] at h
    simp only at h ⊢
    rw [if_neg (by simpa using h)]

set_option maxRecDepth 100000 in
theorem pre_nat : preB natD = true := by decide +kernel
set_option maxRecDepth 100000 in
theorem pre_zero : preB (axD zeroB) = true := by decide +kernel
set_option maxRecDepth 100000 in
theorem pre_elim : preB (axD (natB ++ elimB)) = true := by decide +kernel
set_option maxRecDepth 100000 in
theorem pre_fam {n : Nat} (h : n ≤ 30) : preB (famD n) = true := by
  have h2 : ∀ n : Fin 31, preB (famD n.1) = true := by decide +kernel
  exact h2 ⟨n, by omega⟩
set_option maxRecDepth 100000 in
theorem pre_ax {n : Nat} (h : n ≤ 30) : preB (axD (ctrB n)) = true := by
  have h2 : ∀ n : Fin 31, preB (axD (ctrB n.1)) = true := by decide +kernel
  exact h2 ⟨n, by omega⟩

/-- names that are all different all mean what they are put for -/
theorem fold_nodup (p : Int) : ∀ (l : List (ByteArray × Int)) (st : (ByteArray → Option (Int × Int)) × Bool), (l.map Prod.fst).Nodup → (∀ x ∈ l, st.1 x.1 = none) → (l.foldl (putN p) st).2 = st.2 ∧ (∀ x ∈ l, (l.foldl (putN p) st).1 x.1 = some (p, x.2)) ∧ ∀ s, s ∉ l.map Prod.fst → (l.foldl (putN p) st).1 s = st.1 s
  | [], st, _, _ => ⟨rfl, fun x hx => (by cases hx), fun _ _ => rfl⟩
  | x :: l, st, hn, hs => by
    rw [List.map_cons, List.nodup_cons] at hn
    have hx := hs x (List.mem_cons_self ..)
    have hp : putN p st x = (updM st.1 x.1 (p, x.2), st.2) := by unfold putN; rw [if_neg (by rw [hx]; decide)]
    have hup : ∀ s, s ≠ x.1 → updM st.1 x.1 (p, x.2) s = st.1 s := fun s h => by
      unfold updM
      rw [if_neg fun e => h (keyS_one (by unfold keyS; rw [e]))]
    obtain ⟨h1, h2, h3⟩ := fold_nodup p l (updM st.1 x.1 (p, x.2), st.2) hn.2 (fun y hy => by
      have hne : y.1 ≠ x.1 := fun e => hn.1 (by rw [← e]; exact List.mem_map_of_mem hy)
      exact (hup _ hne).trans (hs y (List.mem_cons_of_mem _ hy)))
    rw [List.foldl_cons, hp]
    refine ⟨h1, fun y hy => ?_, fun s hs' => ?_⟩
    · rcases List.mem_cons.1 hy with rfl | hy
      · rw [h3 _ hn.1]
        show updM st.1 y.1 (p, y.2) y.1 = _
        unfold updM
        rw [if_pos rfl]
      · exact h2 y hy
    · rw [List.map_cons, List.mem_cons, not_or] at hs'
      rw [h3 s hs'.2]
      exact hup s hs'.1

theorem namesM_nodup {p : Int} {d : Dl} (h : ((namesD d).map Prod.fst).Nodup) : (namesM p d).2 = true ∧ (∀ x ∈ namesD d, (namesM p d).1 x.1 = some (p, x.2)) ∧ ∀ s, s ∉ (namesD d).map Prod.fst → (namesM p d).1 s = none :=
  fold_nodup p (namesD d) (fun _ => none, true) h (fun _ _ => rfl)

theorem tabM_one (d : Dl) : tabM [d] = joinM (fun _ => none) (namesM 0 d).1 := tabM_snoc [] d

theorem tabM_one_at {d : Dl} (s : ByteArray) : tabM [d] s = (namesM 0 d).1 s := by
  rw [tabM_one]
  unfold joinM
  split
  · rfl
  · rename_i h
    cases h2 : (namesM 0 d).1 s with
    | none => rfl
    | some x => rw [h2] at h; exact absurd rfl h

theorem zip_names (cs : List (ByteArray × Tm)) : (cs.zipIdx.map fun c => ((c.1.1, 4 + 2 * (c.2 : Int)) : ByteArray × Int)).map Prod.fst = cs.map Prod.fst := by
  rw [List.map_map]
  have h := congrArg (List.map Prod.fst) (List.zipIdx_map_fst 0 cs)
  rw [List.map_map] at h
  exact h

theorem fam_names (n : Nat) : (namesD (famD n)).map Prod.fst = natB :: (natB ++ elimB) :: (List.range n).map ctrB := by
  unfold namesD
  rw [List.map_cons, List.map_append, zip_names]
  simp [famD, Function.comp_def]

theorem names_all : (natB :: (natB ++ elimB) :: (List.range 31).map ctrB).Nodup := by decide +kernel

theorem fam_nodup {n : Nat} (h : n ≤ 31) : ((namesD (famD n)).map Prod.fst).Nodup := by
  rw [fam_names]
  have hs : (natB :: (natB ++ elimB) :: (List.range n).map ctrB).Sublist (natB :: (natB ++ elimB) :: (List.range 31).map ctrB) := ((List.Sublist.map ctrB (List.range_sublist.2 h)).cons_cons _).cons_cons _
  exact hs.nodup names_all

theorem fam_get {n i : Nat} (h : n ≤ 30) (hi : i < n) : tabM [famD n] (ctrB i) = some (0, 4 + 2 * (i : Int)) := by
  rw [tabM_one_at]
  refine (namesM_nodup (fam_nodup (by omega))).2.1 (ctrB i, 4 + 2 * (i : Int)) ?_
  unfold namesD
  refine List.mem_cons_of_mem _ (List.mem_append_right _ ?_)
  refine List.mem_map.2 ⟨((ctrB i, natT), i), ?_, rfl⟩
  rw [List.mem_zipIdx_iff_getElem?]
  simp [famD, hi]

theorem fam_elim {n : Nat} (h : n ≤ 30) : tabM [famD n] (natB ++ elimB) = some (0, 5) := by
  rw [tabM_one_at]
  refine (namesM_nodup (fam_nodup (by omega))).2.1 (natB ++ elimB, 5) ?_
  unfold namesD
  refine List.mem_cons_of_mem _ (List.mem_append_left _ ?_)
  simp [famD]

theorem fam_none {n : Nat} (h : n ≤ 30) : tabM [famD n] (ctrB n) = none := by
  rw [tabM_one_at]
  refine (namesM_nodup (fam_nodup (by omega))).2.2 _ ?_
  rw [fam_names]
  have h1 := fam_nodup (n := n + 1) (by omega)
  rw [fam_names, List.range_succ, List.map_append, List.nodup_cons, List.nodup_cons, List.nodup_append] at h1
  obtain ⟨h2, h3, h4, h5, h6⟩ := h1
  intro hm
  simp only [List.mem_cons] at hm
  rcases hm with hm | hm | hm
  · exact h2 (by simp [hm])
  · exact h3 (by simp [hm])
  · exact h6 _ hm _ (by simp) rfl

theorem clean_fam (n : Nat) : cleanD (famD n) = famD n := by
  have h : (List.range n).map (fun i => cleanC (ctrB i, natT)) = (List.range n).map fun i => (ctrB i, natT) := rfl
  show (⟨3, natB, 0, setT, _, 0, ((List.range n).map fun i => (ctrB i, natT)).map cleanC⟩ : Dl) = _
  rw [List.map_map]
  exact congrArg (fun cs => (⟨3, natB, 0, setT, .mk 0 0 false { data := #[] } [] [], 0, cs⟩ : Dl)) h

theorem clean_ax (s : ByteArray) : cleanD (axD s) = axD s := rfl

theorem ax_names (s : ByteArray) : namesD (axD s) = [(s, 1)] := rfl

theorem ax_twice (ds : List Dl) (s : ByteArray) : twiceB ds (axD s) = (tabM ds s).isSome := by
  unfold twiceB namesM
  rw [ax_names]
  simp [putN]

theorem twice_nil (d : Dl) (h : ((namesD d).map Prod.fst).Nodup) : twiceB [] d = false := by
  unfold twiceB
  rw [(namesM_nodup h).1]
  simp [tabM]

theorem put_fam {n : Nat} (h : n ≤ 30) : putRes [] (famD n) = 0 := by
  rw [putRes_pre (pre_fam h), clean_fam, twice_nil _ (fam_nodup (by omega))]
  rfl

/-- what the second Put of the law answers -/
theorem put_twice {n t : Nat} (h : n ≤ 30) (ht : t ≤ n) : putRes [famD n] (axD (ctrB t)) = if t < n then 20 else 0 := by
  rw [putRes_pre (pre_ax (by omega)), clean_ax, ax_twice, if_neg (by simp)]
  by_cases hlt : t < n
  · rw [fam_get h hlt, if_pos hlt]; rfl
  · obtain rfl : t = n := by omega
    rw [fam_none h, if_neg hlt]; rfl

theorem put_elim {n : Nat} (h : n ≤ 30) (ds : List Dl) (hd : ds = [famD n] ∨ ∃ d, ds = [famD n] ++ [d]) : putRes ds (axD (natB ++ elimB)) = 20 := by
  have hs : (tabM ds (natB ++ elimB)).isSome = true := by
    rcases hd with rfl | ⟨d, rfl⟩
    · rw [fam_elim h]; rfl
    · rw [tabM_snoc, joinM_some, fam_elim h]; exact Or.inr rfl
  have hl : ¬ 500 ≤ ds.length := by rcases hd with rfl | ⟨d, rfl⟩ <;> simp
  rw [putRes_pre pre_elim, clean_ax, ax_twice, if_neg hl, hs]; rfl

theorem nat_names : (namesD natD).map Prod.fst = [natB, natB ++ elimB, zeroB, sucB] := rfl

theorem nat_nodup : ((namesD natD).map Prod.fst).Nodup := by rw [nat_names]; decide +kernel

theorem clean_nat : cleanD natD = natD := rfl

theorem put_nat : putRes [] natD = 0 := by
  rw [putRes_pre pre_nat, clean_nat, twice_nil _ nat_nodup]; rfl

theorem get_suc : tabM [natD] sucB = some (0, 6) := by
  rw [tabM_one_at]
  exact (namesM_nodup nat_nodup).2.1 (sucB, 6) (by unfold namesD; simp [natD])

theorem put_zero : putRes [natD] (axD zeroB) = 20 := by
  have hz : tabM [natD] zeroB = some (0, 4) := by
    rw [tabM_one_at]
    exact (namesM_nodup nat_nodup).2.1 (zeroB, 4) (by unfold namesD; simp [natD])
  rw [putRes_pre pre_zero, clean_ax, ax_twice, if_neg (by simp), hz]; rfl

theorem sm_leafs : smT 1000000 natT ∧ smT 1000000 setT ∧ smT 1000000 sucT := by
  have h1 : smT 1000000 natT := (smT_mk _ _ _ _ _ _ _).2 ⟨by decide, by simp, by simp, by simp, by simp⟩
  refine ⟨h1, (smT_mk _ _ _ _ _ _ _).2 ⟨by decide, by simp, by simp, by simp, by simp⟩, (smT_mk _ _ _ _ _ _ _).2 ⟨by decide, by simp, by simp, by simp, ?_⟩⟩
  intro k hk
  simp at hk
  rw [hk]
  exact h1

theorem ctr_size {n : Nat} (h : n ≤ 30) : (ctrB n).size ≤ 60 := by
  have h2 : ∀ n : Fin 31, (ctrB n.1).size ≤ 60 := by decide +kernel
  exact h2 ⟨n, by omega⟩

theorem sm_fam {n : Nat} (h : n ≤ 30) : smD (famD n) := by
  refine ⟨by show natB.size ≤ _; decide, sm_leafs.2.1, zeroTm_sm, by simp [famD]; omega, fun c hc => ?_⟩
  obtain ⟨i, hi, rfl⟩ := List.mem_map.1 hc
  have h1 := ctr_size (n := i) (by have := List.mem_range.1 hi; omega)
  exact ⟨by simp only; omega, sm_leafs.1⟩

theorem sm_nat : smD natD := by
  refine ⟨by decide, sm_leafs.2.1, zeroTm_sm, by decide, fun c hc => ?_⟩
  simp [natD] at hc
  rcases hc with rfl | rfl
  · exact ⟨by decide, sm_leafs.1⟩
  · exact ⟨by decide, sm_leafs.2.2⟩

theorem sm_ax {s : ByteArray} (h : s.size ≤ 60) : smD (axD s) := ⟨by show s.size ≤ _; omega, sm_leafs.2.1, zeroTm_sm, by simp [axD], fun c hc => by cases hc⟩
end Go.Proofs.Ytmmbnimehmfadaa
