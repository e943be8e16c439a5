/- Two terms held against each other, as plain data; the contracts of slices.EqualFunc at levels and of term.sameFields. -/
import Derived.Test.YtbgkeomlfdmkeaaSE
namespace Go.Proofs.Ytbgkeomlfdmkeaa
open Go.RowKit Go.Sort

/-- are the fields one that the form has? -/
def fsameB (a b : Tm) : Bool :=
  decide (a.form = b.form) && (if a.form = 1 ∨ a.form = 11 then decide (a.n = b.n) else if a.form = 3 ∨ a.form = 4 ∨ a.form = 5 then decide (a.hid = b.hid) else if a.form = 10 then decide (a.name.toList = b.name.toList) && decide (a.levels = b.levels) else if a.form = 2 then decide (a.levels = b.levels) else true)

mutual
/-- are two terms one, part by part, in the fields that the forms have? -/
def sameT : Tm → Tm → Bool
  | .mk f n h nm ls ks, b => fsameB (.mk f n h nm ls ks) b && sameTs ks b.kids
def sameTs : List Tm → List Tm → Bool
  | [], [] => true
  | k :: ks, k' :: ks' => sameT k k' && sameTs ks ks'
  | [], _ :: _ => false
  | _ :: _, [] => false
end

theorem sameTs_len : ∀ {ks ks' : List Tm}, ks.length ≠ ks'.length → sameTs ks ks' = false
  | [], [], h => absurd rfl h
  | k :: ks, k' :: ks', h => by rw [sameTs, sameTs_len (ks := ks) (ks' := ks') (by simpa using h)]; simp
  | [], _ :: _, _ => by rw [sameTs]
  | _ :: _, [], _ => by rw [sameTs]

theorem sameTs_at : ∀ {ks ks' : List Tm} {i : Nat} {k k' : Tm}, ks[i]? = some k → ks'[i]? = some k' → sameT k k' = false → sameTs ks ks' = false
  | [], _, i, k, k', h, _, _ => by simp at h
  | _ :: _, [], i, k, k', _, h, _ => by simp at h
  | a :: ks, a' :: ks', 0, k, k', h, h', hs => by
    simp at h h'; subst h h'; rw [sameTs, hs]; rfl
  | a :: ks, a' :: ks', i + 1, k, k', h, h', hs => by
    rw [sameTs, sameTs_at (ks := ks) (ks' := ks') (i := i) (by simpa using h) (by simpa using h') hs]; simp

theorem sameTs_all : ∀ {ks ks' : List Tm}, ks.length = ks'.length → (∀ (i : Nat) (k k' : Tm), ks[i]? = some k → ks'[i]? = some k' → sameT k k' = true) → sameTs ks ks' = true
  | [], [], _, _ => by rw [sameTs]
  | a :: ks, a' :: ks', hl, h => by
    rw [sameTs, h 0 a a' (by simp) (by simp), sameTs_all (ks := ks) (ks' := ks') (by simpa using hl) (fun i k k' h1 h2 => h (i + 1) k k' (by simpa using h1) (by simpa using h2))]; rfl
  | [], _ :: _, hl, _ => by simp at hl
  | _ :: _, [], hl, _ => by simp at hl

theorem cf_sameLevel (xs : Array Value) (w : World) : Sem.run Try.prog (callFunc 86 xs) w = .ok (.enter 86 xs) w := by simp [callFunc, go_sem, Try.func86]; rfl

theorem lvs_len {ls ls' : List LvT} (h : ls.length ≠ ls'.length) : decide (ls = ls') = false := by
  rw [decide_eq_false_iff_not]; intro e; exact h (by rw [e])

theorem lvs_at {ls ls' : List LvT} {k : Nat} {p q : LvT} (h1 : ls[k]? = some p) (h2 : ls'[k]? = some q) (h : p ≠ q) : decide (ls = ls') = false := by
  rw [decide_eq_false_iff_not]; intro e; rw [e, h2] at h1; exact h (by simpa using h1.symm)

theorem lvs_take {ls ls' : List LvT} {k : Nat} {p : LvT} (h1 : ls[k]? = some p) (h2 : ls'[k]? = some p) (h : ls.take k = ls'.take k) : ls.take (k + 1) = ls'.take (k + 1) := by
  obtain ⟨hj, e⟩ := List.getElem?_eq_some_iff.1 h1
  obtain ⟨hj', e'⟩ := List.getElem?_eq_some_iff.1 h2
  rw [List.take_succ_eq_append_getElem hj, List.take_succ_eq_append_getElem hj', h, e, e']

theorem exactB_dec (p q : LvT) : exactB p.1 p.2 q.1 q.2 = decide (p = q) := by
  obtain ⟨a, b⟩ := p
  obtain ⟨c, d⟩ := q
  unfold exactB
  rw [Bool.eq_iff_iff]
  simp

set_option maxRecDepth 100000 in
set_option maxHeartbeats 2000000 in
theorem eqL_any (ls ls' : List LvT) (la la' : Option Addr) (lc lc' : Nat) (w : World) (hl : LN w la ls) (hl' : LN w la' ls') (hn : ls.length ≤ 1000000) (hx : ∀ l ∈ ls, l.2.length ≤ 1000000) (hx' : ∀ l ∈ ls', l.2.length ≤ 1000000) :
    Calls Try.prog 85 #[.slice la ls.length lc, .slice la' ls'.length lc', .func (.func 86) #[] #[]] w fun e w' => e = .returned (.bool (decide (ls = ls'))) ∧ Grew w w' := by
  have HL := Hid.mk hl
  have HL' := Hid.mk hl'
  have HX := Hid.mk hx
  have HX' := Hid.mk hx'
  clear hl hl' hx hx'
  have cf := cf_sameLevel
  by_cases hLn : ls.length = ls'.length
  · have hLb : ((ls.length : Int) != (ls'.length : Int)) = false := by simp [hLn]
    have HLN := Hid.mk hLn
    clear hLn
    go_enter Try.func85, Try.ntmps85
    go_wp2
    go_loopw [17] (fun i wr => ∃ k : Nat, k ≤ ls.length ∧ i = .int .i64 k ∧ Grew w wr ∧ ls.take k = ls'.take k) (fun i _ => ls.length - (intOf i).toNat)
    case atStart => exact ⟨0, Nat.zero_le _, rfl, Grew.refl _, rfl⟩
    case round =>
      obtain ⟨k, hk, rfl, hb, htk⟩ := hrel
      have HB := Hid.mk hb
      have HT := Hid.mk htk
      clear htk hb
      by_cases hlt : k < ls.length
      · have hlt' : k < ls'.length := by rw [← HLN.out]; exact hlt
        obtain ⟨b, off, a1, cap1, rfl, hbl, c0, c1, hs1⟩ := (HL.out.below HB.out.below).at hlt
        obtain ⟨b', off', a2, cap2, rfl, hbl', d0, d1, hs2⟩ := (HL'.out.below HB.out.below).at hlt'
        have hln1 := HX.out ls[k] (List.getElem_mem hlt)
        have hln2 := HX'.out ls'[k] (List.getElem_mem hlt')
        have HC := fun (W : World) (g : Grew wr W) => sameLevel_any ls[k].1 ls'[k].1 ls[k].2 ls'[k].2 a1 a2 cap1 cap2 W (hs1.below g.below) (hs2.below g.below) (by omega) (by omega)
        rw [exactB_dec] at HC
        have HQ1 : Hid (ls[k]? = some ls[k]) := List.getElem?_eq_getElem hlt
        have HQ2 : Hid (ls'[k]? = some ls'[k]) := List.getElem?_eq_getElem hlt'
        have z1 : (k : Int) < (ls.length : Int) := by omega
        have z2 : (k : Int) < (ls'.length : Int) := by omega
        clear hs1 hs2 hln1 hln2
        generalize ls[k] = p at *
        generalize ls'[k] = q at *
        by_cases he : p = q
        · have HE := Hid.mk he
          rw [show decide (p = q) = true by simpa using he] at HC
          clear he
          go_wp2_with fail
          refine (HC _ (((Grew.refl wr).alloc _).alloc _)).mono ?_
          rintro e w1 ⟨rfl, hg⟩
          go_wp2
          refine ⟨⟨k + 1, hlt, by go_num, HB.out.trans ((((Grew.refl wr).alloc _).alloc _).trans hg), lvs_take HQ1.out (by rw [HE.out]; exact HQ2.out) HT.out⟩, by simp [intOf]; omega⟩
        · have HE : Hid (decide (ls = ls') = false) := lvs_at HQ1.out HQ2.out he
          rw [show decide (p = q) = false by simpa using he] at HC
          clear he
          go_wp2_with fail
          refine (HC _ (((Grew.refl wr).alloc _).alloc _)).mono ?_
          rintro e w1 ⟨rfl, hg⟩
          go_wp2
          go_ret
          exact ⟨by rw [HE.out]; rfl, HB.out.trans ((((Grew.refl wr).alloc _).alloc _).trans hg)⟩
      · have HE : Hid (decide (ls = ls') = true) := by
          have h1 : ls.take k = ls := List.take_of_length_le (by omega)
          have h2 : ls'.take k = ls' := List.take_of_length_le (by have := HLN.out; omega)
          have h3 := HT.out
          rw [h1, h2] at h3
          unfold Hid; simpa using h3
        go_wp2
        go_ret
        exact ⟨by rw [HE.out]; rfl, HB.out⟩
  · have hLb : ((ls.length : Int) != (ls'.length : Int)) = true := by simp; omega
    have HE : Hid (decide (ls = ls') = false) := lvs_len hLn
    clear hLn
    go_enter Try.func85, Try.ntmps85
    go_wp2
    go_ret
    exact ⟨by rw [HE.out]; rfl, Grew.refl _⟩
set_option maxRecDepth 100000 in
set_option maxHeartbeats 4000000 in
theorem sameFields_any (a b : Tm) (va vb : Value) (w : World) (hsa : smT 1000000 a) (hsb : smT 1000000 b) (hva : TV w va a) (hvb : TV w vb b) : Calls Try.prog 71 #[va, vb] w fun e w' => e = .returned (.bool (fsameB a b)) ∧ Grew w w' := by
  cases hva with
  | @mk f n hd nm ls ks la lc ka kc kb ko hl hln hlc hlm hkn hkc hkm hk kids =>
  cases hvb with
  | @mk f' n' hd' nm' ls' ks' la' lc' ka' kc' kb' ko' hl' hln' hlc' hlm' hkn' hkc' hkm' hk' kids' =>
  obtain ⟨-, s1, s2, -, -⟩ := (smT_mk _ _ _ _ _ _ _).1 hsa
  obtain ⟨-, -, s2', -, -⟩ := (smT_mk _ _ _ _ _ _ _).1 hsb
  have HEQ := fun (W : World) (g : Grew w W) => eqL_any ls ls' la la' lc lc' W (hl.below g.below) (hl'.below g.below) s1 s2 s2'
  generalize hR : fsameB (.mk f n hd nm ls ks) (.mk f' n' hd' nm' ls' ks') = R at *
  have HF := Hid.mk hR.symm
  clear hR hl hl' hk hk' kids kids' s1 s2 s2' hsa hsb hkn hkc hkm hkn' hkc' hkm' hln hlc hlm hln' hlc' hlm'
  by_cases hff : f = f'
  rotate_left
  · have HR : Hid (R = false) := by unfold Hid; rw [HF.out]; simp [fsameB, Tm.form, hff]
    have hcb : (f == f') = false := by simpa using hff
    have hcn : (f != f') = true := by simpa using hff
    clear hff
    go_enter Try.func71, Try.ntmps71
    go_wp2
    go_ret
    exact ⟨by rw [HR.out]; rfl, ((Grew.refl w).alloc _).alloc _⟩
  subst hff
  have hff : (f != f) = false := by simp
  rcases form_cases f with rfl | rfl | rfl | rfl | rfl | rfl | rfl | rfl | rfl | rfl | rfl | hin
  · by_cases hc : n = n'
    · have HR : Hid (R = true) := by unfold Hid; rw [HF.out]; simp [fsameB, Tm.form, Tm.n, hc]
      have hcb : (n == n') = true := by simpa using hc
      clear hc
      go_enter Try.func71, Try.ntmps71
      go_wp2
      go_ret
      exact ⟨by rw [HR.out]; rfl, ((Grew.refl w).alloc _).alloc _⟩
    · have HR : Hid (R = false) := by unfold Hid; rw [HF.out]; simp [fsameB, Tm.form, Tm.n, hc]
      have hcb : (n == n') = false := by simpa using hc
      clear hc
      go_enter Try.func71, Try.ntmps71
      go_wp2
      go_ret
      exact ⟨by rw [HR.out]; rfl, ((Grew.refl w).alloc _).alloc _⟩
  · have HR : Hid (R = decide (ls = ls')) := by unfold Hid; rw [HF.out]; simp [fsameB, Tm.form, Tm.levels]; exact decide_eq_decide.2 Iff.rfl
    generalize decide (ls = ls') = D at *
    go_enter Try.func71, Try.ntmps71
    go_wp2_with fail
    refine (HEQ _ (((Grew.refl w).alloc _).alloc _)).mono ?_
    rintro e w1 ⟨rfl, hg⟩
    go_wp2
    go_ret
    exact ⟨by rw [HR.out]; rfl, (((Grew.refl w).alloc _).alloc _).trans hg⟩
  · by_cases hc : hd = hd'
    · have HR : Hid (R = true) := by unfold Hid; rw [HF.out]; simp [fsameB, Tm.form, Tm.hid, hc]
      have hcb : (hd == hd') = true := by simpa using hc
      clear hc
      go_enter Try.func71, Try.ntmps71
      go_wp2
      go_ret
      exact ⟨by rw [HR.out]; rfl, ((Grew.refl w).alloc _).alloc _⟩
    · have HR : Hid (R = false) := by unfold Hid; rw [HF.out]; simp [fsameB, Tm.form, Tm.hid, hc]
      have hcb : (hd == hd') = false := by simpa using hc
      clear hc
      go_enter Try.func71, Try.ntmps71
      go_wp2
      go_ret
      exact ⟨by rw [HR.out]; rfl, ((Grew.refl w).alloc _).alloc _⟩
  · by_cases hc : hd = hd'
    · have HR : Hid (R = true) := by unfold Hid; rw [HF.out]; simp [fsameB, Tm.form, Tm.hid, hc]
      have hcb : (hd == hd') = true := by simpa using hc
      clear hc
      go_enter Try.func71, Try.ntmps71
      go_wp2
      go_ret
      exact ⟨by rw [HR.out]; rfl, ((Grew.refl w).alloc _).alloc _⟩
    · have HR : Hid (R = false) := by unfold Hid; rw [HF.out]; simp [fsameB, Tm.form, Tm.hid, hc]
      have hcb : (hd == hd') = false := by simpa using hc
      clear hc
      go_enter Try.func71, Try.ntmps71
      go_wp2
      go_ret
      exact ⟨by rw [HR.out]; rfl, ((Grew.refl w).alloc _).alloc _⟩
  · by_cases hc : hd = hd'
    · have HR : Hid (R = true) := by unfold Hid; rw [HF.out]; simp [fsameB, Tm.form, Tm.hid, hc]
      have hcb : (hd == hd') = true := by simpa using hc
      clear hc
      go_enter Try.func71, Try.ntmps71
      go_wp2
      go_ret
      exact ⟨by rw [HR.out]; rfl, ((Grew.refl w).alloc _).alloc _⟩
    · have HR : Hid (R = false) := by unfold Hid; rw [HF.out]; simp [fsameB, Tm.form, Tm.hid, hc]
      have hcb : (hd == hd') = false := by simpa using hc
      clear hc
      go_enter Try.func71, Try.ntmps71
      go_wp2
      go_ret
      exact ⟨by rw [HR.out]; rfl, ((Grew.refl w).alloc _).alloc _⟩
  · have HR : Hid (R = true) := by unfold Hid; rw [HF.out]; simp [fsameB, Tm.form]
    go_enter Try.func71, Try.ntmps71
    go_wp2
    go_ret
    exact ⟨by rw [HR.out]; rfl, ((Grew.refl w).alloc _).alloc _⟩
  · have HR : Hid (R = true) := by unfold Hid; rw [HF.out]; simp [fsameB, Tm.form]
    go_enter Try.func71, Try.ntmps71
    go_wp2
    go_ret
    exact ⟨by rw [HR.out]; rfl, ((Grew.refl w).alloc _).alloc _⟩
  · have HR : Hid (R = true) := by unfold Hid; rw [HF.out]; simp [fsameB, Tm.form]
    go_enter Try.func71, Try.ntmps71
    go_wp2
    go_ret
    exact ⟨by rw [HR.out]; rfl, ((Grew.refl w).alloc _).alloc _⟩
  · have HR : Hid (R = true) := by unfold Hid; rw [HF.out]; simp [fsameB, Tm.form]
    go_enter Try.func71, Try.ntmps71
    go_wp2
    go_ret
    exact ⟨by rw [HR.out]; rfl, ((Grew.refl w).alloc _).alloc _⟩
  · by_cases hc : nm.toList = nm'.toList
    · have HR : Hid (R = decide (ls = ls')) := by unfold Hid; rw [HF.out]; simp [fsameB, Tm.form, Tm.levels, Tm.name, hc]; exact decide_eq_decide.2 Iff.rfl
      have hcb : (nm.toList == nm'.toList) = true := by simpa using hc
      have hcn : (nm.toList != nm'.toList) = false := by simp [hc]
      generalize decide (ls = ls') = D at *
      clear hc
      go_enter Try.func71, Try.ntmps71
      go_wp2_with fail
      refine (HEQ _ (((Grew.refl w).alloc _).alloc _)).mono ?_
      rintro e w1 ⟨rfl, hg⟩
      go_wp2
      go_ret
      exact ⟨by rw [HR.out]; rfl, (((Grew.refl w).alloc _).alloc _).trans hg⟩
    · have HR : Hid (R = false) := by unfold Hid; rw [HF.out]; simp [fsameB, Tm.form, Tm.name, hc]
      have hcb : (nm.toList == nm'.toList) = false := by simpa using hc
      have hcn : (nm.toList != nm'.toList) = true := by simpa using hc
      clear hc
      go_enter Try.func71, Try.ntmps71
      go_wp2
      go_ret
      exact ⟨by rw [HR.out]; rfl, ((Grew.refl w).alloc _).alloc _⟩
  · by_cases hc : n = n'
    · have HR : Hid (R = true) := by unfold Hid; rw [HF.out]; simp [fsameB, Tm.form, Tm.n, hc]
      have hcb : (n == n') = true := by simpa using hc
      clear hc
      go_enter Try.func71, Try.ntmps71
      go_wp2
      go_ret
      exact ⟨by rw [HR.out]; rfl, ((Grew.refl w).alloc _).alloc _⟩
    · have HR : Hid (R = false) := by unfold Hid; rw [HF.out]; simp [fsameB, Tm.form, Tm.n, hc]
      have hcb : (n == n') = false := by simpa using hc
      clear hc
      go_enter Try.func71, Try.ntmps71
      go_wp2
      go_ret
      exact ⟨by rw [HR.out]; rfl, ((Grew.refl w).alloc _).alloc _⟩
  · have HR : Hid (R = true) := by unfold Hid; rw [HF.out]; simp [fsameB, Tm.form, show ¬ (f = 1 ∨ f = 11) by omega, show ¬ (f = 3 ∨ f = 4 ∨ f = 5) by omega, show ¬ f = 10 by omega, show ¬ f = 2 by omega]
    have n1 : (f == 1) = false := by simp; omega
    have n2 : (f == 2) = false := by simp; omega
    have n3 : (f == 3) = false := by simp; omega
    have n4 : (f == 4) = false := by simp; omega
    have n5 : (f == 5) = false := by simp; omega
    have n10 : (f == 10) = false := by simp; omega
    have n11 : (f == 11) = false := by simp; omega
    clear hin
    go_enter Try.func71, Try.ntmps71
    go_wp2
    go_ret
    exact ⟨by rw [HR.out]; rfl, ((Grew.refl w).alloc _).alloc _⟩
end Go.Proofs.Ytbgkeomlfdmkeaa
