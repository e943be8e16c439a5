/- The contract of telamonref1.Clean, form by form. -/
import Derived.Test.YtbgkeomlfdmkeaaFD
import Derived.Test.YtbgkeomlfdmkeaaFF
import Derived.Test.YtbgkeomlfdmkeaaFG
import Derived.Test.YtbgkeomlfdmkeaaOJA
import Derived.Test.YtbgkeomlfdmkeaaLVS
namespace Go.Proofs.Ytbgkeomlfdmkeaa
open Go.RowKit Go.Sort

theorem Clean_any (t : Tm) : ∀ (v : Value) (w : World), smT 1000000 t → formedB t = true → TV w v t → Calls Try.prog 68 #[v] w fun e w' => ∃ v', e = .returned v' ∧ ShapeT v' ∧ TF w' (fun k => decide (k < w.heap.size)) v' (cleanT t) ∧ RowKit.Below w.heap.size w w' := by
  refine Tm.ind (P := fun t => ∀ (v : Value) (w : World), smT 1000000 t → formedB t = true → TV w v t → Calls Try.prog 68 #[v] w fun e w' => ∃ v', e = .returned v' ∧ ShapeT v' ∧ TF w' (fun k => decide (k < w.heap.size)) v' (cleanT t) ∧ RowKit.Below w.heap.size w w') ?_ t
  intro f n hd nm ls ks ih v w hsm hfm hv
  have hkl := (formed_len hfm).1
  by_cases h3 : f = 3
  · subst h3; exact Clean3 n hd nm ls ks ih v w hsm hfm hv
  by_cases h4 : f = 4
  · subst h4; exact Clean4 n hd nm ls ks ih v w hsm hfm hv
  by_cases h5 : f = 5
  · subst h5; exact Clean5 n hd nm ls ks ih v w hsm hfm hv
  by_cases h6 : f = 6
  · subst h6; exact Clean6 n hd nm ls ks ih v w hsm hfm hv
  by_cases h7 : f = 7
  · subst h7; exact Clean7 n hd nm ls ks ih v w hsm hfm hv
  by_cases h8 : f = 8
  · subst h8; exact Clean8 n hd nm ls ks ih v w hsm hfm hv
  by_cases h9 : f = 9
  · subst h9; exact Clean9 n hd nm ls ks ih v w hsm hfm hv
  by_cases h1 : f = 1
  · subst h1; exact Clean1 n hd nm ls ks ih v w hsm hfm hv
  by_cases h11 : f = 11
  · subst h11; exact Clean11 n hd nm ls ks ih v w hsm hfm hv
  by_cases h2 : f = 2
  · subst h2; exact Clean2 n hd nm ls ks ih v w hsm hfm hv
  by_cases h10 : f = 10
  · subst h10; exact Clean10 n hd nm ls ks ih v w hsm hfm hv
  exfalso
  unfold kidsR at hkl
  rw [if_neg (by omega), if_neg (by omega), if_neg (by omega), if_neg (by omega)] at hkl
  omega
end Go.Proofs.Ytbgkeomlfdmkeaa

/- The contracts of telamonref1.whole and Lift. -/
namespace Go.Proofs.Ytbgkeomlfdmkeaa
open Go.RowKit Go.Sort

/-- a term that does not look into what lies ahead of B and no error, or the zero term and an error -/
def AnsV (B : Nat) (e : Ending) (w' : World) : Except Int Tm → Prop
  | .ok r => ∃ v, e = .returned (.tuple #[v, .int .i64 0]) ∧ ShapeT v ∧ TF w' (fun k => decide (k < B)) v r
  | .error c => e = .returned (.tuple #[zeroV, .int .i64 c])

/-- what whole answers -/
def wholeRes (t : Tm) : Except Int Tm := if checkT t = 0 then .ok (cleanT t) else .error 2

set_option maxRecDepth 100000 in
set_option maxHeartbeats 2000000 in
theorem whole_any (t : Tm) (v : Value) (w : World) (hv : TV w v t) (hsm : smT 1000000 t) : Calls Try.prog 52 #[v] w fun e w' => AnsV w.heap.size e w' (wholeRes t) ∧ RowKit.Below w.heap.size w w' := by
  have HCH := fun (W : World) (h : RowKit.Below w.heap.size w W) => rCheck_any t v W (hv.on h) hsm
  have HCL := fun (hc : checkT t = 0) (W : World) (h : RowKit.Below w.heap.size w W) => Clean_any t v W hsm (check_ok hc).2.2 (hv.on h)
  have HR : Hid (wholeRes t = if checkT t = 0 then .ok (cleanT t) else .error 2) := rfl
  generalize wholeRes t = R at HR ⊢
  generalize cleanT t = CT at *
  obtain ⟨la, lc, ka, kc, rfl⟩ := hv.shape
  clear hv hsm
  generalize checkT t = C at *
  generalize t.form = f at *
  generalize t.n = n at *
  generalize t.hid = hd at *
  generalize t.name = nm at *
  generalize t.levels.length = l1 at *
  generalize t.kids.length = k1 at *
  obtain ⟨W0, hW0⟩ : ∃ W0, (w.alloc (.cells #[.int .i64 f, .int .i64 n, .bool hd, .string nm, .slice la l1 lc, .slice ka k1 kc] 25)).alloc (.cells #[.int .i64 0, .int .i64 0, .bool false, .string { data := #[] }, .slice none 0 0, .slice none 0 0] 25) = W0 := ⟨_, rfl⟩
  have HG0 : Hid (Grew w W0) := by unfold Hid; rw [← hW0]; exact ((Grew.refl w).alloc _).alloc _
  have HX0 : Hid (W0.heap[w.heap.size]? = some (.cells #[.int .i64 f, .int .i64 n, .bool hd, .string nm, .slice la l1 lc, .slice ka k1 kc] 25 (0, 0))) := by unfold Hid; rw [← hW0]; exact box_at
  have HY0 : Hid (W0.heap[w.heap.size + 1]? = some (.cells #[.int .i64 0, .int .i64 0, .bool false, .string { data := #[] }, .slice none 0 0, .slice none 0 0] 25 (0, 0))) := by unfold Hid; rw [← hW0]; exact box_at1
  have hsz0 : W0.heap.size = w.heap.size + 2 := by rw [← hW0]; simp
  have HW0 := Hid.mk hW0
  clear hW0
  by_cases hc : C = 0
  · subst hc
    rw [if_pos rfl] at HR
    have HCL2 := HCL rfl
    clear HCL
    go_enter Try.func52, Try.ntmps52
    go_wp2_with fail
    rw [HW0.out]
    refine (HCH _ HG0.out.below).mono ?_
    rintro e w1 ⟨rfl, hb1⟩
    have HB1 : Hid (RowKit.Below w.heap.size w w1) := HG0.out.below.trans (hb1.mono HG0.out.below.size)
    have HX1 := Hid.mk ((hb1.block w.heap.size (heap_lt HX0.out)).trans HX0.out)
    have HY1 := Hid.mk ((hb1.block (w.heap.size + 1) (heap_lt HY0.out)).trans HY0.out)
    have hs1 := hb1.size
    clear hb1
    obtain ⟨x0, x1, x2, x3, x4, x5, x6⟩ := cells6 HX1.out
    go_wp2_with fail
    refine (HCL2 _ HB1.out).mono ?_
    rintro e w2 ⟨v', rfl, ⟨u0, u1, u2, u3, r1, r2, r3, s1, s2, s3, rfl⟩, htf, hb2⟩
    have HTF := Hid.mk htf
    have HB2 := Hid.mk hb2
    have hs2 := hb2.size
    have hby := (hb2.block (w.heap.size + 1) (heap_lt HY1.out)).trans HY1.out
    obtain ⟨y0, y1, y2, y3, y4, y5, y6⟩ := cells6 hby
    have fy := frz hby
    clear hby htf hb2 x0 x1 x2 x3 x4 x5 x6
    go_wp2
    refine bodyPost_ret (v := .tuple #[.agg #[.int .i64 u0, .int .i64 u1, .bool u2, .string u3, .slice r1 r2 r3, .slice s1 s2 s3], .int .i64 0]) (by simp [results, Try.results52, go_sem, y0, y1, y2, y3, y4, y5]) rfl ?_
    have KF := keep6 (P := fun k => k = w.heap.size + 1) (w := w2) (b := w.heap.size + 1) (a0 := .int .i64 u0) (a1 := .int .i64 u1) (a2 := .bool u2) (a3 := .string u3) (a4 := .slice r1 r2 r3) (a5 := .slice s1 s2 s3) rfl
    refine ⟨?_, HB1.out.trans ((HB2.out.mono (by omega)).trans (KF.below (by omega) (fun k hk => by omega)))⟩
    rw [HR.out]
    refine ⟨_, rfl, ⟨_, _, _, _, _, _, _, _, _, _, rfl⟩, ?_⟩
    exact HTF.out.move KF.size (fun k h1 h2 => ⟨by simp at h2 ⊢; omega, KF.block k h1 (fun e => by subst e; simp at h2; omega)⟩)
  · have hcb : (C != 0) = true := by simpa using hc
    have hcb' : (C == 0) = false := by simpa using hc
    rw [if_neg hc] at HR
    clear HCL
    go_enter Try.func52, Try.ntmps52
    go_wp2_with fail
    rw [HW0.out]
    refine (HCH _ HG0.out.below).mono ?_
    rintro e w1 ⟨rfl, hb1⟩
    have HB1 : Hid (RowKit.Below w.heap.size w w1) := HG0.out.below.trans (hb1.mono HG0.out.below.size)
    have hby := (hb1.block (w.heap.size + 1) (heap_lt HY0.out)).trans HY0.out
    have hs1 := hb1.size
    obtain ⟨y0, y1, y2, y3, y4, y5, y6⟩ := cells6 hby
    have fy := frz hby
    clear hby hb1
    go_wp2
    refine bodyPost_ret (v := .tuple #[zeroV, .int .i64 2]) (by simp [results, Try.results52, go_sem, zeroV, y0, y1, y2, y3, y4, y5]) rfl ?_
    have KF := keep6 (P := fun k => k = w.heap.size + 1) (w := w1) (b := w.heap.size + 1) (a0 := .int .i64 0) (a1 := .int .i64 0) (a2 := .bool false) (a3 := .string { data := #[] }) (a4 := .slice none 0 0) (a5 := .slice none 0 0) rfl
    refine ⟨?_, HB1.out.trans (KF.below (by omega) (fun k hk => by omega))⟩
    rw [HR.out]
    exact rfl

theorem lift_res {t : Tm} {fr by_ : Int} (hc : checkT t = 0) (h : ¬ (fr < 0 ∨ 1048576 < fr ∨ by_ < 0 ∨ 1048576 < by_)) : liftRes t fr by_ = wholeRes (rliftT by_ t fr) := by
  obtain ⟨h1, h2⟩ := lift_whole (fr := fr) (by_ := by_) hc
  unfold liftRes wholeRes
  rw [if_neg (by simpa using hc), if_neg h, h1, h2]

set_option maxRecDepth 100000 in
set_option maxHeartbeats 4000000 in
theorem rLift_any (t : Tm) (v : Value) (fr by_ : Int) (w : World) (hv : TV w v t) (hsm : smT 1000000 t) : Calls Try.prog 24 #[v, .int .i64 fr, .int .i64 by_] w fun e w' => AnsV w.heap.size e w' (liftRes t fr by_) ∧ RowKit.Below w.heap.size w w' := by
  have HCH := fun (W : World) (h : RowKit.Below w.heap.size w W) => rCheck_any t v W (hv.on h) hsm
  have HLI := fun (hc : checkT t = 0) (h : ¬ (fr < 0 ∨ 1048576 < fr ∨ by_ < 0 ∨ 1048576 < by_)) (W : World) (hb : RowKit.Below w.heap.size w W) => rlift_any by_ (by omega) (by omega) t (fun _ => false) fr v W (by omega) (by have := (check_ok hc).2.1; omega) hsm (check_ok hc).2.2 ((hv.on hb).tf (fun _ _ => rfl)) (fun _ _ => rfl)
  have HWH := fun (v' : Value) (W : World) (h : TV W v' (rliftT by_ t fr)) => whole_any (rliftT by_ t fr) v' W h (smT_rlift by_ 1000000 t fr hsm)
  have HR1 : Hid (checkT t = 0 → ¬ (fr < 0 ∨ 1048576 < fr ∨ by_ < 0 ∨ 1048576 < by_) → liftRes t fr by_ = wholeRes (rliftT by_ t fr)) := lift_res
  have HR2 : Hid (checkT t = 0 → (fr < 0 ∨ 1048576 < fr ∨ by_ < 0 ∨ 1048576 < by_) → liftRes t fr by_ = .error 1) := fun hc h => by unfold liftRes; rw [if_neg (by simpa using hc), if_pos h]
  have HR3 : Hid (checkT t ≠ 0 → liftRes t fr by_ = .error (checkT t)) := fun hc => by unfold liftRes; rw [if_pos hc]
  generalize liftRes t fr by_ = R at *
  generalize wholeRes (rliftT by_ t fr) = RW at *
  generalize rliftT by_ t fr = RT at *
  obtain ⟨la, lc, ka, kc, rfl⟩ := hv.shape
  clear hv hsm
  generalize checkT t = C at *
  generalize t.form = f at *
  generalize t.n = n at *
  generalize t.hid = hd at *
  generalize t.name = nm at *
  generalize t.levels.length = l1 at *
  generalize t.kids.length = k1 at *
  obtain ⟨W0, hW0⟩ : ∃ W0, (w.alloc (.cells #[.int .i64 f, .int .i64 n, .bool hd, .string nm, .slice la l1 lc, .slice ka k1 kc] 25)).alloc (.cells #[.int .i64 0, .int .i64 0, .bool false, .string { data := #[] }, .slice none 0 0, .slice none 0 0] 25) = W0 := ⟨_, rfl⟩
  have HG0 : Hid (Grew w W0) := by unfold Hid; rw [← hW0]; exact ((Grew.refl w).alloc _).alloc _
  have HX0 : Hid (W0.heap[w.heap.size]? = some (.cells #[.int .i64 f, .int .i64 n, .bool hd, .string nm, .slice la l1 lc, .slice ka k1 kc] 25 (0, 0))) := by unfold Hid; rw [← hW0]; exact box_at
  have HY0 : Hid (W0.heap[w.heap.size + 1]? = some (.cells #[.int .i64 0, .int .i64 0, .bool false, .string { data := #[] }, .slice none 0 0, .slice none 0 0] 25 (0, 0))) := by unfold Hid; rw [← hW0]; exact box_at1
  have hsz0 : W0.heap.size = w.heap.size + 2 := by rw [← hW0]; simp
  have HW0 := Hid.mk hW0
  clear hW0
  by_cases hc : C = 0
  · subst hc
    by_cases hbad : fr < 0 ∨ 1048576 < fr ∨ by_ < 0 ∨ 1048576 < by_
    · have HE : Hid (R = .error 1) := HR2.out rfl hbad
      have hcases : fr < 0 ∨ (0 ≤ fr ∧ by_ < 0) ∨ (0 ≤ fr ∧ 0 ≤ by_ ∧ 1048576 < fr) ∨ (0 ≤ fr ∧ 0 ≤ by_ ∧ fr ≤ 1048576 ∧ 1048576 < by_) := by omega
      clear HR1 HR2 HR3 hbad HLI HWH
      rcases hcases with h1 | ⟨h1, h2⟩ | ⟨h1, h2, h3⟩ | ⟨h1, h2, h3, h4⟩
      all_goals
        go_enter Try.func24, Try.ntmps24
        go_wp2_with fail
        rw [HW0.out]
        refine (HCH _ HG0.out.below).mono ?_
        rintro e w1 ⟨rfl, hb1⟩
        have HB1 : Hid (RowKit.Below w.heap.size w w1) := HG0.out.below.trans (hb1.mono HG0.out.below.size)
        have hby := (hb1.block (w.heap.size + 1) (heap_lt HY0.out)).trans HY0.out
        have hs1 := hb1.size
        obtain ⟨y0, y1, y2, y3, y4, y5, y6⟩ := cells6 hby
        have fy := frz hby
        clear hby hb1
        go_wp2
        refine bodyPost_ret (v := .tuple #[zeroV, .int .i64 1]) (by simp [results, Try.results24, go_sem, zeroV, y0, y1, y2, y3, y4, y5]) rfl ?_
        have KF := keep6 (P := fun k => k = w.heap.size + 1) (w := w1) (b := w.heap.size + 1) (a0 := .int .i64 0) (a1 := .int .i64 0) (a2 := .bool false) (a3 := .string { data := #[] }) (a4 := .slice none 0 0) (a5 := .slice none 0 0) rfl
        refine ⟨?_, HB1.out.trans (KF.below (by omega) (fun k hk => by omega))⟩
        rw [HE.out]
        exact rfl
    · have HE : Hid (R = RW) := HR1.out rfl hbad
      have HLI2 := HLI rfl hbad
      have g1 : 0 ≤ fr := by omega
      have g2 : fr ≤ 1048576 := by omega
      have g3 : 0 ≤ by_ := by omega
      have g4 : by_ ≤ 1048576 := by omega
      clear HR1 HR2 HR3 HLI hbad
      go_enter Try.func24, Try.ntmps24
      go_wp2_with fail
      rw [HW0.out]
      refine (HCH _ HG0.out.below).mono ?_
      rintro e w1 ⟨rfl, hb1⟩
      have HB1 : Hid (RowKit.Below w.heap.size w w1) := HG0.out.below.trans (hb1.mono HG0.out.below.size)
      have HX1 := Hid.mk ((hb1.block w.heap.size (heap_lt HX0.out)).trans HX0.out)
      have HY1 := Hid.mk ((hb1.block (w.heap.size + 1) (heap_lt HY0.out)).trans HY0.out)
      have hs1 := hb1.size
      clear hb1
      obtain ⟨x0, x1, x2, x3, x4, x5, x6⟩ := cells6 HX1.out
      go_wp2_with fail
      refine (HLI2 _ HB1.out).mono ?_
      rintro e w2 ⟨v', rfl, ⟨u0, u1, u2, u3, r1, r2, r3, s1, s2, s3, rfl⟩, htf, hb2⟩
      have HB2 := Hid.mk hb2
      have hs2 := hb2.size
      have HY2 := Hid.mk ((hb2.block (w.heap.size + 1) (heap_lt HY1.out)).trans HY1.out)
      have HC3 := HWH _ w2 htf.tv
      clear htf hb2 x0 x1 x2 x3 x4 x5 x6 HWH
      go_wp2_with fail
      refine HC3.mono ?_
      rintro e w3 ⟨hans, hb3⟩
      have HB3 := Hid.mk hb3
      have hs3 := hb3.size
      have hby := (hb3.block (w.heap.size + 1) (heap_lt HY2.out)).trans HY2.out
      obtain ⟨y0, y1, y2, y3, y4, y5, y6⟩ := cells6 hby
      have fy := frz hby
      clear hby hb3 HC3
      cases RW with
      | error c =>
        obtain rfl := hans
        unfold zeroV
        go_wp2
        refine bodyPost_ret (v := .tuple #[zeroV, .int .i64 c]) (by simp [results, Try.results24, go_sem, zeroV, y0, y1, y2, y3, y4, y5]) rfl ?_
        have KF := keep6 (P := fun k => k = w.heap.size + 1) (w := w3) (b := w.heap.size + 1) (a0 := .int .i64 0) (a1 := .int .i64 0) (a2 := .bool false) (a3 := .string { data := #[] }) (a4 := .slice none 0 0) (a5 := .slice none 0 0) rfl
        refine ⟨?_, HB1.out.trans ((HB2.out.mono (by omega)).trans ((HB3.out.mono (by omega)).trans (KF.below (by omega) (fun k hk => by omega))))⟩
        rw [HE.out]
        exact rfl
      | ok r =>
        obtain ⟨v3, rfl, ⟨t0, t1, t2, t3, o1, o2, o3, p1, p2, p3, rfl⟩, htv⟩ := hans
        have HTV := Hid.mk htv
        clear htv
        go_wp2
        refine bodyPost_ret (v := .tuple #[.agg #[.int .i64 t0, .int .i64 t1, .bool t2, .string t3, .slice o1 o2 o3, .slice p1 p2 p3], .int .i64 0]) (by simp [results, Try.results24, go_sem, y0, y1, y2, y3, y4, y5]) rfl ?_
        have KF := keep6 (P := fun k => k = w.heap.size + 1) (w := w3) (b := w.heap.size + 1) (a0 := .int .i64 t0) (a1 := .int .i64 t1) (a2 := .bool t2) (a3 := .string t3) (a4 := .slice o1 o2 o3) (a5 := .slice p1 p2 p3) rfl
        refine ⟨?_, HB1.out.trans ((HB2.out.mono (by omega)).trans ((HB3.out.mono (by omega)).trans (KF.below (by omega) (fun k hk => by omega))))⟩
        rw [HE.out]
        refine ⟨_, rfl, ⟨_, _, _, _, _, _, _, _, _, _, rfl⟩, ?_⟩
        exact HTV.out.move KF.size (fun k h1 h2 => ⟨by simp at h2 ⊢; omega, KF.block k h1 (fun e => by subst e; simp at h2; omega)⟩)
  · have hcb : (C != 0) = true := by simpa using hc
    have hcb' : (C == 0) = false := by simpa using hc
    have HE : Hid (R = .error C) := HR3.out hc
    clear HR1 HR2 HR3 HLI HWH
    go_enter Try.func24, Try.ntmps24
    go_wp2_with fail
    rw [HW0.out]
    refine (HCH _ HG0.out.below).mono ?_
    rintro e w1 ⟨rfl, hb1⟩
    have HB1 : Hid (RowKit.Below w.heap.size w w1) := HG0.out.below.trans (hb1.mono HG0.out.below.size)
    have hby := (hb1.block (w.heap.size + 1) (heap_lt HY0.out)).trans HY0.out
    have hs1 := hb1.size
    obtain ⟨y0, y1, y2, y3, y4, y5, y6⟩ := cells6 hby
    have fy := frz hby
    clear hby hb1
    go_wp2
    refine bodyPost_ret (v := .tuple #[zeroV, .int .i64 C]) (by simp [results, Try.results24, go_sem, zeroV, y0, y1, y2, y3, y4, y5]) rfl ?_
    have KF := keep6 (P := fun k => k = w.heap.size + 1) (w := w1) (b := w.heap.size + 1) (a0 := .int .i64 0) (a1 := .int .i64 0) (a2 := .bool false) (a3 := .string { data := #[] }) (a4 := .slice none 0 0) (a5 := .slice none 0 0) rfl
    refine ⟨?_, HB1.out.trans (KF.below (by omega) (fun k hk => by omega))⟩
    rw [HE.out]
    exact rfl
end Go.Proofs.Ytbgkeomlfdmkeaa

/- The contract of telamonref1.Levels. -/
namespace Go.Proofs.Ytbgkeomlfdmkeaa
open Go.RowKit Go.Sort

set_option maxRecDepth 100000 in
set_option maxHeartbeats 4000000 in
theorem rLevels_any (t : Tm) (v : Value) (args : List LvT) (aa : Option Addr) (acap : Nat) (w : World) (hv : TV w v t) (hsm : smT 1000000 t) (hA : LL w aa args) (hal : args.length ≤ 1000000) (hax : ∀ l ∈ args, l.2.length ≤ 1000000) : Calls Try.prog 27 #[v, .slice aa args.length acap] w fun e w' => AnsV w.heap.size e w' (levRes t args) ∧ RowKit.Below w.heap.size w w' := by
  have HCH := fun (W : World) (h : RowKit.Below w.heap.size w W) => rCheck_any t v W (hv.on h) hsm
  have HPU := fun (hc : checkT t = 0) (W : World) (h : RowKit.Below w.heap.size w W) => rput_any args aa acap w hA hal hax t (fun _ => false) v W hsm (check_ok hc).2.2 ((hv.on h).tf (fun _ _ => rfl)) (fun _ _ => rfl) h
  have HWH := fun (x : Tm) (hx : rputT args t = some x) (v' : Value) (W : World) (h : TV W v' x) => whole_any x v' W h (smT_put (by omega) args t hsm x hx)
  have HR0 : Hid (checkT t ≠ 0 → levRes t args = .error (checkT t)) := fun hc => by unfold levRes; rw [if_pos hc]
  have HR1 : Hid (checkT t = 0 → rputT args t = none → levRes t args = .error 13) := fun hc h => by unfold levRes; rw [if_neg (by simpa using hc), h]
  have HR2 : Hid (∀ x, checkT t = 0 → rputT args t = some x → levRes t args = wholeRes x) := fun x hc h => by unfold levRes; rw [if_neg (by simpa using hc), h]; rfl
  generalize levRes t args = R at *
  obtain ⟨la, lc, ka, kc, rfl⟩ := hv.shape
  clear hv hsm hA hax
  generalize checkT t = C at *
  generalize t.form = f at *
  generalize t.n = n at *
  generalize t.hid = hd at *
  generalize t.name = nm at *
  generalize t.levels.length = l1 at *
  generalize t.kids.length = k1 at *
  generalize rputT args t = RP at *
  obtain ⟨W0, hW0⟩ : ∃ W0, (w.alloc (.cells #[.int .i64 f, .int .i64 n, .bool hd, .string nm, .slice la l1 lc, .slice ka k1 kc] 25)).alloc (.cells #[.int .i64 0, .int .i64 0, .bool false, .string { data := #[] }, .slice none 0 0, .slice none 0 0] 25) = W0 := ⟨_, rfl⟩
  have HG0 : Hid (Grew w W0) := by unfold Hid; rw [← hW0]; exact ((Grew.refl w).alloc _).alloc _
  have HX0 : Hid (W0.heap[w.heap.size]? = some (.cells #[.int .i64 f, .int .i64 n, .bool hd, .string nm, .slice la l1 lc, .slice ka k1 kc] 25 (0, 0))) := by unfold Hid; rw [← hW0]; exact box_at
  have HY0 : Hid (W0.heap[w.heap.size + 1]? = some (.cells #[.int .i64 0, .int .i64 0, .bool false, .string { data := #[] }, .slice none 0 0, .slice none 0 0] 25 (0, 0))) := by unfold Hid; rw [← hW0]; exact box_at1
  have hsz0 : W0.heap.size = w.heap.size + 2 := by rw [← hW0]; simp
  have HW0 := Hid.mk hW0
  clear hW0
  by_cases hc : C = 0
  · subst hc
    have HPP := HPU rfl
    clear HPU HR0
    go_enter Try.func27, Try.ntmps27
    go_wp2_with fail
    rw [HW0.out]
    refine (HCH _ HG0.out.below).mono ?_
    rintro e w1 ⟨rfl, hb1⟩
    have hs1 := hb1.size
    have HB1 : Hid (RowKit.Below w.heap.size w w1) := HG0.out.below.trans (hb1.mono HG0.out.below.size)
    have HX1 := Hid.mk ((hb1.block w.heap.size (heap_lt HX0.out)).trans HX0.out)
    have HY1 := Hid.mk ((hb1.block (w.heap.size + 1) (heap_lt HY0.out)).trans HY0.out)
    clear hb1
    obtain ⟨x0, x1, x2, x3, x4, x5, x6⟩ := cells6 HX1.out
    go_wp2_with fail
    refine (HPP _ HB1.out).mono ?_
    rintro e w2 ⟨hout, hb2⟩
    have HB2 := Hid.mk hb2
    have hs2 := hb2.size
    have HY2 := Hid.mk ((hb2.block (w.heap.size + 1) (heap_lt HY1.out)).trans HY1.out)
    clear hb2 x0 x1 x2 x3 x4 x5 x6
    cases RP with
    | none =>
      have hout : e = .returned (.tuple #[zeroV, .bool false]) := hout
      subst hout
      have HE : Hid (R = .error 13) := HR1.out (by trivial) rfl
      obtain ⟨y0, y1, y2, y3, y4, y5, y6⟩ := cells6 HY2.out
      have fy := frz HY2.out
      unfold zeroV
      go_wp2
      refine bodyPost_ret (v := .tuple #[zeroV, .int .i64 13]) (by simp [results, Try.results27, go_sem, zeroV, y0, y1, y2, y3, y4, y5, y6]) rfl ⟨by rw [HE.out]; rfl, ?_⟩
      have KF := (keep6 (P := fun k => k = w.heap.size + 1) (w := w2) (b := w.heap.size + 1) (a0 := .int .i64 0) (a1 := .int .i64 0) (a2 := .bool false) (a3 := .string { data := #[] }) (a4 := .slice none 0 0) (a5 := .slice none 0 0) rfl).alloc (.cells #[.int .i64 0, .int .i64 0, .bool false, .string { data := #[] }, .slice none 0 0, .slice none 0 0] 25)
      exact HB1.out.trans ((HB2.out.mono (by omega)).trans (KF.below (by omega) (fun k hk => by omega)))
    | some x =>
      obtain ⟨v', rfl, ⟨u0, u1, u2, u3, r1, r2, r3, s1, s2, s3, rfl⟩, htf⟩ := hout
      have HE : Hid (R = wholeRes x) := HR2.out x (by trivial) rfl
      obtain ⟨w3, hw3⟩ : ∃ w3, w2.alloc (.cells #[.int .i64 u0, .int .i64 u1, .bool u2, .string u3, .slice r1 r2 r3, .slice s1 s2 s3] 25) = w3 := ⟨_, rfl⟩
      have hb3 : RowKit.Below w2.heap.size w2 w3 := by rw [← hw3]; exact (Below.refl _ _).alloc (Nat.le_refl _) _
      have hs3 := hb3.size
      have HC3 := HWH x rfl _ w3 (htf.tv.on hb3)
      have HB3 := Hid.mk hb3
      have HY3 := Hid.mk ((hb3.block (w.heap.size + 1) (heap_lt HY2.out)).trans HY2.out)
      have HW3 := Hid.mk hw3
      clear htf hb3 hw3 HWH
      generalize wholeRes x = RW at *
      go_wp2_with fail
      rw [HW3.out]
      refine HC3.mono ?_
      rintro e w4 ⟨hans, hb4⟩
      have HB4 := Hid.mk hb4
      have hs4 := hb4.size
      have hby := (hb4.block (w.heap.size + 1) (heap_lt HY3.out)).trans HY3.out
      obtain ⟨y0, y1, y2, y3, y4, y5, y6⟩ := cells6 hby
      have fy := frz hby
      clear hby hb4 HC3
      cases RW with
      | error c =>
        have hans : e = .returned (.tuple #[zeroV, .int .i64 c]) := hans
        subst hans
        unfold zeroV
        go_wp2
        refine bodyPost_ret (v := .tuple #[zeroV, .int .i64 c]) (by simp [results, Try.results27, go_sem, zeroV, y0, y1, y2, y3, y4, y5]) rfl ?_
        have KF := keep6 (P := fun k => k = w.heap.size + 1) (w := w4) (b := w.heap.size + 1) (a0 := .int .i64 0) (a1 := .int .i64 0) (a2 := .bool false) (a3 := .string { data := #[] }) (a4 := .slice none 0 0) (a5 := .slice none 0 0) rfl
        refine ⟨?_, HB1.out.trans ((HB2.out.mono (by omega)).trans ((HB3.out.mono (by omega)).trans ((HB4.out.mono (by omega)).trans (KF.below (by omega) (fun k hk => by omega)))))⟩
        rw [HE.out]
        exact rfl
      | ok r =>
        obtain ⟨v4, rfl, ⟨t0, t1, t2, t3, o1, o2, o3, p1, p2, p3, rfl⟩, htv⟩ := hans
        have HTV := Hid.mk htv
        clear htv
        go_wp2
        refine bodyPost_ret (v := .tuple #[.agg #[.int .i64 t0, .int .i64 t1, .bool t2, .string t3, .slice o1 o2 o3, .slice p1 p2 p3], .int .i64 0]) (by simp [results, Try.results27, go_sem, y0, y1, y2, y3, y4, y5]) rfl ?_
        have KF := keep6 (P := fun k => k = w.heap.size + 1) (w := w4) (b := w.heap.size + 1) (a0 := .int .i64 t0) (a1 := .int .i64 t1) (a2 := .bool t2) (a3 := .string t3) (a4 := .slice o1 o2 o3) (a5 := .slice p1 p2 p3) rfl
        refine ⟨?_, HB1.out.trans ((HB2.out.mono (by omega)).trans ((HB3.out.mono (by omega)).trans ((HB4.out.mono (by omega)).trans (KF.below (by omega) (fun k hk => by omega)))))⟩
        rw [HE.out]
        refine ⟨_, rfl, ⟨_, _, _, _, _, _, _, _, _, _, rfl⟩, ?_⟩
        exact HTV.out.move KF.size (fun k h1 h2 => ⟨by simp at h2 ⊢; omega, KF.block k h1 (fun e => by subst e; simp at h2; omega)⟩)
  · have hcb : (C != 0) = true := by simpa using hc
    have hcb' : (C == 0) = false := by simpa using hc
    have HE : Hid (R = .error C) := HR0.out hc
    clear HR1 HR2 HR0 HPU HWH
    go_enter Try.func27, Try.ntmps27
    go_wp2_with fail
    rw [HW0.out]
    refine (HCH _ HG0.out.below).mono ?_
    rintro e w1 ⟨rfl, hb1⟩
    have HB1 : Hid (RowKit.Below w.heap.size w w1) := HG0.out.below.trans (hb1.mono HG0.out.below.size)
    have hby := (hb1.block (w.heap.size + 1) (heap_lt HY0.out)).trans HY0.out
    have hs1 := hb1.size
    obtain ⟨y0, y1, y2, y3, y4, y5, y6⟩ := cells6 hby
    have fy := frz hby
    clear hby hb1
    go_wp2
    refine bodyPost_ret (v := .tuple #[zeroV, .int .i64 C]) (by simp [results, Try.results27, go_sem, zeroV, y0, y1, y2, y3, y4, y5]) rfl ?_
    have KF := keep6 (P := fun k => k = w.heap.size + 1) (w := w1) (b := w.heap.size + 1) (a0 := .int .i64 0) (a1 := .int .i64 0) (a2 := .bool false) (a3 := .string { data := #[] }) (a4 := .slice none 0 0) (a5 := .slice none 0 0) rfl
    refine ⟨?_, HB1.out.trans (KF.below (by omega) (fun k hk => by omega))⟩
    rw [HE.out]
    exact rfl
end Go.Proofs.Ytbgkeomlfdmkeaa
