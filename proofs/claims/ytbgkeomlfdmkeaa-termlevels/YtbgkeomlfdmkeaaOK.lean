/- The contract of term.Subst. -/
import Derived.Test.YtbgkeomlfdmkeaaOKA
namespace Go.Proofs.Ytbgkeomlfdmkeaa
open Go.RowKit Go.Sort

/-- a part with one variable replaced, as long as there is room -/
def repV (at_ size : Int) (sT : Tm) (room : Int) (t : Tm) (b _ : Int) : Except Int (Int × Tm) :=
  if t.form = 1 ∧ t.n - b = at_ then (if room - size < 0 then .error 2 else .ok (room - size, liftT 0 b sT 0))
  else if room - 1 < 0 then .error 2 else .ok (room - 1, if t.form = 1 ∧ at_ < t.n - b then (bareT t).setN (t.n - 1) else bareT t)

theorem setN_self (t : Tm) : t.setN (t.n - 0) = t := by cases t; simp [Tm.setN, Tm.n]

theorem rep_one (at_ : Int) (sT : Tm) : repL at_ [sT] = repV at_ (sizeT sT) sT := by
  funext room t b p
  unfold repL repV
  by_cases hf : t.form = 1
  · have hn : (bareT t).n = t.n := by cases t; simp only [Tm.form] at hf; simp [bareT, Tm.n, hf]
    rcases (show t.n - b < at_ ∨ t.n - b = at_ ∨ at_ < t.n - b by omega) with h | h | h
    · rw [if_neg (show ¬ (t.form = 1 ∧ at_ ≤ t.n - b) by omega), if_neg (show ¬ (t.form = 1 ∧ t.n - b = at_) by omega), setN_self, if_neg (show ¬ (t.form = 1 ∧ at_ < t.n - b) by omega)]
    · rw [if_pos (show t.form = 1 ∧ at_ ≤ t.n - b by omega), if_pos (show t.n - b - at_ < (([sT].length : Nat) : Int) by simp; omega), if_pos (show t.form = 1 ∧ t.n - b = at_ from ⟨hf, h⟩), show [sT].length - 1 - (t.n - b - at_).toNat = 0 by simp]
      rfl
    · rw [if_pos (show t.form = 1 ∧ at_ ≤ t.n - b by omega), if_neg (show ¬ t.n - b - at_ < (([sT].length : Nat) : Int) by simp; omega), if_neg (show ¬ (t.form = 1 ∧ t.n - b = at_) by omega), if_pos (show t.form = 1 ∧ at_ < t.n - b from ⟨hf, h⟩), hn]
      rfl
  · rw [if_neg (show ¬ (t.form = 1 ∧ at_ ≤ t.n - b) from fun h => hf h.1), if_neg (show ¬ (t.form = 1 ∧ t.n - b = at_) from fun h => hf h.1), setN_self, if_neg (show ¬ (t.form = 1 ∧ at_ < t.n - b) from fun h => hf h.1)]

/-- what is answered of what a walk has made -/
def finT {σ : Type} : Except Int (σ × Tm) → Except Int Tm
  | .error c => .error c
  | .ok (_, r) => if checkT r = 0 then .ok r else .error 2

/-- what Subst answers -/
def substRes (t : Tm) (at_ : Int) (s : Tm) : Except Int Tm := if checkT t ≠ 0 then .error (checkT t) else if checkT s ≠ 0 then .error (checkT s) else if at_ < 0 then .error 1 else finT (walkF (repV at_ (sizeT s) s) Tm.add t 20000 0 0)

theorem rep_list (m : Nat) (at_ size : Int) (sT : Tm) (f : Int) : ∀ (ks : List Tm) (i : Nat) (room : Int) (r : Tm) (b p : Int) (room' : Int) (r' : Tm), (∀ k ∈ ks, ∀ (room b p room' : Int) (r : Tm), walkF (repV at_ size sT) Tm.add k room b p = .ok (room', r) → smT m r) → walkL (repV at_ size sT) Tm.add f ks i room r b p = .ok (room', r') → ∃ l : List Tm, r' = r.addAll l ∧ l.length = ks.length ∧ ∀ x ∈ l, smT m x
  | [], i, room, r, b, p, room', r', _, h => by
    rw [walkL] at h
    simp only [Except.ok.injEq, Prod.mk.injEq] at h
    exact ⟨[], by rw [addAll_nil, h.2], rfl, by simp⟩
  | k :: ks, i, room, r, b, p, room', r', ih, h => by
    rw [walkL] at h
    cases hw : walkF (repV at_ size sT) Tm.add k room (deepC f b i) (p + 1) with
    | error e => rw [hw] at h; simp at h
    | ok q =>
      obtain ⟨room1, r1⟩ := q
      rw [hw] at h
      simp only [] at h
      obtain ⟨l, e1, e2, e3⟩ := rep_list m at_ size sT f ks (i + 1) room1 (r.add r1) b p room' r' (fun k' hk' => ih k' (by simp [hk'])) h
      refine ⟨r1 :: l, by rw [e1, add_addAll], by simp [e2], fun x hx => ?_⟩
      rcases List.mem_cons.1 hx with rfl | hx
      · exact ih k (by simp) _ _ _ _ _ hw
      · exact e3 x hx

theorem rep_sm (m : Nat) (at_ size : Int) (sT : Tm) (hs : smT m sT) (t : Tm) : smT m t → formedB t = true → ∀ (room b p room' : Int) (r : Tm), walkF (repV at_ size sT) Tm.add t room b p = .ok (room', r) → smT m r := by
  refine Tm.ind (P := fun t => smT m t → formedB t = true → ∀ (room b p room' : Int) (r : Tm), walkF (repV at_ size sT) Tm.add t room b p = .ok (room', r) → smT m r) ?_ t
  intro f n hd nm ls ks ih h hf room b p room' r hw
  have h' := (smT_mk _ _ _ _ _ _ _).1 h
  rw [formedB_mk, Bool.and_eq_true, List.all_eq_true] at hf
  rw [walkF_mk] at hw
  cases hv : repV at_ size sT room (.mk f n hd nm ls ks) b p with
  | error e => rw [hv] at hw; simp at hw
  | ok q =>
    obtain ⟨room1, r1⟩ := q
    rw [hv] at hw
    simp only [] at hw
    obtain ⟨l, e1, e2, e3⟩ := rep_list m at_ size sT f ks 0 room1 r1 b p room' r (fun k hk => ih k hk (h'.2.2.2.2 k hk) (hf.2 k hk)) hw
    have hl : l.length ≤ m := by rw [e2]; exact h'.2.2.2.1
    have hq : (if f = 1 ∧ n - b = at_ then (if room - size < 0 then (.error 2 : Except Int (Int × Tm)) else .ok (room - size, liftT 0 b sT 0)) else if room - 1 < 0 then .error 2 else .ok (room - 1, if f = 1 ∧ at_ < n - b then (bareT (.mk f n hd nm ls ks)).setN (n - 1) else bareT (.mk f n hd nm ls ks))) = .ok (room1, r1) := hv
    clear hv
    by_cases hit : f = 1 ∧ n - b = at_
    · rw [if_pos hit] at hq
      split at hq
      · cases hq
      · simp only [Except.ok.injEq, Prod.mk.injEq] at hq
        have hk0 : ks = [] := by
          have hj := hf.1
          unfold judB at hj
          rw [Bool.and_eq_true] at hj
          have := of_decide_eq_true hj.1
          simp only [Tm.kids, Tm.form] at this
          rw [hit.1] at this
          simp [kidsR] at this
          exact this
        subst hk0
        have : l = [] := List.length_eq_zero_iff.1 e2
        subst this
        rw [e1, addAll_nil, ← hq.2]
        exact smT_lift 0 b m sT 0 hs
    · rw [if_neg hit] at hq
      split at hq
      · cases hq
      · simp only [Except.ok.injEq, Prod.mk.injEq] at hq
        rw [e1, ← hq.2]
        split
        · exact (smT_bare h _ hl e3 _).2
        · exact (smT_bare h _ hl e3 0).1

theorem infoT6 : (Try.prog.info? 25).map (fun i => i.size) = some 6 := by kernel_rfl

theorem jx0 (a0 a1 a2 a3 a4 a5 b0 b1 b2 b3 b4 b5 : Value) (w : World) : Sem.run Try.prog (Instr.index 79 (.agg #[a0, a1, a2, a3, a4, a5, b0, b1, b2, b3, b4, b5]) (.int .i64 0)) w = .ok (.agg #[a0, a1, a2, a3, a4, a5]) w := by
  obtain ⟨i, hi, hs⟩ := Option.map_eq_some_iff.1 infoT6
  simp [Instr.index, go_sem, run_underlying Try.underlying79, sizeOf, typeInfo, hi, hs, part, asIntOf, isAgg]

theorem jx1 (a0 a1 a2 a3 a4 a5 b0 b1 b2 b3 b4 b5 : Value) (w : World) : Sem.run Try.prog (Instr.index 79 (.agg #[a0, a1, a2, a3, a4, a5, b0, b1, b2, b3, b4, b5]) (.int .i64 1)) w = .ok (.agg #[b0, b1, b2, b3, b4, b5]) w := by
  obtain ⟨i, hi, hs⟩ := Option.map_eq_some_iff.1 infoT6
  simp [Instr.index, go_sem, run_underlying Try.underlying79, sizeOf, typeInfo, hi, hs, part, asIntOf, isAgg]

set_option maxRecDepth 100000 in
set_option maxHeartbeats 4000000 in
theorem TSubst_any (t : Tm) (v : Value) (at_ : Int) (sT : Tm) (u : Value) (w : World) (hv : TV w v t) (hu : TV w u sT) (hsm : smT 1000000 t) (hsm2 : smT 1000000 sT) (hat2 : at_ ≤ 9223372036854775807) : Calls Try.prog 30 #[v, .int .i64 at_, u] w fun e w' => Ans w.heap.size e w' (substRes t at_ sT) ∧ RowKit.Below w.heap.size w w' := by
  have HCT := fun (W : World) (h : RowKit.Below w.heap.size w W) => Check_any t v W (hv.on h) hsm
  have HCS := fun (W : World) (h : RowKit.Below w.heap.size w W) => Check_any sT u W (hu.on h) hsm2
  have HR : Hid (substRes t at_ sT = if checkT t ≠ 0 then .error (checkT t) else if checkT sT ≠ 0 then .error (checkT sT) else if at_ < 0 then .error 1 else finT (walkF (repV at_ (sizeT sT) sT) Tm.add t 20000 0 0)) := rfl
  have HGT := fun (h : checkT t = 0) => (⟨hsm, (check_ok h).2.2⟩ : GT t)
  have HGS := fun (h : checkT sT = 0) => (⟨hsm2, (check_ok h).2.2⟩ : GT sT)
  have HTH := fun (h : checkT t = 0) => (check_ok h).2.1
  have HSH := fun (h : checkT sT = 0) => check_ok h
  have HSM := fun (h : checkT t = 0) (room' : Int) (r : Tm) (hw : walkF (repV at_ (sizeT sT) sT) Tm.add t 20000 0 0 = .ok (room', r)) => rep_sm 1000000 at_ (sizeT sT) sT hsm2 t hsm (check_ok h).2.2 _ _ _ _ _ hw
  obtain ⟨la, lc, ka, kc, hvv⟩ := hv.shape
  have huu : ShapeT u := by obtain ⟨lb, lcb, kb, kcb, e⟩ := hu.shape; exact ⟨_, _, _, _, _, _, _, _, _, _, e⟩
  obtain ⟨z0, z1, z2, z3, z4, z5, z6, z7, z8, z9, rfl⟩ := huu
  subst hvv
  have i0 := jx0
  have i1 := jx1
  have HTV := Hid.mk hv
  have HTU := Hid.mk hu
  clear hv hu hsm hsm2
  generalize hRR : substRes t at_ sT = R at *
  clear hRR
  generalize t.form = f at *
  generalize t.n = n at *
  generalize t.hid = hd at *
  generalize t.name = nm at *
  generalize t.levels.length = l1 at *
  generalize t.kids.length = k1 at *
  obtain ⟨C, hC⟩ : ∃ C, checkT t = C := ⟨_, rfl⟩
  obtain ⟨D, hD⟩ : ∃ D, checkT sT = D := ⟨_, rfl⟩
  rw [hC] at HR HCT HGT HTH HSM
  rw [hD] at HR HCS HGS HSH
  clear hC hD
  have HG := fun (a b c d : Obj) => ((((Below.refl w.heap.size w).alloc (Nat.le_refl _) a).alloc (by simp) b).alloc (by simp; omega) c).alloc (by simp; omega) d
  by_cases hC : C = 0
  rotate_left
  · have hcb : (C != 0) = true := by simpa using hC
    have HR2 : Hid (R = .error C) := by unfold Hid; rw [HR.out, if_pos hC]
    clear hC HR HGT HGS HTH HSH HSM HCS
    go_enter Try.func30, Try.ntmps30
    go_wp2_with fail
    refine wp_loop_rounds 3 ?_
    rw [rounds_succ]
    go_wp2_with fail
    refine (HCT _ (HG _ _ _ _)).mono ?_
    rintro e w1 ⟨rfl, hb1⟩
    have hr := (hb1.block (w.heap.size + 1 + 1) (by simp)).trans at2
    obtain ⟨y0, y1, y2, y3, y4, y5, y6⟩ := cells6 hr
    have fr := frz hr
    have HB1 : Hid (RowKit.Below w.heap.size w w1) := (HG _ _ _ _).trans (hb1.mono (by simp; omega))
    clear hr hb1
    go_wp2
    refine bodyPost_ret (v := .tuple #[zeroV, .int .i64 C]) (by simp [results, Try.results30, go_sem, zeroV, y0, y1, y2, y3, y4, y5]) rfl ⟨by rw [HR2.out]; rfl, ?_⟩
    exact HB1.out.trans ((keep6 (P := fun k => k = w.heap.size + 1 + 1) rfl).below HB1.out.size (fun k hk => by omega))
  subst hC
  have hg := HGT rfl
  have hth := HTH rfl
  have HSM2 := Hid.mk (HSM rfl)
  clear HGT HTH HSM
  by_cases hD : D = 0
  rotate_left
  · have hcb : (D != 0) = true := by simpa using hD
    have HR2 : Hid (R = .error D) := by unfold Hid; rw [HR.out, if_neg (by simp), if_pos hD]
    clear hD HR HGS HSH
    go_enter Try.func30, Try.ntmps30
    go_wp2_with fail
    refine wp_loop_rounds 3 ?_
    rw [rounds_succ]
    go_wp2_with fail
    refine (HCT _ (HG _ _ _ _)).mono ?_
    rintro e w1 ⟨rfl, hb1⟩
    have HB1 : Hid (RowKit.Below w.heap.size w w1) := (HG _ _ _ _).trans (hb1.mono (by simp; omega))
    have HZ1 := Hid.mk ((hb1.block (w.heap.size + 1 + 1) (by simp)).trans at2)
    clear hb1
    go_wp2
    rw [rounds_succ]
    go_wp2_with fail
    refine (HCS _ (HB1.out.alloc HB1.out.size _)).mono ?_
    rintro e w2 ⟨rfl, hb2⟩
    have hz2 := hb2.size
    have hr := (hb2.block (w.heap.size + 1 + 1) (by have := heap_lt HZ1.out; simp; omega)).trans (alloc_old HZ1.out _)
    obtain ⟨y0, y1, y2, y3, y4, y5, y6⟩ := cells6 hr
    have fr := frz hr
    have HB2 : Hid (RowKit.Below w.heap.size w w2) := (HB1.out.alloc HB1.out.size _).trans (hb2.mono (Nat.le_trans HB1.out.size (by simp)))
    clear hr hb2 hz2
    go_wp2
    refine bodyPost_ret (v := .tuple #[zeroV, .int .i64 D]) (by simp [results, Try.results30, go_sem, zeroV, y0, y1, y2, y3, y4, y5]) rfl ⟨by rw [HR2.out]; rfl, ?_⟩
    exact HB2.out.trans ((keep6 (P := fun k => k = w.heap.size + 1 + 1) rfl).below HB2.out.size (fun k hk => by omega))
  subst hD
  have hgs := HGS rfl
  obtain ⟨hsh1, hsh2, -⟩ := HSH rfl
  clear HGS HSH
  go_enter Try.func30, Try.ntmps30
  go_wp2_with fail
  refine wp_loop_rounds 3 ?_
  rw [rounds_succ]
  go_wp2_with fail
  refine (HCT _ (HG _ _ _ _)).mono ?_
  rintro e w1 ⟨rfl, hb1⟩
  have HB1 : Hid (RowKit.Below w.heap.size w w1) := (HG _ _ _ _).trans (hb1.mono (by simp; omega))
  have HZ1 := Hid.mk ((hb1.block (w.heap.size + 1 + 1) (by simp)).trans at2)
  have HS1 := Hid.mk ((hb1.block (w.heap.size + 1) (by simp <;> omega)).trans (alloc_old on1 _))
  have HT1 := Hid.mk ((hb1.block w.heap.size (by simp <;> omega)).trans (alloc_old (alloc_old box_at _) _))
  clear hb1
  go_wp2
  rw [rounds_succ]
  go_wp2_with fail
  refine (HCS _ (HB1.out.alloc HB1.out.size _)).mono ?_
  rintro e w2 ⟨rfl, hb2⟩
  have hz2 := hb2.size
  have hlz := heap_lt HZ1.out
  have HZ2 := Hid.mk ((hb2.block (w.heap.size + 1 + 1) (by simp; omega)).trans (alloc_old HZ1.out _))
  have HS2 := Hid.mk ((hb2.block (w.heap.size + 1) (by simp; omega)).trans (alloc_old HS1.out _))
  have HT2 := Hid.mk ((hb2.block w.heap.size (by simp; omega)).trans (alloc_old HT1.out _))
  have HB2 : Hid (RowKit.Below w.heap.size w w2) := (HB1.out.alloc HB1.out.size _).trans (hb2.mono (Nat.le_trans HB1.out.size (by simp)))
  have hzw : w.heap.size + 1 + 1 < w2.heap.size := heap_lt HZ2.out
  clear hb2 hz2 hlz HB1 HZ1 HS1 HT1
  go_wp2
  rw [rounds_succ]
  by_cases hneg : at_ < 0
  · have HR2 : Hid (R = .error 1) := by unfold Hid; rw [HR.out, if_neg (by simp), if_neg (by simp), if_pos hneg]
    obtain ⟨y0, y1, y2, y3, y4, y5, y6⟩ := cells6 HZ2.out
    have fr := frz HZ2.out
    go_wp2
    refine bodyPost_ret (v := .tuple #[zeroV, .int .i64 1]) (by simp [results, Try.results30, go_sem, zeroV, y0, y1, y2, y3, y4, y5]) rfl ⟨by rw [HR2.out]; rfl, ?_⟩
    exact HB2.out.trans ((keep6 (P := fun k => k = w.heap.size + 1 + 1) rfl).below HB2.out.size (fun k hk => by omega))
  have hat : 0 ≤ at_ := by omega
  obtain ⟨W, hWW⟩ : ∃ W, walkF (repV at_ (sizeT sT) sT) Tm.add t 20000 0 0 = W := ⟨_, rfl⟩
  have HR2 : Hid (R = finT W) := by unfold Hid; rw [HR.out, if_neg (by simp), if_neg (by simp), if_neg hneg, hWW]
  clear hneg HR
  clear HCT HCS
  obtain ⟨s0, s1, s2, s3, s4, s5, s6⟩ := cells6 HS2.out
  obtain ⟨t0, t1, t2, t3, t4, t5, t6⟩ := cells6 HT2.out
  obtain ⟨WX, hWX⟩ : ∃ WX, w2.alloc (.cells #[.int .i64 z0, .int .i64 z1, .bool z2, .string z3, .slice z4 z5 z6, .slice z7 z8 z9] 25) = WX := ⟨_, rfl⟩
  have HBWX : Hid (RowKit.Below w.heap.size w WX) := by unfold Hid; rw [← hWX]; exact HB2.out.alloc HB2.out.size _
  have hbk : WX.heap[w2.heap.size]? = some (.cells #[.int .i64 z0, .int .i64 z1, .bool z2, .string z3, .slice z4 z5 z6, .slice z7 z8 z9] 25 (0, 0)) := by rw [← hWX]; exact alloc_new _ _
  have HZ3 : Hid (WX.heap[w.heap.size + 1 + 1]? = some (.cells #[.int .i64 0, .int .i64 0, .bool false, .string { data := #[] }, .slice none 0 0, .slice none 0 0] 25 (0, 0))) := by unfold Hid; rw [← hWX]; exact alloc_old HZ2.out _
  have hzx2 : w.heap.size + 1 + 1 < WX.heap.size := heap_lt HZ3.out
  have hZX := HBWX.out.size
  have HTC : TC WX w2.heap.size 0 sT := by
    obtain ⟨e0, e1, e2, e3, e4, e5, -⟩ := cells6 hbk
    exact CellsAt.tc ⟨_, _, _, _, _, _, _, _, _, _, rfl, e0, e1, e2, e3, e4, e5⟩ (HTU.out.on HBWX.out)
  have HRP := replaced_any t _ at_ [sT] (some ⟨w2.heap.size, 0, none⟩) 1 w2.heap.size 0 WX hat hat2 (HTV.out.on HBWX.out) (fun _ => rfl) (by simp) (fun i s hi => by cases i with | zero => simp at hi; subst hi; simpa using HTC | succ i => simp at hi) hg (fun s hs => by simp at hs; subst hs; exact hgs) hth (fun s hs => by simp at hs; subst hs; exact ⟨hsh2, hsh1⟩)
  rw [rep_one, hWW] at HRP
  have HRP : Calls Try.prog 59 #[.agg #[.int .i64 f, .int .i64 n, .bool hd, .string nm, .slice la l1 lc, .slice ka k1 kc], .int .i64 at_, .slice (some ⟨w2.heap.size, 0, none⟩) 1 1] WX _ := HRP
  have HWX := Hid.mk hWX
  clear hbk HTC hWX
  have mx := mixed
  cases W with
  | error c =>
    have HR3 : Hid (R = .error c) := HR2.out
    go_wp2_with fail
    rw [HWX.out]
    refine HRP.mono ?_
    rintro e w6 ⟨⟨hc6, v6, hsh, rfl⟩, hb6⟩
    have hz6 := hb6.size
    have HZ6 := Hid.mk ((hb6.block (w.heap.size + 1 + 1) hzx2).trans HZ3.out)
    have HB6 : Hid (RowKit.Below w.heap.size w w6) := HBWX.out.trans (hb6.mono hZX)
    have HAE := answered_err v6 c w6 hsh hc6
    clear hb6
    go_wp2_with fail
    refine HAE.mono ?_
    rintro e w7 ⟨rfl, hb7⟩
    have hr := (hb7.block (w.heap.size + 1 + 1) (heap_lt HZ6.out)).trans HZ6.out
    obtain ⟨y0, y1, y2, y3, y4, y5, y6⟩ := cells6 hr
    have fr := frz hr
    have HB7 : Hid (RowKit.Below w.heap.size w w7) := HB6.out.trans (hb7.mono HB6.out.size)
    clear hr hb7
    unfold zeroV
    go_wp2
    refine bodyPost_ret (v := .tuple #[zeroV, .int .i64 c]) (by simp [results, Try.results30, go_sem, zeroV, y0, y1, y2, y3, y4, y5]) rfl ⟨by rw [HR3.out]; rfl, ?_⟩
    exact HB7.out.trans ((keep6 (P := fun k => k = w.heap.size + 1 + 1) rfl).below HB7.out.size (fun k hk => by omega))
  | ok q =>
    obtain ⟨room', r⟩ := q
    have HR3 : Hid (R = if checkT r = 0 then .ok r else .error 2) := HR2.out
    go_wp2_with fail
    rw [HWX.out]
    refine HRP.mono ?_
    rintro e w6 ⟨⟨⟨v6, rfl, hto⟩, -⟩, hb6⟩
    have hz6 := hb6.size
    have HZ6 := Hid.mk ((hb6.block (w.heap.size + 1 + 1) hzx2).trans HZ3.out)
    have HB6 : Hid (RowKit.Below w.heap.size w w6) := HBWX.out.trans (hb6.mono hZX)
    have HAN := answered_ok WX.heap.size v6 r w6 hto (HSM2.out room' r hWW)
    clear hb6 hto
    go_wp2_with fail
    refine HAN.mono ?_
    rintro e w7 ⟨hans, hb7⟩
    have hr := (hb7.block (w.heap.size + 1 + 1) (heap_lt HZ6.out)).trans HZ6.out
    obtain ⟨y0, y1, y2, y3, y4, y5, y6⟩ := cells6 hr
    have fr := frz hr
    have HB7 : Hid (RowKit.Below w.heap.size w w7) := HB6.out.trans (hb7.mono HB6.out.size)
    clear hr hb7
    by_cases hcl : checkT r = 0
    · rw [if_pos hcl] at hans
      rw [if_pos hcl] at HR3
      obtain ⟨v7, rfl, ht7⟩ := hans
      have HT7 := Hid.mk ht7
      obtain ⟨q0, q1, q2, q3, q4, q5, q6, q7, q8, q9, rfl⟩ := ht7.shapeE
      clear ht7 hcl
      go_wp2
      refine bodyPost_ret (v := .tuple #[.agg #[.int .i64 q0, .int .i64 q1, .bool q2, .string q3, .slice q4 q5 q6, .slice q7 q8 q9], .int .i64 0]) (by simp [results, Try.results30, go_sem, y0, y1, y2, y3, y4, y5]) rfl ⟨?_, ?_⟩
      · rw [HR3.out]
        refine ⟨_, rfl, ?_⟩
        rw [size6]
        exact (HT7.out.on (fun k h1 h2 => (keep6 (P := fun k => k = w.heap.size + 1 + 1) rfl).block k h2 (by omega))).mono (by omega) (Nat.le_refl _)
      · exact HB7.out.trans ((keep6 (P := fun k => k = w.heap.size + 1 + 1) rfl).below HB7.out.size (fun k hk => by omega))
    · rw [if_neg hcl] at hans
      rw [if_neg hcl] at HR3
      have hans : e = .returned (.tuple #[zeroV, .int .i64 2]) := hans
      subst hans
      unfold zeroV
      clear hcl
      go_wp2
      refine bodyPost_ret (v := .tuple #[zeroV, .int .i64 2]) (by simp [results, Try.results30, go_sem, zeroV, y0, y1, y2, y3, y4, y5]) rfl ⟨by rw [HR3.out]; rfl, ?_⟩
      exact HB7.out.trans ((keep6 (P := fun k => k = w.heap.size + 1 + 1) rfl).below HB7.out.size (fun k hk => by omega))
end Go.Proofs.Ytbgkeomlfdmkeaa
