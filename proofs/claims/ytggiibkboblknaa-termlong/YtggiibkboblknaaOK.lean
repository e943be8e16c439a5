/- The contract of term.Subst. -/
import Derived.Test.YtggiibkboblknaaOJ
namespace Go.Proofs.Ytggiibkboblknaa
open Go.RowKit Go.Sort

/-- what is answered of what a walk has made -/
def finT {σ : Type} : Except Int (σ × Tm) → Except Int Tm
  | .error c => .error c
  | .ok (_, r) => if checkT r = 0 then .ok r else .error 2

/-- what Subst answers -/
def substRes (t : Tm) (at_ : Int) (s : Tm) : Except Int Tm := if checkT t ≠ 0 then .error (checkT t) else if checkT s ≠ 0 then .error (checkT s) else if at_ < 0 then .error 1 else finT (walkF (repV at_ (sizeT s) s) Tm.add t 20000 0 0)

theorem rep_list (m : Nat) (at_ size : Int) (sT : Tm) (f : Int) : ∀ (ks : List Tm) (i : Nat) (room : Int) (r : Tm) (b p : Int) (room' : Int) (r' : Tm), (∀ k ∈ ks, ∀ (room b p room' : Int) (r : Tm), walkF (repV at_ size sT) Tm.add k room b p = .ok (room', r) → smT m r) → walkL (repV at_ size sT) Tm.add f ks i room r b p = .ok (room', r') → ∃ l : List Tm, r' = r.addAll l ∧ l.length = ks.length ∧ ∀ x ∈ l, smT m x
  | [], i, room, r, b, p, room', r', _, h => by
    rw [walkL] at h
    simp only [Except.ok.injEq, Prod.mk.injEq] at h
    exact ⟨[], by rw [addAll_nil, h.2], rfl, by simp⟩
  | k :: ks, i, room, r, b, p, room', r', ih, h => by
    rw [walkL] at h
    cases hw : walkF (repV at_ size sT) Tm.add k room (deepC f b i) (p + 1) with
    | error e => rw [hw] at h; simp at h
    | ok q =>
      obtain ⟨room1, r1⟩ := q
      rw [hw] at h
      simp only [] at h
      obtain ⟨l, e1, e2, e3⟩ := rep_list m at_ size sT f ks (i + 1) room1 (r.add r1) b p room' r' (fun k' hk' => ih k' (by simp [hk'])) h
      refine ⟨r1 :: l, by rw [e1, add_addAll], by simp [e2], fun x hx => ?_⟩
      rcases List.mem_cons.1 hx with rfl | hx
      · exact ih k (by simp) _ _ _ _ _ hw
      · exact e3 x hx

theorem rep_sm (m : Nat) (at_ size : Int) (sT : Tm) (hs : smT m sT) (t : Tm) : smT m t → formedB t = true → ∀ (room b p room' : Int) (r : Tm), walkF (repV at_ size sT) Tm.add t room b p = .ok (room', r) → smT m r := by
  refine Tm.ind (P := fun t => smT m t → formedB t = true → ∀ (room b p room' : Int) (r : Tm), walkF (repV at_ size sT) Tm.add t room b p = .ok (room', r) → smT m r) ?_ t
  intro f n hd nm ls ks ih h hf room b p room' r hw
  have h' := (smT_mk _ _ _ _ _ _ _).1 h
  rw [formedB_mk, Bool.and_eq_true, List.all_eq_true] at hf
  rw [walkF_mk] at hw
  cases hv : repV at_ size sT room (.mk f n hd nm ls ks) b p with
  | error e => rw [hv] at hw; simp at hw
  | ok q =>
    obtain ⟨room1, r1⟩ := q
    rw [hv] at hw
    simp only [] at hw
    obtain ⟨l, e1, e2, e3⟩ := rep_list m at_ size sT f ks 0 room1 r1 b p room' r (fun k hk => ih k hk (h'.2.2.2.2 k hk) (hf.2 k hk)) hw
    have hl : l.length ≤ m := by rw [e2]; exact h'.2.2.2.1
    have hq : (if f = 1 ∧ n - b = at_ then (if room - size < 0 then (.error 2 : Except Int (Int × Tm)) else .ok (room - size, liftT 0 b sT 0)) else if room - 1 < 0 then .error 2 else .ok (room - 1, if f = 1 ∧ at_ < n - b then (bareT (.mk f n hd nm ls ks)).setN (n - 1) else bareT (.mk f n hd nm ls ks))) = .ok (room1, r1) := hv
    clear hv
    by_cases hit : f = 1 ∧ n - b = at_
    · rw [if_pos hit] at hq
      split at hq
      · cases hq
      · simp only [Except.ok.injEq, Prod.mk.injEq] at hq
        have hk0 : ks = [] := by
          have hj := hf.1
          unfold judB at hj
          rw [Bool.and_eq_true] at hj
          have := of_decide_eq_true hj.1
          simp only [Tm.kids, Tm.form] at this
          rw [hit.1] at this
          simp [kidsR] at this
          exact this
        subst hk0
        have : l = [] := List.length_eq_zero_iff.1 e2
        subst this
        rw [e1, addAll_nil, ← hq.2]
        exact smT_lift 0 b m sT 0 hs
    · rw [if_neg hit] at hq
      split at hq
      · cases hq
      · simp only [Except.ok.injEq, Prod.mk.injEq] at hq
        rw [e1, ← hq.2]
        split
        · exact (smT_bare h _ hl e3 _).2
        · exact (smT_bare h _ hl e3 0).1

theorem keep9 {P : Nat → Prop} {w : World} {b : Nat} {a0 a1 a2 a3 a4 a5 a6 a7 a8 : Value} (hb : P b) : Kept P w (((((((((w.setCell ⟨b, 0, none⟩ a0).setCell ⟨b, 1, none⟩ a1).setCell ⟨b, 2, none⟩ a2).setCell ⟨b, 3, none⟩ a3).setCell ⟨b, 4, none⟩ a4).setCell ⟨b, 5, none⟩ a5).setCell ⟨b, 6, none⟩ a6).setCell ⟨b, 7, none⟩ a7).setCell ⟨b, 8, none⟩ a8) :=
  (((((((((Kept.refl P w).setCell (p := ⟨b, 0, none⟩) hb _).setCell (p := ⟨b, 1, none⟩) hb _).setCell (p := ⟨b, 2, none⟩) hb _).setCell (p := ⟨b, 3, none⟩) hb _).setCell (p := ⟨b, 4, none⟩) hb _).setCell (p := ⟨b, 5, none⟩) hb _).setCell (p := ⟨b, 6, none⟩) hb _).setCell (p := ⟨b, 7, none⟩) hb _).setCell (p := ⟨b, 8, none⟩) hb _

theorem setc {w : World} {b o : Nat} {cs : Array Value} {x : Value} {t : TypeId} (h : w.heap[b]? = some (.cells cs t (0, 0))) : (w.setCell ⟨b, o, none⟩ x).heap[b]? = some (.cells (cs.setIfInBounds o x) t (0, 0)) := by
  rw [setCell_eq]; show (w.heap.modify b _)[b]? = _
  rw [Array.getElem?_modify, if_pos rfl, h]; rfl

theorem all9 {w : World} {b : Nat} {u0 u1 u2 u3 u4 u5 u6 u7 u8 a0 a1 a2 a3 a4 a5 a6 a7 a8 : Value} {t : TypeId} (h : w.heap[b]? = some (.cells #[u0, u1, u2, u3, u4, u5, u6, u7, u8] t (0, 0))) : (((((((((w.setCell ⟨b, 0, none⟩ a0).setCell ⟨b, 1, none⟩ a1).setCell ⟨b, 2, none⟩ a2).setCell ⟨b, 3, none⟩ a3).setCell ⟨b, 4, none⟩ a4).setCell ⟨b, 5, none⟩ a5).setCell ⟨b, 6, none⟩ a6).setCell ⟨b, 7, none⟩ a7).setCell ⟨b, 8, none⟩ a8).heap[b]? = some (.cells #[a0, a1, a2, a3, a4, a5, a6, a7, a8] t (0, 0)) := by
  have h0 : ∀ w : World, w.heap[b]? = some (.cells #[u0, u1, u2, u3, u4, u5, u6, u7, u8] t (0, 0)) → (w.setCell ⟨b, 0, none⟩ a0).heap[b]? = some (.cells #[a0, u1, u2, u3, u4, u5, u6, u7, u8] t (0, 0)) := fun w h => setc h
  have h1 : ∀ w : World, w.heap[b]? = some (.cells #[a0, u1, u2, u3, u4, u5, u6, u7, u8] t (0, 0)) → (w.setCell ⟨b, 1, none⟩ a1).heap[b]? = some (.cells #[a0, a1, u2, u3, u4, u5, u6, u7, u8] t (0, 0)) := fun w h => setc h
  have h2 : ∀ w : World, w.heap[b]? = some (.cells #[a0, a1, u2, u3, u4, u5, u6, u7, u8] t (0, 0)) → (w.setCell ⟨b, 2, none⟩ a2).heap[b]? = some (.cells #[a0, a1, a2, u3, u4, u5, u6, u7, u8] t (0, 0)) := fun w h => setc h
  have h3 : ∀ w : World, w.heap[b]? = some (.cells #[a0, a1, a2, u3, u4, u5, u6, u7, u8] t (0, 0)) → (w.setCell ⟨b, 3, none⟩ a3).heap[b]? = some (.cells #[a0, a1, a2, a3, u4, u5, u6, u7, u8] t (0, 0)) := fun w h => setc h
  have h4 : ∀ w : World, w.heap[b]? = some (.cells #[a0, a1, a2, a3, u4, u5, u6, u7, u8] t (0, 0)) → (w.setCell ⟨b, 4, none⟩ a4).heap[b]? = some (.cells #[a0, a1, a2, a3, a4, u5, u6, u7, u8] t (0, 0)) := fun w h => setc h
  have h5 : ∀ w : World, w.heap[b]? = some (.cells #[a0, a1, a2, a3, a4, u5, u6, u7, u8] t (0, 0)) → (w.setCell ⟨b, 5, none⟩ a5).heap[b]? = some (.cells #[a0, a1, a2, a3, a4, a5, u6, u7, u8] t (0, 0)) := fun w h => setc h
  have h6 : ∀ w : World, w.heap[b]? = some (.cells #[a0, a1, a2, a3, a4, a5, u6, u7, u8] t (0, 0)) → (w.setCell ⟨b, 6, none⟩ a6).heap[b]? = some (.cells #[a0, a1, a2, a3, a4, a5, a6, u7, u8] t (0, 0)) := fun w h => setc h
  have h7 : ∀ w : World, w.heap[b]? = some (.cells #[a0, a1, a2, a3, a4, a5, a6, u7, u8] t (0, 0)) → (w.setCell ⟨b, 7, none⟩ a7).heap[b]? = some (.cells #[a0, a1, a2, a3, a4, a5, a6, a7, u8] t (0, 0)) := fun w h => setc h
  have h8 : ∀ w : World, w.heap[b]? = some (.cells #[a0, a1, a2, a3, a4, a5, a6, a7, u8] t (0, 0)) → (w.setCell ⟨b, 8, none⟩ a8).heap[b]? = some (.cells #[a0, a1, a2, a3, a4, a5, a6, a7, a8] t (0, 0)) := fun w h => setc h
  exact h8 _ (h7 _ (h6 _ (h5 _ (h4 _ (h3 _ (h2 _ (h1 _ (h0 _ h))))))))

theorem infoT6 : (Try.prog.info? 25).map (fun i => i.size) = some 6 := by kernel_rfl

theorem jx0 (a0 a1 a2 a3 a4 a5 b0 b1 b2 b3 b4 b5 : Value) (w : World) : Sem.run Try.prog (Instr.index 80 (.agg #[a0, a1, a2, a3, a4, a5, b0, b1, b2, b3, b4, b5]) (.int .i64 0)) w = .ok (.agg #[a0, a1, a2, a3, a4, a5]) w := by
  obtain ⟨i, hi, hs⟩ := Option.map_eq_some_iff.1 infoT6
  simp [Instr.index, go_sem, run_underlying Try.underlying80, sizeOf, typeInfo, hi, hs, part, asIntOf, isAgg]

theorem jx1 (a0 a1 a2 a3 a4 a5 b0 b1 b2 b3 b4 b5 : Value) (w : World) : Sem.run Try.prog (Instr.index 80 (.agg #[a0, a1, a2, a3, a4, a5, b0, b1, b2, b3, b4, b5]) (.int .i64 1)) w = .ok (.agg #[b0, b1, b2, b3, b4, b5]) w := by
  obtain ⟨i, hi, hs⟩ := Option.map_eq_some_iff.1 infoT6
  simp [Instr.index, go_sem, run_underlying Try.underlying80, sizeOf, typeInfo, hi, hs, part, asIntOf, isAgg]

set_option maxRecDepth 100000 in
set_option maxHeartbeats 4000000 in
theorem TSubst_any (t : Tm) (v : Value) (at_ : Int) (sT : Tm) (u : Value) (w : World) (hv : TV w v t) (hu : TV w u sT) (hsm : smT 1000000 t) (hsm2 : smT 1000000 sT) (hat2 : at_ ≤ 9223372036854775807) : Calls Try.prog 30 #[v, .int .i64 at_, u] w fun e w' => Ans w.heap.size e w' (substRes t at_ sT) ∧ RowKit.Below w.heap.size w w' := by
  have HCT := fun (W : World) (h : RowKit.Below w.heap.size w W) => Check_any t v W (hv.on h) hsm
  have HCS := fun (W : World) (h : RowKit.Below w.heap.size w W) => Check_any sT u W (hu.on h) hsm2
  have HR : Hid (substRes t at_ sT = if checkT t ≠ 0 then .error (checkT t) else if checkT sT ≠ 0 then .error (checkT sT) else if at_ < 0 then .error 1 else finT (walkF (repV at_ (sizeT sT) sT) Tm.add t 20000 0 0)) := rfl
  have HSZ2 := fun (W : World) (h : RowKit.Below w.heap.size w W) => Size_any sT u W (hu.on h) hsm2
  have HGT := fun (h : checkT t = 0) => (⟨hsm, (check_ok h).2.2⟩ : GT t)
  have HGS := fun (h : checkT sT = 0) => (⟨hsm2, (check_ok h).2.2⟩ : GT sT)
  have HTH := fun (h : checkT t = 0) => (check_ok h).2.1
  have HSH := fun (h : checkT sT = 0) => check_ok h
  have HSM := fun (h : checkT t = 0) (room' : Int) (r : Tm) (hw : walkF (repV at_ (sizeT sT) sT) Tm.add t 20000 0 0 = .ok (room', r)) => rep_sm 1000000 at_ (sizeT sT) sT hsm2 t hsm (check_ok h).2.2 _ _ _ _ _ hw
  obtain ⟨la, lc, ka, kc, hvv⟩ := hv.shape
  have huu : ShapeT u := by obtain ⟨lb, lcb, kb, kcb, e⟩ := hu.shape; exact ⟨_, _, _, _, _, _, _, _, _, _, e⟩
  obtain ⟨z0, z1, z2, z3, z4, z5, z6, z7, z8, z9, rfl⟩ := huu
  subst hvv
  have i0 := jx0
  have i1 := jx1
  have HTV := Hid.mk hv
  have HTU := Hid.mk hu
  have HTSZ : Hid (checkT sT = 0 → tsizeR sT = sizeT sT) := fun h => by unfold tsizeR; rw [if_pos h]
  clear hv hu hsm hsm2
  generalize tsizeR sT = tz at *
  generalize hRR : substRes t at_ sT = R at *
  clear hRR
  generalize t.form = f at *
  generalize t.n = n at *
  generalize t.hid = hd at *
  generalize t.name = nm at *
  generalize t.levels.length = l1 at *
  generalize t.kids.length = k1 at *
  obtain ⟨C, hC⟩ : ∃ C, checkT t = C := ⟨_, rfl⟩
  obtain ⟨D, hD⟩ : ∃ D, checkT sT = D := ⟨_, rfl⟩
  rw [hC] at HR HCT HGT HTH HSM
  rw [hD] at HR HCS HGS HSH HTSZ
  clear hC hD
  have HG := fun (a b c d : Obj) => ((((Below.refl w.heap.size w).alloc (Nat.le_refl _) a).alloc (by simp) b).alloc (by simp; omega) c).alloc (by simp; omega) d
  by_cases hC : C = 0
  rotate_left
  · have hcb : (C != 0) = true := by simpa using hC
    have HR2 : Hid (R = .error C) := by unfold Hid; rw [HR.out, if_pos hC]
    clear hC HR HGT HGS HTH HSH HSM HCS HSZ2
    go_enter Try.func30, Try.ntmps30
    go_wp2_with fail
    refine wp_loop_rounds 3 ?_
    rw [rounds_succ]
    go_wp2_with fail
    refine (HCT _ (HG _ _ _ _)).mono ?_
    rintro e w1 ⟨rfl, hb1⟩
    have hr := (hb1.block (w.heap.size + 1 + 1) (by simp)).trans at2
    obtain ⟨y0, y1, y2, y3, y4, y5, y6⟩ := cells6 hr
    have fr := frz hr
    have HB1 : Hid (RowKit.Below w.heap.size w w1) := (HG _ _ _ _).trans (hb1.mono (by simp; omega))
    clear hr hb1
    go_wp2
    refine bodyPost_ret (v := .tuple #[zeroV, .int .i64 C]) (by simp [results, Try.results30, go_sem, zeroV, y0, y1, y2, y3, y4, y5]) rfl ⟨by rw [HR2.out]; rfl, ?_⟩
    exact HB1.out.trans ((keep6 (P := fun k => k = w.heap.size + 1 + 1) rfl).below HB1.out.size (fun k hk => by omega))
  subst hC
  have hg := HGT rfl
  have hth := HTH rfl
  have HSM2 := Hid.mk (HSM rfl)
  clear HGT HTH HSM
  by_cases hD : D = 0
  rotate_left
  · have hcb : (D != 0) = true := by simpa using hD
    have HR2 : Hid (R = .error D) := by unfold Hid; rw [HR.out, if_neg (by simp), if_pos hD]
    clear hD HR HGS HSH HSZ2
    go_enter Try.func30, Try.ntmps30
    go_wp2_with fail
    refine wp_loop_rounds 3 ?_
    rw [rounds_succ]
    go_wp2_with fail
    refine (HCT _ (HG _ _ _ _)).mono ?_
    rintro e w1 ⟨rfl, hb1⟩
    have HB1 : Hid (RowKit.Below w.heap.size w w1) := (HG _ _ _ _).trans (hb1.mono (by simp; omega))
    have HZ1 := Hid.mk ((hb1.block (w.heap.size + 1 + 1) (by simp)).trans at2)
    clear hb1
    go_wp2
    rw [rounds_succ]
    go_wp2_with fail
    refine (HCS _ (HB1.out.alloc HB1.out.size _)).mono ?_
    rintro e w2 ⟨rfl, hb2⟩
    have hz2 := hb2.size
    have hr := (hb2.block (w.heap.size + 1 + 1) (by have := heap_lt HZ1.out; simp; omega)).trans (alloc_old HZ1.out _)
    obtain ⟨y0, y1, y2, y3, y4, y5, y6⟩ := cells6 hr
    have fr := frz hr
    have HB2 : Hid (RowKit.Below w.heap.size w w2) := (HB1.out.alloc HB1.out.size _).trans (hb2.mono (Nat.le_trans HB1.out.size (by simp)))
    clear hr hb2 hz2
    go_wp2
    refine bodyPost_ret (v := .tuple #[zeroV, .int .i64 D]) (by simp [results, Try.results30, go_sem, zeroV, y0, y1, y2, y3, y4, y5]) rfl ⟨by rw [HR2.out]; rfl, ?_⟩
    exact HB2.out.trans ((keep6 (P := fun k => k = w.heap.size + 1 + 1) rfl).below HB2.out.size (fun k hk => by omega))
  subst hD
  have hgs := HGS rfl
  obtain ⟨hsh1, hsh2, -⟩ := HSH rfl
  have htz := HTSZ.out rfl
  subst htz
  clear HGS HSH HTSZ
  go_enter Try.func30, Try.ntmps30
  go_wp2_with fail
  refine wp_loop_rounds 3 ?_
  rw [rounds_succ]
  go_wp2_with fail
  refine (HCT _ (HG _ _ _ _)).mono ?_
  rintro e w1 ⟨rfl, hb1⟩
  have HB1 : Hid (RowKit.Below w.heap.size w w1) := (HG _ _ _ _).trans (hb1.mono (by simp; omega))
  have HZ1 := Hid.mk ((hb1.block (w.heap.size + 1 + 1) (by simp)).trans at2)
  have HS1 := Hid.mk ((hb1.block (w.heap.size + 1) (by simp <;> omega)).trans (alloc_old on1 _))
  have HT1 := Hid.mk ((hb1.block w.heap.size (by simp <;> omega)).trans (alloc_old (alloc_old box_at _) _))
  clear hb1
  go_wp2
  rw [rounds_succ]
  go_wp2_with fail
  refine (HCS _ (HB1.out.alloc HB1.out.size _)).mono ?_
  rintro e w2 ⟨rfl, hb2⟩
  have hz2 := hb2.size
  have hlz := heap_lt HZ1.out
  have HZ2 := Hid.mk ((hb2.block (w.heap.size + 1 + 1) (by simp; omega)).trans (alloc_old HZ1.out _))
  have HS2 := Hid.mk ((hb2.block (w.heap.size + 1) (by simp; omega)).trans (alloc_old HS1.out _))
  have HT2 := Hid.mk ((hb2.block w.heap.size (by simp; omega)).trans (alloc_old HT1.out _))
  have HB2 : Hid (RowKit.Below w.heap.size w w2) := (HB1.out.alloc HB1.out.size _).trans (hb2.mono (Nat.le_trans HB1.out.size (by simp)))
  have hzw : w.heap.size + 1 + 1 < w2.heap.size := heap_lt HZ2.out
  clear hb2 hz2 hlz HB1 HZ1 HS1 HT1
  go_wp2
  rw [rounds_succ]
  by_cases hneg : at_ < 0
  · have HR2 : Hid (R = .error 1) := by unfold Hid; rw [HR.out, if_neg (by simp), if_neg (by simp), if_pos hneg]
    obtain ⟨y0, y1, y2, y3, y4, y5, y6⟩ := cells6 HZ2.out
    have fr := frz HZ2.out
    go_wp2
    refine bodyPost_ret (v := .tuple #[zeroV, .int .i64 1]) (by simp [results, Try.results30, go_sem, zeroV, y0, y1, y2, y3, y4, y5]) rfl ⟨by rw [HR2.out]; rfl, ?_⟩
    exact HB2.out.trans ((keep6 (P := fun k => k = w.heap.size + 1 + 1) rfl).below HB2.out.size (fun k hk => by omega))
  have hat : 0 ≤ at_ := by omega
  obtain ⟨W, hWW⟩ : ∃ W, walkF (repV at_ (sizeT sT) sT) Tm.add t 20000 0 0 = W := ⟨_, rfl⟩
  have HR2 : Hid (R = finT W) := by unfold Hid; rw [HR.out, if_neg (by simp), if_neg (by simp), if_neg hneg, hWW]
  clear hneg HR
  have HB3 : Hid (RowKit.Below w.heap.size w (w2.alloc (.cells #[.int .i64 0, .int .i64 0, .int .i64 0, .bool false, .string { data := #[] }, .slice none 0 0, .slice none 0 0, .int .i64 0, .int .i64 0] 82))) := HB2.out.alloc HB2.out.size _
  have HSZa := HSZ2 w2.drew HB2.out.drew
  have HSZ3 := HSZ2 (w2.alloc (.cells #[.int .i64 0, .int .i64 0, .int .i64 0, .bool false, .string { data := #[] }, .slice none 0 0, .slice none 0 0, .int .i64 0, .int .i64 0] 82)).drew HB3.out.drew
  clear HSZ2 HCT HCS
  obtain ⟨s0, s1, s2, s3, s4, s5, s6⟩ := cells6 HS2.out
  have mx := mixed
  have HCEL : Hid (∀ W : World, RowKit.Below w2.heap.size w2 W → W.cell? ⟨w.heap.size + 1, 0, none⟩ = some (.int .i64 z0) ∧ W.cell? ⟨w.heap.size + 1, 1, none⟩ = some (.int .i64 z1) ∧ W.cell? ⟨w.heap.size + 1, 2, none⟩ = some (.bool z2) ∧ W.cell? ⟨w.heap.size + 1, 3, none⟩ = some (.string z3) ∧ W.cell? ⟨w.heap.size + 1, 4, none⟩ = some (.slice z4 z5 z6) ∧ W.cell? ⟨w.heap.size + 1, 5, none⟩ = some (.slice z7 z8 z9)) := fun W h => ⟨(h.cell (p := ⟨w.heap.size + 1, 0, none⟩) s6).trans s0, (h.cell (p := ⟨w.heap.size + 1, 1, none⟩) s6).trans s1, (h.cell (p := ⟨w.heap.size + 1, 2, none⟩) s6).trans s2, (h.cell (p := ⟨w.heap.size + 1, 3, none⟩) s6).trans s3, (h.cell (p := ⟨w.heap.size + 1, 4, none⟩) s6).trans s4, (h.cell (p := ⟨w.heap.size + 1, 5, none⟩) s6).trans s5⟩
  have HCE9 : Hid (∀ (W : World) (h : RowKit.Below w2.heap.size w2 W) (a0 a1 a2 a3 a4 a5 a6 a7 a8 : Value), (((((((((W.setCell ⟨w2.heap.size, 0, none⟩ a0).setCell ⟨w2.heap.size, 1, none⟩ a1).setCell ⟨w2.heap.size, 2, none⟩ a2).setCell ⟨w2.heap.size, 3, none⟩ a3).setCell ⟨w2.heap.size, 4, none⟩ a4).setCell ⟨w2.heap.size, 5, none⟩ a5).setCell ⟨w2.heap.size, 6, none⟩ a6).setCell ⟨w2.heap.size, 7, none⟩ a7).setCell ⟨w2.heap.size, 8, none⟩ a8).cell? ⟨w.heap.size + 1, 0, none⟩ = some (.int .i64 z0) ∧ (((((((((W.setCell ⟨w2.heap.size, 0, none⟩ a0).setCell ⟨w2.heap.size, 1, none⟩ a1).setCell ⟨w2.heap.size, 2, none⟩ a2).setCell ⟨w2.heap.size, 3, none⟩ a3).setCell ⟨w2.heap.size, 4, none⟩ a4).setCell ⟨w2.heap.size, 5, none⟩ a5).setCell ⟨w2.heap.size, 6, none⟩ a6).setCell ⟨w2.heap.size, 7, none⟩ a7).setCell ⟨w2.heap.size, 8, none⟩ a8).cell? ⟨w.heap.size + 1, 1, none⟩ = some (.int .i64 z1) ∧ (((((((((W.setCell ⟨w2.heap.size, 0, none⟩ a0).setCell ⟨w2.heap.size, 1, none⟩ a1).setCell ⟨w2.heap.size, 2, none⟩ a2).setCell ⟨w2.heap.size, 3, none⟩ a3).setCell ⟨w2.heap.size, 4, none⟩ a4).setCell ⟨w2.heap.size, 5, none⟩ a5).setCell ⟨w2.heap.size, 6, none⟩ a6).setCell ⟨w2.heap.size, 7, none⟩ a7).setCell ⟨w2.heap.size, 8, none⟩ a8).cell? ⟨w.heap.size + 1, 2, none⟩ = some (.bool z2) ∧ (((((((((W.setCell ⟨w2.heap.size, 0, none⟩ a0).setCell ⟨w2.heap.size, 1, none⟩ a1).setCell ⟨w2.heap.size, 2, none⟩ a2).setCell ⟨w2.heap.size, 3, none⟩ a3).setCell ⟨w2.heap.size, 4, none⟩ a4).setCell ⟨w2.heap.size, 5, none⟩ a5).setCell ⟨w2.heap.size, 6, none⟩ a6).setCell ⟨w2.heap.size, 7, none⟩ a7).setCell ⟨w2.heap.size, 8, none⟩ a8).cell? ⟨w.heap.size + 1, 3, none⟩ = some (.string z3) ∧ (((((((((W.setCell ⟨w2.heap.size, 0, none⟩ a0).setCell ⟨w2.heap.size, 1, none⟩ a1).setCell ⟨w2.heap.size, 2, none⟩ a2).setCell ⟨w2.heap.size, 3, none⟩ a3).setCell ⟨w2.heap.size, 4, none⟩ a4).setCell ⟨w2.heap.size, 5, none⟩ a5).setCell ⟨w2.heap.size, 6, none⟩ a6).setCell ⟨w2.heap.size, 7, none⟩ a7).setCell ⟨w2.heap.size, 8, none⟩ a8).cell? ⟨w.heap.size + 1, 4, none⟩ = some (.slice z4 z5 z6) ∧ (((((((((W.setCell ⟨w2.heap.size, 0, none⟩ a0).setCell ⟨w2.heap.size, 1, none⟩ a1).setCell ⟨w2.heap.size, 2, none⟩ a2).setCell ⟨w2.heap.size, 3, none⟩ a3).setCell ⟨w2.heap.size, 4, none⟩ a4).setCell ⟨w2.heap.size, 5, none⟩ a5).setCell ⟨w2.heap.size, 6, none⟩ a6).setCell ⟨w2.heap.size, 7, none⟩ a7).setCell ⟨w2.heap.size, 8, none⟩ a8).cell? ⟨w.heap.size + 1, 5, none⟩ = some (.slice z7 z8 z9)) := fun W h a0 a1 a2 a3 a4 a5 a6 a7 a8 => by
    obtain ⟨e0, e1, e2, e3, e4, e5⟩ := HCEL.out W h
    have hl : w.heap.size + 1 < W.heap.size := Nat.lt_of_lt_of_le s6 h.size
    have K9 := keep9 (P := fun k => k = w2.heap.size) (w := W) (b := w2.heap.size) (a0 := a0) (a1 := a1) (a2 := a2) (a3 := a3) (a4 := a4) (a5 := a5) (a6 := a6) (a7 := a7) (a8 := a8) rfl
    exact ⟨(K9.cell (p := ⟨w.heap.size + 1, 0, none⟩) hl (by simp; omega)).trans e0, (K9.cell (p := ⟨w.heap.size + 1, 1, none⟩) hl (by simp; omega)).trans e1, (K9.cell (p := ⟨w.heap.size + 1, 2, none⟩) hl (by simp; omega)).trans e2, (K9.cell (p := ⟨w.heap.size + 1, 3, none⟩) hl (by simp; omega)).trans e3, (K9.cell (p := ⟨w.heap.size + 1, 4, none⟩) hl (by simp; omega)).trans e4, (K9.cell (p := ⟨w.heap.size + 1, 5, none⟩) hl (by simp; omega)).trans e5⟩
  go_wp2_with fail
  go_region_held3 (fun w' => w'.cell? ⟨w.heap.size + 1, 0, none⟩ = some (.int .i64 z0) ∧ w'.cell? ⟨w.heap.size + 1, 1, none⟩ = some (.int .i64 z1) ∧ w'.cell? ⟨w.heap.size + 1, 2, none⟩ = some (.bool z2) ∧ w'.cell? ⟨w.heap.size + 1, 3, none⟩ = some (.string z3) ∧ w'.cell? ⟨w.heap.size + 1, 4, none⟩ = some (.slice z4 z5 z6) ∧ w'.cell? ⟨w.heap.size + 1, 5, none⟩ = some (.slice z7 z8 z9)) (first | with_reducible exact HCEL.out _ hb5 | with_reducible exact HCE9.out _ hb5 _ _ _ _ _ _ _ _ _ | with_reducible exact HCEL.out _ (hb5.alloc hb5.size _) | exact HCEL.out _ (Below.refl _ _).drew | exact HCEL.out _ (((Below.refl _ _).alloc (Nat.le_refl _) _).drew))
    (first | (go_at_call 16; refine HSZ3.mono ?_; rintro e w5 ⟨rfl, hg5⟩; have hb5 : RowKit.Below w2.heap.size w2 w5 := (((Below.refl w2.heap.size w2).alloc (Nat.le_refl _) _).drew).trans (hg5.mono (by simp)); have hx5 := (hg5.block w2.heap.size (by simp)).trans (alloc_new w2 _); obtain ⟨x0, x1, x2, x3, x4, x5, x6, x7, x8, x9⟩ := cells9 hx5; have fx := frz hx5; have HX5 := Hid.mk hx5; have HB5 := Hid.mk hb5; clear hg5 hx5) | (go_at_call 16; refine HSZa.mono ?_; rintro e w5 ⟨rfl, hg5⟩; have hb5 : RowKit.Below w2.heap.size w2 w5 := (Below.refl _ _).drew.trans hg5; have HB5 := Hid.mk hb5; clear hg5))
  · obtain ⟨WX, hWX⟩ : ∃ WX, w5.alloc (.cells #[.int .i64 at_, .int .i64 z0, .int .i64 z1, .bool z2, .string z3, .slice z4 z5 z6, .slice z7 z8 z9, .int .i64 ((sizeT sT : Nat) : Int), .int .i64 20000] 82) = WX := ⟨_, rfl⟩
    have hXc : WX.heap[w5.heap.size]? = some (.cells #[.int .i64 at_, .int .i64 z0, .int .i64 z1, .bool z2, .string z3, .slice z4 z5 z6, .slice z7 z8 z9, .int .i64 ((sizeT sT : Nat) : Int), .int .i64 20000] 82 (0, 0)) := by rw [← hWX]; exact alloc_new _ _
    have hBX : RowKit.Below w2.heap.size w2 WX := by rw [← hWX]; exact HB5.out.alloc HB5.out.size _
    have hXl : w2.heap.size ≤ w5.heap.size := by first | exact Nat.le_refl _ | exact HB5.out.size
    rw [hWX]
    clear hWX
    have hw2 := HB2.out.size
    have HBWX : Hid (RowKit.Below w.heap.size w WX) := HB2.out.trans (hBX.mono hw2)
    have HT3 := Hid.mk ((hBX.block w.heap.size (by omega)).trans HT2.out)
    have HZ3 := Hid.mk ((hBX.block (w.heap.size + 1 + 1) hzw).trans HZ2.out)
    have HWK := walkT_any (w0 := w) (bs := #[.pointer (some ⟨w5.heap.size, 0, none⟩)]) GT_kid (fun k hk => by rw [hk]; omega) (fun s w' k hI hk => by rw [hk]; exact heap_lt hI.1) (fun s a b M => repI_grow (w0 := w) s a b M) cf_replacing (replacing_visits (w5.heap.size) at_ (sizeT sT) sT z0 z1 z2 z3 z4 z5 z6 z7 z8 z9 w hat hat2 (by omega) (by omega) (by omega) HTU.out hgs hsh2) t 20000 _ 0 0 WX hg ⟨hXc, by omega, by omega⟩ HTV.out HBWX.out (by omega) (by omega) (by omega) (Or.inr (by omega))
    rw [hWW] at HWK
    have hZX := HBWX.out.size
    have hzx2 : w.heap.size + 1 + 1 < WX.heap.size := heap_lt HZ3.out
    obtain ⟨t0, t1, t2, t3, t4, t5, t6⟩ := cells6 HT3.out
    clear hXc hBX
    cases W with
    | error c =>
      have HR3 : Hid (R = .error c) := HR2.out
      go_wp2_with fail
      refine HWK.mono ?_
      rintro e w6 ⟨hk6, hc6, v6, hsh, rfl⟩
      have hz6 := hk6.size
      have HZ6 := Hid.mk ((hk6.block (w.heap.size + 1 + 1) hzx2 (by omega)).trans HZ3.out)
      have HB6 : Hid (RowKit.Below w.heap.size w w6) := HBWX.out.trans (hk6.below hZX (fun k hk => by rw [hk]; omega))
      have HAE := answered_err v6 c w6 hsh hc6
      clear hk6
      go_wp2_with fail
      refine HAE.mono ?_
      rintro e w7 ⟨rfl, hb7⟩
      have hr := (hb7.block (w.heap.size + 1 + 1) (heap_lt HZ6.out)).trans HZ6.out
      obtain ⟨y0, y1, y2, y3, y4, y5, y6⟩ := cells6 hr
      have fr := frz hr
      have HB7 : Hid (RowKit.Below w.heap.size w w7) := HB6.out.trans (hb7.mono HB6.out.size)
      clear hr hb7
      unfold zeroV
      go_wp2
      refine bodyPost_ret (v := .tuple #[zeroV, .int .i64 c]) (by simp [results, Try.results30, go_sem, zeroV, y0, y1, y2, y3, y4, y5]) rfl ⟨by rw [HR3.out]; rfl, ?_⟩
      exact HB7.out.trans ((keep6 (P := fun k => k = w.heap.size + 1 + 1) rfl).below HB7.out.size (fun k hk => by omega))
    | ok q =>
      obtain ⟨room', r⟩ := q
      have HR3 : Hid (R = if checkT r = 0 then .ok r else .error 2) := HR2.out
      go_wp2_with fail
      refine HWK.mono ?_
      rintro e w6 ⟨hk6, ⟨v6, rfl, hto⟩, -⟩
      have hz6 := hk6.size
      have HZ6 := Hid.mk ((hk6.block (w.heap.size + 1 + 1) hzx2 (by omega)).trans HZ3.out)
      have HB6 : Hid (RowKit.Below w.heap.size w w6) := HBWX.out.trans (hk6.below hZX (fun k hk => by rw [hk]; omega))
      have HAN := answered_ok WX.heap.size v6 r w6 hto (HSM2.out room' r hWW)
      clear hk6 hto
      go_wp2_with fail
      refine HAN.mono ?_
      rintro e w7 ⟨hans, hb7⟩
      have hr := (hb7.block (w.heap.size + 1 + 1) (heap_lt HZ6.out)).trans HZ6.out
      obtain ⟨y0, y1, y2, y3, y4, y5, y6⟩ := cells6 hr
      have fr := frz hr
      have HB7 : Hid (RowKit.Below w.heap.size w w7) := HB6.out.trans (hb7.mono HB6.out.size)
      clear hr hb7
      by_cases hcl : checkT r = 0
      · rw [if_pos hcl] at hans
        rw [if_pos hcl] at HR3
        obtain ⟨v7, rfl, ht7⟩ := hans
        have HT7 := Hid.mk ht7
        obtain ⟨q0, q1, q2, q3, q4, q5, q6, q7, q8, q9, rfl⟩ := ht7.shapeE
        clear ht7 hcl
        go_wp2
        refine bodyPost_ret (v := .tuple #[.agg #[.int .i64 q0, .int .i64 q1, .bool q2, .string q3, .slice q4 q5 q6, .slice q7 q8 q9], .int .i64 0]) (by simp [results, Try.results30, go_sem, y0, y1, y2, y3, y4, y5]) rfl ⟨?_, ?_⟩
        · rw [HR3.out]
          refine ⟨_, rfl, ?_⟩
          rw [size6]
          exact (HT7.out.on (fun k h1 h2 => (keep6 (P := fun k => k = w.heap.size + 1 + 1) rfl).block k h2 (by omega))).mono (by omega) (Nat.le_refl _)
        · exact HB7.out.trans ((keep6 (P := fun k => k = w.heap.size + 1 + 1) rfl).below HB7.out.size (fun k hk => by omega))
      · rw [if_neg hcl] at hans
        rw [if_neg hcl] at HR3
        have hans : e = .returned (.tuple #[zeroV, .int .i64 2]) := hans
        subst hans
        unfold zeroV
        clear hcl
        go_wp2
        refine bodyPost_ret (v := .tuple #[zeroV, .int .i64 2]) (by simp [results, Try.results30, go_sem, zeroV, y0, y1, y2, y3, y4, y5]) rfl ⟨by rw [HR3.out]; rfl, ?_⟩
        exact HB7.out.trans ((keep6 (P := fun k => k = w.heap.size + 1 + 1) rfl).below HB7.out.size (fun k hk => by omega))
  · obtain ⟨WX, hWX⟩ : ∃ WX, (((((((((w5.setCell ⟨w2.heap.size, 0, none⟩ (.int .i64 at_)).setCell ⟨w2.heap.size, 1, none⟩ (.int .i64 z0)).setCell ⟨w2.heap.size, 2, none⟩ (.int .i64 z1)).setCell ⟨w2.heap.size, 3, none⟩ (.bool z2)).setCell ⟨w2.heap.size, 4, none⟩ (.string z3)).setCell ⟨w2.heap.size, 5, none⟩ (.slice z4 z5 z6)).setCell ⟨w2.heap.size, 6, none⟩ (.slice z7 z8 z9)).setCell ⟨w2.heap.size, 7, none⟩ (.int .i64 ((sizeT sT : Nat) : Int))).setCell ⟨w2.heap.size, 8, none⟩ (.int .i64 20000)) = WX := ⟨_, rfl⟩
    have hXc : WX.heap[w2.heap.size]? = some (.cells #[.int .i64 at_, .int .i64 z0, .int .i64 z1, .bool z2, .string z3, .slice z4 z5 z6, .slice z7 z8 z9, .int .i64 ((sizeT sT : Nat) : Int), .int .i64 20000] 82 (0, 0)) := by rw [← hWX]; exact all9 HX5.out
    have hBX : RowKit.Below w2.heap.size w2 WX := by rw [← hWX]; exact HB5.out.trans ((keep9 (P := fun k => k = w2.heap.size) rfl).below HB5.out.size (fun k hk => by omega))
    have hXl : w2.heap.size ≤ w2.heap.size := by first | exact Nat.le_refl _ | exact HB5.out.size
    rw [hWX]
    clear hWX
    have hw2 := HB2.out.size
    have HBWX : Hid (RowKit.Below w.heap.size w WX) := HB2.out.trans (hBX.mono hw2)
    have HT3 := Hid.mk ((hBX.block w.heap.size (by omega)).trans HT2.out)
    have HZ3 := Hid.mk ((hBX.block (w.heap.size + 1 + 1) hzw).trans HZ2.out)
    have HWK := walkT_any (w0 := w) (bs := #[.pointer (some ⟨w2.heap.size, 0, none⟩)]) GT_kid (fun k hk => by rw [hk]; omega) (fun s w' k hI hk => by rw [hk]; exact heap_lt hI.1) (fun s a b M => repI_grow (w0 := w) s a b M) cf_replacing (replacing_visits (w2.heap.size) at_ (sizeT sT) sT z0 z1 z2 z3 z4 z5 z6 z7 z8 z9 w hat hat2 (by omega) (by omega) (by omega) HTU.out hgs hsh2) t 20000 _ 0 0 WX hg ⟨hXc, by omega, by omega⟩ HTV.out HBWX.out (by omega) (by omega) (by omega) (Or.inr (by omega))
    rw [hWW] at HWK
    have hZX := HBWX.out.size
    have hzx2 : w.heap.size + 1 + 1 < WX.heap.size := heap_lt HZ3.out
    obtain ⟨t0, t1, t2, t3, t4, t5, t6⟩ := cells6 HT3.out
    clear hXc hBX
    cases W with
    | error c =>
      have HR3 : Hid (R = .error c) := HR2.out
      go_wp2_with fail
      refine HWK.mono ?_
      rintro e w6 ⟨hk6, hc6, v6, hsh, rfl⟩
      have hz6 := hk6.size
      have HZ6 := Hid.mk ((hk6.block (w.heap.size + 1 + 1) hzx2 (by omega)).trans HZ3.out)
      have HB6 : Hid (RowKit.Below w.heap.size w w6) := HBWX.out.trans (hk6.below hZX (fun k hk => by rw [hk]; omega))
      have HAE := answered_err v6 c w6 hsh hc6
      clear hk6
      go_wp2_with fail
      refine HAE.mono ?_
      rintro e w7 ⟨rfl, hb7⟩
      have hr := (hb7.block (w.heap.size + 1 + 1) (heap_lt HZ6.out)).trans HZ6.out
      obtain ⟨y0, y1, y2, y3, y4, y5, y6⟩ := cells6 hr
      have fr := frz hr
      have HB7 : Hid (RowKit.Below w.heap.size w w7) := HB6.out.trans (hb7.mono HB6.out.size)
      clear hr hb7
      unfold zeroV
      go_wp2
      refine bodyPost_ret (v := .tuple #[zeroV, .int .i64 c]) (by simp [results, Try.results30, go_sem, zeroV, y0, y1, y2, y3, y4, y5]) rfl ⟨by rw [HR3.out]; rfl, ?_⟩
      exact HB7.out.trans ((keep6 (P := fun k => k = w.heap.size + 1 + 1) rfl).below HB7.out.size (fun k hk => by omega))
    | ok q =>
      obtain ⟨room', r⟩ := q
      have HR3 : Hid (R = if checkT r = 0 then .ok r else .error 2) := HR2.out
      go_wp2_with fail
      refine HWK.mono ?_
      rintro e w6 ⟨hk6, ⟨v6, rfl, hto⟩, -⟩
      have hz6 := hk6.size
      have HZ6 := Hid.mk ((hk6.block (w.heap.size + 1 + 1) hzx2 (by omega)).trans HZ3.out)
      have HB6 : Hid (RowKit.Below w.heap.size w w6) := HBWX.out.trans (hk6.below hZX (fun k hk => by rw [hk]; omega))
      have HAN := answered_ok WX.heap.size v6 r w6 hto (HSM2.out room' r hWW)
      clear hk6 hto
      go_wp2_with fail
      refine HAN.mono ?_
      rintro e w7 ⟨hans, hb7⟩
      have hr := (hb7.block (w.heap.size + 1 + 1) (heap_lt HZ6.out)).trans HZ6.out
      obtain ⟨y0, y1, y2, y3, y4, y5, y6⟩ := cells6 hr
      have fr := frz hr
      have HB7 : Hid (RowKit.Below w.heap.size w w7) := HB6.out.trans (hb7.mono HB6.out.size)
      clear hr hb7
      by_cases hcl : checkT r = 0
      · rw [if_pos hcl] at hans
        rw [if_pos hcl] at HR3
        obtain ⟨v7, rfl, ht7⟩ := hans
        have HT7 := Hid.mk ht7
        obtain ⟨q0, q1, q2, q3, q4, q5, q6, q7, q8, q9, rfl⟩ := ht7.shapeE
        clear ht7 hcl
        go_wp2
        refine bodyPost_ret (v := .tuple #[.agg #[.int .i64 q0, .int .i64 q1, .bool q2, .string q3, .slice q4 q5 q6, .slice q7 q8 q9], .int .i64 0]) (by simp [results, Try.results30, go_sem, y0, y1, y2, y3, y4, y5]) rfl ⟨?_, ?_⟩
        · rw [HR3.out]
          refine ⟨_, rfl, ?_⟩
          rw [size6]
          exact (HT7.out.on (fun k h1 h2 => (keep6 (P := fun k => k = w.heap.size + 1 + 1) rfl).block k h2 (by omega))).mono (by omega) (Nat.le_refl _)
        · exact HB7.out.trans ((keep6 (P := fun k => k = w.heap.size + 1 + 1) rfl).below HB7.out.size (fun k hk => by omega))
      · rw [if_neg hcl] at hans
        rw [if_neg hcl] at HR3
        have hans : e = .returned (.tuple #[zeroV, .int .i64 2]) := hans
        subst hans
        unfold zeroV
        clear hcl
        go_wp2
        refine bodyPost_ret (v := .tuple #[zeroV, .int .i64 2]) (by simp [results, Try.results30, go_sem, zeroV, y0, y1, y2, y3, y4, y5]) rfl ⟨by rw [HR3.out]; rfl, ?_⟩
        exact HB7.out.trans ((keep6 (P := fun k => k = w.heap.size + 1 + 1) rfl).below HB7.out.size (fun k hk => by omega))
end Go.Proofs.Ytggiibkboblknaa
