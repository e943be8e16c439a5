/- The contracts of the writer's written, and of bytes.Term. -/
import Derived.Test.YtahacpbmoijicaaED
import Derived.Test.YtahacpbmoijicaaRT
import Derived.Test.YtahacpbmoijicaaEH
namespace Go.Proofs.Ytahacpbmoijicaa
open Go.RowKit Go.Sort

/-- what Term answers -/
def termRes (t : Tm) : Except Int (List UInt8) := if checkT t ≠ 0 then .error (checkT t) else if 1000000 < (encT t).length then .error 2 else .ok (encT t)

/-- bytes in memory of the call's own and no error, or nil and an error -/
def AnsB (B : Nat) (e : Ending) (w' : World) : Except Int (List UInt8) → Prop
  | .ok bs => ∃ v, e = .returned (.tuple #[v, .int .i64 0]) ∧ OY B w' v bs
  | .error c => c ≠ 0 ∧ e = .returned (.tuple #[.slice none 0 0, .int .i64 c])

set_option maxRecDepth 100000 in
set_option maxHeartbeats 4000000 in
theorem written_any (B wb : Nat) (tot : List UInt8) (w : World) (hW : WR w B wb tot) : Calls Try.prog 30 #[.pointer (some ⟨wb, 0, none⟩)] w fun e w' => AnsB B e w' (if 1000000 < tot.length then .error 2 else .ok tot) ∧ w' = w := by
  obtain ⟨hBw, out, tm, bs, hh, hO, hnb, hst⟩ := hW
  obtain ⟨x0, x1, -, -, x4⟩ := cells2 hh
  obtain ⟨oa, oc, rfl, hbl, hoc, hom, hon, hog⟩ := hO.shape
  have HO := Hid.mk hO
  clear hh hO hnb hog hbl hon
  rcases hst with ⟨rfl, rfl, hl⟩ | ⟨rfl, hl, -⟩
  · rw [if_neg (by omega)]
    go_enter Try.func30, Try.ntmps30
    go_wp2
    go_ret2
    exact ⟨⟨_, rfl, HO.out⟩, rfl⟩
  · rw [if_pos hl]
    go_enter Try.func30, Try.ntmps30
    go_wp2
    go_ret2
    exact ⟨⟨by decide, rfl⟩, rfl⟩

theorem WR.new (w : World) (B : Nat) (hB : B ≤ w.heap.size) : WR (w.alloc (.cells #[.slice none 0 0, .bool false] 56)) B w.heap.size [] :=
  ⟨hB, .slice none 0 0, false, [], alloc_new _ _, OY.nil _ _, by simp [Value.ownBlock], Or.inl ⟨rfl, rfl, by simp⟩⟩

set_option maxRecDepth 100000 in
set_option maxHeartbeats 4000000 in
theorem BTerm_any (t : Tm) (v : Value) (w : World) (hv : TV w v t) (hsm : smT 1000000 t) : Calls Try.prog 9 #[v] w fun e w' => AnsB w.heap.size e w' (termRes t) ∧ RowKit.Below w.heap.size w w' := by
  have HCH := fun (W : World) (h : RowKit.Below w.heap.size w W) => Check_any t v W (hv.on h) hsm
  have HTV := Hid.mk hv
  have HSM := Hid.mk hsm
  obtain ⟨la, lc, ka, kc, rfl⟩ := hv.shape
  clear hv hsm
  generalize t.form = f at *
  generalize t.n = n at *
  generalize t.hid = hd at *
  generalize t.name = nm at *
  generalize t.levels.length = l1 at *
  generalize t.kids.length = k1 at *
  have HR : Hid (termRes t = if checkT t ≠ 0 then .error (checkT t) else if 1000000 < (encT t).length then .error 2 else .ok (encT t)) := rfl
  have HOKT : Hid (checkT t = 0 → formedB t = true) := fun h => (check_ok h).2.2
  generalize termRes t = R at HR ⊢
  generalize checkT t = C at *
  have hb0 : RowKit.Below w.heap.size w (w.alloc (.cells #[.int .i64 f, .int .i64 n, .bool hd, .string nm, .slice la l1 lc, .slice ka k1 kc] 25)) := (Below.refl _ _).alloc (Nat.le_refl _) _
  have HC := HCH _ hb0
  have HB0 := Hid.mk hb0
  clear HCH hb0
  by_cases hc : C = 0
  · subst hc
    go_enter Try.func9, Try.ntmps9
    go_wp2_with fail
    refine HC.mono ?_
    rintro e w1 ⟨rfl, hb1⟩
    have hx := (hb1.block w.heap.size (by simp)).trans (alloc_new _ _)
    obtain ⟨x0, x1, x2, x3, x4, x5, x6⟩ := cells6 hx
    have HB1 : Hid (RowKit.Below w.heap.size w w1) := HB0.out.trans (hb1.mono HB0.out.size)
    clear hx hb1 HC
    obtain ⟨W2, hW2⟩ : ∃ W2, w1.alloc (.cells #[.slice none 0 0, .bool false] 56) = W2 := ⟨_, rfl⟩
    have HB2 : Hid (RowKit.Below w.heap.size w W2) := by unfold Hid; rw [← hW2]; exact HB1.out.alloc HB1.out.size _
    have HWR2 : Hid (WR W2 w.heap.size w1.heap.size []) := by unfold Hid; rw [← hW2]; exact WR.new w1 _ HB1.out.size
    have HCT := wterm_any w w1.heap.size t HSM.out (HOKT.out (by trivial)) _ [] W2 HTV.out HB2.out HWR2.out
    have HW2 := Hid.mk hW2
    clear hW2
    go_wp2_with fail
    rw [HW2.out]
    refine HCT.mono ?_
    rintro e w3 ⟨rfl, hW3, hw3⟩
    have HB3 : Hid (RowKit.Below w.heap.size w w3) := HB2.out.trans (hw3.toBelow HWR2.out HB2.out.size)
    have HCW := written_any w.heap.size w1.heap.size _ w3 hW3
    rw [List.nil_append] at HCW
    have HR2 : Hid (R = if 1000000 < (encT t).length then .error 2 else .ok (encT t)) := by unfold Hid; rw [HR.out, if_neg (by simp)]
    rw [← HR2.out] at HCW
    clear hW3 hw3 HCT HR HR2
    go_wp2_with fail
    refine HCW.mono ?_
    rintro e w4 ⟨hans, hw4⟩
    have hw4' := hw4.symm
    subst hw4'
    clear HCW
    cases R with
    | ok bs =>
      obtain ⟨vb, rfl, hO⟩ := hans
      have HO := Hid.mk hO
      clear hO
      go_wp2
      go_ret2
      exact ⟨⟨_, rfl, HO.out⟩, HB3.out⟩
    | error c =>
      obtain ⟨hc0, rfl⟩ := hans
      go_wp2
      go_ret2
      exact ⟨⟨hc0, rfl⟩, HB3.out⟩
  · have hcb : (C != 0) = true := by simpa using hc
    have HR2 : Hid (R = .error C ∧ C ≠ 0) := ⟨by rw [HR.out, if_pos hc], hc⟩
    clear hc HR
    go_enter Try.func9, Try.ntmps9
    go_wp2_with fail
    refine HC.mono ?_
    rintro e w1 ⟨rfl, hb1⟩
    have HB1 : Hid (RowKit.Below w.heap.size w w1) := HB0.out.trans (hb1.mono HB0.out.size)
    clear hb1 HC
    go_wp2
    go_ret2
    rw [HR2.out.1]
    exact ⟨⟨HR2.out.2, rfl⟩, HB1.out⟩
end Go.Proofs.Ytahacpbmoijicaa

/- The contracts of the reference's Check, Size, Free, Has. -/
namespace Go.Proofs.Ytahacpbmoijicaa
open Go.RowKit Go.Sort

set_option maxRecDepth 100000 in
set_option maxHeartbeats 2000000 in
theorem rCheck_any (t : Tm) (v : Value) (w : World) (hv : TV w v t) (hsm : smT 1000000 t) : Calls Try.prog 19 #[v] w fun e w' => e = .returned (.int .i64 (checkT t)) ∧ RowKit.Below w.heap.size w w' := by
  have HC : Hid (checkT t = if sizeT t ≤ 20000 ∧ heightT t ≤ 500 then (if formedB t then 0 else 10) else 2) := rfl
  have HP := fun (W : World) (h : RowKit.Below w.heap.size w W) => parts_any t 20000 500 v W (by decide) (by decide) (hv.on h)
  have HF := fun (W : World) (h : RowKit.Below w.heap.size w W) => formed_any t v W hsm (hv.on h)
  have HPR : Hid (partsR t 20000 500 = if (sizeT t : Int) ≤ 20000 ∧ (heightT t : Int) ≤ 500 then ((sizeT t : Int), (heightT t : Int)) else (1073741824, 1073741824)) := rfl
  generalize partsR t 20000 500 = P at HP HPR
  generalize checkT t = R at HC ⊢
  obtain ⟨la, lc, ka, kc, rfl⟩ := hv.shape
  clear hv hsm
  generalize formedB t = F at *
  generalize sizeT t = S at *
  generalize heightT t = H at *
  generalize t.form = f at *
  generalize t.n = n at *
  generalize t.hid = hd at *
  generalize t.name = nm at *
  generalize t.levels.length = l1 at *
  generalize t.kids.length = k1 at *
  have HG := fun (a : Obj) => (Below.refl w.heap.size w).alloc (Nat.le_refl _) a
  by_cases hc : S ≤ 20000 ∧ H ≤ 500
  · have hP : P = ((S : Int), (H : Int)) := by rw [HPR.out, if_pos (by omega)]
    subst hP
    have HC2 : Hid (R = if F then 0 else 10) := by unfold Hid; rw [HC.out, if_pos hc]
    obtain ⟨hc1, hc2⟩ := hc
    have g1 : ¬ (S : Int) > 20000 := by omega
    have g2 : ¬ (H : Int) > 500 := by omega
    clear HC HPR
    go_enter Try.func19, Try.ntmps19
    go_wp2_with fail
    refine (HP _ (HG _)).mono ?_
    rintro e w1 ⟨rfl, hg1⟩
    have hb1 := hg1.below
    obtain ⟨x0, x1, x2, x3, x4, x5, x6⟩ := cells6 ((hb1.block w.heap.size (by simp)).trans (alloc_new _ _))
    have HB1 : Hid (RowKit.Below w.heap.size w w1) := (HG _).trans (hb1.mono (by simp))
    clear hg1 hb1
    go_wp2_with fail
    refine (HF _ HB1.out).mono ?_
    rintro e w2 ⟨rfl, hb2⟩
    cases F
    all_goals
      go_wp2
      go_ret
      exact ⟨by rw [HC2.out]; rfl, HB1.out.trans (hb2.mono HB1.out.size)⟩
  · have hP : P = (1073741824, 1073741824) := by rw [HPR.out, if_neg (by omega)]
    subst hP
    have HC2 : Hid (R = 2) := by unfold Hid; rw [HC.out, if_neg hc]
    clear HC HPR hc
    go_enter Try.func19, Try.ntmps19
    go_wp2_with fail
    refine (HP _ (HG _)).mono ?_
    rintro e w1 ⟨rfl, hg1⟩
    go_wp2
    go_ret
    exact ⟨by rw [HC2.out]; rfl, (HG _).trans (hg1.below.mono (by simp))⟩

end Go.Proofs.Ytahacpbmoijicaa

/- How long the bytes of a right term are; the contract of the reference's Term. -/
namespace Go.Proofs.Ytahacpbmoijicaa
open Go.RowKit Go.Sort Go.Lib

theorem encTs_len {c : Nat} : ∀ {ks : List Tm}, (∀ k ∈ ks, (encT k).length ≤ sizeT k * c) → (ks.flatMap encT).length ≤ (ks.map sizeT).sum * c
  | [], _ => by simp
  | k :: ks, h => by
    rw [List.flatMap_cons, List.length_append, List.map_cons, List.sum_cons, Nat.add_mul]
    have h1 := h k (by simp)
    have h2 := encTs_len (ks := ks) fun x hx => h x (by simp [hx])
    omega

theorem encT_len (t : Tm) : smT 1000000 t → formedB t = true → (encT t).length ≤ sizeT t * 1300000000 := by
  refine Tm.ind (P := fun t => smT 1000000 t → formedB t = true → (encT t).length ≤ sizeT t * 1300000000) ?_ t
  intro f n hd nm ls ks ih hsm hf
  obtain ⟨h1, h2, h3, h4, h5⟩ := (smT_mk _ _ _ _ _ _ _).1 hsm
  obtain ⟨-, p1, p2, p10, p5⟩ := formed_part hf
  have hk := encTs_len (c := 1300000000) (ks := ks) fun k hk => ih k hk (h5 k hk) (p5 k hk)
  rw [encT_mk, sizeT_mk, List.length_append, List.length_append, Nat.add_mul, Nat.one_mul]
  have hfo := formed_form hf
  have hf9 := numB_9 (n := f.toNat) (by omega)
  have hfl : (fieldB f n hd nm ls).length ≤ 1299999000 := by
    unfold fieldB
    split
    · have := p1 (by assumption)
      have := numB_9 (n := n.toNat) (by omega)
      omega
    · split
      · simp
      · split
        · obtain ⟨q1, q2, q3⟩ := p10 (by assumption)
          have h6 := flat_len (c := 1200) (f := levB) (xs := ls) fun l hl => levB_len (canon_rightL (q3 l hl))
          have h7 := numB_9 (n := nm.size) (by omega)
          have h8 := numB_9 (n := ls.length) (by omega)
          have h9 : nm.data.toList.length = nm.size := rfl
          unfold nameB
          rw [List.length_append, List.length_append, List.length_append]
          omega
        · split
          · obtain ⟨l, rfl, q3⟩ := p2 (by assumption)
            have := levB_len (canon_rightL q3)
            simp
            omega
          · simp
  omega

theorem encT_room {t : Tm} (hsm : smT 1000000 t) (hc : checkT t = 0) : (encT t).length ≤ 26000000000000 := by
  obtain ⟨h1, -, h3⟩ := check_ok hc
  have := encT_len t hsm h3
  omega

set_option maxRecDepth 100000 in
set_option maxHeartbeats 4000000 in
theorem rTerm_any (t : Tm) (v : Value) (w : World) (hv : TV w v t) (hsm : smT 1000000 t) : Calls Try.prog 10 #[v] w fun e w' => AnsB w.heap.size e w' (termRes t) ∧ RowKit.Below w.heap.size w w' := by
  have HCH := fun (W : World) (h : RowKit.Below w.heap.size w W) => rCheck_any t v W (hv.on h) hsm
  have HTV := Hid.mk hv
  have HSM := Hid.mk hsm
  obtain ⟨la, lc, ka, kc, rfl⟩ := hv.shape
  clear hv hsm
  generalize t.form = f at *
  generalize t.n = n at *
  generalize t.hid = hd at *
  generalize t.name = nm at *
  generalize t.levels.length = l1 at *
  generalize t.kids.length = k1 at *
  have HR : Hid (termRes t = if checkT t ≠ 0 then .error (checkT t) else if 1000000 < (encT t).length then .error 2 else .ok (encT t)) := rfl
  have HOKT : Hid (checkT t = 0 → formedB t = true ∧ (encT t).length ≤ 26000000000000) := fun h => ⟨(check_ok h).2.2, encT_room HSM.out h⟩
  generalize termRes t = R at HR ⊢
  generalize checkT t = C at *
  have hb0 : RowKit.Below w.heap.size w (w.alloc (.cells #[.int .i64 f, .int .i64 n, .bool hd, .string nm, .slice la l1 lc, .slice ka k1 kc] 25)) := (Below.refl _ _).alloc (Nat.le_refl _) _
  have HC := HCH _ hb0
  have HB0 := Hid.mk hb0
  clear HCH hb0
  by_cases hc : C = 0
  · subst hc
    obtain ⟨hfo, hel⟩ := HOKT.out rfl
    go_enter Try.func10, Try.ntmps10
    go_wp2_with fail
    refine HC.mono ?_
    rintro e w1 ⟨rfl, hb1⟩
    have hx := (hb1.block w.heap.size (by simp)).trans (alloc_new _ _)
    obtain ⟨x0, x1, x2, x3, x4, x5, x6⟩ := cells6 hx
    have HB1 : Hid (RowKit.Below w.heap.size w w1) := HB0.out.trans (hb1.mono HB0.out.size)
    clear hx hb1 HC
    have HCT := rterm_any w t HSM.out hfo (.slice none 0 0) _ [] w1 HTV.out HB1.out (OY.nil _ _) (by simp; omega)
    go_wp2_with fail
    refine HCT.mono ?_
    rintro e w3 ⟨v3, rfl, hO3, hg3⟩
    have HB3 : Hid (RowKit.Below w.heap.size w w3) := HB1.out.trans (hg3.toBelow (OY.nil _ _) HB1.out.size)
    have HR2 : Hid (R = if 1000000 < (encT t).length then .error 2 else .ok (encT t)) := by unfold Hid; rw [HR.out, if_neg (by simp)]
    rw [List.nil_append] at hO3
    have HO3 := Hid.mk hO3
    obtain ⟨oa, oc, rfl, -, -, hom, -, -⟩ := hO3.shape
    clear hO3 hg3 HCT HR
    by_cases hbig : 1000000 < (encT t).length
    · have hbi : (1000000 : Int) < ((encT t).length : Int) := by omega
      go_wp2
      go_ret2
      rw [HR2.out, if_pos hbig]
      exact ⟨⟨by decide, rfl⟩, HB3.out⟩
    · have hbi : ¬ (1000000 : Int) < ((encT t).length : Int) := by omega
      go_wp2
      go_ret2
      rw [HR2.out, if_neg hbig]
      exact ⟨⟨_, rfl, HO3.out⟩, HB3.out⟩
  · have hcb : (C != 0) = true := by simpa using hc
    have HR2 : Hid (R = .error C ∧ C ≠ 0) := ⟨by rw [HR.out, if_pos hc], hc⟩
    clear hc HR
    go_enter Try.func10, Try.ntmps10
    go_wp2_with fail
    refine HC.mono ?_
    rintro e w1 ⟨rfl, hb1⟩
    have HB1 : Hid (RowKit.Below w.heap.size w w1) := HB0.out.trans (hb1.mono HB0.out.size)
    clear hb1 HC
    go_wp2
    go_ret2
    rw [HR2.out.1]
    exact ⟨⟨HR2.out.2, rfl⟩, HB1.out⟩
end Go.Proofs.Ytahacpbmoijicaa
