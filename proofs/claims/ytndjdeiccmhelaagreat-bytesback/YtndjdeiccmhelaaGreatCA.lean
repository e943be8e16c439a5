/- The contracts of the writer's written, and of bytes.Term. -/
import Derived.Test.YtndjdeiccmhelaaGreatED
import Derived.Test.YtndjdeiccmhelaaGreatRT
import Derived.Test.YtndjdeiccmhelaaGreatEH
import Derived.Test.YtndjdeiccmhelaaGreatCD
namespace Go.Proofs.YtndjdeiccmhelaaGreat
open Go.RowKit Go.Sort

/-- what Term answers -/
def termRes (t : Tm) : Except Int (List UInt8) := if checkT t ≠ 0 then .error (checkT t) else if 1000000 < (encT t).length then .error 2 else .ok (encT t)

/-- bytes in memory of the call's own and no error, or nil and an error -/
def AnsB (B : Nat) (e : Ending) (w' : World) : Except Int (List UInt8) → Prop
  | .ok bs => ∃ v, e = .returned (.tuple #[v, .int .i64 0]) ∧ OY B w' v bs
  | .error c => c ≠ 0 ∧ e = .returned (.tuple #[.slice none 0 0, .int .i64 c])

set_option maxRecDepth 100000 in
set_option maxHeartbeats 4000000 in
theorem written_any (B wb : Nat) (tot : List UInt8) (w : World) (hW : WR w B wb tot) : Calls Tryz.prog 32 #[.pointer (some ⟨wb, 0, none⟩)] w fun e w' => AnsB B e w' (if 1000000 < tot.length then .error 2 else .ok tot) ∧ w' = w := by
  obtain ⟨hBw, out, tm, bs, hh, hO, hnb, hst⟩ := hW
  obtain ⟨x0, x1, -, -, x4⟩ := cells2 hh
  obtain ⟨oa, oc, rfl, hbl, hoc, hom, hon, hog⟩ := hO.shape
  have HO := Hid.mk hO
  clear hh hO hnb hog hbl hon
  rcases hst with ⟨rfl, rfl, hl⟩ | ⟨rfl, hl, -⟩
  · rw [if_neg (by omega)]
    go_enter Tryz.func32, Tryz.ntmps32
    go_wp2
    go_ret2
    exact ⟨⟨_, rfl, HO.out⟩, rfl⟩
  · rw [if_pos hl]
    go_enter Tryz.func32, Tryz.ntmps32
    go_wp2
    go_ret2
    exact ⟨⟨by decide, rfl⟩, rfl⟩

theorem WR.new (w : World) (B : Nat) (hB : B ≤ w.heap.size) : WR (w.alloc (.cells #[.slice none 0 0, .bool false] 66)) B w.heap.size [] :=
  ⟨hB, .slice none 0 0, false, [], alloc_new _ _, OY.nil _ _, by simp [Value.ownBlock], Or.inl ⟨rfl, rfl, by simp⟩⟩

set_option maxRecDepth 100000 in
set_option maxHeartbeats 4000000 in
theorem BTerm_any (t : Tm) (v : Value) (w : World) (hv : TV w v t) (hsm : smT 1000000 t) : Calls Tryz.prog 25 #[v] w fun e w' => AnsB w.heap.size e w' (termRes t) ∧ RowKit.Below w.heap.size w w' := by
  have HCH := fun (W : World) (h : RowKit.Below w.heap.size w W) => Check_any t v W (hv.on h) hsm
  have HTV := Hid.mk hv
  have HSM := Hid.mk hsm
  obtain ⟨la, lc, ka, kc, rfl⟩ := hv.shape
  clear hv hsm
  generalize t.form = f at *
  generalize t.n = n at *
  generalize t.hid = hd at *
  generalize t.name = nm at *
  generalize t.levels.length = l1 at *
  generalize t.kids.length = k1 at *
  have HR : Hid (termRes t = if checkT t ≠ 0 then .error (checkT t) else if 1000000 < (encT t).length then .error 2 else .ok (encT t)) := rfl
  have HOKT : Hid (checkT t = 0 → formedB t = true) := fun h => (check_ok h).2.2
  generalize termRes t = R at HR ⊢
  generalize checkT t = C at *
  have hb0 : RowKit.Below w.heap.size w (w.alloc (.cells #[.int .i64 f, .int .i64 n, .bool hd, .string nm, .slice la l1 lc, .slice ka k1 kc] 38)) := (Below.refl _ _).alloc (Nat.le_refl _) _
  have HC := HCH _ hb0
  have HB0 := Hid.mk hb0
  clear HCH hb0
  by_cases hc : C = 0
  · subst hc
    go_enter Tryz.func25, Tryz.ntmps25
    go_wp2_with fail
    refine HC.mono ?_
    rintro e w1 ⟨rfl, hb1⟩
    have hx := (hb1.block w.heap.size (by simp)).trans (alloc_new _ _)
    obtain ⟨x0, x1, x2, x3, x4, x5, x6⟩ := cells6 hx
    have HB1 : Hid (RowKit.Below w.heap.size w w1) := HB0.out.trans (hb1.mono HB0.out.size)
    clear hx hb1 HC
    obtain ⟨W2, hW2⟩ : ∃ W2, w1.alloc (.cells #[.slice none 0 0, .bool false] 66) = W2 := ⟨_, rfl⟩
    have HB2 : Hid (RowKit.Below w.heap.size w W2) := by unfold Hid; rw [← hW2]; exact HB1.out.alloc HB1.out.size _
    have HWR2 : Hid (WR W2 w.heap.size w1.heap.size []) := by unfold Hid; rw [← hW2]; exact WR.new w1 _ HB1.out.size
    have HCT := wterm_any w w1.heap.size t HSM.out (HOKT.out (by trivial)) _ [] W2 HTV.out HB2.out HWR2.out
    have HW2 := Hid.mk hW2
    clear hW2
    go_wp2_with fail
    rw [HW2.out]
    refine HCT.mono ?_
    rintro e w3 ⟨rfl, hW3, hw3⟩
    have HB3 : Hid (RowKit.Below w.heap.size w w3) := HB2.out.trans (hw3.toBelow HWR2.out HB2.out.size)
    have HCW := written_any w.heap.size w1.heap.size _ w3 hW3
    rw [List.nil_append] at HCW
    have HR2 : Hid (R = if 1000000 < (encT t).length then .error 2 else .ok (encT t)) := by unfold Hid; rw [HR.out, if_neg (by simp)]
    rw [← HR2.out] at HCW
    clear hW3 hw3 HCT HR HR2
    go_wp2_with fail
    refine HCW.mono ?_
    rintro e w4 ⟨hans, hw4⟩
    have hw4' := hw4.symm
    subst hw4'
    clear HCW
    cases R with
    | ok bs =>
      obtain ⟨vb, rfl, hO⟩ := hans
      have HO := Hid.mk hO
      clear hO
      go_wp2
      go_ret2
      exact ⟨⟨_, rfl, HO.out⟩, HB3.out⟩
    | error c =>
      obtain ⟨hc0, rfl⟩ := hans
      go_wp2
      go_ret2
      exact ⟨⟨hc0, rfl⟩, HB3.out⟩
  · have hcb : (C != 0) = true := by simpa using hc
    have HR2 : Hid (R = .error C ∧ C ≠ 0) := ⟨by rw [HR.out, if_pos hc], hc⟩
    clear hc HR
    go_enter Tryz.func25, Tryz.ntmps25
    go_wp2_with fail
    refine HC.mono ?_
    rintro e w1 ⟨rfl, hb1⟩
    have HB1 : Hid (RowKit.Below w.heap.size w w1) := HB0.out.trans (hb1.mono HB0.out.size)
    clear hb1 HC
    go_wp2
    go_ret2
    rw [HR2.out.1]
    exact ⟨⟨HR2.out.2, rfl⟩, HB1.out⟩
end Go.Proofs.YtndjdeiccmhelaaGreat

/- The contracts of the reference's Check, Size, Free, Has. -/
namespace Go.Proofs.YtndjdeiccmhelaaGreat
open Go.RowKit Go.Sort

set_option maxRecDepth 100000 in
set_option maxHeartbeats 2000000 in
theorem rCheck_any (t : Tm) (v : Value) (w : World) (hv : TV w v t) (hsm : smT 1000000 t) : Calls Tryz.prog 64 #[v] w fun e w' => e = .returned (.int .i64 (checkT t)) ∧ RowKit.Below w.heap.size w w' := by
  have HC : Hid (checkT t = if sizeT t ≤ 20000 ∧ heightT t ≤ 500 then (if formedB t then 0 else 10) else 2) := rfl
  have HP := fun (W : World) (h : RowKit.Below w.heap.size w W) => parts_any t 20000 500 v W (by decide) (by decide) (hv.on h)
  have HF := fun (W : World) (h : RowKit.Below w.heap.size w W) => formed_any t v W hsm (hv.on h)
  have HPR : Hid (partsR t 20000 500 = if (sizeT t : Int) ≤ 20000 ∧ (heightT t : Int) ≤ 500 then ((sizeT t : Int), (heightT t : Int)) else (1073741824, 1073741824)) := rfl
  generalize partsR t 20000 500 = P at HP HPR
  generalize checkT t = R at HC ⊢
  obtain ⟨la, lc, ka, kc, rfl⟩ := hv.shape
  clear hv hsm
  generalize formedB t = F at *
  generalize sizeT t = S at *
  generalize heightT t = H at *
  generalize t.form = f at *
  generalize t.n = n at *
  generalize t.hid = hd at *
  generalize t.name = nm at *
  generalize t.levels.length = l1 at *
  generalize t.kids.length = k1 at *
  have HG := fun (a : Obj) => (Below.refl w.heap.size w).alloc (Nat.le_refl _) a
  by_cases hc : S ≤ 20000 ∧ H ≤ 500
  · have hP : P = ((S : Int), (H : Int)) := by rw [HPR.out, if_pos (by omega)]
    subst hP
    have HC2 : Hid (R = if F then 0 else 10) := by unfold Hid; rw [HC.out, if_pos hc]
    obtain ⟨hc1, hc2⟩ := hc
    have g1 : ¬ (S : Int) > 20000 := by omega
    have g2 : ¬ (H : Int) > 500 := by omega
    clear HC HPR
    go_enter Tryz.func64, Tryz.ntmps64
    go_wp2_with fail
    refine (HP _ (HG _)).mono ?_
    rintro e w1 ⟨rfl, hg1⟩
    have hb1 := hg1.below
    obtain ⟨x0, x1, x2, x3, x4, x5, x6⟩ := cells6 ((hb1.block w.heap.size (by simp)).trans (alloc_new _ _))
    have HB1 : Hid (RowKit.Below w.heap.size w w1) := (HG _).trans (hb1.mono (by simp))
    clear hg1 hb1
    go_wp2_with fail
    refine (HF _ HB1.out).mono ?_
    rintro e w2 ⟨rfl, hb2⟩
    cases F
    all_goals
      go_wp2
      go_ret
      exact ⟨by rw [HC2.out]; rfl, HB1.out.trans (hb2.mono HB1.out.size)⟩
  · have hP : P = (1073741824, 1073741824) := by rw [HPR.out, if_neg (by omega)]
    subst hP
    have HC2 : Hid (R = 2) := by unfold Hid; rw [HC.out, if_neg hc]
    clear HC HPR hc
    go_enter Tryz.func64, Tryz.ntmps64
    go_wp2_with fail
    refine (HP _ (HG _)).mono ?_
    rintro e w1 ⟨rfl, hg1⟩
    go_wp2
    go_ret
    exact ⟨by rw [HC2.out]; rfl, (HG _).trans (hg1.below.mono (by simp))⟩

end Go.Proofs.YtndjdeiccmhelaaGreat

/- How long the bytes of a right term are; the contract of the reference's Term. -/
namespace Go.Proofs.YtndjdeiccmhelaaGreat
open Go.RowKit Go.Sort Go.Lib

theorem encTs_len {c : Nat} : ∀ {ks : List Tm}, (∀ k ∈ ks, (encT k).length ≤ sizeT k * c) → (ks.flatMap encT).length ≤ (ks.map sizeT).sum * c
  | [], _ => by simp
  | k :: ks, h => by
    rw [List.flatMap_cons, List.length_append, List.map_cons, List.sum_cons, Nat.add_mul]
    have h1 := h k (by simp)
    have h2 := encTs_len (ks := ks) fun x hx => h x (by simp [hx])
    omega

theorem encT_len (t : Tm) : smT 1000000 t → formedB t = true → (encT t).length ≤ sizeT t * 1300000000 := by
  refine Tm.ind (P := fun t => smT 1000000 t → formedB t = true → (encT t).length ≤ sizeT t * 1300000000) ?_ t
  intro f n hd nm ls ks ih hsm hf
  obtain ⟨h1, h2, h3, h4, h5⟩ := (smT_mk _ _ _ _ _ _ _).1 hsm
  obtain ⟨-, p1, p2, p10, p5⟩ := formed_part hf
  have hk := encTs_len (c := 1300000000) (ks := ks) fun k hk => ih k hk (h5 k hk) (p5 k hk)
  rw [encT_mk, sizeT_mk, List.length_append, List.length_append, Nat.add_mul, Nat.one_mul]
  have hfo := formed_form hf
  have hf9 := numB_9 (n := f.toNat) (by omega)
  have hfl : (fieldB f n hd nm ls).length ≤ 1299999000 := by
    unfold fieldB
    split
    · have := p1 (by assumption)
      have := numB_9 (n := n.toNat) (by omega)
      omega
    · split
      · simp
      · split
        · obtain ⟨q1, q2, q3⟩ := p10 (by assumption)
          have h6 := flat_len (c := 1200) (f := levB) (xs := ls) fun l hl => levB_len (canon_rightL (q3 l hl))
          have h7 := numB_9 (n := nm.size) (by omega)
          have h8 := numB_9 (n := ls.length) (by omega)
          have h9 : nm.data.toList.length = nm.size := rfl
          unfold nameB
          rw [List.length_append, List.length_append, List.length_append]
          omega
        · split
          · obtain ⟨l, rfl, q3⟩ := p2 (by assumption)
            have := levB_len (canon_rightL q3)
            simp
            omega
          · simp
  omega

theorem encT_room {t : Tm} (hsm : smT 1000000 t) (hc : checkT t = 0) : (encT t).length ≤ 26000000000000 := by
  obtain ⟨h1, -, h3⟩ := check_ok hc
  have := encT_len t hsm h3
  omega

end Go.Proofs.YtndjdeiccmhelaaGreat

/- The contracts of term.Free and Has, and of the reference's. -/
namespace Go.Proofs.YtndjdeiccmhelaaGreat
open Go.RowKit Go.Sort

theorem formed_vars (t : Tm) : formedB t = true → varsB t = true := by
  refine Tm.ind (P := fun t => formedB t = true → varsB t = true) ?_ t
  intro f n hd nm ls ks ih h
  have h2 := (formed_len h).2
  rw [varsB_mk, Bool.and_eq_true, List.all_eq_true]
  refine ⟨?_, fun k hk => ih k hk (h2 k hk)⟩
  by_cases hf : f = 1
  · subst hf
    rw [formedB_mk, Bool.and_eq_true] at h
    have h1 := h.1
    unfold judB at h1
    rw [Bool.and_eq_true] at h1
    have h3 := h1.2
    simp [fieldsB] at h3
    simp; omega
  · simp [hf]

theorem freeK_snoc (f deep : Int) (pre : List Tm) (k : Tm) : freeK f deep (pre ++ [k]) = max (freeK f deep pre) (freeR k (deepR f deep pre.length)) := by
  have := freeK_take (f := f) (deep := deep) (ks := pre ++ [k]) (j := pre.length) (k := k) (by simp)
  rw [List.take_of_length_le (by simp), List.take_left'  (by simp)] at this
  exact this

theorem deep_same {f : Int} {ks : List Tm} (hl : (ks.length : Int) = kidsR f) (b : Int) {i : Nat} (hi : i < ks.length) : deepC f b i = deepR f b i := by
  unfold deepC deepR
  by_cases hb : bindsB f = true
  · have h2 : i = 0 ∨ i = 1 := by
      unfold bindsB at hb
      simp at hb
      unfold kidsR at hl
      rw [if_neg (by omega), if_neg (by omega), if_pos (by omega)] at hl
      omega
    rcases h2 with rfl | rfl
    · simp
    · simp
  · simp [hb]

theorem abo_list (f b p : Int) : ∀ (ks pre : List Tm), (∀ (i : Nat) (k : Tm), ks[i]? = some k → deepC f b (pre.length + i) = deepR f b (pre.length + i)) → (∀ k ∈ ks, ∀ (c q : Int), 0 ≤ c → c + heightT k ≤ b + 1 + (ks.map heightT).foldl max 0 → walkF aboV max k () c q = .ok ((), freeR k c)) → 0 ≤ b → walkL aboV max f ks pre.length () (freeK f b pre) b p = .ok ((), freeK f b (pre ++ ks))
  | [], pre, _, _, _ => by rw [walkL]; simp
  | k :: ks, pre, hd, ih, hb => by
    have hm : ((k :: ks).map heightT).foldl max 0 = max (heightT k) ((ks.map heightT).foldl max 0) := by
      simp only [List.map_cons, List.foldl_cons]
      have : ∀ (l : List Nat) (a c : Nat), l.foldl max (max a c) = max a (l.foldl max c) := by
        intro l
        induction l with
        | nil => intro a c; rfl
        | cons x l ihl => intro a c; simp only [List.foldl_cons]; rw [Nat.max_assoc, ihl]
      rw [Nat.max_comm 0, this]
    rw [hm] at ih
    have e0 := hd 0 k (by simp)
    rw [Nat.add_zero] at e0
    have hdc : 0 ≤ deepR f b pre.length ∧ deepR f b pre.length ≤ b + 1 := by unfold deepR; split <;> omega
    rw [walkL, e0, ih k (by simp) _ _ hdc.1 (by omega)]
    simp only []
    rw [← freeK_snoc]
    have := abo_list f b p ks (pre ++ [k]) (fun i k' hk' => by
      have := hd (i + 1) k' (by simpa using hk')
      rw [List.length_append, List.length_singleton, show pre.length + 1 + i = pre.length + (i + 1) by omega]; exact this) (fun k' hk' c q h1 h2 => ih k' (by simp [hk']) c q h1 (by omega)) hb
    rw [List.length_append, List.length_singleton] at this
    rw [this, List.append_assoc]; rfl

theorem abo_walk (t : Tm) : formedB t = true → ∀ (b p : Int), 0 ≤ b → b + heightT t ≤ 1000000 → walkF aboV max t () b p = .ok ((), freeR t b) := by
  refine Tm.ind (P := fun t => formedB t = true → ∀ (b p : Int), 0 ≤ b → b + heightT t ≤ 1000000 → walkF aboV max t () b p = .ok ((), freeR t b)) ?_ t
  intro f n hd nm ls ks ih hf b p hb hh
  obtain ⟨h1, h2⟩ := formed_len hf
  have hv := formed_vars _ hf
  rw [walkF_mk, freeR_mk]
  rw [heightT_mk] at hh
  by_cases h0 : f = 1
  · subst h0
    have hk : ks = [] := List.length_eq_zero_iff.1 (by unfold kidsR at h1; rw [if_pos (by omega)] at h1; omega)
    subst hk
    rw [varsB_mk] at hv
    simp at hv
    have hV : aboV () (.mk 1 n hd nm ls []) b p = .ok ((), if n < b then 0 else n - b + 1) := by
      unfold aboV
      simp only [Tm.form, Tm.n, if_true]
      congr 2
      unfold wrap64
      split <;> omega
    rw [hV, if_pos rfl]
    simp only [walkL]
  · have hV : aboV () (.mk f n hd nm ls ks) b p = .ok ((), 0) := by
      unfold aboV; simp [Tm.form, h0]
    rw [hV, if_neg h0]
    have := abo_list f b p ks [] (fun i k hk => deep_same h1 b (by have := (List.getElem?_eq_some_iff.1 hk).1; simpa using this)) (fun k hk c q hc hl => ih k hk (h2 k hk) c q hc (by omega)) hb
    have e0 : freeK f b [] = 0 := by simp [freeK]
    rw [e0] at this
    simpa using this

mutual
/-- how many constants of that name -/
def hasN (name : ByteArray) : Tm → Nat
  | .mk f _ _ nm _ ks => (if f = 10 ∧ nm.toList = name.toList then 1 else 0) + hasNs name ks
def hasNs (name : ByteArray) : List Tm → Nat
  | [] => 0
  | k :: ks => hasN name k + hasNs name ks
end

theorem hasNs_any (name : ByteArray) : ∀ ks : List Tm, (∀ k ∈ ks, (hasB name k = true ↔ 0 < hasN name k)) → (ks.any (hasB name) = true ↔ 0 < hasNs name ks)
  | [], _ => by simp [hasNs]
  | k :: ks, h => by
    rw [hasNs, List.any_cons, Bool.or_eq_true, h k (by simp), hasNs_any name ks (fun k' hk' => h k' (by simp [hk']))]
    omega

theorem hasN_iff (name : ByteArray) (t : Tm) : hasB name t = true ↔ 0 < hasN name t := by
  refine Tm.ind (P := fun t => hasB name t = true ↔ 0 < hasN name t) ?_ t
  intro f n hd nm ls ks ih
  rw [hasB_mk, hasN, Bool.or_eq_true, hasNs_any name ks ih, Bool.and_eq_true]
  by_cases h : f = 10 ∧ nm.toList = name.toList
  · rw [if_pos h]; simp [h.1, h.2]; omega
  · rw [if_neg h]
    constructor
    · rintro (⟨h1, h2⟩ | h3)
      · exact absurd ⟨by simpa using h1, by simpa using h2⟩ h
      · omega
    · intro h3; exact Or.inr (by omega)

theorem sea_list (name : ByteArray) (f b p : Int) : ∀ (ks : List Tm) (i : Nat) (r : Int), (∀ k ∈ ks, ∀ (b p : Int), hasN name k ≤ sizeT k ∧ (sizeT k ≤ 1000000 → walkF (seaV name) wplus k () b p = .ok ((), (hasN name k : Int)))) → 0 ≤ r → r + (ks.map sizeT).sum ≤ 1000000 → walkL (seaV name) wplus f ks i () r b p = .ok ((), r + hasNs name ks) ∧ hasNs name ks ≤ (ks.map sizeT).sum
  | [], i, r, _, _, _ => by rw [walkL, hasNs]; simp
  | k :: ks, i, r, ih, h0, h1 => by
    have hs : ((k :: ks).map sizeT).sum = sizeT k + (ks.map sizeT).sum := by simp
    rw [hs] at h1 ⊢
    obtain ⟨e1, e2⟩ := ih k (by simp) (deepC f b i) (p + 1)
    rw [walkL, e2 (by omega), hasNs]
    simp only []
    obtain ⟨e3, e4⟩ := sea_list name f b p ks (i + 1) (wplus r (hasN name k)) (fun k' hk' => ih k' (by simp [hk'])) (by rw [wplus_eq] <;> omega) (by rw [wplus_eq] <;> omega)
    rw [e3, wplus_eq (by omega) (by omega)]
    refine ⟨?_, by omega⟩
    congr 2
    omega

theorem sea_walk (name : ByteArray) (t : Tm) : ∀ (b p : Int), hasN name t ≤ sizeT t ∧ (sizeT t ≤ 1000000 → walkF (seaV name) wplus t () b p = .ok ((), (hasN name t : Int))) := by
  refine Tm.ind (P := fun t => ∀ (b p : Int), hasN name t ≤ sizeT t ∧ (sizeT t ≤ 1000000 → walkF (seaV name) wplus t () b p = .ok ((), (hasN name t : Int)))) ?_ t
  intro f n hd nm ls ks ih b p
  rw [walkF_mk, sizeT_mk, hasN]
  have hle : hasNs name ks ≤ (ks.map sizeT).sum := by
    clear hd n ls nm
    induction ks with
    | nil => simp [hasNs]
    | cons k ks ihk =>
      rw [hasNs]
      have h1 := (ih k (by simp) 0 0).1
      have h2 := ihk (fun k' hk' => ih k' (by simp [hk']))
      simp only [List.map_cons, List.sum_cons]
      omega
  refine ⟨by split <;> omega, fun hz => ?_⟩
  have hV : seaV name () (.mk f n hd nm ls ks) b p = .ok ((), if f = 10 ∧ nm.toList = name.toList then 1 else 0) := rfl
  rw [hV]
  simp only []
  rw [(sea_list name f b p ks 0 _ ih (by split <;> omega) (by split <;> omega)).1]
  congr 2
  split <;> omega

/-- what Free answers -/
def tfreeR (t : Tm) : Int := if checkT t = 0 then freeR t 0 else 0
/-- what Has answers -/
def thasB (t : Tm) (name : ByteArray) : Bool := decide (checkT t = 0) && hasB name t

set_option maxRecDepth 100000 in
set_option maxHeartbeats 2000000 in
theorem Free_any (t : Tm) (v : Value) (w : World) (hv : TV w v t) (hsm : smT 1000000 t) : Calls Tryz.prog 110 #[v] w fun e w' => e = .returned (.int .i64 (tfreeR t)) ∧ RowKit.Below w.heap.size w w' := by
  have HR : Hid (tfreeR t = if checkT t = 0 then freeR t 0 else 0) := rfl
  have HCH := Check_any t v (w.alloc (.cells (v.cells) 38)) (hv.on ((Below.refl _ _).alloc (Nat.le_refl _) _)) hsm
  have HW := fun (hc : checkT t = 0) (W : World) (hB : RowKit.Below w.heap.size w W) => walkI_any (w0 := w) (bs := #[]) (fun _ _ _ _ _ _ _ _ _ => trivial) (fun k hk => hk.elim) (fun s w' k hI hk => hk.elim) (fun s a b h _ => trivial) cf_above cf_greater (above_visits w) greater_any t () v 0 0 W trivial trivial hv hB (by omega) (by omega) (by omega) (Or.inr (by have := (check_ok hc).2.1; omega))
  have HE := fun (hc : checkT t = 0) => abo_walk t (check_ok hc).2.2 0 0 (by omega) (by have := (check_ok hc).2.1; omega)
  generalize tfreeR t = R at HR ⊢
  obtain ⟨la, lc, ka, kc, rfl⟩ := hv.shape
  clear hv hsm
  simp only [Value.cells] at HCH
  generalize checkT t = C at *
  generalize freeR t 0 = F at *
  generalize walkF aboV max t () 0 0 = V at *
  generalize t.form = f at *
  generalize t.n = n at *
  generalize t.hid = hd at *
  generalize t.name = nm at *
  generalize t.levels.length = l1 at *
  generalize t.kids.length = k1 at *
  by_cases hc : C = 0
  · subst hc
    have HW2 := HW rfl
    rw [HE rfl] at HW2
    have HR2 : Hid (R = F) := by unfold Hid; rw [HR.out, if_pos rfl]
    clear HR HW HE
    go_enter Tryz.func110, Tryz.ntmps110
    go_wp2_with fail
    refine HCH.mono ?_
    rintro e w1 ⟨rfl, hb1⟩
    have HB1 : Hid (RowKit.Below w.heap.size w w1) := ((Below.refl w.heap.size w).alloc (Nat.le_refl _) _).trans (hb1.mono (by simp))
    obtain ⟨x0, x1, x2, x3, x4, x5, x6⟩ := cells6 ((hb1.block w.heap.size (by simp)).trans (alloc_new _ _))
    clear HCH hb1
    go_wp2_with fail
    refine (HW2 w1 HB1.out).mono ?_
    rintro e w2 ⟨hk2, rfl, -⟩
    go_wp2
    go_ret
    exact ⟨by rw [HR2.out]; rfl, HB1.out.trans (hk2.below HB1.out.size (fun k hk => hk.elim))⟩
  · have hcb : (C != 0) = true := by simpa using hc
    have HR2 : Hid (R = 0) := by unfold Hid; rw [HR.out, if_neg hc]
    clear hc HR HW HE
    go_enter Tryz.func110, Tryz.ntmps110
    go_wp2_with fail
    refine HCH.mono ?_
    rintro e w1 ⟨rfl, hb1⟩
    go_wp2
    go_ret
    exact ⟨by rw [HR2.out]; rfl, ((Below.refl w.heap.size w).alloc (Nat.le_refl _) _).trans (hb1.mono (by simp))⟩

end Go.Proofs.YtndjdeiccmhelaaGreat
