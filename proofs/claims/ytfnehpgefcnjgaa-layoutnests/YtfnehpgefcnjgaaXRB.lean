/- An executor for closed calls, 27: the script that is made is a plan. -/
import Derived.Test.YtfnehpgefcnjgaaXZ
import Derived.Test.YtfnehpgefcnjgaaXU
namespace Go.Proofs.Ytfnehpgefcnjgaa.X
open Go.RowKit

theorem inP_false {p : Pt} : ∀ {l : List Pt}, inP p l = false → p ∉ l
  | [], _ => by simp
  | q :: l, h => by
    simp only [inP, Bool.or_eq_false_iff] at h
    simp only [List.mem_cons, not_or]
    exact ⟨fun e => (by rw [e, eqP_refl] at h; cases h.1), inP_false h.2⟩

theorem inD_false {d : Option Pt} {l : List Pt} (h : inD d l = false) : ∀ p, d = some p → p ∉ l := fun p hp => by
  subst hp; exact inP_false h

theorem sameD_false {d d' : Option Pt} (h : sameD d d' = false) : ∀ p, d = some p → d' ≠ some p := fun p hp hp' => by
  subst hp; subst hp'
  simp only [sameD, eqP_refl] at h; cases h

theorem hasI_true {i : Nat} : ∀ {l : List It}, hasI i l = true → ∃ y ∈ l, y.i = i
  | [], h => by cases h
  | y :: l, h => by
    simp only [hasI, Bool.or_eq_true] at h
    rcases h with h | h
    · exact ⟨y, List.mem_cons_self .., Nat.eq_of_beq_eq_true h⟩
    · obtain ⟨z, hz, e⟩ := hasI_true h
      exact ⟨z, List.mem_cons_of_mem _ hz, e⟩

theorem mask1_true {acc : List Nat} {j : Nat} : ∀ {l : List Edge}, (mask1 acc l).testBit j = true → ∃ e ∈ l, Region.binds .any e = true ∧ (e.on = j ∨ (acc.getD e.on 0).testBit j = true)
  | [], h => by simp [mask1] at h
  | e :: l, h => by
    unfold mask1 at h
    cases hb : Region.binds .any e with
    | false =>
      rw [hb] at h
      obtain ⟨e', he, h'⟩ := mask1_true h
      exact ⟨e', List.mem_cons_of_mem _ he, h'⟩
    | true =>
      rw [hb] at h
      have h : ((2 ^ e.on ||| acc.getD e.on 0) ||| mask1 acc l).testBit j = true := h
      rw [Nat.testBit_or, Nat.testBit_or, Nat.testBit_two_pow] at h
      simp only [Bool.or_eq_true, decide_eq_true_eq] at h
      rcases h with (h | h) | h
      · exact ⟨e, List.mem_cons_self .., hb, .inl h⟩
      · exact ⟨e, List.mem_cons_self .., hb, .inr h⟩
      · obtain ⟨e', he, h'⟩ := mask1_true h
        exact ⟨e', List.mem_cons_of_mem _ he, h'⟩

theorem masks_anc {ops : Array Oper} : ∀ (l s : List Oper) (acc : List Nat), ops.toList = s ++ l → acc.length = s.length → (∀ i j, MB acc i j = true → Anc ops i j) → ∀ i j, MB (masks l acc) i j = true → Anc ops i j
  | [], _, _, _, _, h => h
  | o :: l, s, acc, hl, hs, h => by
    refine masks_anc l (s ++ [o]) _ (by rw [hl]; simp) (by simp [hs]) fun i j hm => ?_
    unfold MB at hm
    rcases Nat.lt_trichotomy i acc.length with hi | hi | hi
    · refine h i j ?_
      unfold MB
      rw [List.getD_eq_getElem?_getD, List.getElem?_append_left hi] at hm
      rw [List.getD_eq_getElem?_getD]; exact hm
    · have : (acc ++ [mask1 acc o.after.toList]).getD i 0 = mask1 acc o.after.toList := by rw [hi, List.getD_eq_getElem?_getD]; simp
      rw [this] at hm
      obtain ⟨e, he, hb, h1⟩ := mask1_true hm
      have ho : ops[i]? = some o := by
        rw [← Array.getElem?_toList, hl, hi, hs]; simp
      rcases h1 with h1 | h1
      · refine ⟨1, ?_⟩
        unfold anc
        rw [ho]
        simp only [List.any_eq_true, Bool.and_eq_true, Bool.or_eq_true]
        exact ⟨e, he, hb, .inl (by rw [h1]; exact Nat.beq_refl j)⟩
      · obtain ⟨f, hf⟩ := h e.on j h1
        refine ⟨f + 1, ?_⟩
        unfold anc
        rw [ho]
        simp only [List.any_eq_true, Bool.and_eq_true, Bool.or_eq_true]
        exact ⟨e, he, hb, .inr hf⟩
    · rw [List.getD_eq_getElem?_getD, List.getElem?_eq_none (by simp; omega)] at hm
      simp at hm

theorem mapO_get {α β : Type} {f : α → Option β} : ∀ {l : List α} {r : List β}, mapO f l = some r → ∀ {j : Nat} {y : β}, r[j]? = some y → ∃ x, l[j]? = some x ∧ f x = some y
  | [], r, h, j, y, hj => by cases h; simp at hj
  | x :: l, r, h, j, y, hj => by
    obtain ⟨z, ys, h1, h2, rfl⟩ := mapO_cons h
    cases j with
    | zero => simp only [List.getElem?_cons_zero] at hj; cases hj; exact ⟨x, rfl, h1⟩
    | succ j => exact mapO_get h2 (by simpa using hj)

theorem mkAll_split {ms : List Nat} {xs : List AOper} : ∀ {js : List Nat} {pre l : List It}, mkAll ms xs js pre = some l → ∃ t, l = pre ++ t ∧ ∀ s it u, t = s ++ it :: u → ∃ j, mkIt ms xs (pre ++ s) j = some it
  | [], pre, l, h => by
    cases h
    exact ⟨[], by simp, fun s it u e => by cases s <;> cases e⟩
  | j :: js, pre, l, h => by
    unfold mkAll at h
    split at h
    · rename_i it hit
      obtain ⟨t, h1, h2⟩ := mkAll_split h
      refine ⟨it :: t, by rw [h1]; simp, fun s x u e => ?_⟩
      cases s with
      | nil => cases e; exact ⟨j, by simpa using hit⟩
      | cons z s =>
        cases e
        obtain ⟨j', h3⟩ := h2 s x u rfl
        exact ⟨j', by simpa using h3⟩
    · cases h

theorem splits_of {f : List It → It → List It → Bool} : ∀ {l pre : List It}, splitsB f pre l = true → ∀ s x t, l = s ++ x :: t → f (pre ++ s) x t = true
  | [], pre, _, s, x, t, e => by cases s <;> cases e
  | y :: l, pre, h, s, x, t, e => by
    simp only [splitsB, Bool.and_eq_true] at h
    cases s with
    | nil => cases e; simpa using h.1
    | cons z s =>
      cases e
      have := splits_of h.2 s x t rfl
      simpa using this

theorem coverB_true {l : List It} : ∀ {n : Nat}, coverB l n = true → ∀ i, i < n → ∃ y ∈ l, y.i = i
  | 0, _, i, hi => by omega
  | n + 1, h, i, hi => by
    simp only [coverB, Bool.and_eq_true] at h
    by_cases e : i = n
    · subst e; exact hasI_true h.1
    · exact coverB_true h.2 i (by omega)

theorem mem_rcOf {ms : List Nat} {i : Nat} {pre : List It} {q : Pt × AOper} (h : q ∈ rcOf ms i pre) : quietX q.2 = true := by
  unfold rcOf at h
  obtain ⟨it, -, h⟩ := List.mem_filterMap.1 h
  split at h
  · split at h
    · rename_i hb
      cases h
      simp only [Bool.and_eq_true] at hb
      exact hb.1.2
    · cases h
  · cases h

theorem rcOf_mem {ms : List Nat} {i : Nat} {pre : List It} {j : Nat} {p : Pt} {y : AOper} (h : It.n j p y ∈ pre) (hh : heapX y = true) (hq : quietX y = true) (hm : MB ms i j = false) : (p, y) ∈ rcOf ms i pre := by
  unfold rcOf
  refine List.mem_filterMap.2 ⟨_, h, ?_⟩
  simp [hh, hq, hm]

theorem mem_abOf {ms : List Nat} {i j : Nat} {pre : List It} (h : j ∈ abOf ms i pre) : MB ms i j = true := by
  unfold abOf at h
  obtain ⟨it, -, h⟩ := List.mem_filterMap.1 h
  split at h
  · split at h
    · rename_i hb; cases h; exact hb
    · cases h
  · cases h

/-- what is made at a place -/
theorem mkIt_spec {ms : List Nat} {xs : List AOper} {pre : List It} {j : Nat} {it : It} (h : mkIt ms xs pre j = some it) : ∃ x, xs[j]? = some x ∧ it.i = j ∧
    ((it = .e j (abOf ms j pre) (rcOf ms j pre) x) ∨ (∃ p, it = .n j p x ∧ x.dst = some p ∧ quietX x = true) ∨ ∃ p op, it = .a j p op ∧ x = ⟨some p, .v op, none⟩) := by
  unfold mkIt at h
  split at h
  · cases h
  · rename_i x hx
    refine ⟨x, hx, ?_⟩
    split at h
    · cases h; exact ⟨rfl, .inl rfl⟩
    · split at h
      · rename_i p op g _
        split at h
        · rename_i hq _
          cases h
          exact ⟨rfl, .inr (.inl ⟨p, rfl, rfl, hq⟩)⟩
        · cases h; exact ⟨rfl, .inr (.inr ⟨p, op, rfl, rfl⟩)⟩
        · cases h
      · cases h

theorem plan_ok {P : Program} {m : Nat} {ops : Array Oper} {l : List It} (h : plan P m ops = some l) : Plan P m ops l := by
  unfold plan at h
  split at h
  · cases h
  · rename_i xs hxs
    split at h
    · cases h
    · rename_i l' hl
      split at h
      · rename_i hb
        cases h
        simp only [Bool.and_eq_true] at hb
        obtain ⟨⟨hb1, hb2⟩, hb3⟩ := hb
        have hM : ∀ i j, MB (masks ops.toList []) i j = true → Anc ops i j := masks_anc ops.toList [] [] rfl rfl fun i j hm => by simp [MB] at hm
        obtain ⟨t, et, hmk⟩ := mkAll_split hl
        have et : l = t := by simpa using et
        subst et
        have hS := splits_of hb1
        have hS : ∀ s x t, l = s ++ x :: t → planB ops (masks ops.toList []) s x t = true := fun s x t e => by simpa using hS s x t e
        have hmk : ∀ s it u, l = s ++ it :: u → ∃ j, mkIt (masks ops.toList []) xs s j = some it := fun s it u e => by simpa using hmk s it u e
        have hitem : ∀ it ∈ l, ItOk P m ops it := fun it hit => by
          obtain ⟨s, u, e⟩ := List.append_of_mem hit
          obtain ⟨j, hj⟩ := hmk s it u e
          obtain ⟨x, hx, -, h1⟩ := mkIt_spec hj
          obtain ⟨o, ho, hc⟩ := mapO_get hxs hx
          rw [Array.getElem?_toList] at ho
          rcases h1 with rfl | ⟨p, rfl, hd, hq⟩ | ⟨p, op, rfl, rfl⟩
          · exact ⟨o, ho, hc, fun q hq => mem_rcOf hq⟩
          · exact ⟨o, ho, hc, hd, hq⟩
          · exact ⟨o, ho, hc⟩
        generalize hms : masks ops.toList [] = ms at *
        have hB : ∀ s x u, l = s ++ x :: u → (∃ o, ops[x.i]? = some o ∧ ∀ e ∈ o.after, Region.binds .any e = true → ∃ y ∈ s, y.i = e.on) ∧ (x.isE = true → ∀ y ∈ u, Anc ops y.i x.i) ∧ (∀ y ∈ u, (∀ p, x.dst = some p → y.dst ≠ some p) ∧ x.i ≠ y.i) ∧ (x.isE = false → ∀ p, x.dst = some p → p ∉ x.rd) ∧
            (∀ y ∈ s, y.isE = false → ∀ p, y.dst = some p → p ∈ x.rd → Anc ops x.i y.i) ∧ (∀ y ∈ u, y.isE = false → ∀ p, y.dst = some p → p ∉ x.rd) ∧ (x.isE = true → ∀ y ∈ s, y.isE = false → ∀ p, x.dst = some p → p ∈ y.rd → Anc ops x.i y.i) := fun s x u e => by
          have hp := hS s x u e
          unfold planB at hp
          simp only [Bool.and_eq_true] at hp
          obtain ⟨⟨⟨⟨⟨⟨p1, p2⟩, p3⟩, p4⟩, p5⟩, p6⟩, p7⟩ := hp
          refine ⟨?_, fun hE y hy => ?_, fun y hy => ?_, fun hE => ?_, fun y hy hE p hd hr => ?_, fun y hy hE => ?_, fun hE y hy hE' p hd hr => ?_⟩
          · split at p1
            · rename_i o ho
              refine ⟨o, ho, fun d hd hb => ?_⟩
              have := List.all_eq_true.1 p1 d (Array.mem_toList_iff.2 hd)
              rw [hb] at this
              exact hasI_true (by simpa using this)
            · cases p1
          · rw [hE] at p2
            exact hM _ _ (List.all_eq_true.1 (by simpa using p2) y hy)
          · have := List.all_eq_true.1 p3 y hy
            simp only [Bool.and_eq_true, Bool.not_eq_true'] at this
            exact ⟨sameD_false this.1, fun e => by rw [e, Nat.beq_refl] at this; cases this.2⟩
          · rw [hE] at p4
            exact inD_false (by simpa using p4)
          · have := List.all_eq_true.1 p5 y hy
            rw [hE] at this
            simp only [Bool.false_or, Bool.or_eq_true, Bool.not_eq_true'] at this
            rcases this with h1 | h1
            · exact absurd hr (inD_false h1 p hd)
            · exact hM _ _ h1
          · have := List.all_eq_true.1 p6 y hy
            rw [hE] at this
            exact inD_false (by simpa using this)
          · rw [hE] at p7
            have := List.all_eq_true.1 (show (s.all fun y => y.isE || !inD x.dst y.rd || MB ms x.i y.i) = true by simpa using p7) y hy
            rw [hE'] at this
            simp only [Bool.false_or, Bool.or_eq_true, Bool.not_eq_true'] at this
            rcases this with h1 | h1
            · exact absurd hr (inD_false h1 p hd)
            · exact hM _ _ h1
        have hnd : ∀ (k : List It) (s : List It), l = s ++ k → (k.map It.i).Nodup := fun k => by
          induction k with
          | nil => intro s _; simp
          | cons x k ih =>
            intro s e
            simp only [List.map_cons, List.nodup_cons, List.mem_map, not_exists, not_and]
            exact ⟨fun y hy e' => ((hB s x k e).2.2.1 y hy).2 e'.symm, ih (s ++ [x]) (by rw [e]; simp)⟩
        have hpos : ∀ x ∈ l, ∀ y ∈ l, x.i ≠ y.i → ∃ s u, l = s ++ x :: u ∧ (y ∈ s ∨ y ∈ u) := fun x hx y hy hne => by
          obtain ⟨s, u, e⟩ := List.append_of_mem hx
          refine ⟨s, u, e, ?_⟩
          rw [e] at hy
          rcases List.mem_append.1 hy with h1 | h1
          · exact .inl h1
          · rcases List.mem_cons.1 h1 with rfl | h1
            · exact absurd rfl hne
            · exact .inr h1
        refine ⟨hitem, Nat.eq_of_beq_eq_true hb2, hnd l [] rfl, fun i hi => coverB_true hb3 i hi, ?_, fun s x u e hE => (hB s x u e).2.1 hE, ?_, ?_, ?_, fun s x u e y hy hE p hd => (hB s x u e).2.2.2.2.2.1 y hy hE p hd, fun s x u e hE y hy hE' p hd hr => (hB s x u e).2.2.2.2.2.2 hE y hy hE' p hd hr, ?_, ?_⟩
        · intro s x u e o ho d hd hb
          obtain ⟨o', ho', h1⟩ := (hB s x u e).1
          rw [ho] at ho'; cases ho'
          exact h1 d hd hb
        · intro x hx y hy hne p hd
          obtain ⟨s, u, e, h1 | h1⟩ := hpos x hx y hy hne
          · obtain ⟨s1, s2, rfl⟩ := List.append_of_mem h1
            exact fun hd' => ((hB s1 y (s2 ++ x :: u) (by rw [e]; simp)).2.2.1 x (by simp)).1 p hd' hd
          · exact ((hB s x u e).2.2.1 y h1).1 p hd
        · intro x hx hE p hd
          obtain ⟨s, u, e⟩ := List.append_of_mem hx
          exact (hB s x u e).2.2.2.1 hE p hd
        · intro x hx y hy hne hE p hd hr
          obtain ⟨s, u, e, h1 | h1⟩ := hpos x hx y hy hne
          · exact (hB s x u e).2.2.2.2.1 y h1 hE p hd hr
          · exact absurd hr ((hB s x u e).2.2.2.2.2.1 y h1 hE p hd)
        · intro i ab rc x hx j hj
          obtain ⟨s, u, e⟩ := List.append_of_mem hx
          obtain ⟨j', hj'⟩ := hmk s _ u e
          obtain ⟨x', -, e1, h1⟩ := mkIt_spec hj'
          rcases h1 with h1 | ⟨p, h1, -⟩ | ⟨p, op, h1, -⟩
          · cases h1; exact hM _ _ (mem_abOf hj)
          · cases h1
          · cases h1
        · intro s i ab rc x u e j p y hy hh
          obtain ⟨j', hj'⟩ := hmk s _ u e
          obtain ⟨x', -, e1, h1⟩ := mkIt_spec hj'
          rcases h1 with h1 | ⟨p, h1, -⟩ | ⟨p, op, h1, -⟩
          · cases h1
            obtain ⟨_, _, _, _, hq⟩ := hitem _ (show It.n j p y ∈ l by rw [e]; exact List.mem_append.2 (.inl hy))
            cases hm : MB ms i j with
            | true => exact .inl (hM _ _ hm)
            | false => exact .inr (rcOf_mem hy hh hq hm)
          · cases h1
          · cases h1
      · cases h

end Go.Proofs.Ytfnehpgefcnjgaa.X

/- An executor for closed calls, 30: a drawn region whose last three operations are a look and two writes that do not wait for one another. -/
namespace Go.Proofs.Ytfnehpgefcnjgaa.X
open Go.RowKit

section
variable {P : Program} {w0 : World} {ops : Array Oper} {n0 : Nat} {F : Fence} {n : Nat}

/-- all operations but the last three do not look at these; these wait for all of them -/
structure TailOk (ops : Array Oper) (n0 : Nat) : Prop where
  size : ops.size = n0 + 3
  pre : ∀ i o, i < n0 → ops[i]? = some o → (∀ e ∈ o.after, Region.binds .any e = true → e.on < i) ∧ ∀ j b, o.guard = some (j, b) → j < n0
  all : ∀ i o, n0 ≤ i → ops[i]? = some o → ∀ j, j < n0 → ∃ e ∈ o.after, Region.binds .any e = true ∧ e.on = j
  q : ∀ o, ops[n0]? = some o → ∀ e ∈ o.after, Region.binds .any e = true → e.on < n0
  s1 : ∀ o, ops[n0 + 1]? = some o → (∀ e ∈ o.after, Region.binds .any e = true → e.on < n0 + 1) ∧ ∃ e ∈ o.after, Region.binds .any e = true ∧ e.on = n0
  s2 : ∀ o, ops[n0 + 2]? = some o → ∀ e ∈ o.after, Region.binds .any e = true → e.on < n0

theorem preB_spec {n0 : Nat} : ∀ {l : List Oper} {k : Nat}, preB n0 l k = true → ∀ i o, l[i]? = some o → (∀ e ∈ o.after, Region.binds .any e = true → e.on < k + i) ∧ ∀ j b, o.guard = some (j, b) → j < n0
  | [], _, _, i, o, h => by simp at h
  | x :: l, k, h, i, o, ho => by
    simp only [preB, Bool.and_eq_true] at h
    obtain ⟨⟨h1, h2⟩, h3⟩ := h
    cases i with
    | zero =>
      simp only [List.getElem?_cons_zero, Option.some.injEq] at ho
      subst ho
      refine ⟨fun e he hb => ?_, fun j b hg => ?_⟩
      · have := List.all_eq_true.1 h1 e (by simpa using he)
        simp only [hb, Bool.not_true, Bool.false_or] at this
        simpa using this
      · rw [hg] at h2
        simpa using h2
    | succ i =>
      have := preB_spec h3 i o (by simpa using ho)
      exact ⟨fun e he hb => by have := this.1 e he hb; omega, this.2⟩

theorem allB_spec {o : Oper} : ∀ {n : Nat}, allB n o = true → ∀ j, j < n → ∃ e ∈ o.after, Region.binds .any e = true ∧ e.on = j
  | 0, _, j, hj => by omega
  | n + 1, h, j, hj => by
    have h : ((o.after.toList.any fun e => Region.binds .any e && Nat.beq e.on n) && allB n o) = true := h
    simp only [Bool.and_eq_true] at h
    rcases Nat.lt_succ_iff_lt_or_eq.1 hj with h1 | rfl
    · exact allB_spec h.2 j h1
    · obtain ⟨e, he, hb⟩ := List.any_eq_true.1 h.1
      simp only [Bool.and_eq_true] at hb
      exact ⟨e, by simpa using he, hb.1, Nat.eq_of_beq_eq_true hb.2⟩

theorem ltB_spec {o : Oper} {n : Nat} (h : ltB n o = true) : ∀ e ∈ o.after, Region.binds .any e = true → e.on < n := fun e he hb => by
  have := List.all_eq_true.1 h e (by simpa using he)
  simp only [hb, Bool.not_true, Bool.false_or] at this
  simpa using this

theorem hitB_spec {o : Oper} {n : Nat} (h : hitB n o = true) : ∃ e ∈ o.after, Region.binds .any e = true ∧ e.on = n := by
  obtain ⟨e, he, hb⟩ := List.any_eq_true.1 h
  simp only [Bool.and_eq_true] at hb
  exact ⟨e, by simpa using he, hb.1, Nat.eq_of_beq_eq_true hb.2⟩

theorem tailB_spec (h : tailB ops n0 = true) : TailOk ops n0 := by
  simp only [tailB, Bool.and_eq_true] at h
  obtain ⟨⟨h1, h2⟩, h3⟩ := h
  have h1 := Nat.eq_of_beq_eq_true h1
  split at h3
  · rename_i q s1 s2 e1 e2 e3
    simp only [Bool.and_eq_true] at h3
    obtain ⟨⟨⟨⟨⟨⟨g1, g2⟩, g3⟩, g4⟩, g5⟩, g6⟩, g7⟩ := h3
    refine ⟨h1, fun i o hi ho => ?_, fun i o hi ho j hj => ?_, fun o ho => ?_, fun o ho => ?_, fun o ho => ?_⟩
    · have := preB_spec h2 i o (by rw [List.getElem?_take_of_lt hi]; simpa using ho)
      simpa using this
    · have hlt : i < ops.size := (Array.getElem?_eq_some_iff.1 ho).1
      have : i = n0 ∨ i = n0 + 1 ∨ i = n0 + 2 := by omega
      rcases this with rfl | rfl | rfl
      · rw [e1] at ho; cases ho; exact allB_spec g1 j hj
      · rw [e2] at ho; cases ho; exact allB_spec g2 j hj
      · rw [e3] at ho; cases ho; exact allB_spec g3 j hj
    · rw [e1] at ho; cases ho; exact ltB_spec g4
    · rw [e2] at ho; cases ho; exact ⟨ltB_spec g5, hitB_spec g6⟩
    · rw [e3] at ho; cases ho; exact ltB_spec g7
  · cases h3

def Qx (X : Act → World → Prop) (Q : Exit → Act → World → Prop) : Exit → Act → World → Prop
  | .normal, a, w => X a w
  | e, a, w => Q e a w

theorem least {p : Nat → Prop} : ∀ n, p n → ∃ i, p i ∧ ∀ j, j < i → ¬ p j := by
  intro n
  induction n using Nat.strongRecOn with
  | ind n ih =>
    intro h
    by_cases hj : ∃ j, j < n ∧ p j
    · obtain ⟨j, h1, h2⟩ := hj; exact ih j h1 h2
    · exact ⟨n, h, fun j h1 h2 => hj ⟨j, h1, h2⟩⟩

theorem ops1_get {i : Nat} (hi : i < n0) : (ops1 ops n0)[i]? = ops[i]? := by
  simp [ops1, List.getElem?_take_of_lt hi]

theorem ops1_size (h : n0 ≤ ops.size) : (ops1 ops n0).size = n0 := by simp [ops1]; omega

theorem wpIn_turn {o : Oper} {a : Act} {w : World} {K K' : Act → World → Prop} {X : Act → World → Prop} {Q : Exit → Act → World → Prop} (hK : ∀ a w, K a w → K' a w) (h : o.wpIn F n P a w K (Qx X Q)) : o.wpIn F n P a w K' Q := by
  obtain ⟨h1, h2⟩ := h
  refine ⟨h1, ?_⟩
  generalize (o.semAt F.round a.eval).run P w = res at *
  cases res with
  | ok x w' =>
    cases x with
    | value v => exact hK _ _ h2
    | skip => exact hK _ _ h2
    | defer d => exact hK _ _ h2
    | enter f args => exact ⟨h2.1, h2.2.mono fun e w'' he => by cases e <;> first | exact hK _ _ he | exact he⟩
    | row x args => exact ⟨h2.1, h2.2.mono fun v w'' he => hK _ _ he⟩
    | round l f t x y => exact ⟨h2.1, h2.2.mono fun e w'' he => by cases e <;> first | exact hK _ _ he | exact he⟩
    | _ => exact h2
  | halt x w' => cases x <;> exact h2

theorem wpOp_turn (T : TailOk ops n0) {i : Nat} (hi : i < n0) {a : Act} {w : World} {K K' : Act → World → Prop} {X : Act → World → Prop} {Q : Exit → Act → World → Prop} (hK : ∀ a w, K a w → K' a w) (h : wpOpIn F n P (ops1 ops n0) (Qx X Q) i K a w) : wpOpIn F n P ops Q i K' a w := by
  unfold wpOpIn at h ⊢
  rw [ops1_get hi] at h
  cases ho : ops[i]? with
  | none => rw [ho] at h; exact hK _ _ h
  | some o =>
    rw [ho] at h
    simp only at h ⊢
    have hw : Region.wanted o (yielded (ops1 ops n0) a.tmps) = Region.wanted o (yielded ops a.tmps) := by
      unfold Region.wanted
      cases hg : o.guard with
      | none => rfl
      | some jb =>
        obtain ⟨j, b⟩ := jb
        have hj := (T.pre i o hi ho).2 j b hg
        simp only [yielded, ops1_get hj]
    rw [hw] at h
    split
    · rename_i hh; rw [if_pos hh] at h; exact wpIn_turn hK h
    · rename_i hh; rw [if_neg hh] at h; exact ⟨h.1, hK _ _ h.2⟩

theorem getD_app {l1 l2 : Array Bool} {i : Nat} {d : Bool} : (l1 ++ l2).getD i d = if i < l1.size then l1.getD i d else l2.getD (i - l1.size) d := by
  simp only [Array.getD_eq_getD_getElem?, Array.getElem?_append]
  split <;> rfl

theorem any_split (T : TailOk ops n0) {Q : Exit → Act → World → Prop} : ∀ (fuel : Nat) (l1 : Array Bool) (a : Act) (w : World), l1.size = n0 → fuel = (l1.toList.filter (!·)).length →
    wpAnyIn F n P .any (ops1 ops n0) (Qx (wpAnyIn F n P .any ops Q 3 (Array.replicate n0 true ++ #[false, false, false])) Q) fuel l1 a w → wpAnyIn F n P .any ops Q (fuel + 3) (l1 ++ #[false, false, false]) a w
  | 0, l1, a, w, hs, hf, h => by
    have hall : ∀ b ∈ l1.toList, b = true := fun b hb => by
      cases b with
      | true => rfl
      | false =>
        have : false ∈ l1.toList.filter (!·) := List.mem_filter.2 ⟨hb, rfl⟩
        rw [List.length_eq_zero_iff.1 hf.symm] at this
        cases this
    have : l1 = Array.replicate n0 true := by
      apply Array.ext'
      rw [List.eq_replicate_of_mem hall]
      simp [hs]
    rw [this, Nat.zero_add]
    exact h.2
  | fuel + 1, l1, a, w, hs, hf, h => by
    rw [show fuel + 1 + 3 = (fuel + 3) + 1 by omega]
    obtain ⟨b, hb⟩ : ∃ i, i < n0 ∧ l1.getD i true = false := by
      have : 0 < (l1.toList.filter (!·)).length := by omega
      obtain ⟨x, hx⟩ := List.exists_mem_of_length_pos this
      obtain ⟨hx, hn⟩ := List.mem_filter.1 hx
      have hx : x = false := by simpa using hn
      subst hx
      obtain ⟨i, hi, e⟩ := List.mem_iff_getElem.1 (List.mem_filter.1 (by assumption)).1
      exact ⟨i, by simpa [hs] using hi, by simp at hi; simp [hi]; simpa using e⟩
    obtain ⟨b, ⟨hb1, hb2⟩, hmin⟩ := least (p := fun i => i < n0 ∧ l1.getD i true = false) b hb
    have hsz := T.size
    have hbo : b < ops.size := by omega
    have hfull : ∀ j, j < b → l1.getD j false = true := fun j hj => getD_or (by omega) fun e => hmin j hj ⟨by omega, e⟩
    have hrb : b ∈ Region.ready .any ops (l1 ++ #[false, false, false]) := by
      refine mem_ready.2 ⟨by rw [getD_app, if_pos (by omega)]; exact hb2, ops[b], by simp [hbo], fun e he hbd => ?_⟩
      have := (T.pre b ops[b] hb1 (by simp [hbo])).1 e he hbd
      rw [getD_app, if_pos (by omega)]
      exact hfull _ this
    refine ⟨fun e => (by rw [e] at hrb; cases hrb), fun i hi => ?_⟩
    obtain ⟨h1, o, ho, hall⟩ := mem_ready.1 hi
    have hin : i < n0 := by
      rcases Nat.lt_or_ge i n0 with h2 | h2
      · exact h2
      · exfalso
        obtain ⟨e, he, hbd, hon⟩ := T.all i o h2 ho b hb1
        have := hall e he hbd
        rw [hon, getD_app, if_pos (by omega)] at this
        exact getD_ne hb2 this
    rw [getD_app, if_pos (by omega)] at h1
    have hr1 : i ∈ Region.ready .any (ops1 ops n0) l1 := by
      refine mem_ready.2 ⟨h1, o, by rw [ops1_get hin]; exact ho, fun e he hbd => ?_⟩
      have := hall e he hbd
      have hlt := (T.pre i o hin ho).1 e he hbd
      rw [getD_app, if_pos (by omega)] at this
      exact this
    refine wpOp_turn T hin (fun a' w' hk => ?_) (h.2 i hr1)
    have hset : (l1 ++ #[false, false, false]).setIfInBounds i true = l1.setIfInBounds i true ++ #[false, false, false] := by
      apply Array.ext'
      simp [hs, hin]
    rw [hset]
    refine any_split T fuel (l1.setIfInBounds i true) a' w' (by simpa using hs) ?_ hk
    have hil : i < l1.size := by omega
    have hx : l1.toList[i]? = some false := by
      simp [hil] at h1 ⊢; exact h1
    have key : ∀ (l : List Bool) (i : Nat), l[i]? = some false → (l.filter (!·)).length = ((l.set i true).filter (!·)).length + 1 := by
      intro l
      induction l with
      | nil => intro i h; simp at h
      | cons x l ih =>
        intro i h
        cases i with
        | zero => simp at h; subst h; simp
        | succ i => simp only [List.getElem?_cons_succ] at h; have := ih i h; cases x <;> simp [this]
    have := key _ _ hx
    simp only [Array.toList_setIfInBounds]
    omega

end
end Go.Proofs.Ytfnehpgefcnjgaa.X

/- An executor for closed calls, 31: the look and the two writes at the end of a drawn region. -/
namespace Go.Proofs.Ytfnehpgefcnjgaa.X
open Go.RowKit

section
variable {P : Program} {w0 : World} {F : FR} {ch : CH} {ops : Array Oper} {n0 : Nat} {tm : T AV} {h : T AO} {nx : Pt} {r : Rho} {a : Act} {w : World}

def vaX (tm : T AV) (x : AX) (v : AV) : Prop := evK tm x fun u => u = v

theorem evK_ex {x : AX} {c : AV → Prop} : evK tm x c ↔ ∃ v, vaX tm x v ∧ c v := by
  cases x with
  | t p =>
    show tm.getK p c ↔ ∃ v, (tm.getK p fun u => u = v) ∧ c v
    rw [T.getK_iff]
    constructor
    · rintro ⟨v, h1, h2⟩; exact ⟨v, (T.getK_iff _ _ _).2 ⟨v, h1, rfl⟩, h2⟩
    · rintro ⟨v, h1, h2⟩
      obtain ⟨u, h3, rfl⟩ := (T.getK_iff _ _ _).1 h1
      exact ⟨u, h3, h2⟩
  | c v => exact ⟨fun h => ⟨v, rfl, h⟩, fun ⟨u, h1, h2⟩ => by cases (show v = u from h1); exact h2⟩

theorem vaX_set {x : AX} {v u : AV} {p : Pt} (hx : eqX x (.t p) = false) : vaX (tm.set u p) x v ↔ vaX tm x v := by
  cases x with
  | c v => exact Iff.rfl
  | t q =>
    have hq : q ≠ p := fun e => by subst e; simp [eqX, eqP_refl] at hx
    show ((tm.set u p).getK q fun u => u = v) ↔ tm.getK q fun u => u = v
    rw [T.getK_iff, T.getK_iff, T.find_set_ne _ _ _ _ hq]

/-- what a write does -/
def Wrote (tm : T AV) (n : Nat) (k : Pt) (o : Nat) (x : AX) (h h' : T AO) : Prop := ∃ v vs e, vaX tm x v ∧ h.find k = some (.cells vs e) ∧ (Nat.beq (cellsA v).length n && Nat.ble (o + n) vs.length && flatB (cellsA v)) = true ∧ h' = h.set (.cells (putL vs o (cellsA v)) e) k

theorem oSt_iff {n : Nat} {b x : AX} {K : AV → T AO → Pt → Prop} : oSt n b x tm h nx K ↔ ∃ k o h', vaX tm b (.ptr k o) ∧ Wrote tm n k o x h h' ∧ K (.tup []) h' nx := by
  unfold oSt
  rw [evK_ex]
  constructor
  · rintro ⟨v, h1, h2⟩
    split at h2
    · rename_i k o
      rw [evK_ex] at h2
      obtain ⟨u, h3, h4⟩ := h2
      obtain ⟨ob, h5, h6⟩ := (T.getK_iff _ _ _).1 h4
      split at h6
      · rename_i vs e
        obtain ⟨h7, h8⟩ := brec h6
        rw [forceL_iff, T.setK_iff] at h8
        exact ⟨k, o, _, h1, ⟨u, vs, e, h3, h5, h7, rfl⟩, h8⟩
      · exact h6.elim
    · exact h2.elim
  · rintro ⟨k, o, h', h1, ⟨u, vs, e, h3, h5, h7, rfl⟩, h8⟩
    refine ⟨_, h1, ?_⟩
    show evK tm x _
    rw [evK_ex]
    refine ⟨u, h3, (T.getK_iff _ _ _).2 ⟨_, h5, ?_⟩⟩
    show Bool.rec (motive := fun _ => Prop) False _ _
    rw [h7]
    show forceL _ _
    rw [forceL_iff, T.setK_iff]
    exact h8

theorem Wrote.swap {n1 n2 : Nat} {k1 k2 : Pt} {o1 o2 : Nat} {x1 x2 : AX} {h h1 h2 : T AO} (hne : k1 ≠ k2) (a : Wrote tm n1 k1 o1 x1 h h1) (b : Wrote tm n2 k2 o2 x2 h1 h2) :
    ∃ h1' h2', Wrote tm n2 k2 o2 x2 h h1' ∧ Wrote tm n1 k1 o1 x1 h1' h2' ∧ ∀ k, h2'.find k = h2.find k := by
  obtain ⟨v1, vs1, e1, a1, a2, a3, rfl⟩ := a
  obtain ⟨v2, vs2, e2, b1, b2, b3, rfl⟩ := b
  rw [T.find_set_ne _ _ _ _ hne.symm] at b2
  refine ⟨_, _, ⟨v2, vs2, e2, b1, b2, b3, rfl⟩, ⟨v1, vs1, e1, a1, by rw [T.find_set_ne _ _ _ _ hne]; exact a2, a3, rfl⟩, fun k => ?_⟩
  by_cases hk1 : k = k1
  · subst hk1
    rw [T.find_set, T.find_set_ne _ _ _ _ hne, T.find_set]
  · rw [T.find_set_ne _ _ _ _ hk1]
    by_cases hk2 : k = k2
    · subst hk2; rw [T.find_set, T.find_set]
    · rw [T.find_set_ne _ _ _ _ hk2, T.find_set_ne _ _ _ _ hk2, T.find_set_ne _ _ _ _ hk1]

theorem Wrote.tms {tm' : T AV} {n : Nat} {k : Pt} {o : Nat} {x : AX} {h h' : T AO} (e : ∀ v, vaX tm x v → vaX tm' x v) (a : Wrote tm n k o x h h') : Wrote tm' n k o x h h' := by
  obtain ⟨v, vs, e', a1, a2⟩ := a
  exact ⟨v, vs, e', e v a1, a2⟩

/-- which are not yet done -/
def Un (n0 : Nat) (L : Array Bool) (u : Nat → Prop) : Prop := L.size = n0 + 3 ∧ ∀ i, i < n0 + 3 → (L.getD i true = false ↔ u i)

theorem Un.set {L : Array Bool} {u : Nat → Prop} (hu : Un n0 L u) (i : Nat) : Un n0 (L.setIfInBounds i true) (fun j => u j ∧ j ≠ i) := by
  refine ⟨by simpa using hu.1, fun j hj => ?_⟩
  have hs := hu.1
  by_cases e : j = i
  · subst e
    simp [show j < L.size by omega]
  · have : (L.setIfInBounds i true).getD j true = L.getD j true := by
      simp only [Array.getD_eq_getD_getElem?]
      rw [Array.getElem?_setIfInBounds_ne (fun h => e h.symm)]
    rw [this, hu.2 j hj]
    simp [e]

theorem stage {G : Fence} {n fuel : Nat} {L : Array Bool} {u : Nat → Prop} {Q : Exit → Act → World → Prop} (hu : Un n0 L u) (hsz : ops.size = n0 + 3) (j : Nat) (hj : u j ∧ j < n0 + 3 ∧ ∀ o, ops[j]? = some o → ∀ e ∈ o.after, Region.binds .any e = true → e.on < n0 + 3 ∧ ¬ u e.on)
    (hd : ∀ i, u i → i < n0 + 3 → (∀ o, ops[i]? = some o → ∀ e ∈ o.after, Region.binds .any e = true → e.on < n0 + 3 → ¬ u e.on) → wpOpIn G n P ops Q i (wpAnyIn G n P .any ops Q fuel (L.setIfInBounds i true)) a w) : wpAnyIn G n P .any ops Q (fuel + 1) L a w := by
  refine ⟨fun e => ?_, fun i hi => ?_⟩
  · exfalso
    have : j ∈ Region.ready .any ops L := by
      have hlt : j < ops.size := by omega
      refine mem_ready.2 ⟨(hu.2 j hj.2.1).2 hj.1, ops[j], by simp [hlt], fun e he hb => ?_⟩
      obtain ⟨h1, h2⟩ := hj.2.2 ops[j] (by simp [hlt]) e he hb
      exact getD_or (by rw [hu.1]; exact h1) fun h3 => h2 ((hu.2 _ h1).1 h3)
    rw [e] at this; cases this
  · obtain ⟨h1, o, ho, hall⟩ := mem_ready.1 hi
    have hlt : i < n0 + 3 := by have := (Array.getElem?_eq_some_iff.1 ho).1; omega
    refine hd i ((hu.2 i hlt).1 h1) hlt fun o' ho' e he hb h2 h3 => ?_
    rw [ho] at ho'; cases ho'
    exact getD_ne ((hu.2 _ h2).2 h3) (hall e he hb)

theorem done {G : Fence} {n : Nat} {L : Array Bool} {u : Nat → Prop} {Q : Exit → Act → World → Prop} (hu : Un n0 L u) (hsz : ops.size = n0 + 3) (hn : ∀ i, ¬ u i) (hq : Q .normal a w) : wpAnyIn G n P .any ops Q 0 L a w := by
  refine ⟨List.eq_nil_iff_forall_not_mem.2 fun i hi => ?_, hq⟩
  obtain ⟨h1, o, ho, -⟩ := mem_ready.1 hi
  have hlt : i < n0 + 3 := by have := (Array.getElem?_eq_some_iff.1 ho).1; omega
  exact hn i ((hu.2 i hlt).1 h1)

/-- what a look at a place gives -/
def Looks (tm : T AV) (n : Nat) (x i : AX) (k : Pt) (o : Nat) : Prop := ∃ o0 l c op ik j, vaX tm x (.sl k o0 l c op) ∧ vaX tm i (.int ik (.ofNat j)) ∧ Nat.blt j l = true ∧ o = o0 + j * n

theorem oIa_iff {n : Nat} {x i : AX} {K : AV → T AO → Pt → Prop} : oIa n x i tm h nx K ↔ ∃ k o, Looks tm n x i k o ∧ K (.ptr k o) h nx := by
  unfold oIa
  rw [evK_ex]
  constructor
  · rintro ⟨v, h1, h2⟩
    split at h2
    · rename_i k o l c op
      rw [evK_ex] at h2
      obtain ⟨i', h3, h4⟩ := h2
      unfold atK at h4
      split at h4
      · rename_i ik j
        obtain ⟨h5, h6⟩ := brec h4
        rw [forceN_iff] at h6
        exact ⟨k, _, ⟨o, l, c, op, ik, j, h1, h3, h5, rfl⟩, h6⟩
      · exact h4.elim
    · exact h2.elim
  · rintro ⟨k, o, ⟨o0, l, c, op, ik, j, h1, h3, h5, rfl⟩, h6⟩
    refine ⟨_, h1, ?_⟩
    show evK tm i _
    rw [evK_ex]
    refine ⟨_, h3, ?_⟩
    show Bool.rec (motive := fun _ => Prop) False _ _
    rw [h5]
    show forceN _ _
    rw [forceN_iff]
    exact h6

theorem tail_any (TT : TailOk ops n0) (hch : CHok P w0 ch.call) {pq p2 : Pt} {nq n1 n2 : Nat} {xq iq x1 x2 : AX} {q s1 s2 : Oper} (hq : ops[n0]? = some q) (hs1 : ops[n0 + 1]? = some s1) (hs2 : ops[n0 + 2]? = some s2)
    (cq : compOper P F.m ops q = some ⟨some pq, .v (.ia nq xq iq), none⟩) (c1 : compOper P F.m ops s1 = some ⟨none, .v (.st n1 (.t pq) x1), none⟩) (c2 : compOper P F.m ops s2 = some ⟨none, .v (.st n2 (.t p2) x2), none⟩)
    (np : eqX (.t p2) (.t pq) = false) (nx2 : eqX x2 (.t pq) = false) {K : T AV → T AO → Pt → Prop} {Q : Exit → Act → World → Prop} (hs : St P w0 F ch r tm h nx a w) (hk : tailK pq nq xq iq n1 x1 p2 n2 x2 tm h nx K)
    (hQ : ∀ tm' h' nx' r' a' w', K tm' h' nx' → St P w0 F ch r' tm' h' nx' a' w' → Ev r h w r' h' w' → Q .normal a' w') : wpAnyIn (Wr F.ro) 0 P .any ops Q 3 (Array.replicate n0 true ++ #[false, false, false]) a w := by
  -- what the three do
  obtain ⟨k1, o1, hl, hk⟩ := oIa_iff.1 (show oIa nq xq iq tm h nx _ from hk)
  rw [T.setK_iff] at hk
  obtain ⟨v2, hv2, hk⟩ := (T.getK_iff _ _ _).1 (show (tm.set _ pq).getK p2 _ from hk)
  split at hk
  · rename_i k2 o2
    have hne : eqP k1 k2 = false := by
      cases e : eqP k1 k2 with
      | false => rfl
      | true => rw [e] at hk; exact hk.elim
    rw [hne] at hk
    obtain ⟨k1', o1', hA, e1, w1, hk⟩ := oSt_iff.1 (show oSt n1 (.t pq) x1 (tm.set _ pq) h nx _ from hk)
    obtain ⟨k2', o2', hB, e2, w2, hk⟩ := oSt_iff.1 hk
    have e1' : AV.ptr k1 o1 = AV.ptr k1' o1' := by
      obtain ⟨u, h1, h2⟩ := (T.getK_iff _ _ _).1 (show (tm.set _ pq).getK pq _ from e1)
      rw [T.find_set] at h1; cases h1; exact h2
    cases e1'
    have e2' : AV.ptr k2 o2 = AV.ptr k2' o2' := by
      obtain ⟨u, h1, h2⟩ := (T.getK_iff _ _ _).1 (show (tm.set _ pq).getK p2 _ from e2)
      rw [hv2] at h1; cases h1; exact h2
    cases e2'
    have hne' : k1 ≠ k2 := fun e => by rw [e, eqP_refl] at hne; cases hne
    obtain ⟨hC, hD, w2', w1', hfind⟩ := w1.swap hne' w2
    have e2t : vaX tm (.t p2) (.ptr k2 o2) := (vaX_set np).1 e2
    have w2t : Wrote tm n2 k2 o2 x2 h hC := w2'.tms fun v hv => (vaX_set nx2).1 hv
    -- the last states
    have fin : ∀ {r' : Rho} {h' : T AO} {a' : Act} {w' : World}, (∀ k, h'.find k = hB.find k) → St P w0 F ch r' (tm.set (.ptr k1 o1) pq) h' nx a' w' → Ev r h w r' h' w' → Q .normal a' w' := by
      intro r' h' a' w' hf hs' ev'
      have hsub : ∀ k o, hB.find k = some o → h'.find k = some o := fun k o hk => by rw [hf k]; exact hk
      exact hQ _ hB nx r' a' w' hk (hs'.on (hs'.wr.sub hsub) (Ev.sub hsub) hs'.tr hs'.size rfl) (ev'.trans (Ev.sub hsub))
    have hU0 : Un n0 (Array.replicate n0 true ++ #[false, false, false]) (fun i => n0 ≤ i ∧ i < n0 + 3) := by
      refine ⟨by simp, fun i hi => ?_⟩
      rw [getD_app]
      by_cases hlt : i < n0
      · simp [hlt]; omega
      · simp [hlt]
        have : i - n0 = 0 ∨ i - n0 = 1 ∨ i - n0 = 2 := by omega
        rcases this with e | e | e <;> simp [e] <;> omega
    have hsz := TT.size
    have dq := TT.q q hq
    have d1 := TT.s1 s1 hs1
    have d2 := TT.s2 s2 hs2
    have stepQ : ∀ {r' : Rho} {h' : T AO} {a' : Act} {w' : World} {next : Act → World → Prop}, St P w0 F ch r' tm h' nx a' w' → (∀ r'' a'' w'', St P w0 F ch r'' (tm.set (.ptr k1 o1) pq) h' nx a'' w'' → Ev r' h' w' r'' h' w'' → next a'' w'') → wpOpIn (Wr F.ro) 0 P ops Q n0 next a' w' := by
      intro r' h' a' w' next hs' hn
      refine op_sound (rest := dE) (K := fun tm' h'' nx' => tm' = tm.set (.ptr k1 o1) pq ∧ h'' = h' ∧ nx' = nx) hch hq cq rfl hs' ?_ ?_
      · refine (oIa_iff (K := fun v h'' nx'' => tm.setK v pq fun tm' => tm' = tm.set (.ptr k1 o1) pq ∧ h'' = h' ∧ nx'' = nx)).2 ⟨k1, o1, hl, ?_⟩
        rw [T.setK_iff]
        exact ⟨rfl, rfl, rfl⟩
      · rintro tm' h'' nx' r'' a'' w'' ⟨rfl, rfl, rfl⟩ g1 g2
        exact hn r'' a'' w'' g1 g2
    have stepS : ∀ {n : Nat} {b x : AX} {k : Pt} {o i : Nat} {op : Oper} {tm : T AV} {r' : Rho} {h' h2 : T AO} {a' : Act} {w' : World} {next : Act → World → Prop}, ops[i]? = some op → compOper P F.m ops op = some ⟨none, .v (.st n b x), none⟩ → vaX tm b (.ptr k o) → Wrote tm n k o x h' h2 → St P w0 F ch r' tm h' nx a' w' →
        (∀ r'' a'' w'', St P w0 F ch r'' tm h2 nx a'' w'' → Ev r' h' w' r'' h2 w'' → next a'' w'') → wpOpIn (Wr F.ro) 0 P ops Q i next a' w' := by
      intro n b x k o i op tm r' h' h2 a' w' next hi hc hb hw hs' hn
      refine op_sound (rest := dE) (K := fun tm' h'' nx' => tm' = tm ∧ h'' = h2 ∧ nx' = nx) hch hi hc rfl hs' ?_ ?_
      · exact (oSt_iff (K := fun _ h'' nx'' => tm = tm ∧ h'' = h2 ∧ nx'' = nx)).2 ⟨k, o, h2, hb, hw, rfl, rfl, rfl⟩
      · rintro tm' h'' nx' r'' a'' w'' ⟨rfl, rfl, rfl⟩ g1 g2
        exact hn r'' a'' w'' g1 g2
    have three : ∀ i, n0 ≤ i ∧ i < n0 + 3 → i = n0 ∨ i = n0 + 1 ∨ i = n0 + 2 := fun i hi => by omega
    have rq : ∀ {u : Nat → Prop}, (∀ i, u i → n0 ≤ i) → ∀ o, ops[n0]? = some o → ∀ e ∈ o.after, Region.binds .any e = true → e.on < n0 + 3 ∧ ¬ u e.on := fun hu o ho e he hb => by
      rw [hq] at ho; cases ho
      have := dq e he hb
      exact ⟨by omega, fun h => by have := hu _ h; omega⟩
    have r2 : ∀ {u : Nat → Prop}, (∀ i, u i → n0 ≤ i) → ∀ o, ops[n0 + 2]? = some o → ∀ e ∈ o.after, Region.binds .any e = true → e.on < n0 + 3 ∧ ¬ u e.on := fun hu o ho e he hb => by
      rw [hs2] at ho; cases ho
      have := d2 e he hb
      exact ⟨by omega, fun h => by have := hu _ h; omega⟩
    have r1 : ∀ {u : Nat → Prop}, (∀ i, u i → n0 < i) → ∀ o, ops[n0 + 1]? = some o → ∀ e ∈ o.after, Region.binds .any e = true → e.on < n0 + 3 ∧ ¬ u e.on := fun hu o ho e he hb => by
      rw [hs1] at ho; cases ho
      have := d1.1 e he hb
      exact ⟨by omega, fun h => by have := hu _ h; omega⟩
    have not1 : ∀ {u : Nat → Prop}, u n0 → (∀ o, ops[n0 + 1]? = some o → ∀ e ∈ o.after, Region.binds .any e = true → e.on < n0 + 3 → ¬ u e.on) → False := fun hu h => by
      obtain ⟨e, he, hb, hon⟩ := d1.2
      exact h s1 hs1 e he hb (by omega) (by rw [hon]; exact hu)
    refine stage hU0 hsz n0 ⟨⟨Nat.le_refl _, by omega⟩, by omega, by exact rq (u := fun i => n0 ≤ i ∧ i < n0 + 3) (fun i h => h.1)⟩ fun i hu hlt hdep => ?_
    rcases three i hu with rfl | rfl | rfl
    · refine stepQ hs fun ra aa wa sa ea => ?_
      refine stage (hU0.set i) hsz (i + 1) ⟨⟨⟨by omega, by omega⟩, by omega⟩, by omega, by exact r1 (u := fun j => (i ≤ j ∧ j < i + 3) ∧ j ≠ i) (fun j h => by have := h.1.1; have := h.2; omega)⟩ fun j hj hjl hjd => ?_
      have : j = i + 1 ∨ j = i + 2 := by have := three j hj.1; have := hj.2; omega
      rcases this with rfl | rfl
      · refine stepS hs1 c1 e1 w1 sa fun rb ab wb sb eb => ?_
        refine stage ((hU0.set i).set (i + 1)) hsz (i + 2) ⟨⟨⟨⟨by omega, by omega⟩, by omega⟩, by omega⟩, by omega, by exact r2 (u := fun j => ((i ≤ j ∧ j < i + 3) ∧ j ≠ i) ∧ j ≠ i + 1) (fun j h => h.1.1.1)⟩ fun j hj hjl hjd => ?_
        have : j = i + 2 := by have := three j hj.1.1; have := hj.1.2; have := hj.2; omega
        subst this
        refine stepS hs2 c2 e2 w2 sb fun rc ac wc sc ec => ?_
        exact done (((hU0.set i).set (i + 1)).set (i + 2)) hsz (fun j hj => by have := three j hj.1.1.1; have := hj.1.1.2; have := hj.1.2; have := hj.2; omega) (fin (fun _ => rfl) sc (ea.trans (eb.trans ec)))
      · refine stepS hs2 c2 e2 w2' sa fun rb ab wb sb eb => ?_
        refine stage ((hU0.set i).set (i + 2)) hsz (i + 1) ⟨⟨⟨⟨by omega, by omega⟩, by omega⟩, by omega⟩, by omega, by exact r1 (u := fun j => ((i ≤ j ∧ j < i + 3) ∧ j ≠ i) ∧ j ≠ i + 2) (fun j h => by have := h.1.1.1; have := h.1.2; omega)⟩ fun j hj hjl hjd => ?_
        have : j = i + 1 := by have := three j hj.1.1; have := hj.1.2; have := hj.2; omega
        subst this
        refine stepS hs1 c1 e1 w1' sb fun rc ac wc sc ec => ?_
        exact done (((hU0.set i).set (i + 2)).set (i + 1)) hsz (fun j hj => by have := three j hj.1.1.1; have := hj.1.1.2; have := hj.1.2; have := hj.2; omega) (fin hfind sc (ea.trans (eb.trans ec)))
    · exact (not1 (u := fun i => n0 ≤ i ∧ i < n0 + 3) ⟨Nat.le_refl _, by omega⟩ hdep).elim
    · refine stepS hs2 c2 e2t w2t hs fun ra aa wa sa ea => ?_
      refine stage (hU0.set (n0 + 2)) hsz n0 ⟨⟨⟨by omega, by omega⟩, by omega⟩, by omega, by exact rq (u := fun j => (n0 ≤ j ∧ j < n0 + 3) ∧ j ≠ n0 + 2) (fun j h => h.1.1)⟩ fun j hj hjl hjd => ?_
      have : j = n0 ∨ j = n0 + 1 := by have := three j hj.1; have := hj.2; omega
      rcases this with rfl | rfl
      · refine stepQ sa fun rb ab wb sb eb => ?_
        refine stage ((hU0.set (j + 2)).set j) hsz (j + 1) ⟨⟨⟨⟨by omega, by omega⟩, by omega⟩, by omega⟩, by omega, by exact r1 (u := fun i => ((j ≤ i ∧ i < j + 3) ∧ i ≠ j + 2) ∧ i ≠ j) (fun j h => by have := h.1.1.1; have := h.2; omega)⟩ fun i hi hil hid => ?_
        have : i = j + 1 := by have := three i hi.1.1; have := hi.1.2; have := hi.2; omega
        subst this
        refine stepS hs1 c1 e1 w1' sb fun rc ac wc sc ec => ?_
        exact done (((hU0.set (j + 2)).set j).set (j + 1)) hsz (fun i hi => by have := three i hi.1.1.1; have := hi.1.1.2; have := hi.1.2; have := hi.2; omega) (fin hfind sc (ea.trans (eb.trans ec)))
      · exact (not1 (u := fun j => (n0 ≤ j ∧ j < n0 + 3) ∧ j ≠ n0 + 2) ⟨⟨Nat.le_refl _, by omega⟩, by omega⟩ hjd).elim
  · exact hk.elim

theorem draw2_sound (hch : CHok P w0 ch.call) (hm : P.follows .mixedOrders = true) {ac : AC} (hp : plan2 P F.m ops = some ac) (id : Nat) : Dok P w0 F ch (.region id ops true) (den ac) := by
  unfold plan2 at hp
  split at hp
  · rename_i q s1 s2 hq hs1 hs2
    split at hp
    · rename_i pq nq xq iq n1 a1 x1 n2 p2 x2 cq c1 c2
      split at hp
      · rename_i hb
        split at hp
        · rename_i l hl
          cases hp
          simp only [Bool.and_eq_true, Bool.not_eq_true'] at hb
          obtain ⟨⟨⟨b1, b2⟩, b3⟩, b4⟩ := hb
          have TT := tailB_spec b1
          have ha1 : a1 = .t pq := by
            cases a1 with
            | t p => rw [eqP_spec (show eqP p pq = true from b2)]
            | c v => cases b2
          subst ha1
          have hp := plan_ok hl
          intro tm h nx K a w r Q hk hs hg
          have hk : denS l [] ch tm h nx fun tm h nx => tailK pq nq xq iq n1 x1 p2 n2 x2 tm h nx (K .nrm) := hk
          refine WpN.of (wpIn_region_any hm ?_)
          have hsz := TT.size
          have hn1 : (ops1 ops (ops.size - 3)).size = ops.size - 3 := ops1_size (by omega)
          have hrep : Array.replicate ops.size false = Array.replicate (ops.size - 3) false ++ #[false, false, false] := by
            apply Array.ext'
            have : ops.size = (ops.size - 3) + 3 := hsz
            simp only [Array.toList_replicate, Array.toList_append]
            conv => lhs; rw [this, ← List.replicate_append_replicate]
            rfl
          have hgo := any_split (F := Wr F.ro) (n := 0) (P := P) TT (Q := Q) (ops.size - 3) (Array.replicate (ops.size - 3) false) a { w with drawn := w.drawn + 1 } (by simp) (by simp) ?_
          · rw [← hrep] at hgo
            rw [show ops.size - 3 + 3 = ops.size by omega] at hgo
            exact hgo
          have hmain := draw_main (ro := F.ro) (K := fun tm h nx => tailK pq nq xq iq n1 x1 p2 n2 x2 tm h nx (K .nrm)) (r0 := r) (h0 := h) (wS := { w with drawn := w.drawn + 1 }) (ds := a.defers) hch hs.env hp
            (Q := Qx (wpAnyIn (Wr F.ro) 0 P .any ops Q 3 (Array.replicate (ops.size - 3) true ++ #[false, false, false])) Q)
            (fun tm' h' nx' r' a' w' k1 k2 k3 k4 k5 k6 => ?_) (ops1 ops (ops.size - 3)).size l (Array.replicate (ops1 ops (ops.size - 3)).size false) a { w with drawn := w.drawn + 1 } [] [] [] tm h h nx r ?_
          · rw [hn1] at hmain; exact hmain
          · have hs' := hs.on k2 ((Ev.drew _).trans k6) k3 k4 k5
            exact tail_any TT hch hq hs1 hs2 cq c1 c2 b3 b4 hs' k1 fun tm'' h'' nx'' r'' a'' w'' g1 g2 g3 => hg .nrm tm'' h'' nx'' r'' a'' w'' g1 g2 (((Ev.drew _).trans k6).trans g3)
          · refine ⟨rfl, fun u hu => (by cases hu), by simp, by rw [hp.len]; simp, by simp, fun i hi => ?_, fun i o ho hl => ?_, hs.wr.drew _, fun k o => ?_, fun f hf => (by cases hf), fun f hf => (by cases hf), fun f hf => (by cases hf), fun f hf => (by cases hf), fun f hf => (by cases hf), fun f hf => (by cases hf), fun f hf => (by cases hf), fun k hk => hs.wr.dom k (.inr hk), fun p v hv _ => hs.tr p v hv, fun i p x hu => (by cases hu), fun i p x hu => (by cases hu), hs.size, rfl, .refl _ _ _, hk⟩
            · constructor
              · intro _; exact .inr (hp.cover i hi)
              · intro _; simp [hi]
            · exfalso
              have hi : i < (ops1 ops (ops.size - 3)).size := (Array.getElem?_eq_some_iff.1 ho).1
              simp [hi] at hl
            · simp
        · cases hp
      · cases hp
    · cases hp
  · cases hp

end
end Go.Proofs.Ytfnehpgefcnjgaa.X

/- An executor for closed calls, 29: a range over a function. -/
namespace Go.Proofs.Ytfnehpgefcnjgaa.X
open Go.RowKit

section
variable {P : Program} {w0 : World} {F : FR} {ch : CH} {m : Nat}

theorem curK_spec {c : Option Pt} {h : T AO} {k : Prop} (hk : curK c h k) : k ∧ ∀ p, c = some p → ∃ st pe, h.find p = some (.loop st pe) := by
  unfold curK at hk
  split at hk
  · exact ⟨hk, fun p e => by cases e⟩
  · rename_i p
    obtain ⟨o, ho, hk⟩ := (T.getK_iff _ _ _).1 hk
    split at hk
    · rename_i st pe
      exact ⟨hk, fun q e => by cases e; exact ⟨st, pe, ho⟩⟩
    · exact hk.elim

theorem turnK_spec {k : Pt} {st st' : LoopState} {pe : Option AE} {h : T AO} {c : T AO → Prop} (hk : turnK k st st' pe h c) : h.find k = some (.loop st none) ∧ c (h.set (.loop st' pe) k) := by
  obtain ⟨o, ho, hk⟩ := (T.getK_iff _ _ _).1 (show h.getK k _ from hk)
  split at hk
  · rename_i s
    obtain ⟨he, hk⟩ := brec hk
    rw [T.setK_iff] at hk
    refine ⟨?_, hk⟩
    split at he
    · exact ho
    · exact ho
    · cases he
  · exact hk.elim

theorem TR.par {r : Rho} : ∀ {ts : List Nat} {ps : List Pt} {vs : List AV} {tm : T AV} {tv : Array Value} {c : T AV → Prop}, compPs m ts = some ps → m ≤ tv.size → TR r tm tv → okL r.has vs → parK ps vs tm c →
    ts.length = vs.length ∧ ∃ tm', c tm' ∧ TR r tm' ((ts.zip (concL r vs)).foldl (fun t (p, v) => t.setIfInBounds p v) tv) ∧ tv.size = ((ts.zip (concL r vs)).foldl (fun t (p, v) => t.setIfInBounds p v) tv).size
  | [], ps, vs, tm, tv, c, hc, hm, ht, hv, hk => by
    cases hc
    cases vs with
    | nil => exact ⟨rfl, tm, hk, by simpa using ht, by simp⟩
    | cons v vs => exact hk.elim
  | t :: ts, ps, vs, tm, tv, c, hc, hm, ht, hv, hk => by
    obtain ⟨p, ps, h1, h2, rfl⟩ := mapO_cons hc
    cases vs with
    | nil => exact hk.elim
    | cons v vs =>
      have hk : tm.setK v p fun tm => parK ps vs tm c := hk
      rw [T.setK_iff] at hk
      simp only [okL] at hv
      split at h1
      · rename_i hlt
        cases h1
        have := ht.put (p := Pt.ofNat t) (v := v) (by rw [Pt.toNat_ofNat]; omega) hv.1
        rw [Pt.toNat_ofNat] at this
        obtain ⟨g1, tm', g2, g3, g4⟩ := TR.par h2 (by simpa using hm) this hv.2 hk
        refine ⟨by simp [g1], tm', g2, ?_, ?_⟩
        · simpa [concL] using g3
        · simpa [concL] using g4
      · cases h1

theorem round_sound (hch : CHok P w0 ch.call) {ps : Array Tmp} {ps' : List Pt} (hps : compPs m ps.toList = some ps') {x y : Code} {x' y' : D}
    (hx : ∀ (F : FR) (ch : CH), F.m = m → CHok P w0 ch.call → Dok P w0 F ch x x') (hy : ∀ (F : FR) (ch : CH), F.m = m → CHok P w0 ch.call → Dok P w0 F ch y y')
    {k : Pt} {r : Rho} {tm : T AV} {ts : Array Value} (hk1 : r.has k) (hE : EnvOk P w0 ch.loops r) (ht : TR r tm ts) (hsz : m ≤ ts.size)
    (l1 : (r.lp k).tmps = ts) (l2 : (r.lp k).params = ps) (l3 : (r.lp k).assign = x) (l4 : (r.lp k).body = y) :
    ∀ r', r.Le r' → RSok P w0 k (roundK k ps' x' y' ch tm) r' := by
  intro r' hle args h nx K w R hk H hok hR
  obtain ⟨hk, hcur⟩ := curK_spec (show curK (some k) h _ from hk)
  obtain ⟨st, pe, hfk⟩ := hcur k rfl
  have hlp : r'.lp k = r.lp k := hle.lp k hk1
  obtain ⟨g1, tm1, g2, g3, g4⟩ := TR.par hps hsz (ht.le hle) hok hk
  have hy1 := run_yield (P := P) (args := (concL r' args).toArray) (H.loopAt hfk) (by simp only [hlp, l2]; simp [concL_length, ← g1])
  simp only [hlp, l1, l2, l3, l4] at hy1
  have hz : ((ps.zip (concL r' args).toArray).foldl (fun tmps (x : Tmp × Value) => tmps.setIfInBounds x.1 x.2) ts) = (ps.toList.zip (concL r' args)).foldl (fun t (p, v) => t.setIfInBounds p v) ts := by
    rw [← Array.foldl_toList]; simp
  refine ⟨_, _, _, _, hy1, ?_⟩
  have hz' : ((ps.zip (concL r' args).toArray).foldl (fun tmps (t, a) => tmps.setIfInBounds t a) ts) = (ps.toList.zip (concL r' args)).foldl (fun t (p, v) => t.setIfInBounds p v) ts := hz
  rw [hz']
  refine roundN ?_
  refine hx ⟨m, 0, some (r'.blk k), []⟩ ⟨ch.call, some k, ch.loops⟩ rfl hch tm1 h nx _ _ w r' _ g2 ⟨H, g3, by simp only; rw [← g4]; exact hsz, ⟨[], rfl, trivial, fun _ => rfl⟩, hE.le hle, ⟨hle.has k hk1, rfl⟩, Nat.zero_le _⟩ ?_
  intro e tm2 h2 nx2 r2 a2 w2 hK hs2 ev2
  cases e with
  | exit id => exact hK.elim
  | ret => exact hK.elim
  | nrm =>
    obtain ⟨f2, hK⟩ := turnK_spec hK
    have hb2 : r2.blk k = r'.blk k := ev2.le.blk k (hle.has k hk1)
    have hl2 := hs2.wr.loopAt f2
    rw [hb2] at hl2
    refine ⟨_, run_beginRound hl2 rfl, ?_⟩
    obtain ⟨wr3, ev3⟩ := hs2.wr.writeL f2 .busy none
    rw [hb2] at wr3 ev3
    refine hy ⟨m, 0, some (r'.blk k), []⟩ ⟨ch.call, some k, ch.loops⟩ rfl hch tm2 _ nx2 _ a2 _ r2 _ hK (hs2.on wr3 ev3 hs2.tr hs2.size rfl) ?_
    intro e tm4 h4 nx4 r4 a4 w4 hK4 hs4 ev4
    have hb4 : r4.blk k = r'.blk k := (ev4.le.blk k (ev2.le.has k (hle.has k hk1))).trans hb2
    have fin : ∀ (st : LoopState) (pe : Option AE) (b : Bool), st = (if (pe.map AE.code).isNone then .ready else .done) → b = (pe.map AE.code).isNone → (turnK k .busy st pe h4 fun h => K (.bool b) h nx4) → ∃ v w', (Instr.endRound (r'.blk k) (pe.map AE.code)).run P w4 = .ok v w' ∧ R (.returned v) w' := by
      intro st pe b e1 e2 hK4
      obtain ⟨f4, hK4⟩ := turnK_spec hK4
      have hl4 := hs4.wr.loopAt f4
      rw [hb4] at hl4
      obtain ⟨wr5, ev5⟩ := hs4.wr.writeL f4 st pe
      rw [hb4] at wr5 ev5
      refine ⟨_, _, run_endRound (pe.map AE.code) hl4, ?_⟩
      have := hR (.bool b) _ nx4 r4 _ hK4 wr5 (((ev2.trans ev3).trans ev4).trans ev5) (by simp [okV])
      simp only [conc] at this
      rw [e2, e1] at this
      exact this
    cases e with
    | nrm => exact fin .ready none true rfl rfl hK4
    | ret => exact fin .done (some .ret) false rfl rfl hK4
    | exit id => exact fin .done (some (.exit id)) false rfl rfl hK4

theorem Ev.push {r : Rho} {h : T AO} {w : World} (obj : Obj) : Ev r h w r h { w with heap := w.heap.push obj } :=
  ⟨.refl r, by simp, fun b hb _ => by simp [Array.getElem?_push, Nat.ne_of_lt hb], fun k o hk => .inr ⟨k, o, hk, rfl⟩⟩

theorem range_sound (hF : F.m = m) (hch : CHok P w0 ch.call) {g : Operand} {g' : AX} (hgx : Cx g g') {ps : Array Tmp} {ps' : List Pt} (hps : compPs m ps.toList = some ps') {x y : Code} {x' y' : D}
    (hx : ∀ (F : FR) (ch : CH), F.m = m → CHok P w0 ch.call → Dok P w0 F ch x x') (hy : ∀ (F : FR) (ch : CH), F.m = m → CHok P w0 ch.call → Dok P w0 F ch y y') : Dok P w0 F ch (.rangeFunc g ps x y) (dRange g' ps' x' y') := by
  intro tm h nx K a w r Q hk hs hg
  obtain ⟨gv, k1, k2, k3⟩ := evK_spec hgx hs.tr (show evK tm g' _ from hk)
  obtain ⟨k1, hcur⟩ := curK_spec k1
  rw [T.setK_iff, forceP_iff, T.setK_iff] at k1
  unfold fnK at k1
  split at k1
  · rename_i f first caps _
    rw [forceP_iff] at k1
    obtain ⟨hpf, k1⟩ := brec k1
    have hpf := Nat.eq_of_beq_eq_true hpf
    rw [forceL_iff] at k1
    simp only [okV] at k3
    refine WpN.of (wpIn_rangeFunc fun fn _ => ?_)
    obtain ⟨L, l, w1, mark, hent, L1, L2, L3, L4, H1, E1, hl, hm⟩ : ∃ (L : Loop) (l : Nat) (w1 : World) (mark : List Deferred), (Instr.enterLoop fn a.tmps ps x y F.ro).run P w = .ok (l, mark) w1 ∧ L.tmps = a.tmps ∧ L.params = ps ∧ L.assign = x ∧ L.body = y ∧
        WR P w0 ((r.setL nx L).more nx l 0) (h.set (.loop .ready none) nx) nx.succ w1 ∧ Ev r h w ((r.setL nx L).more nx l 0) (h.set (.loop .ready none) nx) w1 ∧ True ∧ DefOk F ((r.setL nx L).more nx l 0) (h.set (.loop .ready none) nx) w1 (mark ++ a.defers) := by
      cases hc : ch.cur with
      | none =>
        have hro : F.ro = none := by have := hs.cur; rw [hc] at this; exact this
        rw [hro]
        obtain ⟨H1, E1⟩ := (hs.wr.push (.deferred (some []))).allocL { state := .ready, pending := none, fn, tmps := a.tmps, params := ps, assign := x, body := y, defers := w.heap.size } .ready none
        have E1 := (Ev.push (r := r) (h := h) (w := w) (.deferred (some []))).trans E1
        have hsz : ({ w with heap := w.heap.push (.deferred (some [])) } : World).heap.size = w.heap.size + 1 := by simp
        rw [hsz] at H1 E1
        refine ⟨_, _, _, _, run_enterLoop_outer fn a.tmps ps x y, rfl, rfl, rfl, rfl, H1, E1, trivial, ?_⟩
        obtain ⟨ds, d1, d2, d3⟩ := hs.defers
        refine ⟨{ target := .collected w.heap.size, args := #[] } :: ds, by rw [d1]; rfl, ⟨⟨w.heap.size, rfl, hs.bnd, ?_, fun k o hk => ?_, fun d' hd' e => ?_⟩, d2.ev E1⟩, fun e => (e hro).elim⟩
        · show ((w.heap.push _).push _)[w.heap.size]? = _
          simp [Array.getElem?_push]
        · by_cases e : k = nx
          · subst e; rw [Rho.more_blk]; omega
          · rw [T.find_set_ne _ _ _ _ e] at hk
            have h1 := hs.wr.lt hk
            have h2 : ((r.setL nx _).more nx (w.heap.size + 1) 0).blk k = r.blk k := E1.le.blk k (hs.wr.has k o hk).1
            rw [h2]; omega
        · clear d1 d3
          induction ds with
          | nil => cases hd'
          | cons d0 ds ih =>
            obtain ⟨⟨b, rfl, -, h3, -, -⟩, d2⟩ := d2
            rcases List.mem_cons.1 hd' with rfl | hd'
            · cases e
              have := (Array.getElem?_eq_some_iff.1 h3).1
              omega
            · exact ih d2 hd'
      | some p =>
        have hro : r.has p ∧ F.ro = some (r.blk p) := by have := hs.cur; rw [hc] at this; exact this
        obtain ⟨st, pe, hfp⟩ := hcur p hc
        rw [hro.2]
        obtain ⟨H1, E1⟩ := hs.wr.allocL { state := .ready, pending := none, fn, tmps := a.tmps, params := ps, assign := x, body := y, defers := (r.lp p).defers } .ready none
        refine ⟨_, _, _, _, run_enterLoop_inner (hs.wr.loopAt hfp) fn a.tmps ps x y, rfl, rfl, rfl, rfl, H1, E1, trivial, ?_⟩
        exact hs.defers.ev E1
    have hlp : ((r.setL nx L).more nx l 0).lp nx = L := by simp [Rho.more, Rho.setL, eqP_refl]
    have hle : r.Le ((r.setL nx L).more nx l 0) := E1.le
    have hblk : ((r.setL nx L).more nx l 0).blk nx = l := Rho.more_blk ..
    have hhas : ((r.setL nx L).more nx l 0).has nx := .inl rfl
    generalize ((r.setL nx L).more nx l 0) = r1 at *
    have hE1 : EnvOk P w0 (ch.loops.set (roundK nx ps' x' y' ch tm) nx) r1 := fun k rs hk => by
      by_cases e : k = nx
      · subst e
        rw [T.find_set] at hk; cases hk
        exact ⟨hhas, round_sound hch hps hx hy hhas (hs.env.le hle) (hs.tr.le hle) (hF ▸ hs.size) (by rw [hlp]; exact L1) (by rw [hlp]; exact L2) (by rw [hlp]; exact L3) (by rw [hlp]; exact L4)⟩
      · rw [T.find_set_ne _ _ _ _ e] at hk
        exact (hs.env.le hle) k rs hk
    have hargs : okL r1.has (first ++ [.yld nx] ++ caps) := okL_append.2 ⟨okL_append.2 ⟨okL.mono hle.has k3.1, by simp only [okL, okV, and_true]; exact hhas⟩, okL.mono hle.has k3.2⟩
    obtain ⟨⟨fn', c', f1, f2, f3⟩, hcall⟩ := hch _ _ _ _ _ _ r1 w1 (rangePost (Wr F.ro) 0 P l Q { a with defers := mark ++ a.defers }) k1 hE1 H1 hargs (by
      intro v h' nx' r' w' hb H' E' hv
      have hb' : r'.blk nx = l := (E'.le.blk nx hhas).trans hblk
      obtain ⟨o, ho, hb⟩ := (T.getK_iff _ _ _).1 (show h'.getK nx _ from hb)
      have fin : ∀ (st : LoopState) (pe : Option AE) (e : AE), h'.find nx = some (.loop st pe) → st ≠ .busy → K e tm (h'.set (.loop .exhausted pe) nx) nx' → ∃ w4, (Instr.endLoop l).run P w' = .ok (pe.map AE.code) w4 ∧ Q (toExit e) { a with defers := mark ++ a.defers } w4 := by
        intro st pe e hf hst hK
        have hl := H'.loopAt hf
        rw [hb'] at hl
        obtain ⟨wr4, ev4⟩ := H'.writeL hf .exhausted pe
        rw [hb'] at wr4 ev4
        refine ⟨_, run_endLoop hl hst, ?_⟩
        have E4 := (E1.trans E').trans ev4
        exact hg e tm _ nx' r' _ _ hK ⟨wr4, hs.tr.le E4.le, hs.size, hm.ev (E'.trans ev4), hs.env.le E4.le, hs.cur.le E4.le, Nat.le_trans hs.bnd E4.size⟩ E4
      split at hb
      · rw [T.setK_iff] at hb
        obtain ⟨w4, h1, h2⟩ := fin _ _ _ ho (by simp) hb
        exact ⟨_, w4, h1, h2⟩
      · rw [T.setK_iff] at hb
        obtain ⟨w4, h1, h2⟩ := fin _ _ _ ho (by simp) hb
        exact ⟨_, w4, h1, wpIn_ret h2⟩
      · rw [T.setK_iff] at hb
        obtain ⟨w4, h1, h2⟩ := fin _ _ _ ho (by simp) hb
        exact ⟨_, w4, h1, wpIn_exit h2⟩
      · exact hb.elim)
    have hca : (concL r1 first).toArray = (concL r first).toArray := by rw [concL_le hle k3.1]
    have hcb : (concL r1 caps).toArray = (concL r caps).toArray := by rw [concL_le hle k3.2]
    refine ⟨l, mark, w1, { target := .fn (.func f) (concL r caps).toArray, args := (concL r first).toArray ++ #[.func (.yield l) #[] #[]] }, w1, f, (concL r1 (first ++ [.yld nx] ++ caps)).toArray, w1, hent, ?_, fun _ _ => trivial, ?_, fun e => by simp [Wr, Fence.wide] at e, ?_⟩
    · simp only [resolve, k2, conc]
      simp [go_sem]
    · have e2 : (invoke (.fn (.func f) (concL r caps).toArray) ((concL r first).toArray ++ #[.func (.yield l) #[] #[]])) = callFunc f (concL r1 (first ++ [.yld nx] ++ caps)).toArray := by
        show callFunc f (((concL r first).toArray ++ #[.func (.yield l) #[] #[]]) ++ (concL r caps).toArray) = _
        rw [← hca, ← hcb]
        simp [concL_append, concL, conc, hblk]
      rw [e2, ← hpf]
      exact run_callFunc f1 f2 f3
    · rw [← hpf]
      exact wr_calls hcall
  · exact k1.elim

end
end Go.Proofs.Ytfnehpgefcnjgaa.X

/- An executor for closed calls, 17: what the executor comes to, the program comes to. -/
namespace Go.Proofs.Ytfnehpgefcnjgaa.X
open Go.RowKit

section
variable {P : Program} {w0 : World} {F : FR}

theorem ops_sound {ch : CH} (hch : CHok P w0 ch.call) {ops : Array Oper} {Q : Exit → Act → World → Prop} : ∀ (n i : Nat) (l : List AOper) (r : Rho) (tm : T AV) (h : T AO) (nx : Pt) (a : Act) (w : World) (K : T AV → T AO → Pt → Prop),
    i + n = ops.size → mapO (compOper P F.m ops) (ops.toList.drop i) = some l → anyC l = false → St P w0 F ch r tm h nx a w → denL l ch tm h nx K →
    (∀ tm' h' nx' r' a' w', K tm' h' nx' → St P w0 F ch r' tm' h' nx' a' w' → Ev r h w r' h' w' → Q .normal a' w') → wpOpsIn (Wr F.ro) 0 P ops Q (List.range' i n) a w
  | 0, i, l, r, tm, h, nx, a, w, K, hn, hl, _, hs, hk, hq => by
    rw [List.drop_eq_nil_of_le (by simp; omega)] at hl
    cases hl
    exact hq tm h nx r a w hk hs (.refl r h w)
  | n + 1, i, l, r, tm, h, nx, a, w, K, hn, hl, hna, hs, hk, hq => by
    have hi : i < ops.toList.length := by simp; omega
    rw [List.drop_eq_getElem_cons hi] at hl
    obtain ⟨x, l', h1, h2, rfl⟩ := mapO_cons hl
    rw [List.range'_succ, wpOpsIn_cons]
    have hoi : ops[i]? = some ops.toList[i] := by
      have : i < ops.size := by simpa using hi
      simp [this]
    simp only [anyC, Bool.or_eq_false_iff] at hna
    refine op_sound hch hoi h1 hna.1 hs hk fun tm' h' nx' r' a' w' k1 k2 k3 => ?_
    exact ops_sound hch n (i + 1) l' r' tm' h' nx' a' w' K (by omega) h2 hna.2 k2 k1 fun tm'' h'' nx'' r'' a'' w'' g1 g2 g3 => hq tm'' h'' nx'' r'' a'' w'' g1 g2 (k3.trans g3)

/-- the rest of a region -/
def OpsN (P : Program) (ro : Option Nat) (ops : Array Oper) (Q : Exit → Act → World → Prop) (l : List Nat) (a : Act) (w : World) : Prop :=
  ∀ (b : Frame) (k : List Item) (cs : List Frame), b.kind = .normal → b.roundOf = ro → ∃ e a' w', Q e a' w' ∧ ArrivesIn (Machine.fenced P (Wr ro)) P (lone (b.atR a (.inRegion ops l :: k)) cs w) b k cs e a' w'

theorem region_N {ro : Option Nat} {ops : Array Oper} {Q : Exit → Act → World → Prop} {a : Act} {w : World} {id : Nat} (h : OpsN P ro ops Q (List.range ops.size) a w) : WpN P ro (.region id ops false) Q a w := fun b k cs hk hb => by
  obtain ⟨e, a', w', hq, harr⟩ := h b k cs hk hb
  exact ⟨e, a', w', hq, .of_steps (.one wr_calm stepR_region) harr⟩

theorem OpsN.next {ro : Option Nat} {ops : Array Oper} {Q : Exit → Act → World → Prop} {a a' : Act} {w w' : World} {i : Nat} {rest : List Nat} (h : OpsN P ro ops Q rest a' w')
    (hs : ∀ (b : Frame) (k : List Item) (cs : List Frame), b.kind = .normal → b.roundOf = ro → step P (lone (b.atR a (.inRegion ops (i :: rest) :: k)) cs w) = .next (lone (b.atR a' (.inRegion ops rest :: k)) cs w')) : OpsN P ro ops Q (i :: rest) a w := fun b k cs hk hb => by
  obtain ⟨e, a'', w'', hq, harr⟩ := h b k cs hk hb
  exact ⟨e, a'', w'', hq, .of_steps (.one wr_calm (hs b k cs hk hb)) harr⟩

/-- one plain operation, or one of a channel -/
theorem opC_sound {ch : CH} {ops : Array Oper} {o : Oper} {i : Nat} {x : AOper} {rest : List Nat} {K : AV → T AO → Pt → Prop} {r : Rho} {tm : T AV} {h : T AO} {nx : Pt} {a : Act} {w : World} {Q : Exit → Act → World → Prop}
    (hi : ops[i]? = some o) (hw : Region.wanted o (yielded ops a.tmps) = true) (hck : compK P o.op = some x.op) (hp : plainK x.op = true) (hs : St P w0 F ch r tm h nx a w)
    (hk : match x.op with | .v op => stepV op tm h nx K | .snd y v => sndK y v tm h nx K | .sel y z => selK y z tm h nx K | _ => False)
    (hn : ∀ v h' nx' r' w', K v h' nx' → WR P w0 r' h' nx' w' → Ev r h w r' h' w' → okV r'.has v → OpsN P F.ro ops Q rest (a.put o.dst (conc r' v)) w') : OpsN P F.ro ops Q (i :: rest) a w := by
  generalize x.op = kk at hck hp hk
  unfold compK at hck
  split at hck
  · split at hck
    · cases hck; cases hp
    · cases hck
  · split at hck
    · cases hck; cases hp
    · cases hck
  · rename_i c y hop
    split at hck
    · rename_i c' y' hc hy
      cases hck
      obtain ⟨cv, k1, k2, k3⟩ := evK_spec (cx_spec hc) hs.tr hk
      obtain ⟨u, k4, k5, k6⟩ := evK_spec (cx_spec hy) hs.tr k1
      split at k4
      · rename_i kc
        obtain ⟨ob, hob, k4⟩ := (T.getK_iff _ _ _).1 k4
        split at k4
        · rename_i cap buf
          obtain ⟨hlt, k4⟩ := brec k4
          rw [forceL_iff, T.setK_iff] at k4
          obtain ⟨c1, c2, c3, sent, rcvd, c4⟩ := hs.wr.has kc _ hob
          obtain ⟨W, E⟩ := hs.wr.write hob (.chan cap (buf ++ [u])) (.chan cap ((concL r buf).toArray.push (conc r u)) false (sent + 1) rcvd false) (okL_append.2 ⟨c3, by simp only [okL, and_true]; exact k6⟩) ⟨sent + 1, rcvd, by simp [concL_append, concL]⟩
          have hR := hn (.tup []) _ nx r _ k4 W E (by simp [okV, okL])
          rw [conc_undef] at hR
          refine hR.next fun b k cs hkd hb => ?_
          refine step_comm hkd hi hw ?_ (fun fr => comm_send (z := .tuple #[]) c4 (by simpa [concL_length] using hlt))
          rw [Oper.semAt_eq _ _ _ (fun d => by rw [hop]; simp)]
          simp only [execOp, hop, k2, k5, conc]
          rfl
        · exact k4.elim
      · exact k4.elim
    · cases hck
  · rename_i c e hop
    split at hck
    · rename_i c' j z v hc hz
      cases hck
      obtain ⟨cv, k1, k2, k3⟩ := evK_spec (cx_spec hc) hs.tr hk
      have hz := zeroA_spec hz
      have hrun : ∀ (ro : Option Nat), (∃ kc, cv = .chan kc) → (o.semAt ro a.eval).run P w = .ok (.comm #[{ chan := conc r cv, send := none, zero := z }] false .select) w := fun ro _ => by
        rw [Oper.semAt_eq _ _ _ (fun d => by rw [hop]; simp)]
        simp only [execOp, hop]
        have hzr : (zeroValue e).run P w = .ok z w := run_zeroValue hz.1 hz.2.1
        simp [hzr, Result.andThen]
        exact k2
      split at k1
      · rename_i kc
        obtain ⟨ob, hob, k1⟩ := (T.getK_iff _ _ _).1 k1
        split at k1
        · rename_i cap buf
          obtain ⟨c1, c2, c3, sent, rcvd, c4⟩ := hs.wr.has kc _ hob
          split at k1
          · have hR := hn _ _ nx r w k1 hs.wr (.refl r h w) (by simp only [okV, okL, and_true, true_and]; exact hz.2.2.2 _)
            refine hR.next fun b k cs hkd hb => ?_
            have hcv : conc r (.tup [.int .i64 (.negSucc 0), .bool false, v]) = .tuple #[.int .i64 (-1), .bool false, z] := by
              simp only [conc, concL, hz.2.2.1 r]; rfl
            rw [hcv]
            refine step_comm hkd hi hw (hrun _ ⟨kc, rfl⟩) (fun fr => ?_)
            simp only [conc]
            exact comm_none (by simpa [concL] using c4)
          · rename_i u buf
            rw [T.setK_iff] at k1
            have c3 : okL r.has (u :: buf) := c3
            simp only [okL] at c3
            have hx : (concL r (u :: buf)).toArray.extract 1 (concL r (u :: buf)).toArray.size = (concL r buf).toArray := by
              simp [concL]
            obtain ⟨W, E⟩ := hs.wr.write hob (.chan cap buf) (.chan cap ((concL r (u :: buf)).toArray.extract 1 (concL r (u :: buf)).toArray.size) false sent (rcvd + 1) false) c3.2 ⟨sent, rcvd + 1, by rw [hx]⟩
            have hR := hn _ _ nx r _ k1 W E (by simp only [okV, okL, and_true, true_and]; exact c3.1)
            refine hR.next fun b k cs hkd hb => ?_
            have hcv : conc r (.tup [.int .i64 (.ofNat 0), .bool true, u]) = .tuple #[.int .i64 0, .bool true, (concL r (u :: buf)).toArray.getD 0 undef] := by
              simp [conc, concL]
            rw [hcv]
            refine step_comm hkd hi hw (hrun _ ⟨kc, rfl⟩) (fun fr => ?_)
            simp only [conc]
            exact comm_recv c4 (by simp [concL])
        · exact k1.elim
      · exact k1.elim
    · cases hck
  · split at hck
    · rename_i o' ho
      cases hck
      obtain ⟨r', h', nx', w', v, n, y1, y2, y3, y4, y5, y6⟩ := step_sound hs.wr hs.tr rfl (compOp_spec ho) hk
      have hR := hn v h' nx' r' w' y1 y4 y5 y6
      refine hR.next fun b k cs hkd hb => ?_
      have hnd : ∀ c, o.op ≠ .defer c := fun c e => by rw [e] at ho; simp [compOp] at ho
      rcases y3 with rfl | ⟨rfl, hu⟩
      · exact step_value hi hw (by rw [Oper.semAt_eq _ _ _ hnd]; exact y2)
      · rw [hu]; exact step_skipped hi hw (by rw [Oper.semAt_eq _ _ _ hnd]; exact y2)
    · cases hck

theorem opsC_sound {ch : CH} {ops : Array Oper} {Q : Exit → Act → World → Prop} : ∀ (n i : Nat) (l : List AOper) (r : Rho) (tm : T AV) (h : T AO) (nx : Pt) (a : Act) (w : World) (K : T AV → T AO → Pt → Prop),
    i + n = ops.size → mapO (compOper P F.m ops) (ops.toList.drop i) = some l → allP l = true → St P w0 F ch r tm h nx a w → denL l ch tm h nx K →
    (∀ tm' h' nx' r' a' w', K tm' h' nx' → St P w0 F ch r' tm' h' nx' a' w' → Ev r h w r' h' w' → Q .normal a' w') → OpsN P F.ro ops Q (List.range' i n) a w
  | 0, i, l, r, tm, h, nx, a, w, K, hn, hl, _, hs, hk, hq => by
    rw [List.drop_eq_nil_of_le (by simp; omega)] at hl
    cases hl
    intro b k cs hkd hb
    exact ⟨.normal, a, w, hq tm h nx r a w hk hs (.refl r h w), .one wr_calm stepR_region_end⟩
  | n + 1, i, l, r, tm, h, nx, a, w, K, hn, hl, hall, hs, hk, hq => by
    have hi : i < ops.toList.length := by simp; omega
    rw [List.drop_eq_getElem_cons hi] at hl
    obtain ⟨x, l', h1, h2, rfl⟩ := mapO_cons hl
    rw [List.range'_succ]
    have hoi : ops[i]? = some ops.toList[i] := by
      have : i < ops.size := by simpa using hi
      simp [this]
    simp only [allP, Bool.and_eq_true] at hall
    generalize hoo : ops.toList[i] = o at *
    have next : ∀ tm' h' nx' r' a' w', denL l' ch tm' h' nx' K → St P w0 F ch r' tm' h' nx' a' w' → Ev r h w r' h' w' → OpsN P F.ro ops Q (List.range' (i + 1) n) a' w' := fun tm' h' nx' r' a' w' k1 k2 k3 =>
      opsC_sound n (i + 1) l' r' tm' h' nx' a' w' K (by omega) h2 hall.2 k2 k1 fun tm'' h'' nx'' r'' a'' w'' g1 g2 g3 => hq tm'' h'' nx'' r'' a'' w'' g1 g2 (k3.trans g3)
    unfold compOper at h1
    split at h1
    · rename_i kk d g hck hcd hcg
      cases h1
      have go : Region.wanted o (yielded ops a.tmps) = true → denK d kk (denL l') ch tm h nx K → OpsN P F.ro ops Q (i :: List.range' (i + 1) n) a w := fun hw hk => by
        refine opC_sound (x := ⟨d, kk, g⟩) (K := fun v h nx => putD d v tm fun tm => denL l' ch tm h nx K) hoi hw hck hall.1 hs ?_ fun v h' nx' r' w' c1 c2 c3 c4 => ?_
        · cases kk with
          | call f xs => cases hall.1
          | callv y xs => cases hall.1
          | _ => cases d <;> exact hk
        · have hs' : St P w0 F ch r' tm h' nx' a w' := hs.on c2 c3 (hs.tr.le c3.le) hs.size rfl
          obtain ⟨tm', z1, z2⟩ := putD_spec hcd hs' c4 c1
          exact next tm' h' nx' r' _ w' z1 z2 c3
      cases g with
      | none => exact go (wanted_none hcg) hk
      | some pb =>
        obtain ⟨p, bb⟩ := pb
        have hk : wantK p bb tm (denK d kk (denL l') ch tm h nx K) (putD d (.tup []) tm fun tm => denL l' ch tm h nx K) := hk
        rcases wantK_spec hcg hs.tr hk with ⟨hw, hk⟩ | ⟨hw, hk⟩
        · exact go hw hk
        · obtain ⟨tm', z1, z2⟩ := putD_spec hcd hs (by simp [okV, okL]) hk
          rw [conc_undef] at z2
          refine (next tm' h nx r _ w z1 z2 (.refl r h w)).next fun b k cs hkd hb => ?_
          have := stepR_op_skip (P := P) (b := b) (a := a) (k := k) (cs := cs) (w := w) (ops := ops) (i := i) (rest := List.range' (i + 1) n) (by rw [hoi]; simpa using hw)
          rw [hoi] at this
          exact this
    · cases h1

/-- a loop from its next round on -/
def LoopWp (P : Program) (ro : Option Nat) (c : Code) (Q : Exit → Act → World → Prop) (a : Act) (w : World) : Prop :=
  ∀ (b : Frame) (k : List Item) (cs : List Frame), b.kind = .normal → b.roundOf = ro → ∃ e a' w', Q e a' w' ∧ ArrivesIn (Machine.fenced P (Wr ro)) P (lone (b.atR a (.code c :: .inLoop c :: k)) cs w) b k cs e a' w'

theorem wp_of_loop {ro : Option Nat} {c : Code} {Q : Exit → Act → World → Prop} {a : Act} {w : World} (h : LoopWp P ro c Q a w) : WpN P ro (.loop c) Q a w := fun b k cs hk hb => by
  obtain ⟨e, a', w', hq, harr⟩ := h b k cs hk hb
  exact ⟨e, a', w', hq, .of_steps (.one wr_calm stepR_loop) harr⟩

theorem loop_round {ro : Option Nat} {c : Code} {Q : Exit → Act → World → Prop} {a : Act} {w : World} (h : WpN P ro c (Exit.then (LoopWp P ro c Q) Q) a w) : LoopWp P ro c Q a w := fun b k cs hk hb => by
  obtain ⟨e, a₁, w₁, hq, harr⟩ := h b (.inLoop c :: k) cs hk hb
  by_cases he : e = .normal
  · subst he
    obtain ⟨e₂, a₂, w₂, hq₂, harr₂⟩ := hq b k cs hk hb
    exact ⟨e₂, a₂, w₂, hq₂, .of_steps (StepsIn.trans harr (.one wr_calm stepR_inLoop)) harr₂⟩
  · refine ⟨e, a₁, w₁, ?_, .pass (x := .inLoop c) rfl (fun _ _ => .inl he) harr⟩
    cases e <;> first | exact hq | exact absurd rfl he

def noGoto (Q : Exit → Act → World → Prop) : Exit → Act → World → Prop
  | .goto _, _, _ => False
  | e, a, w => Q e a w

theorem wp_scope {ro : Option Nat} {c : Code} {Q : Exit → Act → World → Prop} {a : Act} {w : World} (h : WpN P ro c (noGoto Q) a w) : WpN P ro (.scope c) Q a w := by
  intro b k cs hk hb
  have s1 : ∀ {a : Act} {w : World}, step P (lone (b.atR a (.code (.scope c) :: k)) cs w) = .next (lone (b.atR a (.code c :: .inScope c :: k)) cs w) := fun {a w} => step_lone_go (by simp [stepG, stepG.exec, Frame.atR])
  have s2 : ∀ {a : Act} {w : World}, step P (lone (b.atR a (.inScope c :: k)) cs w) = .next (lone (b.atR a k) cs w) := fun {a w} => step_lone_go (by simp [stepG, stepG.exec, Frame.atR])
  obtain ⟨e, a₁, w₁, hq, harr⟩ := h b (.inScope c :: k) cs hk hb
  cases e with
  | normal => exact ⟨.normal, a₁, w₁, hq, .head wr_calm s1 (StepsIn.trans harr (.one wr_calm s2))⟩
  | exit id => exact ⟨.exit id, a₁, w₁, hq, fun k' hk => .head wr_calm s1 (harr.1 k' (by simp [exitTo, hk])), fun hr hk => let ⟨k₁, h1, h2⟩ := harr.2 hr (by simp [exitTo, hk]); ⟨k₁, h1, .head wr_calm s1 h2⟩⟩
  | goto l => exact hq.elim
  | ret => exact ⟨_, a₁, w₁, hq, .of_steps (.one wr_calm s1) harr⟩
  | panic ch => exact ⟨_, a₁, w₁, hq, .of_steps (.one wr_calm s1) harr⟩
  | outgrown => exact ⟨_, a₁, w₁, hq, .of_steps (.one wr_calm s1) harr⟩

theorem loop_sound {ch : CH} {c : Code} {d : D} (hd : Dok P w0 F ch c d) : ∀ (n : Nat) (tm : T AV) (h : T AO) (nx : Pt) (K : EK4) (a : Act) (w : World) (r : Rho) (Q : Exit → Act → World → Prop),
    loopN d ch n tm h nx K → St P w0 F ch r tm h nx a w → Good P w0 F ch r h w K Q → LoopWp P F.ro c Q a w
  | 0, _, _, _, _, _, _, _, _, hk, _, _ => hk.elim
  | n + 1, tm, h, nx, K, a, w, r, Q, hk, hs, hg => by
    refine loop_round (hd tm h nx _ a w r _ hk hs fun e tm' h' nx' r' a' w' k1 k2 k3 => ?_)
    cases e with
    | nrm => exact loop_sound hd n tm' h' nx' K a' w' r' Q k1 k2 (hg.ev k3)
    | exit id => exact hg _ _ _ _ _ _ _ k1 k2 k3
    | ret => exact hg _ _ _ _ _ _ _ k1 k2 k3

theorem den_sound (hm : P.follows .mixedOrders = true) (m : Nat) : ∀ (c : Code) (ac : AC), compC P m c = some ac → ∀ (F : FR) (ch : CH), F.m = m → CHok P w0 ch.call → Dok P w0 F ch c (den ac) := by
  intro c
  induction c with
  | skip =>
    intro ac hc F ch hF hch tm h nx K a w r Q hk hs hg
    simp only [compC] at hc; cases hc
    exact WpN.of (wpIn_skip (hg .nrm tm h nx r a w hk hs (.refl r h w)))
  | region id ops draw =>
    intro ac hc F ch hF hch tm h nx K a w r Q hk hs hg
    cases draw with
    | true =>
      simp only [compC] at hc
      split at hc
      · rename_i l hl
        cases hc
        exact draw_sound hch hm (plan_ok (hF ▸ hl)) id tm h nx K a w r Q hk hs hg
      · exact draw2_sound hch hm (hF ▸ hc) id tm h nx K a w r Q hk hs hg
    | false =>
      simp only [compC] at hc
      split at hc
      · rename_i l hl
        cases hany : anyC l with
        | false =>
          rw [hany] at hc
          cases hc
          refine WpN.of (wpIn_region ?_)
          rw [List.range_eq_range']
          exact ops_sound hch ops.size 0 l r tm h nx a w _ (by omega) (by rw [hF]; simpa using hl) hany hs hk fun tm' h' nx' r' a' w' k1 k2 k3 => hg .nrm tm' h' nx' r' a' w' k1 k2 k3
        | true =>
          rw [hany] at hc
          cases hall : allP l with
          | false => rw [hall] at hc; cases hc
          | true =>
            rw [hall] at hc
            cases hc
            refine region_N ?_
            rw [List.range_eq_range']
            exact opsC_sound ops.size 0 l r tm h nx a w _ (by omega) (by rw [hF]; simpa using hl) hall hs hk fun tm' h' nx' r' a' w' k1 k2 k3 => hg .nrm tm' h' nx' r' a' w' k1 k2 k3
      · cases hc
  | seq x y ihx ihy =>
    intro ac hc F ch hF hch tm h nx K a w r Q hk hs hg
    simp only [compC] at hc
    split at hc
    · rename_i x' y' hx hy
      cases hc
      refine WpN.seq (ihx x' hx F ch hF hch tm h nx _ a w r _ hk hs fun e tm' h' nx' r' a' w' k1 k2 k3 => ?_)
      cases e with
      | nrm => exact ihy y' hy F ch hF hch tm' h' nx' K a' w' r' Q k1 k2 (hg.ev k3)
      | exit id => exact hg _ _ _ _ _ _ _ k1 k2 k3
      | ret => exact hg _ _ _ _ _ _ _ k1 k2 k3
    · cases hc
  | cond c x y ihx ihy =>
    intro ac hc F ch hF hch tm h nx K a w r Q hk hs hg
    simp only [compC] at hc
    split at hc
    · rename_i c' x' y' hcx hx hy
      cases hc
      have hk : evK tm c' fun v => match v with
        | .bool x => Bool.rec (motive := fun _ => Prop) (den y' ch tm h nx K) (den x' ch tm h nx K) x
        | _ => False := hk
      obtain ⟨v, k1, k2, k3⟩ := evK_spec (cx_spec hcx) hs.tr hk
      split at k1
      · rename_i b
        cases b with
        | true => exact WpN.cond (t := true) (by rw [k2]; simp [conc]) (ihx x' hx F ch hF hch tm h nx K a w r Q k1 hs hg)
        | false => exact WpN.cond (t := false) (by rw [k2]; simp [conc]) (ihy y' hy F ch hF hch tm h nx K a w r Q k1 hs hg)
      · exact k1.elim
    · cases hc
  | block id b ih =>
    intro ac hc F ch hF hch tm h nx K a w r Q hk hs hg
    simp only [compC] at hc
    split at hc
    · rename_i b' hb
      cases hc
      refine WpN.block (ih b' hb F ch hF hch tm h nx _ a w r _ hk hs fun e tm' h' nx' r' a' w' k1 k2 k3 => ?_)
      cases e with
      | nrm => exact hg .nrm _ _ _ _ _ _ k1 k2 k3
      | ret => exact hg .ret _ _ _ _ _ _ k1 k2 k3
      | exit i =>
        simp only [toExit, Exit.inBlock]
        have k1 : Bool.rec (motive := fun _ => Prop) (K (.exit i) tm' h' nx') (K .nrm tm' h' nx') (Nat.beq i id) := k1
        cases hb : Nat.beq i id with
        | true =>
          rw [hb] at k1
          rw [if_pos (Nat.eq_of_beq_eq_true hb)]
          exact hg .nrm _ _ _ _ _ _ k1 k2 k3
        | false =>
          rw [hb] at k1
          rw [if_neg (fun e => by rw [e, Nat.beq_refl] at hb; cases hb)]
          exact hg (.exit i) _ _ _ _ _ _ k1 k2 k3
    · cases hc
  | loop b ih =>
    intro ac hc F ch hF hch tm h nx K a w r Q hk hs hg
    simp only [compC] at hc
    split at hc
    · rename_i b' hb
      cases hc
      exact wp_of_loop (loop_sound (ih b' hb F ch hF hch) 1000000 tm h nx K a w r Q hk hs hg)
    · cases hc
  | exit id =>
    intro ac hc F ch hF hch tm h nx K a w r Q hk hs hg
    simp only [compC] at hc; cases hc
    exact WpN.of (wpIn_exit (hg (.exit id) tm h nx r a w hk hs (.refl r h w)))
  | ret =>
    intro ac hc F ch hF hch tm h nx K a w r Q hk hs hg
    simp only [compC] at hc; cases hc
    exact WpN.of (wpIn_ret (hg .ret tm h nx r a w hk hs (.refl r h w)))
  | rangeFunc g ps x y ihx ihy =>
    intro ac hc F ch hF hch tm h nx K a w r Q hk hs hg
    simp only [compC] at hc
    split at hc
    · rename_i g' ps' x' y' hg' hps hx hy
      cases hc
      exact range_sound hF hch (cx_spec hg') hps (ihx x' hx) (ihy y' hy) tm h nx K a w r Q hk hs hg
    · cases hc
  | scope b ih =>
    intro ac hc F ch hF hch tm h nx K a w r Q hk hs hg
    simp only [compC] at hc
    refine wp_scope (ih ac hc F ch hF hch tm h nx K a w r _ hk hs fun e tm' h' nx' r' a' w' k1 k2 k3 => ?_)
    cases e <;> exact hg _ _ _ _ _ _ _ k1 k2 k3
  | label l =>
    intro ac hc F ch hF hch tm h nx K a w r Q hk hs hg
    simp only [compC] at hc; cases hc
    exact WpN.of (wpIn_label (hg .nrm tm h nx r a w hk hs (.refl r h w)))
  | goto l =>
    intro ac hc F ch hF hch tm h nx K a w r Q hk hs hg
    simp only [compC] at hc; cases hc
    exact hk.elim
  | refuse => intro ac hc; simp [compC] at hc

theorem FunOk.sem {f : Nat} {af : AF} (hm : P.follows .mixedOrders = true) (hf : FunOk P f af) : FunSem P f af :=
  fun _ ch hcur hch _ _ _ _ _ _ _ hk hE H ha hR => call_sound hcur hf (fun F c ac hc => den_sound hm F.m c ac hc F ch rfl hch) hE H ha hk hR

theorem call_ok {funs : T AF} (hf : FunsOk P funs) : ∀ n, CHok P w0 (callN funs n)
  | 0 => fun _ _ _ _ _ _ _ _ _ hk => hk.elim
  | n + 1 => fun loops p args h nx K r w R hk hE H ha hR => by
    obtain ⟨af, haf, hk⟩ := (T.getK_iff _ _ _).1 hk
    exact hf p af haf w0 ⟨callN funs n, none, loops⟩ rfl (call_ok hf n) args h nx K r w R hk hE H ha hR

/-- a call from outside, of plain arguments -/
theorem run_sound {funs : T AF} (hf : FunsOk P funs) {n : Nat} {p : Pt} {args : List AV} {R : Ending → World → Prop} (w : World) (xs : Array Value) (hx : (∀ r, concL r args = xs.toList) ∧ ∀ n, okL n args) {K : AV → T AO → Pt → Prop}
    (hk : callN funs n .l p args .l .e K) (hR : ∀ v h nx r w', K v h nx → WR P w r h nx w' → okV r.has v → R (.returned (conc r v)) w') : Calls P p.toNat xs w R := by
  have L : Loop := { state := .ready, pending := none, fn := 0, tmps := #[], params := #[], assign := .skip, body := .skip, defers := 0 }
  have H : WR P w ⟨fun _ => False, fun _ => False, fun _ => 0, fun _ => 0, fun _ => L⟩ .l .e w := ⟨fun _ e => e.elim (fun e => e.elim) (fun e => e.elim), fun _ e => e.elim, Below.refl _ _, fun k o hk => (by rw [T.find_l] at hk; cases hk), fun j k oj ok hj => (by rw [T.find_l] at hj; cases hj)⟩
  have := (call_ok hf n .l p args .l .e K ⟨fun _ => False, fun _ => False, fun _ => 0, fun _ => 0, fun _ => L⟩ w R hk (fun k rs hk => (by rw [T.find_l] at hk; cases hk)) H (hx.2 _) fun v h' nx' r' w' c1 c2 c3 c4 => hR v h' nx' r' w' c1 c2 c4).2
  rw [hx.1] at this
  simpa using this

end
end Go.Proofs.Ytfnehpgefcnjgaa.X

/- An executor for closed calls, 28: a table of functions. -/
namespace Go.Proofs.Ytfnehpgefcnjgaa.X

def compF (P : Program) (f : Nat) : Option AF := match P.funcs[f]? with
  | none => none
  | some fn => match fn.name == "runtime.NumGoroutine" with
    | true => none
    | false => match fn.body with
      | none => none
      | some c => match compC P fn.ntmps c with
        | none => none
        | some ac => match mapO (compR P) fn.results.toList with
          | none => none
          | some rs => some ⟨den ac, rs⟩

theorem FunOk.of {P : Program} {f : Nat} {af : AF} (h : compF P f = some af) : FunOk P f af := by
  unfold compF at h
  split at h
  · cases h
  · rename_i fn hfn
    split at h
    · cases h
    · rename_i hname
      split at h
      · cases h
      · rename_i c hc
        split at h
        · cases h
        · rename_i ac hac
          split at h
          · cases h
          · rename_i rs hrs
            cases h
            exact ⟨fn, c, hfn, hname, hc, ⟨ac, hac, rfl⟩, hrs⟩

theorem FunSem.of {P : Program} {f : Nat} {af : AF} (hm : P.follows .mixedOrders = true) (h : compF P f = some af) : FunSem P f af := (FunOk.of h).sem hm

def TabOk (P : Program) (s : Pt → Pt) (t : T AF) : Prop := ∀ p af, t.find p = some af → FunSem P (s p).toNat af

theorem TabOk.l {P : Program} {s : Pt → Pt} : TabOk P s .l := fun p af h => by rw [T.find_l] at h; cases h

theorem TabOk.m {P : Program} {s : Pt → Pt} {a b : T AF} (ha : TabOk P (fun p => s (.z p)) a) (hb : TabOk P (fun p => s (.o p)) b) : TabOk P s (.m a b) := fun p af h => by
  cases p with
  | e => cases h
  | z p => exact ha p af h
  | o p => exact hb p af h

theorem TabOk.n {P : Program} {s : Pt → Pt} {a b : T AF} {v : AF} (hv : FunSem P (s .e).toNat v) (ha : TabOk P (fun p => s (.z p)) a) (hb : TabOk P (fun p => s (.o p)) b) : TabOk P s (.n a v b) := fun p af h => by
  cases p with
  | e => cases h; exact hv
  | z p => exact ha p af h
  | o p => exact hb p af h

theorem TabOk.funs {P : Program} {t : T AF} (h : TabOk P (fun p => p) t) : FunsOk P t := h

end Go.Proofs.Ytfnehpgefcnjgaa.X

/- An executor for closed calls, 38 (in a seat without tables): a function without arguments that answers true, told. -/
namespace Go.Proofs.Ytfnehpgefcnjgaa.X
open Go.RowKit

section
variable {P : Program} {w0 : World} {r : Rho} {h : T AO} {nx : Pt} {w w' : World}

/-- some known blocks have turned -/
theorem WR.turn (H : WR P w0 r h nx w) {h' : T AO} (hB : Below w0.heap.size w0 w') (h1 : ∀ k o, h'.find k = some o → (h.find k = some o ∧ w'.heap[r.blk k]? = w.heap[r.blk k]?) ∨ ((∃ o0, h.find k = some o0) ∧ okO r.has o ∧ BR P r k o (w'.heap[r.blk k]?))) : WR P w0 r h' nx w' := by
  have key : ∀ k o, h'.find k = some o → ∃ o0, h.find k = some o0 := fun k o hk => by
    rcases h1 k o hk with ⟨g, -⟩ | ⟨g, -⟩
    · exact ⟨o, g⟩
    · exact g
  refine ⟨H.dom, H.dis, hB, fun k o hk => ?_, fun i j oi oj hi hj e => ?_⟩
  · rcases h1 k o hk with ⟨g, e⟩ | ⟨⟨o0, g⟩, g2, g3⟩
    · obtain ⟨a1, a2, a3, a4⟩ := H.has k o g
      exact ⟨a1, a2, a3, by rw [e]; exact a4⟩
    · obtain ⟨a1, a2, -, -⟩ := H.has k o0 g
      exact ⟨a1, a2, g2, g3⟩
  · obtain ⟨x, hx⟩ := key i oi hi
    obtain ⟨y, hy⟩ := key j oj hj
    exact H.apart i j x y hx hy e

end

theorem argsK_full : ∀ {args : List AV} {p : Pt} {tm : T AV} {c : T AV → Prop}, argsK args p tm c → ∃ tm', c tm' ∧ (∀ q : Pt, q.toNat < p.toNat → tm'.find q = tm.find q) ∧ (∀ (q : Pt) i v, q.toNat = p.toNat + i → args[i]? = some v → tm'.find q = some v) ∧
    ∀ (q : Pt), p.toNat + args.length ≤ q.toNat → tm'.find q = tm.find q
  | [], p, tm, c, hk => ⟨tm, hk, fun _ _ => rfl, fun q i v _ h => by simp at h, fun _ _ => rfl⟩
  | x :: l, p, tm, c, hk => by
    have hk : tm.setK x p fun tm => forceP p.succ fun p => argsK l p tm c := hk
    rw [T.setK_iff, forceP_iff] at hk
    obtain ⟨tm', h1, h2, h3, h4⟩ := argsK_full hk
    refine ⟨tm', h1, fun q hq => ?_, fun q i v hq hv => ?_, fun q hq => ?_⟩
    · rw [h2 q (by rw [Pt.toNat_succ]; omega), T.find_set_ne _ _ _ _ (fun e => by rw [e] at hq; omega)]
    · cases i with
      | zero =>
        have : q = p := Pt.inj (by omega)
        subst this
        simp only [List.getElem?_cons_zero, Option.some.injEq] at hv
        rw [h2 q (by rw [Pt.toNat_succ]; omega), T.find_set, hv]
      | succ i => exact h3 q i v (by rw [Pt.toNat_succ]; omega) (by simpa using hv)
    · simp only [List.length_cons] at hq
      rw [h4 q (by rw [Pt.toNat_succ]; omega), T.find_set_ne _ _ _ _ (fun e => by rw [e] at hq; omega)]

/-- the answer is true -/
def isT : AV → T AO → Pt → Prop := fun v _ _ => match v with
  | .bool b => Bool.rec (motive := fun _ => Prop) False True b
  | _ => False

theorem isT_spec {v : AV} {h : T AO} {nx : Pt} (hv : isT v h nx) : v = .bool true := by
  unfold isT at hv
  split at hv
  · rename_i b
    cases b with
    | false => exact hv.elim
    | true => rfl
  · exact hv.elim

theorem true_of_run {P : Program} {funs : T AF} (hf : FunsOk P funs) {n : Nat} {p : Pt} {args : List AV} (w : World) (xs : Array Value) (hx : (∀ r, concL r args = xs.toList) ∧ ∀ n, okL n args) (hk : callN funs n .l p args .l .e isT = True) :
    Calls P p.toNat xs w fun e w' => e = .returned (.bool true) ∧ Below w.heap.size w w' := by
  refine run_sound hf w xs hx (hk ▸ trivial : callN funs n .l p args .l .e isT) fun v h nx r w' hK H hv => ?_
  rw [isT_spec hK]
  exact ⟨by simp [conc], H.below⟩

def liveAF : AF := ⟨fun _ tm h nx K => match tm.find .e with
  | none => tm.setK (.bool true) .e fun tm => K .ret tm h nx
  | some _ => False, [.t .e]⟩

theorem live_sem {P : Program} {f : Nat} (hf : ∃ fn c, P.funcs[f]? = some fn ∧ (fn.name == "runtime.NumGoroutine") = false ∧ fn.body = some c) (hc : ∀ w, Calls P f #[] w fun e w' => e = .returned (.bool true) ∧ Below w.heap.size w w') : FunSem P f liveAF := by
  intro w0 ch hcur hch args h nx K r w R hk hE H ha hR
  obtain ⟨tm, h1, h2, h3, h4⟩ := argsK_full hk
  have h1 : (match tm.find .e with
    | none => tm.setK (.bool true) .e fun tm => retK liveAF.res K .ret tm h nx
    | some _ => False) := h1
  split at h1
  · rename_i hn
    have hargs : args = [] := by
      match args, h3 with
      | [], _ => rfl
      | a :: l, h3 =>
        have := h3 .e 0 a (by simp [Pt.toNat]) (by simp)
        rw [hn] at this; cases this
    subst hargs
    refine ⟨hf, ?_⟩
    have e0 : (concL r []).toArray = #[] := by simp [concL]
    rw [e0]
    refine (hc w).mono fun e w' he => ?_
    obtain ⟨rfl, hB⟩ := he
    rw [T.setK_iff] at h1
    have h1 : (tm.set (.bool true) .e).getK .e fun v => K v h nx := h1
    rw [T.getK_iff, T.find_set] at h1
    obtain ⟨v, hv, h1⟩ := h1
    cases hv
    have hWR : WR P w0 r h nx w' := H.turn (H.below.trans (hB.mono H.below.size)) fun k o hko => .inl ⟨hko, hB.block _ (H.lt hko)⟩
    have := hR (.bool true) h nx r w' h1 hWR ⟨.refl r, hB.size, fun b hb _ => hB.block b hb, fun k o hko => .inr ⟨k, o, hko, rfl⟩⟩ (by simp [okV])
    simpa [conc] using this
  · exact h1.elim

end Go.Proofs.Ytfnehpgefcnjgaa.X
