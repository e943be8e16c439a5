/- The reference's lift and Clean as plain data: what they make is what the code makes. -/
import Derived.Test.YtbgkeomlfdmkeaaFB
import Derived.Test.YtbgkeomlfdmkeaaPA
import Derived.Test.YtbgkeomlfdmkeaaLVD
import Derived.Test.YtbgkeomlfdmkeaaOJA
namespace Go.Proofs.Ytbgkeomlfdmkeaa
open Go.RowKit Go.Sort

mutual
/-- a term with zero in each field that its form does not have -/
def cleanT : Tm → Tm
  | .mk f n h nm ls ks => .mk f (if f = 1 ∨ f = 11 then n else 0) (if f = 3 ∨ f = 4 ∨ f = 5 then h else false) (if f = 10 then nm else ByteArray.empty) (if f = 2 ∨ f = 10 then ls else []) (cleanTs ks)
def cleanTs : List Tm → List Tm
  | [] => []
  | k :: ks => cleanT k :: cleanTs ks
end

theorem cleanTs_map : ∀ ks : List Tm, cleanTs ks = ks.map cleanT
  | [] => by rw [cleanTs]; rfl
  | k :: ks => by rw [cleanTs, cleanTs_map ks]; rfl

theorem clean_mk (f n : Int) (h : Bool) (nm : ByteArray) (ls : List LvT) (ks : List Tm) : cleanT (.mk f n h nm ls ks) = .mk f (if f = 1 ∨ f = 11 then n else 0) (if f = 3 ∨ f = 4 ∨ f = 5 then h else false) (if f = 10 then nm else ByteArray.empty) (if f = 2 ∨ f = 10 then ls else []) (ks.map cleanT) := by rw [cleanT, cleanTs_map]

theorem clean_form (t : Tm) : (cleanT t).form = t.form := by cases t; rw [clean_mk]; rfl

theorem clean_size (t : Tm) : sizeT (cleanT t) = sizeT t := by
  refine Tm.ind (P := fun t => sizeT (cleanT t) = sizeT t) ?_ t
  intro f n hd nm ls ks ih
  rw [clean_mk, sizeT_mk, sizeT_mk, List.map_map]
  congr 2
  exact List.map_congr_left fun k hk => ih k hk

theorem clean_high (t : Tm) : heightT (cleanT t) = heightT t := by
  refine Tm.ind (P := fun t => heightT (cleanT t) = heightT t) ?_ t
  intro f n hd nm ls ks ih
  rw [clean_mk, heightT_mk, heightT_mk, List.map_map]
  congr 2
  exact List.map_congr_left fun k hk => ih k hk

theorem clean_fields (t : Tm) : fieldsB (cleanT t) = fieldsB t := by
  cases t with
  | mk f n h nm ls ks =>
    rw [clean_mk]
    unfold fieldsB
    by_cases h1 : f = 1 ∨ f = 11
    · simp only [h1, if_true]
    · by_cases h7 : f = 7
      · subst h7
        simp only [h1, if_false, if_true]
        cases ks with
        | nil => rfl
        | cons k ks => simp only [List.map_cons]; rw [clean_form]
      · by_cases h2 : f = 2
        · subst h2; simp
        · by_cases h10 : f = 10
          · subst h10; simp
          · simp only [h1, h7, h2, h10, if_false, or_self]

theorem clean_formed (t : Tm) : formedB (cleanT t) = formedB t := by
  refine Tm.ind (P := fun t => formedB (cleanT t) = formedB t) ?_ t
  intro f n hd nm ls ks ih
  have hf := clean_fields (.mk f n hd nm ls ks)
  rw [clean_mk] at hf ⊢
  rw [formedB_mk, formedB_mk]
  unfold judB
  rw [hf]
  congr 1
  · simp only [Tm.kids, Tm.form, List.length_map]
    first | rfl | congr
  · rw [List.all_map]
    clear hf
    induction ks with
    | nil => rfl
    | cons k ks ihk => simp only [List.all_cons, Function.comp]; rw [ih k (by simp), ihk (fun k' hk' => ih k' (by simp [hk']))]

theorem clean_check (t : Tm) : checkT (cleanT t) = checkT t := by
  unfold checkT; rw [clean_size, clean_high, clean_formed]

theorem smT_clean (m : Nat) (t : Tm) : smT m t → smT m (cleanT t) := by
  refine Tm.ind (P := fun t => smT m t → smT m (cleanT t)) ?_ t
  intro f n hd nm ls ks ih h
  obtain ⟨h1, h2, h3, h4, h5⟩ := (smT_mk _ _ _ _ _ _ _).1 h
  rw [clean_mk, smT_mk]
  refine ⟨?_, ?_, ?_, by simpa using h4, fun k hk => ?_⟩
  · split
    · exact h1
    · exact Nat.zero_le _
  · split
    · exact h2
    · exact Nat.zero_le _
  · intro l hl
    split at hl
    · exact h3 l hl
    · simp at hl
  · obtain ⟨k', hk', rfl⟩ := List.mem_map.1 hk
    exact ih k' hk' (h5 k' hk')

theorem rliftTs_mem (by_ f : Int) : ∀ (ks : List Tm) (i : Nat) (fr : Int) (x : Tm), x ∈ rliftTs by_ f ks i fr → ∃ k ∈ ks, ∃ fr', x = rliftT by_ k fr'
  | [], _, _, x, h => by rw [rliftTs] at h; simp at h
  | k :: ks, i, fr, x, h => by
    rw [rliftTs] at h
    rcases List.mem_cons.1 h with rfl | h
    · exact ⟨k, by simp, _, rfl⟩
    · obtain ⟨k', hk', b', e⟩ := rliftTs_mem by_ f ks (i + 1) fr x h
      exact ⟨k', by simp [hk'], b', e⟩

theorem smT_rlift (by_ : Int) (m : Nat) (t : Tm) : ∀ (fr : Int), smT m t → smT m (rliftT by_ t fr) := by
  refine Tm.ind (P := fun t => ∀ (fr : Int), smT m t → smT m (rliftT by_ t fr)) ?_ t
  intro f n hd nm ls ks ih fr h
  obtain ⟨h1, h2, h3, h4, h5⟩ := (smT_mk _ _ _ _ _ _ _).1 h
  rw [rliftT]
  split
  · exact (smT_mk _ _ _ _ _ _ _).2 ⟨h1, h2, h3, h4, h5⟩
  · refine (smT_mk _ _ _ _ _ _ _).2 ⟨h1, h2, h3, by rw [rliftTs_len]; exact h4, fun x hx => ?_⟩
    obtain ⟨k, hk, fr', rfl⟩ := rliftTs_mem _ _ _ _ _ _ hx
    exact ih k hk fr' (h5 k hk)

theorem formed_ind2 {P : Tm → Prop} (hv : ∀ n h nm ls, P (.mk 1 n h nm ls [])) (hc : ∀ f n h nm ls ks, f ≠ 1 → (ks.length : Int) = kidsR f → (∀ k ∈ ks, P k) → P (.mk f n h nm ls ks)) (t : Tm) : formedB t = true → P t := by
  refine Tm.ind (P := fun t => formedB t = true → P t) ?_ t
  intro f n hd nm ls ks ih h
  obtain ⟨h1, h2⟩ := formed_len h
  by_cases hf : f = 1
  · subst hf
    have : ks = [] := List.length_eq_zero_iff.1 (by unfold kidsR at h1; rw [if_pos (by omega)] at h1; omega)
    subst this
    exact hv n hd nm ls
  · exact hc f n hd nm ls ks hf h1 (fun k hk => ih k hk (h2 k hk))

/-- what the code makes is what the reference makes, cleaned -/
theorem lift_is (fr by_ : Int) (t : Tm) : formedB t = true → ∀ b, liftT fr by_ t b = cleanT (rliftT by_ t (fr + b)) := by
  refine formed_ind2 (P := fun t => ∀ b, liftT fr by_ t b = cleanT (rliftT by_ t (fr + b))) ?_ ?_ t
  · intro n h nm ls b
    rw [lift_var, rliftT]
    by_cases hn : fr ≤ n - b
    · rw [if_pos hn, if_pos ⟨rfl, by omega⟩, clean_mk]; rfl
    · rw [if_neg hn, if_neg (by omega), rliftTs, clean_mk]; rfl
  · intro f n h nm ls ks hf hl ih b
    rw [lift_mk hf, rliftT, if_neg (by omega), clean_mk]
    have hk : ∀ (ys xs : List Tm), xs ++ ys = ks → mapK (liftT fr by_) f ys xs.length b = (rliftTs by_ f ys xs.length (fr + b)).map cleanT := by
      intro ys
      induction ys with
      | nil => intro xs _; rw [mapK, rliftTs]; rfl
      | cons y ys ihy =>
        intro xs e
        have hi : xs.length < ks.length := by rw [← e]; simp
        rw [mapK, rliftTs, List.map_cons]
        have h1 := ih y (by rw [← e]; simp) (deepC f b xs.length)
        have h2 : fr + deepC f b xs.length = deepR f (fr + b) xs.length := by
          rw [← deep_same hl (fr + b) hi, deep_add]
        rw [h1, h2]
        have h3 := ihy (xs ++ [y]) (by rw [List.append_assoc]; exact e)
        rw [List.length_append, List.length_singleton] at h3
        rw [h3]
    have := hk ks [] rfl
    simp only [List.length_nil] at this
    rw [this, cl]
    congr 1
    by_cases h11 : f = 11
    · rw [if_pos h11, if_pos (Or.inr h11)]
    · rw [if_neg h11, if_neg (by omega)]

/-- what the reference's Lift answers is what the code's does -/
theorem lift_whole {fr by_ : Int} {t : Tm} (hc : checkT t = 0) : checkT (liftT fr by_ t 0) = checkT (rliftT by_ t fr) ∧ liftT fr by_ t 0 = cleanT (rliftT by_ t fr) := by
  have h := lift_is fr by_ t (check_ok hc).2.2 0
  rw [show fr + 0 = fr by omega] at h
  rw [h, clean_check]
  exact ⟨rfl, rfl⟩
end Go.Proofs.Ytbgkeomlfdmkeaa

/- Levels replaced in a term, as plain data: the code's walk and the reference's are one. -/
namespace Go.Proofs.Ytbgkeomlfdmkeaa
open Go.RowKit Go.Sort

mutual
/-- the reference's PutLevels -/
def rputT (args : List LvT) : Tm → Option Tm
  | .mk f n h nm ls ks => match (if f = 2 ∨ f = 10 then levL args ls else some ls), rputTs args ks with
    | some l, some k => some (.mk f n h nm l k)
    | _, _ => none
def rputTs (args : List LvT) : List Tm → Option (List Tm)
  | [] => some []
  | k :: ks => match rputT args k, rputTs args ks with
    | some x, some r => some (x :: r)
    | _, _ => none
end

theorem rputTs_len {args : List LvT} : ∀ {ks r : List Tm}, rputTs args ks = some r → r.length = ks.length
  | [], r, h => by simp [rputTs] at h; rw [← h]
  | k :: ks, r, h => by
    rw [rputTs] at h
    cases h1 : rputT args k with
    | none => rw [h1] at h; simp at h
    | some x =>
      cases h2 : rputTs args ks with
      | none => rw [h1, h2] at h; simp at h
      | some q =>
        rw [h1, h2] at h
        simp at h
        rw [← h]; simp [rputTs_len h2]

theorem rputTs_append {args : List LvT} : ∀ (xs ys : List Tm), rputTs args (xs ++ ys) = (rputTs args xs).bind fun r => (rputTs args ys).map (r ++ ·)
  | [], ys => by simp [rputTs]
  | x :: xs, ys => by
    rw [List.cons_append, rputTs, rputTs, rputTs_append xs ys]
    cases rputT args x with
    | none => rfl
    | some q =>
      cases rputTs args xs with
      | none => rfl
      | some r => cases rputTs args ys <;> rfl

theorem rputTs_take {args : List LvT} {ks : List Tm} {j : Nat} {k x : Tm} {d : List Tm} (h : ks[j]? = some k) (hd : rputTs args (ks.take j) = some d) (hx : rputT args k = some x) : rputTs args (ks.take (j + 1)) = some (d ++ [x]) := by
  obtain ⟨hj, rfl⟩ := List.getElem?_eq_some_iff.1 h
  rw [List.take_succ_eq_append_getElem hj, rputTs_append, hd]
  simp [rputTs, hx]

theorem rputTs_bad {args : List LvT} {ks : List Tm} {j : Nat} {k : Tm} (h : ks[j]? = some k) (hx : rputT args k = none) : rputTs args ks = none := by
  obtain ⟨hj, rfl⟩ := List.getElem?_eq_some_iff.1 h
  conv => lhs; rw [← List.take_append_drop j ks]
  rw [rputTs_append, List.drop_eq_getElem_cons hj, rputTs, hx]
  cases rputTs args (ks.take j) <;> rfl

theorem substR_short (n : Int) (xs : List (Int × Int)) (ls : List LvT) : (substR n xs ls).2.1.length ≤ 64 := by
  unfold substR
  split
  · unfold canonR
    split
    · rename_i h; exact (right_n h).2.2
    · simp
  · simp

theorem levL_short {args : List LvT} : ∀ {ls r : List LvT}, levL args ls = some r → ∀ l ∈ r, l.2.length ≤ 64
  | [], r, h => by simp [levL] at h; subst h; simp
  | l :: ls, r, h => by
    rw [levL] at h
    split at h
    · cases hq : levL args ls with
      | none => rw [hq] at h; simp at h
      | some q =>
        rw [hq] at h
        simp at h
        subst h
        intro x hx
        rcases List.mem_cons.1 hx with rfl | hx
        · exact substR_short _ _ _
        · exact levL_short hq x hx
    · simp at h

theorem smT_putL {m : Nat} {args : List LvT} : ∀ {ks r : List Tm}, (∀ k ∈ ks, ∀ x, rputT args k = some x → smT m x) → rputTs args ks = some r → ∀ x ∈ r, smT m x
  | [], r, _, h => by simp [rputTs] at h; subst h; simp
  | k :: ks, r, ih, h => by
    rw [rputTs] at h
    cases h1 : rputT args k with
    | none => rw [h1] at h; simp at h
    | some x =>
      cases h2 : rputTs args ks with
      | none => rw [h1, h2] at h; simp at h
      | some q =>
        rw [h1, h2] at h
        simp at h
        subst h
        intro y hy
        rcases List.mem_cons.1 hy with rfl | hy
        · exact ih k (by simp) _ h1
        · exact smT_putL (fun k' hk' => ih k' (by simp [hk'])) h2 y hy

theorem smT_put {m : Nat} (hm : 64 ≤ m) (args : List LvT) (t : Tm) : smT m t → ∀ x, rputT args t = some x → smT m x := by
  refine Tm.ind (P := fun t => smT m t → ∀ x, rputT args t = some x → smT m x) ?_ t
  intro f n hd nm ls ks ih h x hx
  obtain ⟨h1, h2, h3, h4, h5⟩ := (smT_mk _ _ _ _ _ _ _).1 h
  rw [rputT] at hx
  cases hk : rputTs args ks with
  | none => rw [hk] at hx; cases hq : (if f = 2 ∨ f = 10 then levL args ls else some ls) <;> simp [hq] at hx
  | some r =>
    rw [hk] at hx
    have hkk := smT_putL (fun k hk' x hx' => ih k hk' (h5 k hk') x hx') hk
    have hkl := rputTs_len hk
    by_cases hf : f = 2 ∨ f = 10
    · rw [if_pos hf] at hx
      cases hq : levL args ls with
      | none => rw [hq] at hx; simp at hx
      | some q =>
        rw [hq] at hx
        simp at hx
        subst hx
        rw [smT_mk]
        exact ⟨h1, by rw [levL_len hq]; exact h2, fun l hl => Nat.le_trans (levL_short hq l hl) hm, by omega, hkk⟩
    · rw [if_neg hf] at hx
      simp at hx
      subst hx
      rw [smT_mk]
      exact ⟨h1, h2, h3, by omega, hkk⟩

theorem addAll_cons (r k : Tm) (ks : List Tm) : (r.add k).addAll ks = r.addAll (k :: ks) := by cases r; simp [Tm.add, Tm.addAll]

/-- the walk over kids -/
theorem lev_list (args : List LvT) (f : Int) : ∀ (ks : List Tm) (i : Nat) (s : Bool) (r : Tm) (b p : Int), (∀ k ∈ ks, ∀ (s : Bool) (b p : Int), (∀ x, rputT args k = some x → ∃ s', walkF (levV args) Tm.add k s b p = .ok (s', cleanT x)) ∧ (rputT args k = none → walkF (levV args) Tm.add k s b p = .error 13)) →
    (∀ q, rputTs args ks = some q → ∃ s', walkL (levV args) Tm.add f ks i s r b p = .ok (s', r.addAll (q.map cleanT))) ∧ (rputTs args ks = none → walkL (levV args) Tm.add f ks i s r b p = .error 13)
  | [], i, s, r, b, p, _ => by
    refine ⟨fun q hq => ⟨s, ?_⟩, fun h => by simp [rputTs] at h⟩
    simp [rputTs] at hq
    subst hq
    rw [walkL]
    cases r
    simp [Tm.addAll]
  | k :: ks, i, s, r, b, p, ih => by
    obtain ⟨h1, h2⟩ := ih k (by simp) s (deepC f b i) (p + 1)
    rw [rputTs]
    cases hk : rputT args k with
    | none =>
      refine ⟨fun q hq => by simp at hq, fun _ => ?_⟩
      rw [walkL, h2 hk]
    | some x =>
      obtain ⟨s1, hw⟩ := h1 x hk
      obtain ⟨h3, h4⟩ := lev_list args f ks (i + 1) s1 (r.add (cleanT x)) b p (fun k' hk' => ih k' (by simp [hk']))
      cases hq : rputTs args ks with
      | none =>
        refine ⟨fun q hq => by simp at hq, fun _ => ?_⟩
        rw [walkL, hw]
        exact h4 hq
      | some q =>
        refine ⟨fun q' hq' => ?_, fun h => by simp at h⟩
        simp at hq'
        subst hq'
        obtain ⟨s', he⟩ := h3 q hq
        refine ⟨s', ?_⟩
        rw [walkL, hw]
        simp only []
        rw [he, addAll_cons]
        rfl

theorem lev_walk (args : List LvT) (t : Tm) : ∀ (s : Bool) (b p : Int), (∀ x, rputT args t = some x → ∃ s', walkF (levV args) Tm.add t s b p = .ok (s', cleanT x)) ∧ (rputT args t = none → walkF (levV args) Tm.add t s b p = .error 13) := by
  refine Tm.ind (P := fun t => ∀ (s : Bool) (b p : Int), (∀ x, rputT args t = some x → ∃ s', walkF (levV args) Tm.add t s b p = .ok (s', cleanT x)) ∧ (rputT args t = none → walkF (levV args) Tm.add t s b p = .error 13)) ?_ t
  intro f n hd nm ls ks ih s b p
  rw [rputT, walkF_mk]
  have hlev : (bareT (.mk f n hd nm ls ks)).levels = if f = 2 ∨ f = 10 then ls else [] := rfl
  have hL : ∀ q, (if f = 2 ∨ f = 10 then levL args ls else some ls) = some q → levL args (if f = 2 ∨ f = 10 then ls else []) = some (if f = 2 ∨ f = 10 then q else []) := fun q hq => by
    by_cases hf : f = 2 ∨ f = 10
    · rw [if_pos hf] at hq ⊢; rw [if_pos hf]; exact hq
    · rw [if_neg hf, if_neg hf]; rfl
  cases hq : (if f = 2 ∨ f = 10 then levL args ls else some ls) with
  | none =>
    refine ⟨fun x hx => by simp at hx, fun _ => ?_⟩
    have hf : f = 2 ∨ f = 10 := by
      by_cases hf : f = 2 ∨ f = 10
      · exact hf
      · rw [if_neg hf] at hq; simp at hq
    rw [if_pos hf] at hq
    have : levV args s (.mk f n hd nm ls ks) b p = .error 13 := by unfold levV; rw [hlev, if_pos hf, hq]
    rw [this]
  | some q =>
    have hV : ∃ s1, levV args s (.mk f n hd nm ls ks) b p = .ok (s1, (bareT (.mk f n hd nm ls ks)).setL (if f = 2 ∨ f = 10 then q else [])) := by
      unfold levV; rw [hlev, hL q hq]; exact ⟨_, rfl⟩
    obtain ⟨s1, hV⟩ := hV
    rw [hV]
    obtain ⟨h1, h2⟩ := lev_list args f ks 0 s1 ((bareT (.mk f n hd nm ls ks)).setL (if f = 2 ∨ f = 10 then q else [])) b p (fun k hk s b p => ih k hk s b p)
    cases hk : rputTs args ks with
    | none =>
      refine ⟨fun x hx => by simp at hx, fun _ => h2 hk⟩
    | some r =>
      refine ⟨fun x hx => ?_, fun h => by simp at h⟩
      simp at hx
      subst hx
      obtain ⟨s', he⟩ := h1 r hk
      refine ⟨s', ?_⟩
      simp only []
      rw [he, clean_mk]
      simp only [bareT, Tm.setL, Tm.addAll, List.nil_append]

/-- what Levels answers -/
def levRes (t : Tm) (args : List LvT) : Except Int Tm := if checkT t ≠ 0 then .error (checkT t) else match rputT args t with
  | none => .error 13
  | some x => if checkT x = 0 then .ok (cleanT x) else .error 2
end Go.Proofs.Ytbgkeomlfdmkeaa

/- The contract of term.Levels. -/
namespace Go.Proofs.Ytbgkeomlfdmkeaa
open Go.RowKit Go.Sort

theorem lev_hI (L : Nat) (args : List LvT) (aa : Option Addr) (acap : Nat) (w0 : World) : ∀ s a b M, levI L args aa acap s a → w0.heap.size ≤ M → (∀ k, k = L → k < M) → Kept (fun k => M ≤ k) a b → levI L args aa acap s b := fun s a b M h _ hM hk => ⟨(hk.block L (heap_lt h.1) (by have := hM L rfl; omega)).trans h.1, h.2⟩

set_option maxRecDepth 100000 in
set_option maxHeartbeats 4000000 in
theorem Levels_any (t : Tm) (v : Value) (args : List LvT) (aa : Option Addr) (acap : Nat) (w : World) (hv : TV w v t) (hsm : smT 1000000 t) (hA : LL w aa args) (hal : args.length ≤ 1000000) (hac : args.length ≤ acap) (hax : ∀ l ∈ args, l.2.length ≤ 1000000) : Calls Try.prog 26 #[v, .slice aa args.length acap] w fun e w' => Ans w.heap.size e w' (levRes t args) ∧ RowKit.Below w.heap.size w w' := by
  have HCH := fun (W : World) (h : RowKit.Below w.heap.size w W) => Check_any t v W (hv.on h) hsm
  have HW := fun (hc : checkT t = 0) (L : Nat) (hL : w.heap.size ≤ L) (W : World) (hB : RowKit.Below w.heap.size w W) (hI : levI L args aa acap false W) => walkT_any (w0 := w) (P := fun k => k = L) (I := levI L args aa acap) (bs := #[.pointer (some ⟨L, 0, none⟩)]) GT_kid (fun k hk => by omega) (fun s w' k hI hk => by subst hk; exact heap_lt hI.1) (lev_hI L args aa acap w) cf_leveling (lev_visits L args aa acap w hal hac hax hA hL) t false v 0 0 W ⟨hsm, (check_ok hc).2.2⟩ hI hv hB (by omega) (by omega) (by omega) (Or.inr (by have := (check_ok hc).2.1; omega))
  obtain ⟨hwk1, hwk2⟩ := lev_walk args t false 0 0
  have HSM : Hid (∀ x, rputT args t = some x → smT 1000000 (cleanT x)) := fun x hx => smT_clean _ _ (smT_put (by omega) args t hsm x hx)
  have HR0 : Hid (checkT t ≠ 0 → levRes t args = .error (checkT t)) := fun hc => by unfold levRes; rw [if_pos hc]
  have HR1 : Hid (checkT t = 0 → rputT args t = none → levRes t args = .error 13) := fun hc h => by unfold levRes; rw [if_neg (by simpa using hc), h]
  have HR2 : Hid (∀ x, checkT t = 0 → rputT args t = some x → levRes t args = if checkT (cleanT x) = 0 then .ok (cleanT x) else .error 2) := fun x hc h => by unfold levRes; rw [if_neg (by simpa using hc), h, clean_check]
  generalize levRes t args = R at *
  generalize walkF (levV args) Tm.add t false 0 0 = WK at *
  obtain ⟨la, lc, ka, kc, rfl⟩ := hv.shape
  clear hv hsm hA hax
  generalize checkT t = C at *
  generalize t.form = f at *
  generalize t.n = n at *
  generalize t.hid = hd at *
  generalize t.name = nm at *
  generalize t.levels.length = l1 at *
  generalize t.kids.length = k1 at *
  generalize rputT args t = RP at *
  obtain ⟨W0, hW0⟩ : ∃ W0, (w.alloc (.cells #[.int .i64 f, .int .i64 n, .bool hd, .string nm, .slice la l1 lc, .slice ka k1 kc] 25)).alloc (.cells #[.int .i64 0, .int .i64 0, .bool false, .string { data := #[] }, .slice none 0 0, .slice none 0 0] 25) = W0 := ⟨_, rfl⟩
  have HG0 : Hid (Grew w W0) := by unfold Hid; rw [← hW0]; exact ((Grew.refl w).alloc _).alloc _
  have HX0 : Hid (W0.heap[w.heap.size]? = some (.cells #[.int .i64 f, .int .i64 n, .bool hd, .string nm, .slice la l1 lc, .slice ka k1 kc] 25 (0, 0))) := by unfold Hid; rw [← hW0]; exact box_at
  have HY0 : Hid (W0.heap[w.heap.size + 1]? = some (.cells #[.int .i64 0, .int .i64 0, .bool false, .string { data := #[] }, .slice none 0 0, .slice none 0 0] 25 (0, 0))) := by unfold Hid; rw [← hW0]; exact box_at1
  have hsz0 : W0.heap.size = w.heap.size + 2 := by rw [← hW0]; simp
  have HW0 := Hid.mk hW0
  clear hW0
  by_cases hc : C = 0
  · subst hc
    have HWW := HW rfl
    clear HW HR0
    have HWK1 := Hid.mk hwk1
    have HWK2 := Hid.mk hwk2
    clear hwk1 hwk2
    go_enter Try.func26, Try.ntmps26
    go_wp2_with fail
    rw [HW0.out]
    refine (HCH _ HG0.out.below).mono ?_
    rintro e w1 ⟨rfl, hb1⟩
    have hs1 := hb1.size
    have HB1 : Hid (RowKit.Below w.heap.size w w1) := HG0.out.below.trans (hb1.mono HG0.out.below.size)
    have HX1 := Hid.mk ((hb1.block w.heap.size (heap_lt HX0.out)).trans HX0.out)
    have HY1 := Hid.mk ((hb1.block (w.heap.size + 1) (heap_lt HY0.out)).trans HY0.out)
    clear hb1
    obtain ⟨w2, hw2⟩ : ∃ w2, w1.alloc (.cells #[.slice aa args.length acap, .bool false] 75) = w2 := ⟨_, rfl⟩
    have hb12 : RowKit.Below w1.heap.size w1 w2 := by rw [← hw2]; exact (Below.refl _ _).alloc (Nat.le_refl _) _
    have HB2 : Hid (RowKit.Below w.heap.size w w2) := HB1.out.trans (hb12.mono HB1.out.size)
    have hs2 : w2.heap.size = w1.heap.size + 1 := by rw [← hw2]; simp
    have HY2 := Hid.mk ((hb12.block (w.heap.size + 1) (heap_lt HY1.out)).trans HY1.out)
    have hI2 : levI w1.heap.size args aa acap false w2 := ⟨by rw [← hw2]; exact alloc_new _ _, fun h => by cases h⟩
    have HC := HWW w1.heap.size HB1.out.size w2 HB2.out hI2
    have HW2 := Hid.mk hw2
    clear hw2 hb12 hI2 HWW
    obtain ⟨x0, x1, x2, x3, x4, x5, x6⟩ := cells6 HX1.out
    go_wp2_with fail
    rw [HW2.out]
    refine HC.mono ?_
    rintro e w3 ⟨hk3, hout⟩
    have hs3 := hk3.size
    have HY3 := Hid.mk ((hk3.block (w.heap.size + 1) (by omega) (by omega)).trans HY2.out)
    have HB3 : Hid (RowKit.Below w.heap.size w w3) := HB2.out.trans (hk3.below HB2.out.size (fun k hk => by have := HB1.out.size; omega))
    clear hk3 HC x0 x1 x2 x3 x4 x5 x6
    cases RP with
    | none =>
      rw [HWK2.out rfl] at hout
      obtain ⟨-, v3, hsh, rfl⟩ := hout
      have HAN := answered_err v3 13 w3 hsh (by decide)
      obtain ⟨z0, z1, z2, z3, z4, z5, z6, z7, z8, z9, rfl⟩ := hsh
      have HE : Hid (R = .error 13) := HR1.out (by trivial) rfl
      go_wp2_with fail
      refine HAN.mono ?_
      rintro e w4 ⟨rfl, hb4⟩
      have hs4 := hb4.size
      have hby := (hb4.block (w.heap.size + 1) (by omega)).trans HY3.out
      obtain ⟨y0, y1, y2, y3, y4, y5, y6⟩ := cells6 hby
      have fy := frz hby
      have HB4 : Hid (RowKit.Below w.heap.size w w4) := HB3.out.trans (hb4.mono HB3.out.size)
      clear hby hb4 HAN
      unfold zeroV
      go_wp2
      refine bodyPost_ret (v := .tuple #[zeroV, .int .i64 13]) (by simp [results, Try.results26, go_sem, zeroV, y0, y1, y2, y3, y4, y5]) rfl ⟨by rw [HE.out]; rfl, ?_⟩
      exact HB4.out.trans ((keep6 (P := fun k => k = w.heap.size + 1) rfl).below HB4.out.size (fun k hk => by omega))
    | some x =>
      obtain ⟨s', hw⟩ := HWK1.out x rfl
      rw [hw] at hout
      obtain ⟨⟨v3, rfl, hto⟩, -⟩ := hout
      have HAN := answered_ok w2.heap.size v3 (cleanT x) w3 hto (HSM.out x rfl)
      obtain ⟨z0, z1, z2, z3, z4, z5, z6, z7, z8, z9, rfl⟩ := hto.shapeE
      have HE := Hid.mk (HR2.out x (by trivial) rfl)
      clear hto hw
      generalize cleanT x = CX at *
      go_wp2_with fail
      refine HAN.mono ?_
      rintro e w4 ⟨hans, hb4⟩
      have hs4 := hb4.size
      have hby := (hb4.block (w.heap.size + 1) (by omega)).trans HY3.out
      obtain ⟨y0, y1, y2, y3, y4, y5, y6⟩ := cells6 hby
      have fy := frz hby
      have HB4 : Hid (RowKit.Below w.heap.size w w4) := HB3.out.trans (hb4.mono HB3.out.size)
      clear hby hb4 HAN
      by_cases hcl : checkT CX = 0
      · rw [if_pos hcl] at hans HE
        obtain ⟨v4, rfl, ht4⟩ := hans
        have HT4 := Hid.mk ht4
        obtain ⟨o0, o1, o2, o3, o4, o5, o6, o7, o8, o9, rfl⟩ := ht4.shapeE
        clear ht4 hcl
        go_wp2
        refine bodyPost_ret (v := .tuple #[.agg #[.int .i64 o0, .int .i64 o1, .bool o2, .string o3, .slice o4 o5 o6, .slice o7 o8 o9], .int .i64 0]) (by simp [results, Try.results26, go_sem, y0, y1, y2, y3, y4, y5]) rfl ⟨?_, ?_⟩
        · rw [HE.out]
          refine ⟨_, rfl, ?_⟩
          rw [size6]
          exact (HT4.out.on (fun k h1 h2 => (keep6 (P := fun k => k = w.heap.size + 1) rfl).block k h2 (by omega))).mono (by omega) (Nat.le_refl _)
        · exact HB4.out.trans ((keep6 (P := fun k => k = w.heap.size + 1) rfl).below HB4.out.size (fun k hk => by omega))
      · rw [if_neg hcl] at hans HE
        have hans : e = .returned (.tuple #[zeroV, .int .i64 2]) := hans
        subst hans
        unfold zeroV
        clear hcl
        go_wp2
        refine bodyPost_ret (v := .tuple #[zeroV, .int .i64 2]) (by simp [results, Try.results26, go_sem, zeroV, y0, y1, y2, y3, y4, y5]) rfl ⟨by rw [HE.out]; rfl, ?_⟩
        exact HB4.out.trans ((keep6 (P := fun k => k = w.heap.size + 1) rfl).below HB4.out.size (fun k hk => by omega))
  · have hcb : (C != 0) = true := by simpa using hc
    have hcb' : (C == 0) = false := by simpa using hc
    have HE : Hid (R = .error C) := HR0.out hc
    clear HW HR0 HR1 HR2 hwk1 hwk2
    go_enter Try.func26, Try.ntmps26
    go_wp2_with fail
    rw [HW0.out]
    refine (HCH _ HG0.out.below).mono ?_
    rintro e w1 ⟨rfl, hb1⟩
    have hs1 := hb1.size
    have HB1 : Hid (RowKit.Below w.heap.size w w1) := HG0.out.below.trans (hb1.mono HG0.out.below.size)
    have hby := (hb1.block (w.heap.size + 1) (heap_lt HY0.out)).trans HY0.out
    obtain ⟨y0, y1, y2, y3, y4, y5, y6⟩ := cells6 hby
    have fy := frz hby
    clear hb1 hby
    go_wp2
    refine bodyPost_ret (v := .tuple #[zeroV, .int .i64 C]) (by simp [results, Try.results26, go_sem, zeroV, y0, y1, y2, y3, y4, y5]) rfl ⟨by rw [HE.out]; rfl, ?_⟩
    exact HB1.out.trans ((keep6 (P := fun k => k = w.heap.size + 1) rfl).below HB1.out.size (fun k hk => by omega))
end Go.Proofs.Ytbgkeomlfdmkeaa
