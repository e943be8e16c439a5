/- Lifting and replacing, as plain data: what is lifted is not touched; replacements of two variables may be made in either order. -/
import Derived.Test.YtndjdeiccmhelaaGreatOM
import Derived.Test.YtndjdeiccmhelaaGreatCD
namespace Go.Proofs.YtndjdeiccmhelaaGreat
open Go.RowKit Go.Sort

/-- each kid by itself, at its own depth -/
def mapK (F : Tm → Int → Tm) (f : Int) : List Tm → Nat → Int → List Tm
  | [], _, _ => []
  | k :: ks, i, b => F k (deepC f b i) :: mapK F f ks (i + 1) b

mutual
/-- a term with a variable replaced -/
def substT (at_ : Int) (s : Tm) : Tm → Int → Tm
  | .mk f n h nm ls ks, b => if f = 1 ∧ n - b = at_ then liftT 0 b s 0 else (if f = 1 ∧ at_ < n - b then (bareT (.mk f n h nm ls ks)).setN (n - 1) else bareT (.mk f n h nm ls ks)).addAll (substTs at_ s f ks 0 b)
def substTs (at_ : Int) (s : Tm) (f : Int) : List Tm → Nat → Int → List Tm
  | [], _, _ => []
  | k :: ks, i, b => substT at_ s k (deepC f b i) :: substTs at_ s f ks (i + 1) b
end

theorem liftTs_map (fr by_ f : Int) : ∀ (ks : List Tm) (i : Nat) (b : Int), liftTs fr by_ f ks i b = mapK (liftT fr by_) f ks i b
  | [], i, b => by rw [liftTs, mapK]
  | k :: ks, i, b => by rw [liftTs, mapK, liftTs_map fr by_ f ks]

theorem substTs_map (at_ : Int) (s : Tm) (f : Int) : ∀ (ks : List Tm) (i : Nat) (b : Int), substTs at_ s f ks i b = mapK (substT at_ s) f ks i b
  | [], i, b => by rw [substTs, mapK]
  | k :: ks, i, b => by rw [substTs, mapK, substTs_map at_ s f ks]

theorem deep_add (f d c : Int) (i : Nat) : deepC f (d + c) i = d + deepC f c i := by
  unfold deepC; split <;> omega

theorem deep_nonneg {f c : Int} (h : 0 ≤ c) (i : Nat) : 0 ≤ deepC f c i := by
  unfold deepC; split <;> omega

theorem mapK_comp (F G : Tm → Int → Tm) (f d : Int) : ∀ (ks : List Tm) (i : Nat) (c : Int), mapK F f (mapK G f ks i c) i (d + c) = mapK (fun k c => F (G k c) (d + c)) f ks i c
  | [], i, c => by simp [mapK]
  | k :: ks, i, c => by rw [mapK, mapK, mapK, mapK_comp F G f d ks, deep_add]

theorem mapK_congr {F G : Tm → Int → Tm} (f : Int) : ∀ (ks : List Tm) (i : Nat) (c : Int), 0 ≤ c → (∀ k ∈ ks, ∀ c, 0 ≤ c → F k c = G k c) → mapK F f ks i c = mapK G f ks i c
  | [], i, c, _, _ => by simp [mapK]
  | k :: ks, i, c, hc, h => by rw [mapK, mapK, h k (by simp) _ (deep_nonneg hc i), mapK_congr f ks (i + 1) c hc (fun k' hk' => h k' (by simp [hk']))]

/-- a variable, in its own fields alone -/
def vr (n : Int) : Tm := .mk 1 n false ByteArray.empty [] []

/-- another part, in its own fields alone, with these kids -/
def cl (f n : Int) (h : Bool) (nm : ByteArray) (ls : List LvT) (ks : List Tm) : Tm := .mk f (if f = 11 then n else 0) (if f = 3 ∨ f = 4 ∨ f = 5 then h else false) (if f = 10 then nm else ByteArray.empty) (if f = 2 ∨ f = 10 then ls else []) ks

theorem bare_cl {f n : Int} {h : Bool} {nm : ByteArray} {ls : List LvT} {ks : List Tm} (hf : f ≠ 1) (ks' : List Tm) : (bareT (.mk f n h nm ls ks)).addAll ks' = cl f n h nm ls ks' := by
  simp [bareT, Tm.addAll, cl, hf]

theorem lift_mk {fr by_ f n : Int} {h : Bool} {nm : ByteArray} {ls : List LvT} {ks : List Tm} (hf : f ≠ 1) (b : Int) : liftT fr by_ (.mk f n h nm ls ks) b = cl f n h nm ls (mapK (liftT fr by_) f ks 0 b) := by
  rw [liftT, if_neg (fun h => hf h.1), bare_cl hf, liftTs_map]

theorem lift_cl {fr by_ f n : Int} {h : Bool} {nm : ByteArray} {ls : List LvT} {ks : List Tm} (hf : f ≠ 1) (b : Int) : liftT fr by_ (cl f n h nm ls ks) b = cl f n h nm ls (mapK (liftT fr by_) f ks 0 b) := by
  rw [cl, lift_mk hf]; simp only [cl]; congr 1 <;> (repeat' split) <;> simp_all

theorem subst_mk {at_ f n : Int} {s : Tm} {h : Bool} {nm : ByteArray} {ls : List LvT} {ks : List Tm} (hf : f ≠ 1) (b : Int) : substT at_ s (.mk f n h nm ls ks) b = cl f n h nm ls (mapK (substT at_ s) f ks 0 b) := by
  rw [substT, if_neg (fun h => hf h.1), if_neg (fun h => hf h.1), bare_cl hf, substTs_map]

theorem subst_cl {at_ f n : Int} {s : Tm} {h : Bool} {nm : ByteArray} {ls : List LvT} {ks : List Tm} (hf : f ≠ 1) (b : Int) : substT at_ s (cl f n h nm ls ks) b = cl f n h nm ls (mapK (substT at_ s) f ks 0 b) := by
  rw [cl, subst_mk hf]; simp only [cl]; congr 1 <;> (repeat' split) <;> simp_all

theorem lift_var (fr by_ n : Int) (h : Bool) (nm : ByteArray) (ls : List LvT) (b : Int) : liftT fr by_ (.mk 1 n h nm ls []) b = vr (if fr ≤ n - b then n + by_ else n) := by
  rw [liftT, liftTs]
  by_cases hc : fr ≤ n - b
  · rw [if_pos ⟨rfl, hc⟩, if_pos hc]; simp [bareT, Tm.setN, Tm.addAll, vr]
  · rw [if_neg (fun h => hc h.2), if_neg hc]; simp [bareT, Tm.addAll, vr]

theorem subst_var (at_ : Int) (s : Tm) (n : Int) (h : Bool) (nm : ByteArray) (ls : List LvT) (b : Int) : substT at_ s (.mk 1 n h nm ls []) b = if n - b = at_ then liftT 0 b s 0 else vr (if at_ < n - b then n - 1 else n) := by
  rw [substT, substTs]
  by_cases hc : n - b = at_
  · rw [if_pos ⟨rfl, hc⟩, if_pos hc]
  · rw [if_neg (fun h => hc h.2), if_neg hc]
    by_cases hd : at_ < n - b
    · rw [if_pos ⟨rfl, hd⟩, if_pos hd]; simp [bareT, Tm.setN, Tm.addAll, vr]
    · rw [if_neg (fun h => hd h.2), if_neg hd]; simp [bareT, Tm.addAll, vr]

theorem lift_vr (fr by_ n b : Int) : liftT fr by_ (vr n) b = vr (if fr ≤ n - b then n + by_ else n) := lift_var fr by_ n _ _ _ b
theorem subst_vr (at_ : Int) (s : Tm) (n b : Int) : substT at_ s (vr n) b = if n - b = at_ then liftT 0 b s 0 else vr (if at_ < n - b then n - 1 else n) := subst_var at_ s n _ _ _ b

/-- right terms, by their parts -/
theorem formed_ind {P : Tm → Prop} (hv : ∀ n h nm ls, P (.mk 1 n h nm ls [])) (hc : ∀ f n h nm ls ks, f ≠ 1 → (∀ k ∈ ks, P k) → P (.mk f n h nm ls ks)) (t : Tm) : formedB t = true → P t := by
  refine Tm.ind (P := fun t => formedB t = true → P t) ?_ t
  intro f n h nm ls ks ih hf
  obtain ⟨h1, h2⟩ := formed_len hf
  by_cases h0 : f = 1
  · subst h0
    have : ks = [] := List.length_eq_zero_iff.1 (by unfold kidsR at h1; rw [if_pos (by omega)] at h1; omega)
    subst this
    exact hv n h nm ls
  · exact hc f n h nm ls ks h0 (fun k hk => ih k hk (h2 k hk))

theorem lift_lift {b c : Int} (hc0 : 0 ≤ c) (u : Tm) : formedB u = true → ∀ d, 0 ≤ d → liftT 0 b (liftT 0 c u d) (c + d) = liftT 0 (b + c) u d := by
  refine formed_ind (P := fun u => ∀ d, 0 ≤ d → liftT 0 b (liftT 0 c u d) (c + d) = liftT 0 (b + c) u d) ?_ ?_ u
  · intro n h nm ls d hd
    rw [lift_var, lift_var, lift_vr]
    congr 1
    by_cases h1 : 0 ≤ n - d
    · rw [if_pos h1, if_pos h1, if_pos (by omega)]; omega
    · rw [if_neg h1, if_neg h1, if_neg (by omega)]
  · intro f n h nm ls ks hf ih d hd
    rw [lift_mk hf, lift_mk hf, lift_cl hf, mapK_comp]
    exact congrArg _ (mapK_congr f ks 0 d hd (fun k hk e he => ih k hk e he))

theorem lift_lift0 {b c : Int} (hc0 : 0 ≤ c) (u : Tm) : formedB u = true → ∀ d, 0 ≤ d → liftT 0 b (liftT 0 c u d) (0 + d) = liftT 0 (b + c) u d := by
  refine formed_ind (P := fun u => ∀ d, 0 ≤ d → liftT 0 b (liftT 0 c u d) (0 + d) = liftT 0 (b + c) u d) ?_ ?_ u
  · intro n h nm ls d hd
    rw [lift_var, lift_var, lift_vr]
    congr 1
    by_cases h1 : 0 ≤ n - d
    · rw [if_pos h1, if_pos h1, if_pos (by omega)]; omega
    · rw [if_neg h1, if_neg h1, if_neg (by omega)]
  · intro f n h nm ls ks hf ih d hd
    rw [lift_mk hf, lift_mk hf, lift_cl hf, mapK_comp]
    exact congrArg _ (mapK_congr f ks 0 d hd (fun k hk e he => ih k hk e he))

theorem subst_lift {b : Int} (hb : 0 ≤ b) (u : Tm) (hu : formedB u = true) (s : Tm) : formedB s = true → ∀ c, 0 ≤ c → substT 0 u (liftT 0 b s c) (b + c) = liftT 0 b (substT 0 u s c) c := by
  refine formed_ind (P := fun s => ∀ c, 0 ≤ c → substT 0 u (liftT 0 b s c) (b + c) = liftT 0 b (substT 0 u s c) c) ?_ ?_ s
  · intro n h nm ls c hc
    rw [lift_var, subst_var, subst_vr]
    rcases (show n - c < 0 ∨ n - c = 0 ∨ 0 < n - c by omega) with h1 | h1 | h1
    · rw [if_neg (show ¬ 0 ≤ n - c by omega), if_neg (show ¬ n - (b + c) = 0 by omega), if_neg (show ¬ 0 < n - (b + c) by omega), if_neg (show ¬ n - c = 0 by omega), if_neg (show ¬ 0 < n - c by omega), lift_vr, if_neg (show ¬ 0 ≤ n - c by omega)]
    · rw [if_pos (show 0 ≤ n - c by omega), if_pos (show n + b - (b + c) = 0 by omega), if_pos h1]
      have := lift_lift (b := b) hc u hu 0 (by omega)
      rw [show c + 0 = c by omega] at this
      rw [this]
    · rw [if_pos (show 0 ≤ n - c by omega), if_neg (show ¬ n + b - (b + c) = 0 by omega), if_pos (show 0 < n + b - (b + c) by omega), if_neg (show ¬ n - c = 0 by omega), if_pos h1, lift_vr, if_pos (show 0 ≤ n - 1 - c by omega)]
      congr 1; omega
  · intro f n h nm ls ks hf ih c hc
    rw [lift_mk hf, subst_mk hf, subst_cl hf, lift_cl hf, mapK_comp]
    have := mapK_comp (liftT 0 b) (substT 0 u) f 0 ks 0 c
    rw [show 0 + c = c by omega] at this
    rw [this]
    refine congrArg _ (mapK_congr f ks 0 c hc (fun k hk e he => ?_))
    rw [show 0 + e = e by omega]
    exact ih k hk e he

theorem subst_over {b : Int} (hb : 0 ≤ b) (d : Tm) (u : Tm) : formedB u = true → ∀ c, 0 ≤ c → substT 0 d (liftT 0 (b + 1) u c) (b + c) = liftT 0 b u c := by
  refine formed_ind (P := fun u => ∀ c, 0 ≤ c → substT 0 d (liftT 0 (b + 1) u c) (b + c) = liftT 0 b u c) ?_ ?_ u
  · intro n h nm ls c hc
    rw [lift_var, lift_var, subst_vr]
    by_cases h1 : 0 ≤ n - c
    · rw [if_pos h1, if_pos h1, if_neg (show ¬ n + (b + 1) - (b + c) = 0 by omega), if_pos (show 0 < n + (b + 1) - (b + c) by omega)]
      congr 1; omega
    · rw [if_neg h1, if_neg h1, if_neg (show ¬ n - (b + c) = 0 by omega), if_neg (show ¬ 0 < n - (b + c) by omega)]
  · intro f n h nm ls ks hf ih c hc
    rw [lift_mk hf, lift_mk hf, subst_cl hf, mapK_comp]
    exact congrArg _ (mapK_congr f ks 0 c hc (fun k hk e he => ih k hk e he))

theorem subst_two (s u : Tm) (hs : formedB s = true) (hu : formedB u = true) (t : Tm) : formedB t = true → ∀ b, 0 ≤ b → substT 0 u (substT 0 s t b) b = substT 0 (substT 0 u s 0) (substT 1 (liftT 0 1 u 0) t b) b := by
  refine formed_ind (P := fun t => ∀ b, 0 ≤ b → substT 0 u (substT 0 s t b) b = substT 0 (substT 0 u s 0) (substT 1 (liftT 0 1 u 0) t b) b) ?_ ?_ t
  · intro n h nm ls b hb
    rw [subst_var, subst_var]
    rcases (show n - b < 0 ∨ n - b = 0 ∨ n - b = 1 ∨ 1 < n - b by omega) with h1 | h1 | h1 | h1
    · rw [if_neg (show ¬ n - b = 0 by omega), if_neg (show ¬ 0 < n - b by omega), if_neg (show ¬ n - b = 1 by omega), if_neg (show ¬ 1 < n - b by omega), subst_vr, subst_vr, if_neg (show ¬ n - b = 0 by omega), if_neg (show ¬ n - b = 0 by omega)]
    · rw [if_pos h1, if_neg (show ¬ n - b = 1 by omega), if_neg (show ¬ 1 < n - b by omega), subst_vr, if_pos h1]
      have := subst_lift hb u hu s hs 0 (by omega)
      rwa [show b + 0 = b by omega] at this
    · rw [if_neg (show ¬ n - b = 0 by omega), if_pos (show 0 < n - b by omega), if_pos h1, subst_vr, if_pos (show n - 1 - b = 0 by omega)]
      have e1 := lift_lift0 (b := b) (c := 1) (by omega) u hu 0 (by omega)
      rw [show (0 : Int) + 0 = 0 by omega] at e1
      rw [e1]
      have e2 := subst_over hb (substT 0 u s 0) u hu 0 (by omega)
      rw [show b + 0 = b by omega] at e2
      rw [e2]
    · rw [if_neg (show ¬ n - b = 0 by omega), if_pos (show 0 < n - b by omega), if_neg (show ¬ n - b = 1 by omega), if_pos h1, subst_vr, subst_vr, if_neg (show ¬ n - 1 - b = 0 by omega), if_neg (show ¬ n - 1 - b = 0 by omega)]
  · intro f n h nm ls ks hf ih b hb
    rw [subst_mk hf, subst_mk hf, subst_cl hf, subst_cl hf]
    have e1 := mapK_comp (substT 0 u) (substT 0 s) f 0 ks 0 b
    have e2 := mapK_comp (substT 0 (substT 0 u s 0)) (substT 1 (liftT 0 1 u 0)) f 0 ks 0 b
    rw [show 0 + b = b by omega] at e1 e2
    rw [e1, e2]
    refine congrArg _ (mapK_congr f ks 0 b hb (fun k hk e he => ?_))
    rw [show 0 + e = e by omega]
    exact ih k hk e he

theorem sub_list (at_ z : Int) (s : Tm) (f : Int) : ∀ (ks : List Tm) (i : Nat) (room : Int) (r : Tm) (b p room' : Int) (r' : Tm), (∀ k ∈ ks, ∀ (room b p room' : Int) (r : Tm), walkF (repV at_ z s) Tm.add k room b p = .ok (room', r) → r = substT at_ s k b) → walkL (repV at_ z s) Tm.add f ks i room r b p = .ok (room', r') → r' = r.addAll (mapK (substT at_ s) f ks i b)
  | [], i, room, r, b, p, room', r', _, h => by
    rw [walkL] at h
    simp only [Except.ok.injEq, Prod.mk.injEq] at h
    rw [mapK, addAll_nil, h.2]
  | k :: ks, i, room, r, b, p, room', r', ih, h => by
    rw [walkL] at h
    cases hw : walkF (repV at_ z s) Tm.add k room (deepC f b i) (p + 1) with
    | error e => rw [hw] at h; simp at h
    | ok q =>
      obtain ⟨room1, r1⟩ := q
      rw [hw] at h
      simp only [] at h
      rw [sub_list at_ z s f ks (i + 1) room1 (r.add r1) b p room' r' (fun k' hk' => ih k' (by simp [hk'])) h, add_addAll, mapK, ih k (by simp) _ _ _ _ _ hw]

/-- what the walk makes is the term with the variable replaced -/
theorem sub_walk (at_ z : Int) (s t : Tm) : formedB t = true → ∀ (room b p room' : Int) (r : Tm), walkF (repV at_ z s) Tm.add t room b p = .ok (room', r) → r = substT at_ s t b := by
  refine formed_ind (P := fun t => ∀ (room b p room' : Int) (r : Tm), walkF (repV at_ z s) Tm.add t room b p = .ok (room', r) → r = substT at_ s t b) ?_ ?_ t
  · intro n h nm ls room b p room' r hw
    rw [walkF_mk] at hw
    rw [subst_var]
    have hV : repV at_ z s room (.mk 1 n h nm ls []) b p = if n - b = at_ then (if room - z < 0 then .error 2 else .ok (room - z, liftT 0 b s 0)) else if room - 1 < 0 then .error 2 else .ok (room - 1, vr (if at_ < n - b then n - 1 else n)) := by
      simp only [repV, Tm.form, Tm.n, true_and]
      by_cases h1 : n - b = at_
      · rw [if_pos h1, if_pos h1]
      · rw [if_neg h1, if_neg h1]
        by_cases h2 : at_ < n - b
        · simp [h2, bareT, Tm.setN, vr]
        · simp [h2, bareT, vr]
    rw [hV] at hw
    by_cases h1 : n - b = at_
    · rw [if_pos h1] at hw ⊢
      by_cases h2 : room - z < 0
      · rw [if_pos h2] at hw; simp at hw
      · rw [if_neg h2] at hw
        simp only [walkL, Except.ok.injEq, Prod.mk.injEq] at hw
        exact hw.2.symm
    · rw [if_neg h1] at hw ⊢
      by_cases h2 : room - 1 < 0
      · rw [if_pos h2] at hw; simp at hw
      · rw [if_neg h2] at hw
        simp only [walkL, Except.ok.injEq, Prod.mk.injEq] at hw
        exact hw.2.symm
  · intro f n h nm ls ks hf ih room b p room' r hw
    rw [walkF_mk] at hw
    have hV : repV at_ z s room (.mk f n h nm ls ks) b p = if room - 1 < 0 then .error 2 else .ok (room - 1, bareT (.mk f n h nm ls ks)) := by
      simp [repV, Tm.form, hf]
    rw [hV] at hw
    by_cases hr : room - 1 < 0
    · rw [if_pos hr] at hw; simp at hw
    · rw [if_neg hr] at hw
      simp only [] at hw
      rw [sub_list at_ z s f ks 0 (room - 1) _ b p room' r ih hw, bare_cl hf, subst_mk hf]

/-- a term whose parts have their own fields alone is one with it -/
theorem clean_same (t : Tm) : formedB t = true → ∀ b, 0 ≤ b → sameT (liftT 0 0 t b) t = true := by
  refine formed_ind (P := fun t => ∀ b, 0 ≤ b → sameT (liftT 0 0 t b) t = true) ?_ ?_ t
  · intro n h nm ls b hb
    rw [lift_var, show (if 0 ≤ n - b then n + 0 else n) = n by split <;> omega, vr, sameT]
    simp [fsameB, Tm.form, Tm.n, Tm.kids, sameTs]
  · intro f n h nm ls ks hf ih b hb
    rw [lift_mk hf, cl, sameT]
    have hk : ∀ (ks : List Tm) (i : Nat) (b : Int), 0 ≤ b → (∀ k ∈ ks, ∀ b, 0 ≤ b → sameT (liftT 0 0 k b) k = true) → sameTs (mapK (liftT 0 0) f ks i b) ks = true := by
      intro ks
      induction ks with
      | nil => intro i b _ _; rw [mapK, sameTs]
      | cons k ks ihk =>
        intro i b hb h
        rw [mapK, sameTs, h k (by simp) _ (deep_nonneg hb i), ihk (i + 1) b hb (fun k' hk' => h k' (by simp [hk']))]
        rfl
    have e : sameTs (mapK (liftT 0 0) f ks 0 b) (Tm.mk f n h nm ls ks).kids = true := hk ks 0 b hb ih
    rw [e, Bool.and_true]
    clear e hk ih
    by_cases h11 : f = 11
    · subst h11; simp [fsameB, Tm.form, Tm.n]
    by_cases h3 : f = 3 ∨ f = 4 ∨ f = 5
    · simp [fsameB, Tm.form, Tm.hid, hf, h11, h3]
    by_cases h10 : f = 10
    · subst h10; simp [fsameB, Tm.form, Tm.name, Tm.levels]
    by_cases h2 : f = 2
    · subst h2; simp [fsameB, Tm.form, Tm.levels]
    simp [fsameB, Tm.form, hf, h11, h3, h10, h2]
end Go.Proofs.YtndjdeiccmhelaaGreat
