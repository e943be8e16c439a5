/- The reference's lift and Clean as plain data: what they make is what the code makes. -/
import Derived.Test.YtbgkeomlfdmkeaaFB
import Derived.Test.YtbgkeomlfdmkeaaPA
import Derived.Test.YtbgkeomlfdmkeaaRL
import Derived.Test.YtbgkeomlfdmkeaaOG
import Derived.Test.YtbgkeomlfdmkeaaOD
namespace Go.Proofs.Ytbgkeomlfdmkeaa
open Go.RowKit Go.Sort

mutual
/-- a term with zero in each field that its form does not have -/
def cleanT : Tm → Tm
  | .mk f n h nm ls ks => .mk f (if f = 1 ∨ f = 11 then n else 0) (if f = 3 ∨ f = 4 ∨ f = 5 then h else false) (if f = 10 then nm else ByteArray.empty) (if f = 2 ∨ f = 10 then ls else []) (cleanTs ks)
def cleanTs : List Tm → List Tm
  | [] => []
  | k :: ks => cleanT k :: cleanTs ks
end

theorem cleanTs_map : ∀ ks : List Tm, cleanTs ks = ks.map cleanT
  | [] => by rw [cleanTs]; rfl
  | k :: ks => by rw [cleanTs, cleanTs_map ks]; rfl

theorem clean_mk (f n : Int) (h : Bool) (nm : ByteArray) (ls : List LvT) (ks : List Tm) : cleanT (.mk f n h nm ls ks) = .mk f (if f = 1 ∨ f = 11 then n else 0) (if f = 3 ∨ f = 4 ∨ f = 5 then h else false) (if f = 10 then nm else ByteArray.empty) (if f = 2 ∨ f = 10 then ls else []) (ks.map cleanT) := by rw [cleanT, cleanTs_map]

theorem clean_form (t : Tm) : (cleanT t).form = t.form := by cases t; rw [clean_mk]; rfl

theorem clean_size (t : Tm) : sizeT (cleanT t) = sizeT t := by
  refine Tm.ind (P := fun t => sizeT (cleanT t) = sizeT t) ?_ t
  intro f n hd nm ls ks ih
  rw [clean_mk, sizeT_mk, sizeT_mk, List.map_map]
  congr 2
  exact List.map_congr_left fun k hk => ih k hk

theorem clean_high (t : Tm) : heightT (cleanT t) = heightT t := by
  refine Tm.ind (P := fun t => heightT (cleanT t) = heightT t) ?_ t
  intro f n hd nm ls ks ih
  rw [clean_mk, heightT_mk, heightT_mk, List.map_map]
  congr 2
  exact List.map_congr_left fun k hk => ih k hk

theorem clean_fields (t : Tm) : fieldsB (cleanT t) = fieldsB t := by
  cases t with
  | mk f n h nm ls ks =>
    rw [clean_mk]
    unfold fieldsB
    by_cases h1 : f = 1 ∨ f = 11
    · simp only [h1, if_true]
    · by_cases h7 : f = 7
      · subst h7
        simp only [h1, if_false, if_true]
        cases ks with
        | nil => rfl
        | cons k ks => simp only [List.map_cons]; rw [clean_form]
      · by_cases h2 : f = 2
        · subst h2; simp
        · by_cases h10 : f = 10
          · subst h10; simp
          · simp only [h1, h7, h2, h10, if_false, or_self]

theorem clean_formed (t : Tm) : formedB (cleanT t) = formedB t := by
  refine Tm.ind (P := fun t => formedB (cleanT t) = formedB t) ?_ t
  intro f n hd nm ls ks ih
  have hf := clean_fields (.mk f n hd nm ls ks)
  rw [clean_mk] at hf ⊢
  rw [formedB_mk, formedB_mk]
  unfold judB
  rw [hf]
  congr 1
  · simp only [Tm.kids, Tm.form, List.length_map]
    first | rfl | congr
  · rw [List.all_map]
    clear hf
    induction ks with
    | nil => rfl
    | cons k ks ihk => simp only [List.all_cons, Function.comp]; rw [ih k (by simp), ihk (fun k' hk' => ih k' (by simp [hk']))]

theorem clean_check (t : Tm) : checkT (cleanT t) = checkT t := by
  unfold checkT; rw [clean_size, clean_high, clean_formed]

theorem smT_clean (m : Nat) (t : Tm) : smT m t → smT m (cleanT t) := by
  refine Tm.ind (P := fun t => smT m t → smT m (cleanT t)) ?_ t
  intro f n hd nm ls ks ih h
  obtain ⟨h1, h2, h3, h4, h5⟩ := (smT_mk _ _ _ _ _ _ _).1 h
  rw [clean_mk, smT_mk]
  refine ⟨?_, ?_, ?_, by simpa using h4, fun k hk => ?_⟩
  · split
    · exact h1
    · exact Nat.zero_le _
  · split
    · exact h2
    · exact Nat.zero_le _
  · intro l hl
    split at hl
    · exact h3 l hl
    · simp at hl
  · obtain ⟨k', hk', rfl⟩ := List.mem_map.1 hk
    exact ih k' hk' (h5 k' hk')

theorem rliftTs_mem (by_ f : Int) : ∀ (ks : List Tm) (i : Nat) (fr : Int) (x : Tm), x ∈ rliftTs by_ f ks i fr → ∃ k ∈ ks, ∃ fr', x = rliftT by_ k fr'
  | [], _, _, x, h => by rw [rliftTs] at h; simp at h
  | k :: ks, i, fr, x, h => by
    rw [rliftTs] at h
    rcases List.mem_cons.1 h with rfl | h
    · exact ⟨k, by simp, _, rfl⟩
    · obtain ⟨k', hk', b', e⟩ := rliftTs_mem by_ f ks (i + 1) fr x h
      exact ⟨k', by simp [hk'], b', e⟩

theorem smT_rlift (by_ : Int) (m : Nat) (t : Tm) : ∀ (fr : Int), smT m t → smT m (rliftT by_ t fr) := by
  refine Tm.ind (P := fun t => ∀ (fr : Int), smT m t → smT m (rliftT by_ t fr)) ?_ t
  intro f n hd nm ls ks ih fr h
  obtain ⟨h1, h2, h3, h4, h5⟩ := (smT_mk _ _ _ _ _ _ _).1 h
  rw [rliftT]
  split
  · exact (smT_mk _ _ _ _ _ _ _).2 ⟨h1, h2, h3, h4, h5⟩
  · refine (smT_mk _ _ _ _ _ _ _).2 ⟨h1, h2, h3, by rw [rliftTs_len]; exact h4, fun x hx => ?_⟩
    obtain ⟨k, hk, fr', rfl⟩ := rliftTs_mem _ _ _ _ _ _ hx
    exact ih k hk fr' (h5 k hk)

theorem formed_ind2 {P : Tm → Prop} (hv : ∀ n h nm ls, P (.mk 1 n h nm ls [])) (hc : ∀ f n h nm ls ks, f ≠ 1 → (ks.length : Int) = kidsR f → (∀ k ∈ ks, P k) → P (.mk f n h nm ls ks)) (t : Tm) : formedB t = true → P t := by
  refine Tm.ind (P := fun t => formedB t = true → P t) ?_ t
  intro f n hd nm ls ks ih h
  obtain ⟨h1, h2⟩ := formed_len h
  by_cases hf : f = 1
  · subst hf
    have : ks = [] := List.length_eq_zero_iff.1 (by unfold kidsR at h1; rw [if_pos (by omega)] at h1; omega)
    subst this
    exact hv n hd nm ls
  · exact hc f n hd nm ls ks hf h1 (fun k hk => ih k hk (h2 k hk))

/-- what the code makes is what the reference makes, cleaned -/
theorem lift_is (fr by_ : Int) (t : Tm) : formedB t = true → ∀ b, liftT fr by_ t b = cleanT (rliftT by_ t (fr + b)) := by
  refine formed_ind2 (P := fun t => ∀ b, liftT fr by_ t b = cleanT (rliftT by_ t (fr + b))) ?_ ?_ t
  · intro n h nm ls b
    rw [lift_var, rliftT]
    by_cases hn : fr ≤ n - b
    · rw [if_pos hn, if_pos ⟨rfl, by omega⟩, clean_mk]; rfl
    · rw [if_neg hn, if_neg (by omega), rliftTs, clean_mk]; rfl
  · intro f n h nm ls ks hf hl ih b
    rw [lift_mk hf, rliftT, if_neg (by omega), clean_mk]
    have hk : ∀ (ys xs : List Tm), xs ++ ys = ks → mapK (liftT fr by_) f ys xs.length b = (rliftTs by_ f ys xs.length (fr + b)).map cleanT := by
      intro ys
      induction ys with
      | nil => intro xs _; rw [mapK, rliftTs]; rfl
      | cons y ys ihy =>
        intro xs e
        have hi : xs.length < ks.length := by rw [← e]; simp
        rw [mapK, rliftTs, List.map_cons]
        have h1 := ih y (by rw [← e]; simp) (deepC f b xs.length)
        have h2 : fr + deepC f b xs.length = deepR f (fr + b) xs.length := by
          rw [← deep_same hl (fr + b) hi, deep_add]
        rw [h1, h2]
        have h3 := ihy (xs ++ [y]) (by rw [List.append_assoc]; exact e)
        rw [List.length_append, List.length_singleton] at h3
        rw [h3]
    have := hk ks [] rfl
    simp only [List.length_nil] at this
    rw [this, cl]
    congr 1
    by_cases h11 : f = 11
    · rw [if_pos h11, if_pos (Or.inr h11)]
    · rw [if_neg h11, if_neg (by omega)]

/-- what the reference's Lift answers is what the code's does -/
theorem lift_whole {fr by_ : Int} {t : Tm} (hc : checkT t = 0) : checkT (liftT fr by_ t 0) = checkT (rliftT by_ t fr) ∧ liftT fr by_ t 0 = cleanT (rliftT by_ t fr) := by
  have h := lift_is fr by_ t (check_ok hc).2.2 0
  rw [show fr + 0 = fr by omega] at h
  rw [h, clean_check]
  exact ⟨rfl, rfl⟩
end Go.Proofs.Ytbgkeomlfdmkeaa

/- Rows of levels that grow, with a footprint. -/
namespace Go.Proofs.Ytbgkeomlfdmkeaa
open Go.RowKit Go.Sort

theorem ownsG_shape {w : World} {B n size : Nat} {e : TypeId} {v : Value} {xs : List Value} (h : w.ownsRow B e size v n xs) : ∃ a cap, v = .slice a n cap ∧ n ≤ cap ∧ cap ≤ 9223372036854775807 ∧ (a = none → n = 0 ∧ cap = 0) ∧ ∀ ad, a = some ad → ∃ g, ad = ⟨g, 0, none⟩ ∧ B ≤ g ∧ g < w.heap.size := by
  rcases h.2 with ⟨hv, hn⟩ | ⟨g, cap, cur, hv, hg, hh, hc, hm, hs, ht⟩
  · exact ⟨none, 0, by rw [hv, hn], by omega, by omega, fun _ => ⟨hn, rfl⟩, fun ad h => by cases h⟩
  · exact ⟨_, cap, hv, hc, by unfold maxLen at hm; omega, fun h => (by cases h), fun ad h => ⟨g, (by simpa using h.symm), hg, heap_lt hh⟩⟩

theorem ownsG_block {w W : World} {B n cap size : Nat} {e : TypeId} {a : Option Addr} {xs : List Value} (h : w.ownsRow B e size (.slice a n cap) n xs) (hk : ∀ g, a = some ⟨g, 0, none⟩ → W.heap[g]? = w.heap[g]?) : W.ownsRow B e size (.slice a n cap) n xs := by
  rcases h with ⟨h1, h2⟩
  refine ⟨h1, ?_⟩
  rcases h2 with h2 | ⟨g, cap', cur, hv, hg, hh, r⟩
  · exact Or.inl h2
  · refine Or.inr ⟨g, cap', cur, hv, hg, (hk g ?_).trans hh, r⟩
    simp at hv
    exact hv.1

theorem rowG_block {w : World} {B cap n size : Nat} {e : TypeId} {a : Option Addr} {xs : List Value} (h : w.ownsRow B e size (.slice a n cap) n xs) {k : Nat} (hk : ownB a k = true) : B ≤ k ∧ k < w.heap.size := by
  cases a with
  | none => simp [ownB] at hk
  | some ad =>
    obtain ⟨_, _, e, -, -, -, hg⟩ := ownsG_shape h
    simp only [Value.slice.injEq, true_and] at e
    obtain ⟨rfl, rfl⟩ := e
    obtain ⟨g, rfl, h1, h2⟩ := hg ad rfl
    simp [ownB] at hk
    omega

/-- a row of levels of the call's own, which do not look into it, nor into the blocks of P -/
structure RowL (w : World) (B : Nat) (P : Nat → Bool) (a : Option Addr) (cap : Nat) (ls : List LvT) : Prop where
  go : ∃ xs : List Value, w.ownsRow B 43 2 (.slice a ls.length cap) ls.length xs ∧ ∀ j n vs, ls[j]? = some (n, vs) → xs[j * 2]? = some (.int .i64 n) ∧ ∃ a' cap', xs[j * 2 + 1]? = some (.slice a' vs.length cap') ∧ (a' = none → cap' = 0) ∧ SL (maskB (fun k => P k || ownB a k) w) a' vs

theorem RowL.nil (w : World) (B : Nat) (P : Nat → Bool) : RowL w B P none 0 [] := ⟨[], World.ownsRow_nil _ _ _ _, fun j n vs h => by simp at h⟩

theorem RowL.move {w w' : World} {B cap : Nat} {P : Nat → Bool} {a : Option Addr} {ls : List LvT} (h : RowL w B P a cap ls) (hB : ∀ k, B ≤ k → P k = false) (hs : w.heap.size ≤ w'.heap.size) (hk : ∀ k, k < w.heap.size → P k = false → w'.heap[k]? = w.heap[k]?) : RowL w' B P a cap ls := by
  obtain ⟨xs, hown, hkv⟩ := h.go
  refine ⟨xs, ownsG_block hown fun g hg => ?_, fun j n vs hj => ?_⟩
  · subst hg
    obtain ⟨h1, h2⟩ := World.ownsRow.lt hown g rfl
    exact hk g h2 (hB g h1)
  · obtain ⟨c0, a', cap', c1, hn, hS⟩ := hkv j n vs hj
    refine ⟨c0, a', cap', c1, hn, hS.subF (by rw [maskB_size, maskB_size]; exact hs) (maskB_keeps fun k h1 h2 => ⟨h2, hk k h1 ?_⟩)⟩
    rw [Bool.or_eq_false_iff] at h2; exact h2.1

theorem RowL.snoc {w w' : World} {B cap cap' g : Nat} {P : Nat → Bool} {a : Option Addr} {ls : List LvT} {xs : List Value} {n : Int} {vs : List (Int × Int)} {a' : Option Addr} {c' : Nat} (hkv : ∀ j n vs, ls[j]? = some (n, vs) → xs[j * 2]? = some (.int .i64 n) ∧ ∃ a' cap', xs[j * 2 + 1]? = some (.slice a' vs.length cap') ∧ (a' = none → cap' = 0) ∧ SL (maskB (fun k => P k || ownB a k) w) a' vs) (hl : xs.length = ls.length * 2)
    (hown : w'.ownsRow B 43 2 (.slice (some ⟨g, 0, none⟩) (ls.length + 1) cap') (ls.length + 1) (xs ++ [.int .i64 n, .slice a' vs.length c'])) (hgr : w.grownBy w' (Value.slice a ls.length cap).ownBlock) (hat : (Value.slice a ls.length cap).ownBlock = some g ∨ g = w.heap.size)
    (hn : a' = none → c' = 0) (hnew : SL (maskB (fun k => P k || ownB a k) w) a' vs) : RowL w' B P (some ⟨g, 0, none⟩) cap' (ls ++ [(n, vs)]) := by
  have hmv : ∀ k, k < w.heap.size → (P k || ownB a k) = false → (P k || ownB (some ⟨g, 0, none⟩) k) = false ∧ w'.heap[k]? = w.heap[k]? := by
    intro k hk hp
    rw [Bool.or_eq_false_iff] at hp
    refine ⟨?_, hgr.block k hk (ownB_none hp.2)⟩
    rw [Bool.or_eq_false_iff]
    refine ⟨hp.1, ?_⟩
    simp only [ownB, beq_eq_false_iff_ne]
    rcases hat with hat | hat
    · intro e
      exact ownB_none hp.2 (by rw [← e, hat])
    · omega
  have hsz : (maskB (fun k => P k || ownB a k) w).heap.size ≤ (maskB (fun k => P k || ownB (some ⟨g, 0, none⟩) k) w').heap.size := by rw [maskB_size, maskB_size]; exact hgr.size
  refine ⟨_, by rw [List.length_append]; exact hown, fun j m us hj => ?_⟩
  by_cases h : j < ls.length
  · rw [List.getElem?_append_left h] at hj
    obtain ⟨c0, b', cap2, c1, hn2, hS⟩ := hkv j m us hj
    exact ⟨by rw [List.getElem?_append_left (by omega)]; exact c0, b', cap2, by rw [List.getElem?_append_left (by omega)]; exact c1, hn2, hS.subF hsz (maskB_keeps hmv)⟩
  · obtain rfl : j = ls.length := by
      have := (List.getElem?_eq_some_iff.1 hj).1; simp at this; omega
    simp only [List.getElem?_concat_length, Option.some.injEq, Prod.mk.injEq] at hj
    obtain ⟨rfl, rfl⟩ := hj
    refine ⟨?_, a', c', ?_, hn, hnew.subF hsz (maskB_keeps hmv)⟩
    · rw [List.getElem?_append_right (by omega), hl, Nat.sub_self]; rfl
    · rw [List.getElem?_append_right (by omega), hl, Nat.add_sub_cancel_left]; rfl

/-- the row as the levels of a term -/
theorem RowL.ln {w : World} {B cap : Nat} {P : Nat → Bool} {a : Option Addr} {ls : List LvT} (h : RowL w B P a cap ls) (hB : ∀ k, B ≤ k → P k = false) : LN (maskB P w) a ls ∧ (a = none → cap = 0) ∧ ls.length ≤ cap ∧ cap ≤ 9223372036854775807 := by
  obtain ⟨xs, hown, hkv⟩ := h.go
  obtain ⟨a0, cap0, e, hc, hm, hn, hg⟩ := ownsG_shape hown
  simp only [Value.slice.injEq, true_and] at e
  obtain ⟨rfl, rfl⟩ := e
  have hsub : ∀ p v, (maskB (fun k => P k || ownB a k) w).cell? p = some v → (maskB P w).cell? p = some v := maskB_keeps fun k _ hp => ⟨by rw [Bool.or_eq_false_iff] at hp; exact hp.1, rfl⟩
  refine ⟨?_, fun e => (hn e).2, hc, hm⟩
  cases a with
  | none => exact Or.inl (List.length_eq_zero_iff.1 (hn rfl).1)
  | some ad =>
    obtain ⟨g, rfl, hg1, hg2⟩ := hg ad rfl
    refine Or.inr ⟨g, 0, rfl, by rw [maskB_size]; exact hg2, fun i n vs hi => ?_⟩
    have hi' : i < ls.length := (List.getElem?_eq_some_iff.1 hi).1
    obtain ⟨c0, a', cap', c1, hn', hS⟩ := hkv i n vs hi
    have hcell : ∀ o, (maskB P w).cell? ⟨g, o, none⟩ = w.cell? ⟨g, o, none⟩ := fun o => World.cell?_of_block (maskB_no w (hB g hg1))
    refine ⟨?_, a', cap', ?_, hS.subF (by rw [maskB_size, maskB_size]; exact Nat.le_refl _) hsub, hn'⟩
    · rw [Nat.zero_add, hcell, World.ownsRow.cellAt hown (i * 2) (by omega)]; exact c0
    · rw [Nat.zero_add, hcell, World.ownsRow.cellAt hown (i * 2 + 1) (by omega)]; exact c1

theorem OR.slF {B : Nat} {w : World} {v : Value} {xs : List (Int × Int)} {P : Nat → Bool} (h : OR B w v xs) (hP : ∀ k, B ≤ k → P k = false) : ∃ a cap, v = .slice a xs.length cap ∧ SL (maskB P w) a xs ∧ (a = none → cap = 0) := by
  rcases h.2 with ⟨hv, hn⟩ | ⟨g, cap, cur, hv, hg, hh, hc, hm, hs, ht⟩
  · have : xs = [] := List.length_eq_zero_iff.1 hn
    subst this
    exact ⟨none, 0, hv, Or.inl rfl, fun _ => rfl⟩
  · refine ⟨some ⟨g, 0, none⟩, cap, hv, ?_, fun e => by cases e⟩
    obtain ⟨a', cap', e, hS, -⟩ := h.shape
    rw [hv] at e
    simp only [Value.slice.injEq, true_and] at e
    obtain ⟨rfl, rfl⟩ := e
    rcases hS with hS | ⟨b, off, ha, hlt, hS⟩
    · exact Or.inl hS
    · simp only [Option.some.injEq, Addr.mk.injEq, and_true] at ha
      obtain ⟨rfl, rfl⟩ := ha
      have hcell : ∀ o, (maskB P w).cell? ⟨g, o, none⟩ = w.cell? ⟨g, o, none⟩ := fun o => World.cell?_of_block (maskB_no w (hP g hg))
      exact Or.inr ⟨g, 0, rfl, by rw [maskB_size]; exact hlt, fun i hi => ⟨(hcell _).trans (hS i hi).1, (hcell _).trans (hS i hi).2⟩⟩

/-- append(nil, x...) of pairs, at a step of a region that draws its order -/
theorem step_appV {w : World} {ops : Array Oper} {o : Oper} {a : Act} {K : Act → World → Prop} {Q : Exit → Act → World → Prop} {E : Prop} (hgd : o.guard = none) (s x : Operand) (ho : o.op = .call { callee := .builtin .append, args := #[s, x], argTypes := #[41, 41] })
    (B : Nat) (xs : List (Int × Int)) (a1 : Option Addr) (c1 : Nat) (hs : a.eval s = .slice none 0 0) (hx : a.eval x = .slice a1 xs.length c1) (hS : SL w a1 xs) (hn : a1 = none → c1 = 0) (hl : xs.length ≤ 4398046511104) (hB : B ≤ w.heap.size)
    (h : ∀ v' w', OR B w' v' xs → w.grownBy w' none → K (a.put o.dst v') w') : if Region.wanted o (yielded ops a.tmps) = true then Oper.wp Try.prog o a w K Q else E := by
  have hw : Region.wanted o (yielded ops a.tmps) = true := by simp [Region.wanted, hgd]
  rw [if_pos hw]
  obtain ⟨i0, hi, hz0, hz1, hz2⟩ := info_parts infoLVar
  have hO : OR B w (.slice none 0 0) [] := OR.nil _ _
  cases a1 with
  | none =>
    have hxe : xs = [] := by
      rcases hS with h | ⟨b, off, ha, _⟩
      · exact h
      · cases ha
    subst hxe
    rw [hn rfl] at hx
    have hrun := run_append_owned_none (P := Try.prog) (w := w) B 41 o.type 89 i0 2 Try.underlying41 hi (.slice none 0 0) 0 [] hO
    unfold Oper.wp
    simp only [List.length_nil] at hx
    simp [execOp, ho, resolve, invoke, builtin, hs, hx, hrun, Result.andThen]
    exact h _ w hO ⟨rfl, rfl, rfl, Nat.le_refl _, fun _ _ _ => rfl⟩
  | some ad =>
    have hnews : ∀ j u, (flat xs)[j]? = some u → w.cell? (ad.add j) = some u := by
      rcases hS with h | ⟨b, off, ha, hr⟩
      · subst h; intro j u hu; simp [flat] at hu
      · have ha' : ad = ⟨b, off, none⟩ := by simpa using ha
        subst ha'
        exact SL.flat (Or.inr ⟨b, off, rfl, hr⟩)
    refine wp_append_own _ s x 41 ho B 89 i0 _ 2 16 Try.underlying41 hi hz0 hz1 hz2 rfl (by decide) (.slice none 0 0) 0 [] hs hO ad xs.length c1 (flat xs) hx (flat_length xs) hnews (flat_one xs) (by simp [maxLen]; omega) (by omega) hB ?_
    intro v' w' hown hgr _
    exact h v' w' (by unfold OR; simpa using hown) hgr
end Go.Proofs.Ytbgkeomlfdmkeaa

/- The contract of telamonref1.Clean, form by form. -/
namespace Go.Proofs.Ytbgkeomlfdmkeaa
open Go.RowKit Go.Sort

theorem set5_heap {w : World} {b : Nat} {u0 u1 u2 u3 u4 u5 x : Value} {t : TypeId} (h : w.heap[b]? = some (.cells #[u0, u1, u2, u3, u4, u5] t (0, 0))) : (w.setCell ⟨b, 5, none⟩ x).heap[b]? = some (.cells #[u0, u1, u2, u3, u4, x] t (0, 0)) := by
  rw [setCell_eq]; show (w.heap.modify b _)[b]? = _
  rw [Array.getElem?_modify, if_pos rfl, h]; rfl

theorem set4_heap {w : World} {b : Nat} {u0 u1 u2 u3 u4 u5 x : Value} {t : TypeId} (h : w.heap[b]? = some (.cells #[u0, u1, u2, u3, u4, u5] t (0, 0))) : (w.setCell ⟨b, 4, none⟩ x).heap[b]? = some (.cells #[u0, u1, u2, u3, x, u5] t (0, 0)) := by
  rw [setCell_eq]; show (w.heap.modify b _)[b]? = _
  rw [Array.getElem?_modify, if_pos rfl, h]; rfl
end Go.Proofs.Ytbgkeomlfdmkeaa
