/- The contracts of level.value, level.Eval, level.greatestAdd and level.Bound. -/
import Derived.Test.YtphemmifckdjjaaA
namespace Go.Proofs.Ytphemmifckdjjaa
open Go.RowKit Go.Sort

/-- A slice at address a holds the numbers vs in world w. -/
def IL (w : World) (a : Option Addr) (vs : List Int) : Prop :=
  vs = [] ∨ ∃ b off, a = some ⟨b, off, none⟩ ∧ b < w.heap.size ∧ ∀ i, i < vs.length → w.cell? ⟨b, off + i, none⟩ = some (.int .i64 (vs[i]?.getD 0))

theorem IL.below {w w' : World} {a : Option Addr} {xs : List Int} (h : IL w a xs) (hb : Below w.heap.size w w') : IL w' a xs := by
  rcases h with h | ⟨b, off, ha, hlt, hc⟩
  · exact Or.inl h
  · refine Or.inr ⟨b, off, ha, Nat.lt_of_lt_of_le hlt hb.size, fun i hi => ?_⟩
    rw [hb.cell (p := ⟨b, off + i, none⟩) hlt]; exact hc i hi

theorem IL.at {w : World} {a : Option Addr} {xs : List Int} (h : IL w a xs) {k : Nat} (hk : k < xs.length) :
    ∃ b off x, a = some ⟨b, off, none⟩ ∧ b < w.heap.size ∧ w.cell? ⟨b, off + k, none⟩ = some (.int .i64 x) ∧ Hid (xs[k]? = some x) := by
  rcases h with h | ⟨b, off, ha, hlt, hc⟩
  · subst h; simp at hk
  · exact ⟨b, off, _, ha, hlt, hc k hk, by unfold Hid; simp [hk]⟩

/-- a variable's value: below 0 it is 0, above 2^62 it is 2^62 -/
def valOf (vs : List Int) (v : Nat) : Int := min (max (vs[v]?.getD 0) 0) 4611686018427387904

theorem ret_int {k : IntKind} {a b : Int} (h : a = b) : Ending.returned (.int k a) = .returned (.int k b) := by rw [h]

theorem valOf_bd (vs : List Int) (v : Nat) : 0 ≤ valOf vs v ∧ valOf vs v ≤ 4611686018427387904 := by unfold valOf; omega

set_option maxHeartbeats 400000 in
theorem value_any (vs : List Int) (a : Option Addr) (cap : Nat) (v : Nat) (w : World) (hS : IL w a vs) (_hn : vs.length ≤ 35184372088832) (_hv : v ≤ 1000) :
    Calls Try.prog 42 #[.slice a vs.length cap, .int .i64 v] w fun e w' => e = .returned (.int .i64 (valOf vs v)) ∧ w' = w := by
  by_cases hlt : v < vs.length
  · obtain ⟨b, off, x, rfl, hbl, hc, hx⟩ := hS.at hlt
    have HE : Hid (valOf vs v = min (max x 0) 4611686018427387904) := by unfold Hid; simp [valOf, hx.out]
    clear hS
    go_enter Try.func42, Try.ntmps42
    go_wp2
    all_goals
      go_ret
      exact ⟨ret_int (by rw [HE.out]; omega), rfl⟩
  · clear hS
    have HE : Hid (valOf vs v = 0) := by unfold Hid; simp [valOf, List.getElem?_eq_none (by omega : vs.length ≤ v)]; omega
    go_enter Try.func42, Try.ntmps42
    go_wp2
    go_ret
    exact ⟨ret_int HE.out.symm, rfl⟩

/-- the number of a level that is right, by vs -/
def evalL (vs : List Int) (n : Int) (xs : List (Int × Int)) : Int := xs.foldl (fun m p => max m (valOf vs p.1.toNat + p.2)) n

theorem take_fold {β : Type} {f : β → Int × Int → β} {n : β} {xs : List (Int × Int)} {k : Nat} {z : Int × Int} (h : xs[k]? = some z) : (xs.take (k + 1)).foldl f n = f ((xs.take k).foldl f n) z := by
  obtain ⟨hk, rfl⟩ := List.getElem?_eq_some_iff.1 h
  rw [List.take_succ_eq_append_getElem hk, List.foldl_append]; simp

theorem right_at {n : Int} {xs : List (Int × Int)} (h : rightB n xs = true) {k : Nat} {x y : Int} (hk : xs[k]? = some (x, y)) : 0 ≤ x ∧ x ≤ 1000 ∧ 0 ≤ y ∧ y ≤ 1000 := by
  simp only [rightB, Bool.and_eq_true, List.all_eq_true, inR, decide_eq_true_eq] at h
  obtain ⟨hk, e⟩ := List.getElem?_eq_some_iff.1 hk
  have := h.2 (x, y) (e ▸ List.getElem_mem hk)
  simp at this; omega

theorem right_n {n : Int} {xs : List (Int × Int)} (h : rightB n xs = true) : 0 ≤ n ∧ n ≤ 1000 ∧ xs.length ≤ 64 := by
  simp only [rightB, Bool.and_eq_true, inR, decide_eq_true_eq] at h; omega

set_option maxHeartbeats 800000 in
theorem Eval_any (n : Int) (xs : List (Int × Int)) (a : Option Addr) (cap : Nat) (vs : List Int) (va : Option Addr) (vcap : Nat) (w : World) (hS : SL w a xs) (hn : xs.length ≤ 35184372088832) (hV : IL w va vs) (hvn : vs.length ≤ 35184372088832) :
    Calls Try.prog 25 #[.agg #[.int .i64 n, .slice a xs.length cap], .slice va vs.length vcap] w fun e w' => e = .returned (.int .i64 (if rightB n xs then evalL vs n xs else 0)) ∧ Grew w w' := by
  have HS := Hid.mk hS
  have HV := Hid.mk hV
  clear hS hV
  have HR := fun (W : World) (h : SL W a xs) => right_any n xs a cap W h hn
  cases hr : rightB n xs
  · simp only [hr] at HR
    go_enter Try.func25, Try.ntmps25
    go_wp2_with (first | (go_at_call 33; refine (HR _ (HS.out.below ((Grew.refl _).alloc _).below)).mono ?_; rintro e w' ⟨rfl, hb⟩))
    go_ret
    exact ⟨rfl, ((Grew.refl _).alloc _).trans hb⟩
  · simp only [hr] at HR
    obtain ⟨hn0, hn1, hl64⟩ := right_n hr
    have HRt := Hid.mk hr
    clear hr
    go_enter Try.func25, Try.ntmps25
    go_wp2_with (first | (go_at_call 33; refine (HR _ (HS.out.below ((Grew.refl _).alloc _).below)).mono ?_; rintro e w1 ⟨rfl, hb1⟩; obtain ⟨hc1, hf1⟩ := bcell hb1.below; have HB1 : Hid (Grew w w1) := ((Grew.refl _).alloc _).trans hb1; clear HR hb1))
    clear hc1 hf1
    go_loopw [5, 17] (fun m i wr => ∃ k : Nat, k ≤ xs.length ∧ i = .int .i64 k ∧ Grew w wr ∧ m = .int .i64 (evalL vs n (xs.take k))) (fun _ i _ => xs.length - (intOf i).toNat)
    case atStart => exact ⟨0, Nat.zero_le _, rfl, HB1.out, rfl⟩
    case round =>
      clear HB1
      obtain ⟨k, hk, rfl, hb, rfl⟩ := hrel
      by_cases hlt : k < xs.length
      · obtain ⟨b, off, x, y, rfl, hbl, hc0, hc1, hxy⟩ := (HS.out.below hb.below).at hlt
        have hbb := hb.below.size
        obtain ⟨hx0, hx1, hy0, hy1⟩ := right_at HRt.out hxy.out
        obtain ⟨v, rfl⟩ := Int.eq_ofNat_of_zero_le hx0
        obtain ⟨hv0, hv1⟩ := valOf_bd vs v
        have HE : Hid (evalL vs n (xs.take (k + 1)) = max (evalL vs n (xs.take k)) (valOf vs v + y)) := by unfold Hid evalL; rw [take_fold hxy.out]; simp
        generalize evalL vs n (xs.take k) = m at *
        go_wp2_with (first | (go_at_call 42; refine (value_any vs va vcap v _ (by exact HV.out.below ((hb.alloc _).alloc _).below) hvn (by omega)).mono ?_; rintro e w' ⟨rfl, rfl⟩) | go_in)
        refine ⟨⟨k + 1, hlt, by go_num, (hb.alloc _).alloc _, ?_⟩, by simp [intOf]; omega⟩
        rw [HE.out]
        exact congrArg (Value.int .i64) (by omega)
      · go_wp2
        go_ret
        have hk' : k = xs.length := by omega
        subst hk'
        rw [List.take_length]
        exact ⟨by simp, hb⟩
/-- the greatest Add of a variable, or -1 -/
def gAdd (v : Int) (xs : List (Int × Int)) : Int := xs.foldl (fun m p => if p.1 = v then max m p.2 else m) (-1)

set_option maxHeartbeats 800000 in
theorem greatestAdd_any (n : Int) (xs : List (Int × Int)) (a : Option Addr) (cap : Nat) (v : Int) (w : World) (hS : SL w a xs) (hn : xs.length ≤ 35184372088832) :
    Calls Try.prog 50 #[.agg #[.int .i64 n, .slice a xs.length cap], .int .i64 v] w fun e w' => e = .returned (.int .i64 (gAdd v xs)) ∧ Grew w w' := by
  have HS := Hid.mk hS
  clear hS
  go_enter Try.func50, Try.ntmps50
  go_wp2
  go_loopw [5, 11] (fun m i wr => ∃ k : Nat, k ≤ xs.length ∧ i = .int .i64 k ∧ Grew w wr ∧ m = .int .i64 (gAdd v (xs.take k))) (fun _ i _ => xs.length - (intOf i).toNat)
  case atStart => exact ⟨0, Nat.zero_le _, rfl, (Grew.refl _).alloc _, rfl⟩
  case round =>
    obtain ⟨k, hk, rfl, hb, rfl⟩ := hrel
    by_cases hlt : k < xs.length
    · obtain ⟨b, off, x, y, rfl, hbl, hc0, hc1, hxy⟩ := (HS.out.below hb.below).at hlt
      have hbb := hb.below.size
      have HE : Hid (gAdd v (xs.take (k + 1)) = if x = v then max (gAdd v (xs.take k)) y else gAdd v (xs.take k)) := by unfold Hid gAdd; rw [take_fold hxy.out]
      generalize gAdd v (xs.take k) = m at *
      by_cases he : x = v
      · have he' : (x == v) = true := by simp [he]
        have HX := Hid.mk he
        clear he
        go_wp2
        all_goals
          refine ⟨⟨k + 1, hlt, by go_num, hb.alloc _, ?_⟩, by simp [intOf]; omega⟩
          rw [HE.out, if_pos HX.out]
          exact congrArg (Value.int .i64) (by omega)
      · have he' : (x == v) = false := by simp [he]
        have HX := Hid.mk he
        clear he
        go_wp2
        refine ⟨⟨k + 1, hlt, by go_num, hb.alloc _, ?_⟩, by simp [intOf]; omega⟩
        rw [HE.out, if_neg HX.out]
    · go_wp2
      go_ret
      have hk' : k = xs.length := by omega
      subst hk'
      rw [List.take_length]
      exact ⟨rfl, hb⟩

/-- the least number above all Vars -/
def boundL (xs : List (Int × Int)) : Int := xs.foldl (fun m p => max m (p.1 + 1)) 0

set_option maxHeartbeats 800000 in
theorem Bound_any (n : Int) (xs : List (Int × Int)) (a : Option Addr) (cap : Nat) (w : World) (hS : SL w a xs) (hn : xs.length ≤ 35184372088832) :
    Calls Try.prog 27 #[.agg #[.int .i64 n, .slice a xs.length cap]] w fun e w' => e = .returned (.int .i64 (if rightB n xs then boundL xs else 0)) ∧ Grew w w' := by
  have HS := Hid.mk hS
  clear hS
  have HR := fun (W : World) (h : SL W a xs) => right_any n xs a cap W h hn
  cases hr : rightB n xs
  · simp only [hr] at HR
    go_enter Try.func27, Try.ntmps27
    go_wp2_with (first | (go_at_call 33; refine (HR _ (HS.out.below ((Grew.refl _).alloc _).below)).mono ?_; rintro e w' ⟨rfl, hb⟩))
    go_ret
    exact ⟨rfl, ((Grew.refl _).alloc _).trans hb⟩
  · simp only [hr] at HR
    obtain ⟨hn0, hn1, hl64⟩ := right_n hr
    have HRt := Hid.mk hr
    clear hr
    go_enter Try.func27, Try.ntmps27
    go_wp2_with (first | (go_at_call 33; refine (HR _ (HS.out.below ((Grew.refl _).alloc _).below)).mono ?_; rintro e w1 ⟨rfl, hb1⟩; obtain ⟨hc1, hf1⟩ := bcell hb1.below; have HB1 : Hid (Grew w w1) := ((Grew.refl _).alloc _).trans hb1; clear HR hb1))
    clear hc1 hf1
    go_loopw [3, 12] (fun m i wr => ∃ k : Nat, k ≤ xs.length ∧ i = .int .i64 k ∧ Grew w wr ∧ m = .int .i64 (boundL (xs.take k))) (fun _ i _ => xs.length - (intOf i).toNat)
    case atStart => exact ⟨0, Nat.zero_le _, rfl, HB1.out, rfl⟩
    case round =>
      clear HB1
      obtain ⟨k, hk, rfl, hb, rfl⟩ := hrel
      by_cases hlt : k < xs.length
      · obtain ⟨b, off, x, y, rfl, hbl, hc0, hc1, hxy⟩ := (HS.out.below hb.below).at hlt
        have hbb := hb.below.size
        obtain ⟨hx0, hx1, hy0, hy1⟩ := right_at HRt.out hxy.out
        have HE : Hid (boundL (xs.take (k + 1)) = max (boundL (xs.take k)) (x + 1)) := by unfold Hid boundL; rw [take_fold hxy.out]
        generalize boundL (xs.take k) = m at *
        go_wp2
        all_goals
          refine ⟨⟨k + 1, hlt, by go_num, hb.alloc _, ?_⟩, by simp [intOf]; omega⟩
          rw [HE.out]
          exact congrArg (Value.int .i64) (by omega)
      · go_wp2
        go_ret
        have hk' : k = xs.length := by omega
        subst hk'
        rw [List.take_length]
        exact ⟨by simp, hb⟩
end Go.Proofs.Ytphemmifckdjjaa
