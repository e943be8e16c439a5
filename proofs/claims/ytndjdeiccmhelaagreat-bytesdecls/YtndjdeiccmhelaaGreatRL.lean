/- How a slice of pairs of numbers lies in memory, and the contract of level.right. -/
import Derived.Test.YtndjdeiccmhelaaGreatProg
import Derived.WalkKit
import Derived.WalkSpells
import Derived.WalkLawsBesides
import Derived.Sort.Grow
import Derived.Deep.QuietTactic
import Derived.BigQuiet
import Derived.Deep.RegionHeld3
namespace Go.Proofs.YtndjdeiccmhelaaGreat
open Go.RowKit Go.Sort

/-- w' is w, some draws on, with new blocks behind. -/
def Grew (w w' : World) : Prop := ∃ q os, w' = grow (w.drewN q) os

theorem Grew.refl (w : World) : Grew w w := ⟨0, #[], by simp [grow]; rfl⟩
theorem Grew.trans {a b c : World} (h : Grew a b) (k : Grew b c) : Grew a c := by
  obtain ⟨q, os, rfl⟩ := h
  obtain ⟨r, ps, rfl⟩ := k
  exact ⟨q + r, os ++ ps, by rw [← grow_grow, show (grow (a.drewN q) os).drewN r = grow ((a.drewN q).drewN r) os from rfl, World.drewN_drewN]⟩
theorem Grew.alloc {a b : World} (h : Grew a b) (o : Obj) : Grew a (b.alloc o) := h.trans ⟨0, #[o], by rw [alloc_eq_grow]; rfl⟩
theorem Grew.drewN {a b : World} (h : Grew a b) (n : Nat) : Grew a (b.drewN n) := h.trans ⟨n, #[], by simp⟩
theorem Grew.drew {a b : World} (h : Grew a b) : Grew a b.drew := h.drewN 1
theorem Grew.below {a b : World} (h : Grew a b) : Below a.heap.size a b := by
  obtain ⟨q, os, rfl⟩ := h
  exact ⟨rfl, rfl, rfl, by simp [World.drewN], fun k hk => by rw [heap_grow_old _ _ (by simpa [World.drewN] using hk)]; rfl⟩

/-- A slice at address a holds the pairs xs in world w. -/
def SL (w : World) (a : Option Addr) (xs : List (Int × Int)) : Prop :=
  xs = [] ∨ ∃ b off, a = some ⟨b, off, none⟩ ∧ b < w.heap.size ∧ ∀ i, i < xs.length → w.cell? ⟨b, off + i * 2, none⟩ = some (.int .i64 (xs[i]?.getD (0, 0)).1) ∧ w.cell? ⟨b, off + i * 2 + 1, none⟩ = some (.int .i64 (xs[i]?.getD (0, 0)).2)

theorem SL.below {w w' : World} {a : Option Addr} {xs : List (Int × Int)} (h : SL w a xs) (hb : Below w.heap.size w w') : SL w' a xs := by
  rcases h with h | ⟨b, off, ha, hlt, hc⟩
  · exact Or.inl h
  · refine Or.inr ⟨b, off, ha, Nat.lt_of_lt_of_le hlt hb.size, fun i hi => ?_⟩
    rw [hb.cell (p := ⟨b, off + i * 2, none⟩) hlt, hb.cell (p := ⟨b, off + i * 2 + 1, none⟩) hlt]; exact hc i hi

theorem Hid.mk {p : Prop} (h : p) : Hid p := h

theorem SL.at {w : World} {a : Option Addr} {xs : List (Int × Int)} (h : SL w a xs) {k : Nat} (hk : k < xs.length) :
    ∃ b off x y, a = some ⟨b, off, none⟩ ∧ b < w.heap.size ∧ w.cell? ⟨b, off + k * 2, none⟩ = some (.int .i64 x) ∧ w.cell? ⟨b, off + k * 2 + 1, none⟩ = some (.int .i64 y) ∧ Hid (xs[k]? = some (x, y)) := by
  rcases h with h | ⟨b, off, ha, hlt, hc⟩
  · subst h; simp at hk
  · exact ⟨b, off, _, _, ha, hlt, (hc k hk).1, (hc k hk).2, by unfold Hid; simp [hk]⟩

def inR (n : Int) : Bool := decide (0 ≤ n) && decide (n ≤ 1000)

set_option maxHeartbeats 400000 in
theorem inRange_any (n : Int) (w : World) : Calls Tryz.prog 146 #[.int .i64 n] w fun e w' => e = .returned (.bool (inR n)) ∧ w' = w := by
  by_cases h0 : 0 ≤ n
  · by_cases h1 : n ≤ 1000
    all_goals
      go_enter Tryz.func146, Tryz.ntmps146
      go_wp2
      go_ret
      exact ⟨by simp [inR, h0, h1], rfl⟩
  · go_enter Tryz.func146, Tryz.ntmps146
    go_wp2
    go_ret
    exact ⟨by simp [inR]; omega, rfl⟩

/-- P101's 'right'. -/
def rightB (n : Int) (xs : List (Int × Int)) : Bool := decide (xs.length ≤ 64) && inR n && xs.all fun p => inR p.1 && inR p.2

theorem take_all {p : Int × Int → Bool} {xs : List (Int × Int)} {k : Nat} {z : Int × Int} (h : xs[k]? = some z) : (xs.take (k + 1)).all p = ((xs.take k).all p && p z) := by
  obtain ⟨hk, rfl⟩ := List.getElem?_eq_some_iff.1 h
  rw [List.take_succ_eq_append_getElem hk, List.all_append]; simp

theorem all_no {p : Int × Int → Bool} {xs : List (Int × Int)} {k : Nat} {z : Int × Int} (h : xs[k]? = some z) (h0 : p z = false) : xs.all p = false := by
  obtain ⟨hk, rfl⟩ := List.getElem?_eq_some_iff.1 h
  rw [List.all_eq_false]; exact ⟨xs[k], List.getElem_mem hk, by simpa using h0⟩

set_option maxHeartbeats 800000 in
theorem right_any (n : Int) (xs : List (Int × Int)) (a : Option Addr) (cap : Nat) (w : World) (hS : SL w a xs) (hn : xs.length ≤ 35184372088832) :
    Calls Tryz.prog 143 #[.agg #[.int .i64 n, .slice a xs.length cap]] w fun e w' => e = .returned (.bool (rightB n xs)) ∧ Grew w w' := by
  by_cases hlen : xs.length ≤ 64
  · have HS := Hid.mk hS
    clear hS
    cases hN : inR n
    · go_enter Tryz.func143, Tryz.ntmps143
      go_wp2_with (go_at_call 146; refine (inRange_any _ _).mono ?_; rintro e w' ⟨rfl, rfl⟩)
      go_ret
      exact ⟨by simp [rightB, hN], (Grew.refl _).alloc _⟩
    · go_enter Tryz.func143, Tryz.ntmps143
      go_wp2_with (go_at_call 146; refine (inRange_any _ _).mono ?_; rintro e w' ⟨rfl, rfl⟩)
      go_loopw [18] (fun i wr => ∃ k : Nat, k ≤ xs.length ∧ i = .int .i64 k ∧ Grew w wr ∧ (xs.take k).all (fun p => inR p.1 && inR p.2) = true) (fun i _ => xs.length - (intOf i).toNat)
      case atStart => exact ⟨0, Nat.zero_le _, rfl, (Grew.refl _).alloc _, by simp⟩
      case round =>
        obtain ⟨k, hk, rfl, hb, hall⟩ := hrel
        have HA := Hid.mk hall
        clear hall
        by_cases hlt : k < xs.length
        · obtain ⟨b, off, x, y, rfl, hbl, hc0, hc1, hxy⟩ := (HS.out.below hb.below).at hlt
          have hbb := hb.below.size
          cases h0 : inR x
          · go_wp2_with (go_at_call 146; refine (inRange_any _ _).mono ?_; rintro e w' ⟨rfl, rfl⟩)
            go_ret
            exact ⟨by simp [rightB, all_no (p := fun p => inR p.1 && inR p.2) hxy.out (by simp [h0])], hb.alloc _⟩
          · cases h1 : inR y
            · go_wp2_with (go_at_call 146; refine (inRange_any _ _).mono ?_; rintro e w' ⟨rfl, rfl⟩)
              go_ret
              exact ⟨by simp [rightB, all_no (p := fun p => inR p.1 && inR p.2) hxy.out (by simp [h1])], hb.alloc _⟩
            · go_wp2_with (go_at_call 146; refine (inRange_any _ _).mono ?_; rintro e w' ⟨rfl, rfl⟩)
              go_roundw
              case rel => exact ⟨k + 1, hlt, by go_num, hb.alloc _, by rw [take_all hxy.out, HA.out]; simp [h0, h1]⟩
              case measure => simp [intOf]; omega
        · go_wp2
          go_ret
          have hk' : k = xs.length := by omega
          subst hk'
          have hA := HA.out
          rw [List.take_length] at hA
          exact ⟨by simp only [rightB, hN, hA]; simp [hlen], hb⟩
  · go_enter Tryz.func143, Tryz.ntmps143
    go_wp2
    go_ret
    exact ⟨by simp [rightB, hlen], (Grew.refl _).alloc _⟩
end Go.Proofs.YtndjdeiccmhelaaGreat

/- The contracts of level.value, level.Eval, level.greatestAdd and level.Bound. -/
namespace Go.Proofs.YtndjdeiccmhelaaGreat
open Go.RowKit Go.Sort

theorem ret_int {k : IntKind} {a b : Int} (h : a = b) : Ending.returned (.int k a) = .returned (.int k b) := by rw [h]

theorem take_fold {β : Type} {f : β → Int × Int → β} {n : β} {xs : List (Int × Int)} {k : Nat} {z : Int × Int} (h : xs[k]? = some z) : (xs.take (k + 1)).foldl f n = f ((xs.take k).foldl f n) z := by
  obtain ⟨hk, rfl⟩ := List.getElem?_eq_some_iff.1 h
  rw [List.take_succ_eq_append_getElem hk, List.foldl_append]; simp

theorem right_n {n : Int} {xs : List (Int × Int)} (h : rightB n xs = true) : 0 ≤ n ∧ n ≤ 1000 ∧ xs.length ≤ 64 := by
  simp only [rightB, Bool.and_eq_true, inR, decide_eq_true_eq] at h; omega

end Go.Proofs.YtndjdeiccmhelaaGreat

/- The contracts of the two closures of level.gathered and of keyAndValue. -/
namespace Go.Proofs.YtndjdeiccmhelaaGreat
open Go.RowKit Go.Sort

/-- cmp.Compare at ints -/
def cmpI (a b : Int) : Int := if a < b then -1 else if b < a then 1 else 0

set_option maxHeartbeats 400000 in
theorem Compare_any (a b : Int) (w : World) : Calls Tryz.prog 151 #[.int .i64 a, .int .i64 b] w fun e w' => e = .returned (.int .i64 (cmpI a b)) ∧ w' = w := by
  by_cases h1 : a < b
  · go_enter Tryz.func151, Tryz.ntmps151
    go_wp2
    go_ret
    exact ⟨by simp [cmpI, h1], rfl⟩
  · by_cases h2 : b < a
    all_goals
      go_enter Tryz.func151, Tryz.ntmps151
      go_wp2
      go_ret
      exact ⟨ret_int (by unfold cmpI; by_cases c1 : a < b <;> by_cases c2 : b < a <;> simp [c1, c2] <;> omega), rfl⟩

set_option maxHeartbeats 400000 in
theorem keyAndValue_any (x y : Int) (w : World) : Calls Tryz.prog 148 #[.agg #[.int .i64 x, .int .i64 y]] w fun e w' => e = .returned (.tuple #[.int .i64 x, .int .i64 y]) ∧ ∃ q, w' = (w.alloc (.cells #[.int .i64 x, .int .i64 y] 151)).drewN q := by
  go_enter Tryz.func148, Tryz.ntmps148
  go_wp2
  go_quiet (fail)
  go_wp2
  go_ret2
  exact ⟨rfl, _, rfl⟩
theorem cell3 {w : World} {p : Addr} {v : Value} (hp : p.block < w.heap.size) (h : w.cell? p = some v) : ∀ o1 o2 o3, (((w.alloc o1).alloc o2).alloc o3).cell? p = some v := fun o1 o2 o3 => by
  rw [((((Below.refl w.heap.size w).alloc (Nat.le_refl _) o1).alloc (by simp) o2).alloc (by simp; omega) o3).cell hp]; exact h
/-- the order by which pairs are sorted: by rising key, the greatest value first -/
def cmpP (x y : Int × Int) : Int := if x.1 = y.1 then cmpI y.2 x.2 else cmpI x.1 y.1

set_option maxHeartbeats 800000 in
theorem gathered1_any (x1 x2 y1 y2 : Int) (fb : Nat) (w : World) (hfb : fb < w.heap.size) (hc : w.cell? ⟨fb, 0, none⟩ = some (.func (.func 148) #[] #[])) :
    Calls Tryz.prog 150 #[.agg #[.int .i64 x1, .int .i64 x2], .agg #[.int .i64 y1, .int .i64 y2], .pointer (some ⟨fb, 0, none⟩)] w fun e w' => e = .returned (.int .i64 (cmpP (x1, x2) (y1, y2))) ∧ Grew w w' := by
  by_cases h : x1 = y1
  · have hb : (x1 != y1) = false := by simp [h]
    have HE : Hid (cmpP (x1, x2) (y1, y2) = cmpI y2 x2) := by unfold Hid cmpP; rw [if_pos h]
    clear h
    have hc3 := cell3 (p := ⟨fb, 0, none⟩) hfb hc
    go_enter Tryz.func150, Tryz.ntmps150
    go_wp2_with (first | (go_at_call 148; refine (keyAndValue_any _ _ _).mono ?_; rintro e w' ⟨rfl, q, rfl⟩) | (go_at_call 151; refine (Compare_any _ _ _).mono ?_; rintro e w' ⟨rfl, rfl⟩))
    go_ret
    exact ⟨ret_int HE.out.symm, by repeat (first | exact Grew.refl _ | refine Grew.drewN ?_ _ | refine Grew.alloc ?_ _)⟩
  · have hb : (x1 != y1) = true := by simp [h]
    have HE : Hid (cmpP (x1, x2) (y1, y2) = cmpI x1 y1) := by unfold Hid cmpP; rw [if_neg h]
    clear h
    have hc3 := cell3 (p := ⟨fb, 0, none⟩) hfb hc
    go_enter Tryz.func150, Tryz.ntmps150
    go_wp2_with (first | (go_at_call 148; refine (keyAndValue_any _ _ _).mono ?_; rintro e w' ⟨rfl, q, rfl⟩) | (go_at_call 151; refine (Compare_any _ _ _).mono ?_; rintro e w' ⟨rfl, rfl⟩))
    go_ret
    exact ⟨ret_int HE.out.symm, by repeat (first | exact Grew.refl _ | refine Grew.drewN ?_ _ | refine Grew.alloc ?_ _)⟩

set_option maxHeartbeats 800000 in
theorem gathered2_any (x1 x2 y1 y2 : Int) (fb : Nat) (w : World) (hfb : fb < w.heap.size) (hc : w.cell? ⟨fb, 0, none⟩ = some (.func (.func 148) #[] #[])) :
    Calls Tryz.prog 153 #[.agg #[.int .i64 x1, .int .i64 x2], .agg #[.int .i64 y1, .int .i64 y2], .pointer (some ⟨fb, 0, none⟩)] w fun e w' => e = .returned (.bool (x1 == y1)) ∧ Grew w w' := by
  have hc3 := cell3 (p := ⟨fb, 0, none⟩) hfb hc
  go_enter Tryz.func153, Tryz.ntmps153
  go_wp2_with (first | (go_at_call 148; refine (keyAndValue_any _ _ _).mono ?_; rintro e w' ⟨rfl, q, rfl⟩))
  go_ret
  exact ⟨rfl, by repeat (first | exact Grew.refl _ | refine Grew.drewN ?_ _ | refine Grew.alloc ?_ _)⟩
end Go.Proofs.YtndjdeiccmhelaaGreat

/- A region that draws its order and whose last operation waits for all others: a condition S holds behind every operation but that last one. -/
namespace Go.Proofs.YtndjdeiccmhelaaGreat
open Go.RowKit Go.Sort

section
variable {P : Program} {ops : Array Oper} {Q : Exit → Act → World → Prop} {md : Region.Mode} {S : World → Prop} {last : Nat}

/-- whatever order is picked from here on; S holds behind every operation but the last -/
def wpAnyL (P : Program) (md : Region.Mode) (ops : Array Oper) (Q : Exit → Act → World → Prop) (S : World → Prop) (last : Nat) : Nat → Array Bool → Act → World → Prop
  | 0, listed, a, w => Region.ready md ops listed = [] ∧ Q .normal a w
  | fuel + 1, listed, a, w =>
    (Region.ready md ops listed = [] → Q .normal a w) ∧
    ∀ i ∈ Region.ready md ops listed, wpOp P ops Q i (fun a' w' => (i ≠ last → S w') ∧ wpAnyL P md ops Q S last fuel (listed.setIfInBounds i true) a' w') a w

theorem wpAny_of_last : ∀ (fuel : Nat) (listed : Array Bool) (a : Act) (w : World), wpAnyL P md ops Q S last fuel listed a w → wpAny P md ops Q fuel listed a w
  | 0, _, _, _, h => h
  | fuel + 1, _, _, _, h => ⟨h.1, fun i hi => wpOp_mono (fun a' w' h' => wpAny_of_last fuel _ a' w' h'.2) (h.2 i hi)⟩

/-- does operation last wait for operation i? -/
def waits (md : Region.Mode) (ops : Array Oper) (last i : Nat) : Bool := match ops[last]? with
  | some o => o.after.any fun e => Region.binds md e && e.on == i
  | none => false

theorem waits_spec {i : Nat} {listed : Array Bool} (h : waits md ops last i = true) (hi : i ∈ Region.ready md ops listed) : last ∉ Region.ready md ops listed := by
  intro hl
  obtain ⟨-, o, ho, hall⟩ := mem_ready.1 hl
  unfold waits at h
  rw [ho] at h
  simp only [Array.any_eq_true'] at h
  obtain ⟨e, he, hb⟩ := h
  rw [Bool.and_eq_true] at hb
  have h1 := hall e he hb.1
  have hei : e.on = i := by simpa using hb.2
  have h0 := (mem_ready.1 hi).1
  rw [hei] at h1
  rcases Nat.lt_or_ge i listed.size with h' | h'
  · simp [h'] at h0 h1; rw [h0] at h1; cases h1
  · simp [Array.getElem?_eq_none h'] at h1

theorem wpAnyL_first {i : Nat} {oi : Oper} {v : Value} (hi : ops[i]? = some oi) (hsel : ∀ (j : Nat) (o : Oper) cs b, ops[j]? = some o → o.op ≠ .select cs b)
    (hw : waits md ops last i = true) (hQ : ∀ c a w, Q (.panic c) (a.put oi.dst v) w → Q (.panic c) a w) :
    ∀ (fuel : Nat) (listed : Array Bool) (a : Act) (w : World),
      (∀ j oj, ops[j]? = some oj → j ≠ i → listed.getD j true = false → (∀ e ∈ oj.after, Region.binds md e = true → e.on ≠ i) → oi.apart ops oj = true) →
      i ∈ Region.ready md ops listed → YieldsIf P ops S oi v a → S w →
      wpAnyL P md ops Q S last fuel (listed.setIfInBounds i true) (a.put oi.dst v) w → wpAnyL P md ops Q S last (fuel + 1) listed a w := by
  intro fuel
  induction fuel with
  | zero =>
    intro listed a w _ hr hy hS H
    refine ⟨fun h => (by rw [h] at hr; cases hr), fun j hj => ?_⟩
    by_cases hji : j = i
    · subst hji; exact hy.wpOp hi hS ⟨fun _ => hS, H⟩
    · have := ready_mono hj hji
      rw [H.1] at this
      cases this
  | succ fuel ih =>
    intro listed a w hfree hr hy hS H
    refine ⟨fun h => (by rw [h] at hr; cases hr), fun j hj => ?_⟩
    by_cases hji : j = i
    · subst hji; exact hy.wpOp hi hS ⟨fun _ => hS, H⟩
    · have hjl : j ≠ last := fun e => waits_spec hw hr (e ▸ hj)
      have h1 := H.2 j (ready_mono hj hji)
      obtain ⟨hjun, oj, hoj, hall⟩ := mem_ready.1 hj
      have hnot : ∀ e ∈ oj.after, Region.binds md e = true → e.on ≠ i := fun e he hb heq => by
        have h1 := hall e he hb
        have h0 := (mem_ready.1 hr).1
        rw [heq] at h1
        rcases Nat.lt_or_ge i listed.size with h' | h'
        · simp [h'] at h0 h1; rw [h0] at h1; cases h1
        · simp [Array.getElem?_eq_none h'] at h1
      have h2 := wpOp_putIf hoj (hfree j oj hoj hji hjun hnot) (fun cs b => hsel i oi cs b hi) (fun cs b => hsel j oj cs b hoj) hQ hy h1
      have hfree' : ∀ k ok, ops[k]? = some ok → k ≠ i → (listed.setIfInBounds j true).getD k true = false →
          (∀ e ∈ ok.after, Region.binds md e = true → e.on ≠ i) → oi.apart ops ok = true := fun k ok hk hki hun hno => by
        refine hfree k ok hk hki ?_ hno
        by_cases hjk : j = k
        · subst hjk; exact hjun
        · rw [getD_set_ne true hjk] at hun; exact hun
      refine wpOp_mono (fun a' w' h3 => ⟨h3.2.1, ih (listed.setIfInBounds j true) a' w' hfree' (ready_mono hr (Ne.symm hji)) h3.1 (h3.2.1 hjl) ?_⟩) h2
      rw [Array.setIfInBounds_comm _ _ hji]
      exact h3.2.2

theorem wpAnyL_take {i : Nat} {oi : Oper} {v : Value} {fuel : Nat} {listed : Array Bool} {a : Act} {w : World} (hi : ops[i]? = some oi)
    (hs : Region.noSelect ops = true) (hf : Region.free md ops listed i = true) (hr : (Region.ready md ops listed).contains i = true) (hw : waits md ops last i = true)
    (hQ : ∀ c a w, Q (.panic c) (a.put oi.dst v) w → Q (.panic c) a w) (hy : YieldsIf P ops S oi v a) (hS : S w)
    (h : wpAnyL P md ops Q S last fuel (listed.setIfInBounds i true) (a.put oi.dst v) w) : wpAnyL P md ops Q S last (fuel + 1) listed a w :=
  wpAnyL_first hi (Region.noSelect_spec hs) hw hQ fuel listed a w (Region.free_spec hi hf) (by simpa using hr) hy hS h

theorem wpAnyL_done {listed : Array Bool} {a : Act} {w : World} (hr : Region.ready md ops listed = []) (h : Q .normal a w) :
    ∀ fuel, wpAnyL P md ops Q S last fuel listed a w
  | 0 => ⟨hr, h⟩
  | _ + 1 => ⟨fun _ => h, by rw [hr]; simp⟩

/-- one operation alone may come up, and it is not the last -/
theorem wpAnyL_one {i : Nat} {o : Oper} {fuel : Nat} {listed : Array Bool} {a : Act} {w : World} (hr : Region.ready md ops listed = [i]) (ho : ops[i]? = some o)
    (h : ∀ K' : Act → World → Prop, Shut (∀ a w, S w → (S w → wpAnyL P md ops Q S last fuel (listed.setIfInBounds i true) a w) → K' a w) → if Region.wanted o (yielded ops a.tmps) = true then Oper.wp P o a w K' Q else K' (a.put o.dst undef) w) : wpAnyL P md ops Q S last (fuel + 1) listed a w :=
  by
  refine ⟨fun h0 => ?_, fun j hj => ?_⟩
  · rw [hr] at h0; cases h0
  · rw [hr] at hj
    obtain rfl : j = i := by simpa using hj
    exact wpOp_step ho (fun K' hK => h K' (fun a w hS hW => hK a w ⟨fun _ => hS, hW hS⟩))

/-- the last operation -/
theorem wpAnyL_last {o : Oper} {fuel : Nat} {listed : Array Bool} {a : Act} {w : World} (hr : Region.ready md ops listed = [last]) (ho : ops[last]? = some o) (hd : Region.ready md ops (listed.setIfInBounds last true) = [])
    (h : ∀ K' : Act → World → Prop, Shut (∀ a w, Q .normal a w → K' a w) → if Region.wanted o (yielded ops a.tmps) = true then Oper.wp P o a w K' Q else K' (a.put o.dst undef) w) : wpAnyL P md ops Q S last (fuel + 1) listed a w :=
  by
  refine ⟨fun h0 => ?_, fun j hj => ?_⟩
  · rw [hr] at h0; cases h0
  · rw [hr] at hj
    obtain rfl : j = last := by simpa using hj
    exact wpOp_step ho (fun K' hK => h K' (fun a w hW => hK a w ⟨fun h => absurd rfl h, wpAnyL_done hd hW _⟩))

theorem wp_region_last {id : Nat} {a : Act} {w : World} (last : Nat) (hm : P.follows .mixedOrders = true) (hS : S w.drew)
    (h : S w.drew → wpAnyL P .any ops Q S last ops.size (Array.replicate ops.size false) a w.drew) : (Code.region id ops true).wp P Q a w :=
  wp_region_any hm (wpAny_of_last _ _ _ _ (h hS))
end
end Go.Proofs.YtndjdeiccmhelaaGreat
