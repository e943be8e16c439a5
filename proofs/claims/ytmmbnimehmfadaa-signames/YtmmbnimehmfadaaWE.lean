/- The contracts of term's arity, fieldsRight, judged. -/
import Derived.Test.YtmmbnimehmfadaaWD
import Derived.Test.YtmmbnimehmfadaaTH
namespace Go.Proofs.Ytmmbnimehmfadaa
open Go.RowKit Go.Sort

set_option maxHeartbeats 1000000 in
theorem IndexUn_any (ls : List LvT) (a : Option Addr) (cap : Nat) (w : World) (hS : LL w a ls) (hn : ls.length ≤ 35184372088832) (hx : ∀ l ∈ ls, l.2.length ≤ 4398046511104) :
    Calls Try.prog 71 #[.slice a ls.length cap, .func (.func 66) #[] #[]] w fun e w' => (∃ r : Int, e = .returned (.int .i64 r) ∧ decide (0 ≤ r) = ls.any fun l => !canonB l) ∧ RowKit.Below w.heap.size w w' := by
  have HS := Hid.mk hS
  have HX := Hid.mk hx
  clear hS hx
  go_enter Try.func71, Try.ntmps71
  go_wp2
  go_loopw [8] (fun i wr => ∃ k : Nat, k ≤ ls.length ∧ i = .int .i64 k ∧ RowKit.Below w.heap.size w wr ∧ (ls.take k).any (fun l => !canonB l) = false) (fun i _ => ls.length - (intOf i).toNat)
  case atStart => exact ⟨0, Nat.zero_le _, rfl, Below.refl _ _, by simp⟩
  case round =>
    obtain ⟨k, hk, rfl, hb, hall⟩ := hrel
    have HA := Hid.mk hall
    clear hall
    by_cases hlt : k < ls.length
    · obtain ⟨b, off, n, xs, a', cap', rfl, hbl, hc0, hc1, hS1, hl⟩ := (HS.out.below hb).at hlt
      have hbb := hb.size
      have HW := uncanonical_any n xs a' cap' wr hS1 (by have := HX.out (n, xs) (List.mem_of_getElem? hl.out); simp only at this; omega)
      clear hS1
      cases h0 : canonB (n, xs)
      · rw [h0] at HW
        have H0 : Hid ((!canonB (n, xs)) = true) := by unfold Hid; rw [h0]; rfl
        clear h0
        go_wp2_with (go_at_call 66; refine HW.mono ?_; rintro e w1 ⟨rfl, hg⟩)
        go_ret
        exact ⟨⟨_, rfl, by rw [any_yes (p := fun l => !canonB l) hl.out H0.out]; simp⟩, hb.trans (hg.mono hbb)⟩
      · rw [h0] at HW
        have H0 : Hid ((!canonB (n, xs)) = false) := by unfold Hid; rw [h0]; rfl
        clear h0
        go_wp2_with (go_at_call 66; refine HW.mono ?_; rintro e w1 ⟨rfl, hg⟩)
        refine ⟨⟨k + 1, hlt, by go_num, hb.trans (hg.mono hbb), ?_⟩, by simp [intOf]; omega⟩
        rw [take_any (p := fun l => !canonB l) hl.out, HA.out, H0.out]; rfl
    · go_wp2
      go_ret
      have hk' : k = ls.length := by omega
      subst hk'
      have hA := HA.out
      rw [List.take_length] at hA
      exact ⟨⟨_, rfl, by rw [hA]; simp⟩, hb⟩

set_option maxHeartbeats 400000 in
theorem ContainsUn_any (ls : List LvT) (a : Option Addr) (cap : Nat) (w : World) (hS : LL w a ls) (hn : ls.length ≤ 35184372088832) (hx : ∀ l ∈ ls, l.2.length ≤ 4398046511104) :
    Calls Try.prog 65 #[.slice a ls.length cap, .func (.func 66) #[] #[]] w fun e w' => e = .returned (.bool (ls.any fun l => !canonB l)) ∧ RowKit.Below w.heap.size w w' := by
  have HI := IndexUn_any ls a cap w hS hn hx
  clear hS hx
  go_enter Try.func65, Try.ntmps65
  go_wp2_with (go_at_call 71; refine HI.mono ?_; rintro e w1 ⟨⟨r, rfl, hr⟩, hg⟩; have HR := Hid.mk hr; clear hr)
  go_ret
  exact ⟨by rw [← HR.out]; rfl, hg⟩

theorem form_cases (f : Int) : f = 1 ∨ f = 2 ∨ f = 3 ∨ f = 4 ∨ f = 5 ∨ f = 6 ∨ f = 7 ∨ f = 8 ∨ f = 9 ∨ f = 10 ∨ f = 11 ∨ (f < 1 ∨ 11 < f) := by omega

set_option maxHeartbeats 2000000 in
theorem arity_any (f : Int) (w : World) : Calls Try.prog 57 #[.int .i64 f] w fun e w' => e = .returned (.int .i64 (kidsR f)) ∧ w' = w := by
  rcases form_cases f with rfl | rfl | rfl | rfl | rfl | rfl | rfl | rfl | rfl | rfl | rfl | hin
  iterate 11
    · go_enter Try.func57, Try.ntmps57
      go_wp2
      go_ret
      exact ⟨rfl, rfl⟩
  · have HE : Hid (kidsR f = -1) := by unfold Hid kidsR; rw [if_neg (by omega), if_neg (by omega), if_neg (by omega), if_neg (by omega)]
    have e : ∀ k : Int, 1 ≤ k → k ≤ 11 → (f == k) = false := fun k h1 h2 => by simp; omega
    have e1 := e 1 (by decide) (by decide)
    have e2 := e 2 (by decide) (by decide)
    have e3 := e 3 (by decide) (by decide)
    have e4 := e 4 (by decide) (by decide)
    have e5 := e 5 (by decide) (by decide)
    have e6 := e 6 (by decide) (by decide)
    have e7 := e 7 (by decide) (by decide)
    have e8 := e 8 (by decide) (by decide)
    have e9 := e 9 (by decide) (by decide)
    have e10 := e 10 (by decide) (by decide)
    have e11 := e 11 (by decide) (by decide)
    clear e hin
    go_enter Try.func57, Try.ntmps57
    go_wp2
    go_ret
    exact ⟨by rw [HE.out]; rfl, rfl⟩

/-- are the fields that a form has right? -/
def fieldsB : Tm → Bool
  | .mk f n _ nm ls ks => if f = 1 ∨ f = 11 then decide (0 ≤ n) && decide (n ≤ 1073741824) else if f = 7 then (match ks with | k :: _ => k.form == 6 | [] => false) else if f = 2 then (match ls with | [l] => canonB l | _ => false) else if f = 10 then !(nm.toList == []) && decide (nm.size ≤ 60) && !(ls.any fun l => !canonB l) else true

set_option maxRecDepth 100000 in
set_option maxHeartbeats 4000000 in
theorem fieldsRight_any (t : Tm) (v : Value) (w : World) (hv : TV w v t) (h7 : t.form = 7 → t.kids ≠ []) (hlv : ∀ l ∈ t.levels, l.2.length ≤ 1000000) (hll : t.levels.length ≤ 8796093022208) :
    Calls Try.prog 58 #[v] w fun e w' => e = .returned (.bool (fieldsB t)) ∧ RowKit.Below w.heap.size w w' := by
  cases hv with
  | @mk f n hd nm ls ks la lc ka kc kb ko hl hln hlc hlm hkn hkc hkm hk kids =>
    simp only [Tm.form, Tm.kids, Tm.levels] at h7 hlv hll
    have HL := Hid.mk hl
    have HK := Hid.mk hk
    have HKIDS := Hid.mk kids
    have HLV := Hid.mk hlv
    have H7 := Hid.mk h7
    clear hl hk kids hlv h7
    rcases form_cases f with rfl | rfl | rfl | rfl | rfl | rfl | rfl | rfl | rfl | rfl | rfl | hin
    case inl =>
      have HR : Hid (fieldsB (.mk 1 n hd nm ls ks) = (decide (0 ≤ n) && decide (n ≤ 1073741824))) := by unfold Hid; simp [fieldsB]
      generalize fieldsB (.mk 1 n hd nm ls ks) = R at HR ⊢
      rcases (show n < 0 ∨ (0 ≤ n ∧ 1073741824 < n) ∨ (0 ≤ n ∧ n ≤ 1073741824) by omega) with h1 | ⟨h1, h2⟩ | ⟨h1, h2⟩
      all_goals
        have HE : Hid (R = (decide (0 ≤ n) && decide (n ≤ 1073741824))) := HR.out
        clear HR
        go_enter Try.func58, Try.ntmps58
        go_wp2
        go_ret
        refine ⟨?_, (Below.refl _ _).alloc (Nat.le_refl _) _⟩
        rw [HE.out]
        exact congrArg (fun x => Ending.returned (.bool x)) (by simp; omega)
    case inr.inr.inr.inr.inr.inr.inr.inr.inr.inr.inl =>
      have HR : Hid (fieldsB (.mk 11 n hd nm ls ks) = (decide (0 ≤ n) && decide (n ≤ 1073741824))) := by unfold Hid; simp [fieldsB]
      generalize fieldsB (.mk 11 n hd nm ls ks) = R at HR ⊢
      rcases (show n < 0 ∨ (0 ≤ n ∧ 1073741824 < n) ∨ (0 ≤ n ∧ n ≤ 1073741824) by omega) with h1 | ⟨h1, h2⟩ | ⟨h1, h2⟩
      all_goals
        have HE : Hid (R = (decide (0 ≤ n) && decide (n ≤ 1073741824))) := HR.out
        clear HR
        go_enter Try.func58, Try.ntmps58
        go_wp2
        go_ret
        refine ⟨?_, (Below.refl _ _).alloc (Nat.le_refl _) _⟩
        rw [HE.out]
        exact congrArg (fun x => Ending.returned (.bool x)) (by simp; omega)
    case inr.inr.inl =>
      have HR : Hid (fieldsB (.mk 3 n hd nm ls ks) = true) := by unfold Hid; simp [fieldsB]
      generalize fieldsB (.mk 3 n hd nm ls ks) = R at HR ⊢
      go_enter Try.func58, Try.ntmps58
      go_wp2
      go_ret
      exact ⟨by rw [HR.out]; rfl, (Below.refl _ _).alloc (Nat.le_refl _) _⟩
    case inr.inr.inr.inl =>
      have HR : Hid (fieldsB (.mk 4 n hd nm ls ks) = true) := by unfold Hid; simp [fieldsB]
      generalize fieldsB (.mk 4 n hd nm ls ks) = R at HR ⊢
      go_enter Try.func58, Try.ntmps58
      go_wp2
      go_ret
      exact ⟨by rw [HR.out]; rfl, (Below.refl _ _).alloc (Nat.le_refl _) _⟩
    case inr.inr.inr.inr.inl =>
      have HR : Hid (fieldsB (.mk 5 n hd nm ls ks) = true) := by unfold Hid; simp [fieldsB]
      generalize fieldsB (.mk 5 n hd nm ls ks) = R at HR ⊢
      go_enter Try.func58, Try.ntmps58
      go_wp2
      go_ret
      exact ⟨by rw [HR.out]; rfl, (Below.refl _ _).alloc (Nat.le_refl _) _⟩
    case inr.inr.inr.inr.inr.inl =>
      have HR : Hid (fieldsB (.mk 6 n hd nm ls ks) = true) := by unfold Hid; simp [fieldsB]
      generalize fieldsB (.mk 6 n hd nm ls ks) = R at HR ⊢
      go_enter Try.func58, Try.ntmps58
      go_wp2
      go_ret
      exact ⟨by rw [HR.out]; rfl, (Below.refl _ _).alloc (Nat.le_refl _) _⟩
    case inr.inr.inr.inr.inr.inr.inr.inl =>
      have HR : Hid (fieldsB (.mk 8 n hd nm ls ks) = true) := by unfold Hid; simp [fieldsB]
      generalize fieldsB (.mk 8 n hd nm ls ks) = R at HR ⊢
      go_enter Try.func58, Try.ntmps58
      go_wp2
      go_ret
      exact ⟨by rw [HR.out]; rfl, (Below.refl _ _).alloc (Nat.le_refl _) _⟩
    case inr.inr.inr.inr.inr.inr.inr.inr.inl =>
      have HR : Hid (fieldsB (.mk 9 n hd nm ls ks) = true) := by unfold Hid; simp [fieldsB]
      generalize fieldsB (.mk 9 n hd nm ls ks) = R at HR ⊢
      go_enter Try.func58, Try.ntmps58
      go_wp2
      go_ret
      exact ⟨by rw [HR.out]; rfl, (Below.refl _ _).alloc (Nat.le_refl _) _⟩
    case inr.inr.inr.inr.inr.inr.inr.inr.inr.inr.inr =>
      have HR : Hid (fieldsB (.mk f n hd nm ls ks) = true) := by unfold Hid; simp only [fieldsB]; rw [if_neg (by omega), if_neg (by omega), if_neg (by omega), if_neg (by omega)]
      generalize fieldsB (.mk f n hd nm ls ks) = R at HR ⊢
      have e : ∀ k : Int, 1 ≤ k → k ≤ 11 → (f == k) = false := fun k h1 h2 => by simp; omega
      have e1 := e 1 (by decide) (by decide)
      have e2 := e 2 (by decide) (by decide)
      have e7 := e 7 (by decide) (by decide)
      have e10 := e 10 (by decide) (by decide)
      have e11 := e 11 (by decide) (by decide)
      clear e hin
      go_enter Try.func58, Try.ntmps58
      go_wp2
      go_ret
      exact ⟨by rw [HR.out]; rfl, (Below.refl _ _).alloc (Nat.le_refl _) _⟩
    case inr.inr.inr.inr.inr.inr.inl =>
      cases ks with
      | nil => exact absurd rfl (H7.out rfl)
      | cons k ks =>
        have HR : Hid (fieldsB (.mk 7 n hd nm ls (k :: ks)) = (k.form == 6)) := by unfold Hid; simp [fieldsB]
        generalize fieldsB (.mk 7 n hd nm ls (k :: ks)) = R at HR ⊢
        obtain ⟨rfl, hkb⟩ := HK.out (by simp)
        have htc := HKIDS.out 0 k rfl
        have c0 : w.cell? ⟨kb, ko, none⟩ = some (.int .i64 k.form) := by
          cases htc with
          | mk c0 => simpa [Tm.form] using c0
        clear htc
        generalize k.form = kf at *
        have hlen : (0 : Int) < ((k :: ks).length : Int) := by simp
        generalize (k :: ks).length = len at *
        go_enter Try.func58, Try.ntmps58
        go_wp2
        go_ret
        exact ⟨by rw [HR.out]; rfl, (Below.refl _ _).alloc (Nat.le_refl _) _⟩
    case inr.inl =>
      match ls, HL, HLV, hlc, hll with
      | [], HL, HLV, hlc, hll =>
        have HR : Hid (fieldsB (.mk 2 n hd nm [] ks) = false) := by unfold Hid; simp [fieldsB]
        generalize fieldsB (.mk 2 n hd nm [] ks) = R at HR ⊢
        go_enter Try.func58, Try.ntmps58
        go_wp2
        go_ret
        exact ⟨by rw [HR.out]; rfl, (Below.refl _ _).alloc (Nat.le_refl _) _⟩
      | [l], HL, HLV, hlc, hll =>
        have HR : Hid (fieldsB (.mk 2 n hd nm [l] ks) = canonB l) := by unfold Hid; simp [fieldsB]
        generalize fieldsB (.mk 2 n hd nm [l] ks) = R at HR ⊢
        obtain ⟨b, off, a', cap', rfl, hbl, c0, c1, hs⟩ := HL.out.at (k := 0) (by simp)
        simp only [Nat.zero_mul, Nat.add_zero, List.getElem_cons_zero] at c0 c1 hs
        have HC := fun (W : World) (h : RowKit.Below w.heap.size w W) => tcanonical_any l.1 l.2 a' cap' W (hs.below h) (by have := HLV.out l (by simp); omega)
        have HR : Hid (R = canonB (l.1, l.2)) := HR.out
        generalize canonB (l.1, l.2) = C at *
        generalize l.2.length = ln at *
        generalize l.1 = l1 at *
        clear hs
        go_enter Try.func58, Try.ntmps58
        go_wp2_with fail
        refine (HC _ ((Below.refl _ _).alloc (Nat.le_refl _) _)).mono ?_
        rintro e w1 ⟨rfl, hb1⟩
        go_wp2
        go_ret
        exact ⟨by rw [HR.out]; rfl, ((Below.refl w.heap.size w).alloc (Nat.le_refl _) _).trans (hb1.mono (by simp))⟩
      | l1 :: l2 :: lr, HL, HLV, hlc, hll =>
        have HR : Hid (fieldsB (.mk 2 n hd nm (l1 :: l2 :: lr) ks) = false) := by unfold Hid; simp [fieldsB]
        generalize fieldsB (.mk 2 n hd nm (l1 :: l2 :: lr) ks) = R at HR ⊢
        have hlen : (((l1 :: l2 :: lr).length : Int) == 1) = false := by simp; omega
        generalize (l1 :: l2 :: lr).length = len at *
        go_enter Try.func58, Try.ntmps58
        go_wp2
        go_ret
        exact ⟨by rw [HR.out]; rfl, (Below.refl _ _).alloc (Nat.le_refl _) _⟩
    case inr.inr.inr.inr.inr.inr.inr.inr.inr.inl =>
      have HR : Hid (fieldsB (.mk 10 n hd nm ls ks) = (!(nm.toList == []) && decide (nm.size ≤ 60) && !(ls.any fun l => !canonB l))) := by unfold Hid; simp [fieldsB]
      generalize fieldsB (.mk 10 n hd nm ls ks) = R at HR ⊢
      have HC := fun (W : World) (h : RowKit.Below w.heap.size w W) => ContainsUn_any ls la lc W ((HL.out.toLL).below h) (by omega) (fun l hl => by have := HLV.out l hl; omega)
      generalize (ls.any fun l => !canonB l) = C at *
      cases h1 : (nm.toList == [])
      · by_cases h2 : nm.size ≤ 60
        · have HE : Hid (R = !C) := by unfold Hid; rw [HR.out, h1]; simp [h2]
          clear HR
          have h3 : (nm.size : Int) ≤ 60 := by omega
          go_enter Try.func58, Try.ntmps58
          go_wp2_with fail
          refine (HC _ ((Below.refl _ _).alloc (Nat.le_refl _) _)).mono ?_
          rintro e w1 ⟨rfl, hb1⟩
          go_wp2
          go_ret
          exact ⟨by rw [HE.out]; rfl, ((Below.refl w.heap.size w).alloc (Nat.le_refl _) _).trans (hb1.mono (by simp))⟩
        · have HE : Hid (R = false) := by unfold Hid; rw [HR.out, h1]; simp [h2]
          clear HR
          have h3 : ¬ (nm.size : Int) ≤ 60 := by omega
          go_enter Try.func58, Try.ntmps58
          go_wp2
          go_ret
          exact ⟨by rw [HE.out]; rfl, (Below.refl _ _).alloc (Nat.le_refl _) _⟩
      · have HE : Hid (R = false) := by unfold Hid; rw [HR.out, h1]; simp
        clear HR
        go_enter Try.func58, Try.ntmps58
        go_wp2
        go_ret
        exact ⟨by rw [HE.out]; rfl, (Below.refl _ _).alloc (Nat.le_refl _) _⟩
end Go.Proofs.Ytmmbnimehmfadaa
