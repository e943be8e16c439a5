/- What Lift and Subst answer, right or wrong, in one form. -/
import Derived.Test.YtbgkeomlfdmkeaaPA
import Derived.Test.YtbgkeomlfdmkeaaSF
namespace Go.Proofs.Ytbgkeomlfdmkeaa
open Go.RowKit Go.Sort

/-- the zero term -/
def zT : Tm := .mk 0 0 false { data := #[] } [] []

theorem zero_tv (w : World) : TV w zeroV zT :=
  TV.mk (kb := 0) (ko := 0) (ls := []) (ks := []) (Or.inl rfl) (fun _ => rfl) (Nat.le_refl _) (by omega) (fun _ => rfl) (Nat.le_refl _) (by omega) (fun h => absurd rfl h) (fun i t hi => by simp at hi)

theorem zero_sm : smT 1000000 zT := by unfold zT; rw [smT_mk]; exact ⟨by decide, by simp, by simp, by simp, by simp⟩

/-- a term and an error are answered -/
def Got (w : World) (spec : Int → Tm → Prop) (e : Ending) (w' : World) : Prop :=
  ∃ (v0 v1 : Int) (v2 : Bool) (v3 : ByteArray) (l1 : Option Addr) (l2 l3 : Nat) (k1 : Option Addr) (k2 k3 : Nat) (c : Int) (r : Tm), e = .returned (.tuple #[.agg #[.int .i64 v0, .int .i64 v1, .bool v2, .string v3, .slice l1 l2 l3, .slice k1 k2 k3], .int .i64 c]) ∧ TV w' (.agg #[.int .i64 v0, .int .i64 v1, .bool v2, .string v3, .slice l1 l2 l3, .slice k1 k2 k3]) r ∧ smT 1000000 r ∧ 0 ≤ c ∧ c ≤ 100 ∧ spec c r ∧ RowKit.Below w.heap.size w w'

theorem got_of_ans {w : World} {spec : Int → Tm → Prop} {e : Ending} {w' : World} {R : Except Int Tm} (h : Ans w.heap.size e w' R ∧ RowKit.Below w.heap.size w w') (hok : ∀ r, R = .ok r → smT 1000000 r ∧ spec 0 r) (herr : ∀ c, R = .error c → 0 ≤ c ∧ c ≤ 100 ∧ spec c zT) : Got w spec e w' := by
  obtain ⟨h, hb⟩ := h
  cases R with
  | error c =>
    obtain ⟨h1, h2, h3⟩ := herr c rfl
    exact ⟨0, 0, false, { data := #[] }, none, 0, 0, none, 0, 0, c, zT, h, zero_tv w', zero_sm, h1, h2, h3, hb⟩
  | ok r =>
    obtain ⟨v, he, ht⟩ := h
    obtain ⟨v0, v1, v2, v3, l1, l2, l3, k1, k2, k3, rfl⟩ := ht.shapeE
    obtain ⟨h1, h2⟩ := hok r rfl
    exact ⟨v0, v1, v2, v3, l1, l2, l3, k1, k2, k3, 0, r, he, ht.tv, h1, by omega, by omega, h2, hb⟩

theorem check_vals (t : Tm) : checkT t = 0 ∨ checkT t = 2 ∨ checkT t = 10 := by
  unfold checkT; split
  · split
    · exact Or.inl rfl
    · exact Or.inr (Or.inr rfl)
  · exact Or.inr (Or.inl rfl)

theorem tsize_le (t : Tm) : 0 ≤ tsizeR t ∧ tsizeR t ≤ 20000 := by
  unfold tsizeR
  split
  · rename_i h
    have := (check_ok h).1
    omega
  · omega

theorem rep_errL (at_ z : Int) (s : Tm) (f : Int) : ∀ (ks : List Tm) (i : Nat) (room : Int) (r : Tm) (b p c : Int), (∀ k ∈ ks, ∀ (room b p c : Int), walkF (repV at_ z s) Tm.add k room b p = .error c → c = 2) → walkL (repV at_ z s) Tm.add f ks i room r b p = .error c → c = 2
  | [], i, room, r, b, p, c, _, h => by rw [walkL] at h; simp at h
  | k :: ks, i, room, r, b, p, c, ih, h => by
    rw [walkL] at h
    cases hw : walkF (repV at_ z s) Tm.add k room (deepC f b i) (p + 1) with
    | error e =>
      rw [hw] at h
      simp only [Except.error.injEq] at h
      rw [← h]; exact ih k (by simp) _ _ _ _ hw
    | ok q =>
      obtain ⟨room1, r1⟩ := q
      rw [hw] at h
      simp only [] at h
      exact rep_errL at_ z s f ks (i + 1) room1 _ b p c (fun k' hk' => ih k' (by simp [hk'])) h

theorem rep_errV {at_ z : Int} {s t : Tm} {room b p c : Int} (h : repV at_ z s room t b p = .error c) : c = 2 := by
  unfold repV at h
  split at h
  · split at h
    · simpa using h.symm
    · cases h
  · split at h
    · simpa using h.symm
    · cases h

theorem rep_err (at_ z : Int) (s t : Tm) : ∀ (room b p c : Int), walkF (repV at_ z s) Tm.add t room b p = .error c → c = 2 := by
  refine Tm.ind (P := fun t => ∀ (room b p c : Int), walkF (repV at_ z s) Tm.add t room b p = .error c → c = 2) ?_ t
  intro f n h nm ls ks ih room b p c hw
  rw [walkF_mk] at hw
  cases hv : repV at_ z s room (.mk f n h nm ls ks) b p with
  | error e =>
    rw [hv] at hw
    simp only [Except.error.injEq] at hw
    rw [← hw]; exact rep_errV hv
  | ok q =>
    obtain ⟨room1, r1⟩ := q
    rw [hv] at hw
    simp only [] at hw
    exact rep_errL at_ z s f ks 0 room1 r1 b p c ih hw

theorem LiftX (t : Tm) (v : Value) (w : World) (hv : TV w v t) (hsm : smT 1000000 t) : Calls Try.prog 22 #[v, .int .i64 0, .int .i64 1] w (Got w fun c r => (c = 0 → r = liftT 0 1 t 0 ∧ checkT r = 0) ∧ (checkT t = 0 → c = 0 ∨ c = 2)) := by
  refine (Lift_any t v 0 1 w hv hsm).mono fun e w' h => got_of_ans h (fun r hr => ?_) (fun c hc => ?_)
  · unfold liftRes at hr
    split at hr
    · cases hr
    · split at hr
      · cases hr
      · split at hr
        · rename_i h0
          injection hr with hr
          subst hr
          exact ⟨smT_lift 0 1 1000000 t 0 hsm, fun _ => ⟨rfl, h0⟩, fun _ => Or.inl rfl⟩
        · cases hr
  · unfold liftRes at hc
    split at hc
    · rename_i h0
      injection hc with hc
      subst hc
      rcases check_vals t with h | h | h
      · exact absurd h h0
      · rw [h]; exact ⟨by omega, by omega, fun h' => by omega, fun h' => by omega⟩
      · rw [h]; exact ⟨by omega, by omega, fun h' => by omega, fun h' => by omega⟩
    · split at hc
      · rename_i h0; exact absurd h0 (by omega)
      · split at hc
        · cases hc
        · injection hc with hc
          subst hc
          exact ⟨by omega, by omega, fun h' => by omega, fun _ => Or.inr rfl⟩

theorem SubstX (t : Tm) (v : Value) (at_ : Int) (s : Tm) (u : Value) (w : World) (h0 : 0 ≤ at_) (h1 : at_ ≤ 1000) (hv : TV w v t) (hu : TV w u s) (hsm : smT 1000000 t) (hsm2 : smT 1000000 s) : Calls Try.prog 30 #[v, .int .i64 at_, u] w (Got w fun c r => (c = 0 → checkT t = 0 ∧ checkT s = 0 ∧ r = substT at_ s t 0 ∧ checkT r = 0) ∧ (checkT t = 0 → checkT s = 0 → c = 0 ∨ c = 2)) := by
  refine (TSubst_any t v at_ s u w hv hu hsm hsm2 (by omega)).mono fun e w' h => got_of_ans h (fun r hr => ?_) (fun c hc => ?_)
  · unfold substRes at hr
    split at hr
    · cases hr
    · rename_i ht
      split at hr
      · cases hr
      · rename_i hs
        split at hr
        · cases hr
        · cases hw : walkF (repV at_ (sizeT s) s) Tm.add t 20000 0 0 with
          | error e => rw [hw] at hr; cases hr
          | ok q =>
            obtain ⟨room, r1⟩ := q
            rw [hw] at hr
            unfold finT at hr
            simp only [] at hr
            split at hr
            · rename_i hc
              injection hr with hr
              subst hr
              have ht' : checkT t = 0 := by simpa using ht
              have hs' : checkT s = 0 := by simpa using hs
              exact ⟨rep_sm 1000000 at_ (sizeT s) s hsm2 t hsm (check_ok ht').2.2 _ _ _ _ _ hw, fun _ => ⟨ht', hs', sub_walk at_ (sizeT s) s t (check_ok ht').2.2 _ _ _ _ _ hw, hc⟩, fun _ _ => Or.inl rfl⟩
            · cases hr
  · unfold substRes at hc
    split at hc
    · rename_i hq
      injection hc with hc
      subst hc
      rcases check_vals t with h | h | h
      · exact absurd h hq
      · rw [h]; exact ⟨by omega, by omega, fun h' => by omega, fun h' => by omega⟩
      · rw [h]; exact ⟨by omega, by omega, fun h' => by omega, fun h' => by omega⟩
    · split at hc
      · rename_i hq
        injection hc with hc
        subst hc
        rcases check_vals s with h | h | h
        · exact absurd h hq
        · rw [h]; exact ⟨by omega, by omega, fun h' => by omega, fun _ h' => by omega⟩
        · rw [h]; exact ⟨by omega, by omega, fun h' => by omega, fun _ h' => by omega⟩
      · split at hc
        · rename_i hq; exact absurd hq (by omega)
        · have h2 : c = 2 := by
            cases hw : walkF (repV at_ (sizeT s) s) Tm.add t 20000 0 0 with
            | error e =>
              rw [hw] at hc
              unfold finT at hc
              simp only [Except.error.injEq] at hc
              rw [← hc]; exact rep_err _ _ _ _ _ _ _ _ hw
            | ok q =>
              obtain ⟨room, r1⟩ := q
              rw [hw] at hc
              unfold finT at hc
              simp only [] at hc
              split at hc
              · cases hc
              · injection hc with hc; exact hc.symm
          subst h2
          exact ⟨by omega, by omega, fun h' => by omega, fun _ _ => Or.inr rfl⟩
end Go.Proofs.Ytbgkeomlfdmkeaa
