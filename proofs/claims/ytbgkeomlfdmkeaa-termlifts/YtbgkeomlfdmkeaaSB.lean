/- The contracts of slices.EqualFunc at terms, of term.same and term.Same. -/
import Derived.Test.YtbgkeomlfdmkeaaSA
import Derived.Test.YtbgkeomlfdmkeaaWH
namespace Go.Proofs.Ytbgkeomlfdmkeaa
open Go.RowKit Go.Sort

theorem cf_same (xs : Array Value) (w : World) : Sem.run Try.prog (callFunc 57 xs) w = .ok (.enter 57 xs) w := by simp [callFunc, go_sem, Try.func57]; rfl

/-- what same does at two terms -/
def SameAt (a b : Tm) : Prop := ∀ (va vb : Value) (w : World), smT 1000000 a → smT 1000000 b → TV w va a → TV w vb b → Calls Try.prog 57 #[va, vb] w fun e w' => e = .returned (.bool (sameT a b)) ∧ Grew w w'

set_option maxRecDepth 100000 in
set_option maxHeartbeats 2000000 in
theorem eqT_any (ks ks' : List Tm) (ka ka' : Option Addr) (kc kc' kb ko kb' ko' : Nat) (w : World) (hk : ks ≠ [] → ka = some ⟨kb, ko, none⟩ ∧ kb < w.heap.size) (kids : ∀ i t, ks[i]? = some t → TC w kb (ko + i * 6) t) (hk' : ks' ≠ [] → ka' = some ⟨kb', ko', none⟩ ∧ kb' < w.heap.size) (kids' : ∀ i t, ks'[i]? = some t → TC w kb' (ko' + i * 6) t) (hn : ks.length ≤ 1000000) (hsm : ∀ k ∈ ks, smT 1000000 k) (hsm' : ∀ k ∈ ks', smT 1000000 k) (ih : ∀ k ∈ ks, ∀ k' ∈ ks', SameAt k k') :
    Calls Try.prog 72 #[.slice ka ks.length kc, .slice ka' ks'.length kc', .func (.func 57) #[] #[]] w fun e w' => e = .returned (.bool (sameTs ks ks')) ∧ Grew w w' := by
  have HK := Hid.mk hk
  have HK' := Hid.mk hk'
  have HKIDS := Hid.mk kids
  have HKIDS' := Hid.mk kids'
  have HSM := Hid.mk hsm
  have HSM' := Hid.mk hsm'
  have HIH := Hid.mk ih
  clear hk hk' kids kids' hsm hsm' ih
  have cf := cf_same
  by_cases hLn : ks.length = ks'.length
  · have hLb : ((ks.length : Int) != (ks'.length : Int)) = false := by simp [hLn]
    have HLN := Hid.mk hLn
    clear hLn
    go_enter Try.func72, Try.ntmps72
    go_wp2
    go_loopw [17] (fun i wr => ∃ j : Nat, j ≤ ks.length ∧ i = .int .i64 j ∧ Grew w wr ∧ (∀ (i : Nat) (k k' : Tm), i < j → ks[i]? = some k → ks'[i]? = some k' → sameT k k' = true)) (fun i _ => ks.length - (intOf i).toNat)
    case atStart => exact ⟨0, Nat.zero_le _, rfl, Grew.refl _, fun i k k' h => absurd h (by omega)⟩
    case round =>
      obtain ⟨j, hj, rfl, hg, hall⟩ := hrel
      have HG := Hid.mk hg
      have HALL := Hid.mk hall
      clear hg hall
      by_cases hlt : j < ks.length
      · have hlt' : j < ks'.length := by rw [← HLN.out]; exact hlt
        obtain ⟨rfl, hkb⟩ := HK.out (by intro e; rw [e] at hlt; simp at hlt)
        obtain ⟨rfl, hkb'⟩ := HK'.out (by intro e; rw [e] at hlt'; simp at hlt')
        have hkt : ks[j]? = some ks[j] := List.getElem?_eq_getElem hlt
        have hkt' : ks'[j]? = some ks'[j] := List.getElem?_eq_getElem hlt'
        have htc := (HKIDS.out j _ hkt).on HG.out.below
        have htc' := (HKIDS'.out j _ hkt').on HG.out.below
        obtain ⟨v0, v1, v2, v3, l1, l2, l3, q1, q2, q3, c0, c1, c2, c3, c4, c5, hv⟩ := htc.valE
        obtain ⟨u0, u1, u2, u3, m1, m2, m3, r1, r2, r3, d0, d1, d2, d3, d4, d5, hu⟩ := htc'.valE
        have HC := fun (W : World) (g : Grew wr W) => HIH.out ks[j] (List.getElem_mem hlt) ks'[j] (List.getElem_mem hlt') _ _ W (HSM.out _ (List.getElem_mem hlt)) (HSM'.out _ (List.getElem_mem hlt')) (hv.on g.below) (hu.on g.below)
        have HQ1 := Hid.mk hkt
        have HQ2 := Hid.mk hkt'
        have z1 : (j : Int) < (ks.length : Int) := by omega
        have z2 : (j : Int) < (ks'.length : Int) := by omega
        have hkl := htc.lt
        have hkl' := htc'.lt
        clear hkt hkt' htc htc' hv hu
        generalize ks[j] = k at *
        generalize ks'[j] = k' at *
        have hkl1 : kb' < wr.heap.size + 1 := by omega
        obtain ⟨D, hD⟩ : ∃ D, sameT k k' = D := ⟨_, rfl⟩
        rw [hD] at HC
        have HD := Hid.mk hD
        clear hD
        cases D
        · have HE : Hid (sameTs ks ks' = false) := sameTs_at HQ1.out HQ2.out HD.out
          go_wp2_with fail
          refine (HC _ (((Grew.refl wr).alloc _).alloc _)).mono ?_
          rintro e w1 ⟨rfl, hg⟩
          go_wp2
          go_ret
          exact ⟨by rw [HE.out]; rfl, HG.out.trans ((((Grew.refl wr).alloc _).alloc _).trans hg)⟩
        · go_wp2_with fail
          refine (HC _ (((Grew.refl wr).alloc _).alloc _)).mono ?_
          rintro e w1 ⟨rfl, hg⟩
          go_wp2
          refine ⟨⟨j + 1, hlt, by go_num, HG.out.trans ((((Grew.refl wr).alloc _).alloc _).trans hg), fun i a a' hi h1 h2 => ?_⟩, by simp [intOf]; omega⟩
          by_cases hij : i = j
          · subst hij
            have e1 := HQ1.out
            have e2 := HQ2.out
            rw [e1] at h1
            rw [e2] at h2
            injection h1 with h1
            injection h2 with h2
            rw [← h1, ← h2]; exact HD.out
          · exact HALL.out i a a' (by omega) h1 h2
      · have HE : Hid (sameTs ks ks' = true) := sameTs_all HLN.out (fun i k k' h1 h2 => HALL.out i k k' (by have := (List.getElem?_eq_some_iff.1 h1).1; omega) h1 h2)
        go_wp2
        go_ret
        exact ⟨by rw [HE.out]; rfl, HG.out⟩
  · have hLb : ((ks.length : Int) != (ks'.length : Int)) = true := by simp; omega
    have HE : Hid (sameTs ks ks' = false) := sameTs_len hLn
    clear hLn
    go_enter Try.func72, Try.ntmps72
    go_wp2
    go_ret
    exact ⟨by rw [HE.out]; rfl, Grew.refl _⟩

set_option maxRecDepth 100000 in
set_option maxHeartbeats 4000000 in
theorem same_any (a : Tm) : ∀ b : Tm, SameAt a b := by
  refine Tm.ind (P := fun a => ∀ b : Tm, SameAt a b) ?_ a
  intro f n hd nm ls ks ih b va vb w hsa hsb hva hvb
  have HFS := fun (W : World) (g : Grew w W) => sameFields_any (.mk f n hd nm ls ks) b va vb W hsa hsb (hva.on g.below) (hvb.on g.below)
  have hS : sameT (.mk f n hd nm ls ks) b = (fsameB (.mk f n hd nm ls ks) b && sameTs ks b.kids) := by rw [sameT]
  rw [hS]
  clear hS
  cases hva with
  | @mk _ _ _ _ _ _ la lc ka kc kb ko hl hln hlc hlm hkn hkc hkm hk kids =>
  cases hvb with
  | @mk f' n' hd' nm' ls' ks' la' lc' ka' kc' kb' ko' hl' hln' hlc' hlm' hkn' hkc' hkm' hk' kids' =>
  obtain ⟨-, -, -, s3, s4⟩ := (smT_mk _ _ _ _ _ _ _).1 hsa
  obtain ⟨-, -, -, -, s4'⟩ := (smT_mk _ _ _ _ _ _ _).1 hsb
  have HEQ := fun (W : World) (g : Grew w W) => eqT_any ks ks' ka ka' kc kc' kb ko kb' ko' W (fun h => ⟨(hk h).1, Nat.lt_of_lt_of_le (hk h).2 g.below.size⟩) (fun i t h => (kids i t h).on g.below) (fun h => ⟨(hk' h).1, Nat.lt_of_lt_of_le (hk' h).2 g.below.size⟩) (fun i t h => (kids' i t h).on g.below) s3 s4 s4' (fun k hk k' _ => ih k hk k')
  show Calls Try.prog 57 #[.agg #[.int .i64 f, .int .i64 n, .bool hd, .string nm, .slice la ls.length lc, .slice ka ks.length kc], .agg #[.int .i64 f', .int .i64 n', .bool hd', .string nm', .slice la' ls'.length lc', .slice ka' ks'.length kc']] w fun e w' => e = .returned (.bool (fsameB (.mk f n hd nm ls ks) (.mk f' n' hd' nm' ls' ks') && sameTs ks ks')) ∧ Grew w w'
  generalize fsameB (.mk f n hd nm ls ks) (.mk f' n' hd' nm' ls' ks') = F at *
  generalize sameTs ks ks' = D at *
  clear hk hk' kids kids' ih hl hl' hsa hsb s3 s4 s4'
  cases F
  · go_enter Try.func57, Try.ntmps57
    go_wp2_with fail
    refine (HFS _ (((Grew.refl w).alloc _).alloc _)).mono ?_
    rintro e w1 ⟨rfl, hg⟩
    go_wp2
    go_ret
    exact ⟨rfl, (((Grew.refl w).alloc _).alloc _).trans hg⟩
  · go_enter Try.func57, Try.ntmps57
    go_wp2_with fail
    refine (HFS _ (((Grew.refl w).alloc _).alloc _)).mono ?_
    rintro e w1 ⟨rfl, hg⟩
    have HG1 : Hid (Grew w w1) := (((Grew.refl w).alloc _).alloc _).trans hg
    obtain ⟨x0, x1, x2, x3, x4, x5, x6⟩ := cells6 ((hg.below.block w.heap.size (by simp; omega)).trans box_at)
    obtain ⟨y0, y1, y2, y3, y4, y5, y6⟩ := cells6 ((hg.below.block (w.heap.size + 1) (by simp)).trans box_at1)
    clear hg HFS
    go_wp2_with fail
    refine (HEQ _ HG1.out).mono ?_
    rintro e w2 ⟨rfl, hg2⟩
    go_wp2
    go_ret
    exact ⟨rfl, HG1.out.trans hg2⟩
end Go.Proofs.Ytbgkeomlfdmkeaa
