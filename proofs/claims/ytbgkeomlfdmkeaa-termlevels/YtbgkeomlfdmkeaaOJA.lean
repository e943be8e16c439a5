/- The contracts of term.answered and term.Lift. -/
import Derived.Test.YtbgkeomlfdmkeaaOH
namespace Go.Proofs.Ytbgkeomlfdmkeaa
open Go.RowKit Go.Sort

/-- the zero term -/
def zeroV : Value := .agg #[.int .i64 0, .int .i64 0, .bool false, .string { data := #[] }, .slice none 0 0, .slice none 0 0]

/-- a term in new memory and no error, or the zero term and an error -/
def Ans (B : Nat) (e : Ending) (w' : World) : Except Int Tm → Prop
  | .ok r => ∃ v, e = .returned (.tuple #[v, .int .i64 0]) ∧ TO w' B w'.heap.size v r
  | .error c => e = .returned (.tuple #[zeroV, .int .i64 c])

set_option maxRecDepth 100000 in
set_option maxHeartbeats 2000000 in
theorem answered_err (v : Value) (c : Int) (w : World) (hv : ShapeT v) (hc : c ≠ 0) : Calls Try.prog 48 #[v, .int .i64 c] w fun e w' => e = .returned (.tuple #[zeroV, .int .i64 c]) ∧ RowKit.Below w.heap.size w w' := by
  obtain ⟨z0, z1, z2, z3, z4, z5, z6, z7, z8, z9, rfl⟩ := hv
  have h1 : (c == 0) = false := by simpa using hc
  have h2 : (c != 0) = true := by simpa using hc
  go_enter Try.func48, Try.ntmps48
  go_wp2
  refine bodyPost_ret (v := .tuple #[zeroV, .int .i64 c]) (by simp [results, Try.results48, go_sem, zeroV]) rfl ⟨rfl, ?_⟩
  exact ((Below.refl w.heap.size w).alloc (Nat.le_refl _) _).alloc (by simp) _

set_option maxRecDepth 100000 in
set_option maxHeartbeats 2000000 in
theorem answered_ok (B : Nat) (v : Value) (r : Tm) (w : World) (hT : TO w B w.heap.size v r) (hsm : smT 1000000 r) : Calls Try.prog 48 #[v, .int .i64 0] w fun e w' => Ans B e w' (if checkT r = 0 then .ok r else .error 2) ∧ RowKit.Below w.heap.size w w' := by
  have HCH := fun (W : World) (h : RowKit.Below w.heap.size w W) => Check_any r v W (hT.tv.on h) hsm
  have HTO := Hid.mk hT
  obtain ⟨z0, z1, z2, z3, z4, z5, z6, z7, z8, z9, rfl⟩ := hT.shapeE
  clear hT
  generalize checkT r = C at *
  by_cases hc : C = 0
  · subst hc
    rw [if_pos rfl]
    go_enter Try.func48, Try.ntmps48
    go_wp2_with fail
    refine (HCH _ (((Below.refl w.heap.size w).alloc (Nat.le_refl _) _).alloc (by simp) _)).mono ?_
    rintro e w1 ⟨rfl, hb1⟩
    have hz1 : w.heap.size + 1 < w1.heap.size := by have := hb1.size; simp at this; omega
    have hz2 : w.heap.size < w1.heap.size := by omega
    have hx := (hb1.block w.heap.size (by simp; omega)).trans box_at
    have hr := (hb1.block (w.heap.size + 1) (by simp)).trans box_at1
    obtain ⟨x0, x1, x2, x3, x4, x5, x6⟩ := cells6 hx
    obtain ⟨y0, y1, y2, y3, y4, y5, y6⟩ := cells6 hr
    have fr := frz hr
    have HB1 : Hid (RowKit.Below w.heap.size w w1) := (((Below.refl w.heap.size w).alloc (Nat.le_refl _) _).alloc (by simp) _).trans (hb1.mono (by simp; omega))
    clear hx hr hb1
    go_wp2
    refine bodyPost_ret (v := .tuple #[.agg #[.int .i64 z0, .int .i64 z1, .bool z2, .string z3, .slice z4 z5 z6, .slice z7 z8 z9], .int .i64 0]) (by simp [results, Try.results48, go_sem, y0, y1, y2, y3, y4, y5]) rfl ⟨⟨_, rfl, ?_⟩, ?_⟩
    · refine ((HTO.out.on (fun k h1 h2 => ?_)).mono (Nat.le_refl _) ?_)
      · exact ((keep6 (P := fun k => k = w.heap.size + 1) rfl).block k (by omega) (by omega)).trans (HB1.out.block k h2)
      · rw [size6]; omega
    · exact HB1.out.trans ((keep6 (P := fun k => k = w.heap.size + 1) rfl).below HB1.out.size (fun k hk => by omega))
  · have h1 : (C != 0) = true := by simpa using hc
    rw [if_neg hc]
    clear hc
    go_enter Try.func48, Try.ntmps48
    go_wp2_with fail
    refine (HCH _ (((Below.refl w.heap.size w).alloc (Nat.le_refl _) _).alloc (by simp) _)).mono ?_
    rintro e w1 ⟨rfl, hb1⟩
    have hr := (hb1.block (w.heap.size + 1) (by simp)).trans box_at1
    obtain ⟨y0, y1, y2, y3, y4, y5, y6⟩ := cells6 hr
    have fr := frz hr
    have HB1 : Hid (RowKit.Below w.heap.size w w1) := (((Below.refl w.heap.size w).alloc (Nat.le_refl _) _).alloc (by simp) _).trans (hb1.mono (by simp; omega))
    clear hr hb1
    go_wp2
    refine bodyPost_ret (v := .tuple #[zeroV, .int .i64 2]) (by simp [results, Try.results48, go_sem, zeroV, y0, y1, y2, y3, y4, y5]) rfl ⟨rfl, ?_⟩
    exact HB1.out.trans ((keep6 (P := fun k => k = w.heap.size + 1) rfl).below HB1.out.size (fun k hk => by omega))

def Tm.addAll : Tm → List Tm → Tm
  | .mk f n h nm ls ks, l => .mk f n h nm ls (ks ++ l)

theorem addAll_nil (t : Tm) : t.addAll [] = t := by cases t; simp [Tm.addAll]
theorem add_addAll (t k : Tm) (l : List Tm) : (t.add k).addAll l = t.addAll (k :: l) := by cases t; simp [Tm.addAll, Tm.add]

mutual
/-- a term with its free indices lifted, within b binders -/
def liftT (fr by_ : Int) : Tm → Int → Tm
  | .mk f n h nm ls ks, b => (if f = 1 ∧ fr ≤ n - b then (bareT (.mk f n h nm ls ks)).setN (n + by_) else bareT (.mk f n h nm ls ks)).addAll (liftTs fr by_ f ks 0 b)
def liftTs (fr by_ f : Int) : List Tm → Nat → Int → List Tm
  | [], _, _ => []
  | k :: ks, i, b => liftT fr by_ k (deepC f b i) :: liftTs fr by_ f ks (i + 1) b
end

theorem lif_list (fr by_ f : Int) : ∀ (ks : List Tm) (i : Nat) (r : Tm) (b p : Int), (∀ k ∈ ks, ∀ (b p : Int), walkF (lifV fr by_) Tm.add k () b p = .ok ((), liftT fr by_ k b)) → walkL (lifV fr by_) Tm.add f ks i () r b p = .ok ((), r.addAll (liftTs fr by_ f ks i b))
  | [], i, r, b, p, _ => by rw [walkL, liftTs, addAll_nil]
  | k :: ks, i, r, b, p, ih => by
    rw [walkL, ih k (by simp), liftTs]
    simp only []
    rw [lif_list fr by_ f ks (i + 1) _ b p (fun k' hk' => ih k' (by simp [hk'])), add_addAll]

theorem lif_walk (fr by_ : Int) (t : Tm) : ∀ (b p : Int), walkF (lifV fr by_) Tm.add t () b p = .ok ((), liftT fr by_ t b) := by
  refine Tm.ind (P := fun t => ∀ (b p : Int), walkF (lifV fr by_) Tm.add t () b p = .ok ((), liftT fr by_ t b)) ?_ t
  intro f n hd nm ls ks ih b p
  have hV : lifV fr by_ () (.mk f n hd nm ls ks) b p = .ok ((), if f = 1 ∧ fr ≤ n - b then (bareT (.mk f n hd nm ls ks)).setN (n + by_) else bareT (.mk f n hd nm ls ks)) := rfl
  rw [walkF_mk, hV, liftT]
  exact lif_list fr by_ f ks 0 _ b p ih

theorem smT_bare {m : Nat} {t : Tm} (h : smT m t) (ks : List Tm) (hl : ks.length ≤ m) (hk : ∀ k ∈ ks, smT m k) (n' : Int) : smT m ((bareT t).addAll ks) ∧ smT m (((bareT t).setN n').addAll ks) := by
  cases t with
  | mk f n hd nm ls ks0 =>
    rw [smT_mk] at h
    simp only [bareT, Tm.addAll, Tm.setN, List.nil_append]
    have hn : (if f = 10 then nm else ByteArray.empty).size ≤ m := by
      split
      · exact h.1
      · exact Nat.zero_le _
    have hls : (if f = 2 ∨ f = 10 then ls else []).length ≤ m ∧ ∀ l ∈ (if f = 2 ∨ f = 10 then ls else []), l.2.length ≤ m := by
      split
      · exact ⟨h.2.1, h.2.2.1⟩
      · simp
    exact ⟨(smT_mk _ _ _ _ _ _ _).2 ⟨hn, hls.1, hls.2, hl, hk⟩, (smT_mk _ _ _ _ _ _ _).2 ⟨hn, hls.1, hls.2, hl, hk⟩⟩

theorem liftTs_len (fr by_ f : Int) : ∀ (ks : List Tm) (i : Nat) (b : Int), (liftTs fr by_ f ks i b).length = ks.length
  | [], _, _ => by rw [liftTs]
  | k :: ks, i, b => by rw [liftTs, List.length_cons, liftTs_len fr by_ f ks, List.length_cons]

theorem liftTs_mem (fr by_ f : Int) : ∀ (ks : List Tm) (i : Nat) (b : Int) (x : Tm), x ∈ liftTs fr by_ f ks i b → ∃ k ∈ ks, ∃ b', x = liftT fr by_ k b'
  | [], _, _, x, h => by rw [liftTs] at h; simp at h
  | k :: ks, i, b, x, h => by
    rw [liftTs] at h
    rcases List.mem_cons.1 h with rfl | h
    · exact ⟨k, by simp, _, rfl⟩
    · obtain ⟨k', hk', b', e⟩ := liftTs_mem fr by_ f ks (i + 1) b x h
      exact ⟨k', by simp [hk'], b', e⟩

theorem smT_lift (fr by_ : Int) (m : Nat) (t : Tm) : ∀ (b : Int), smT m t → smT m (liftT fr by_ t b) := by
  refine Tm.ind (P := fun t => ∀ (b : Int), smT m t → smT m (liftT fr by_ t b)) ?_ t
  intro f n hd nm ls ks ih b h
  have h' := (smT_mk _ _ _ _ _ _ _).1 h
  have hl : (liftTs fr by_ f ks 0 b).length ≤ m := by rw [liftTs_len]; exact h'.2.2.2.1
  have hk : ∀ x ∈ liftTs fr by_ f ks 0 b, smT m x := fun x hx => by
    obtain ⟨k, hk, b', rfl⟩ := liftTs_mem _ _ _ _ _ _ _ hx
    exact ih k hk b' (h'.2.2.2.2 k hk)
  rw [liftT]
  split
  · exact (smT_bare h _ hl hk _).2
  · exact (smT_bare h _ hl hk 0).1

/-- what Lift answers -/
def liftRes (t : Tm) (fr by_ : Int) : Except Int Tm := if checkT t ≠ 0 then .error (checkT t) else if fr < 0 ∨ 1048576 < fr ∨ by_ < 0 ∨ 1048576 < by_ then .error 1 else if checkT (liftT fr by_ t 0) = 0 then .ok (liftT fr by_ t 0) else .error 2

set_option maxRecDepth 100000 in
set_option maxHeartbeats 2000000 in
theorem Lift_any (t : Tm) (v : Value) (fr by_ : Int) (w : World) (hv : TV w v t) (hsm : smT 1000000 t) : Calls Try.prog 22 #[v, .int .i64 fr, .int .i64 by_] w fun e w' => Ans w.heap.size e w' (liftRes t fr by_) ∧ RowKit.Below w.heap.size w w' := by
  have HR : Hid (liftRes t fr by_ = if checkT t ≠ 0 then .error (checkT t) else if fr < 0 ∨ 1048576 < fr ∨ by_ < 0 ∨ 1048576 < by_ then .error 1 else if checkT (liftT fr by_ t 0) = 0 then .ok (liftT fr by_ t 0) else .error 2) := rfl
  have HCH := fun (W : World) (h : RowKit.Below w.heap.size w W) => Check_any t v W (hv.on h) hsm
  have HSL := smT_lift fr by_ 1000000 t 0 hsm
  have HW := fun (h0 : 0 ≤ fr) (h1 : fr ≤ 1048576) (h2 : 0 ≤ by_) (h3 : by_ ≤ 1048576) (hc : checkT t = 0) (W : World) (hB : RowKit.Below w.heap.size w W) => walkT_any (w0 := w) (bs := #[.agg #[.int .i64 fr, .int .i64 by_]]) GT_kid (fun k hk => hk.elim) (fun s w' k hI hk => hk.elim) (fun s a b M _ _ _ _ => trivial) cf_lifting (lifting_visits fr by_ h0 h1 h2 h3 w) t () v 0 0 W ⟨hsm, (check_ok hc).2.2⟩ trivial hv hB (by omega) (by omega) (by omega) (Or.inr (by have := (check_ok hc).2.1; omega))
  rw [lif_walk fr by_ t 0 0] at HW
  generalize liftRes t fr by_ = R at HR ⊢
  generalize hL : liftT fr by_ t 0 = L at *
  clear hL
  obtain ⟨la, lc, ka, kc, rfl⟩ := hv.shape
  clear hv hsm
  generalize checkT t = C at *
  generalize t.form = f at *
  generalize t.n = n at *
  generalize t.hid = hd at *
  generalize t.name = nm at *
  generalize t.levels.length = l1 at *
  generalize t.kids.length = k1 at *
  have HG := fun (a b : Obj) => ((Below.refl w.heap.size w).alloc (Nat.le_refl _) a).alloc (by simp) b
  by_cases hc : C = 0
  · subst hc
    by_cases hbad : fr < 0 ∨ 1048576 < fr ∨ by_ < 0 ∨ 1048576 < by_
    · have HR2 : Hid (R = .error 1) := by unfold Hid; rw [HR.out, if_neg (by simp), if_pos hbad]
      have hcases : fr < 0 ∨ (0 ≤ fr ∧ 1048576 < fr) ∨ (0 ≤ fr ∧ fr ≤ 1048576 ∧ by_ < 0) ∨ (0 ≤ fr ∧ fr ≤ 1048576 ∧ 0 ≤ by_ ∧ 1048576 < by_) := by omega
      clear HR hbad HW HSL
      rcases hcases with h1 | ⟨h1, h2⟩ | ⟨h1, h2, h3⟩ | ⟨h1, h2, h3, h4⟩
      all_goals
        go_enter Try.func22, Try.ntmps22
        go_wp2_with fail
        refine (HCH _ (HG _ _)).mono ?_
        rintro e w1 ⟨rfl, hb1⟩
        have hr := (hb1.block (w.heap.size + 1) (by simp)).trans box_at1
        obtain ⟨y0, y1, y2, y3, y4, y5, y6⟩ := cells6 hr
        have fr' := frz hr
        have HB1 : Hid (RowKit.Below w.heap.size w w1) := (HG _ _).trans (hb1.mono (by simp; omega))
        clear hr hb1
        go_wp2
        refine bodyPost_ret (v := .tuple #[zeroV, .int .i64 1]) (by simp [results, Try.results22, go_sem, zeroV, y0, y1, y2, y3, y4, y5]) rfl ⟨by rw [HR2.out]; rfl, ?_⟩
        exact HB1.out.trans ((keep6 (P := fun k => k = w.heap.size + 1) rfl).below HB1.out.size (fun k hk => by omega))
    · obtain ⟨h1, h2, h3, h4⟩ : 0 ≤ fr ∧ fr ≤ 1048576 ∧ 0 ≤ by_ ∧ by_ ≤ 1048576 := by omega
      have HR2 : Hid (R = if checkT L = 0 then .ok L else .error 2) := by unfold Hid; rw [HR.out, if_neg (by simp), if_neg hbad]
      have HW2 := HW h1 h2 h3 h4 rfl
      clear HR hbad HW
      go_enter Try.func22, Try.ntmps22
      go_wp2_with fail
      refine (HCH _ (HG _ _)).mono ?_
      rintro e w1 ⟨rfl, hb1⟩
      have hz1 : w.heap.size + 1 < w1.heap.size := by have := hb1.size; simp at this; omega
      have hx := (hb1.block w.heap.size (by simp; omega)).trans box_at
      obtain ⟨x0, x1, x2, x3, x4, x5, x6⟩ := cells6 hx
      have hr := (hb1.block (w.heap.size + 1) (by simp)).trans box_at1
      have HB1 : Hid (RowKit.Below w.heap.size w w1) := (HG _ _).trans (hb1.mono (by simp; omega))
      have HZ1 := Hid.mk hr
      clear hx hr hb1
      go_wp2_with fail
      refine (HW2 w1 HB1.out).mono ?_
      rintro e w2 ⟨hk2, ⟨v2, rfl, hto⟩, -⟩
      have hz2 := hk2.size
      have HK2 : Hid (RowKit.Below w1.heap.size w1 w2) := hk2.below (Nat.le_refl _) (fun k hk => hk.elim)
      have HAN := answered_ok w1.heap.size v2 L w2 hto HSL
      clear hk2 hto
      go_wp2_with fail
      refine HAN.mono ?_
      rintro e w3 ⟨hans, hb3⟩
      have hz3 := hb3.size
      have hr := (hb3.block (w.heap.size + 1) (by omega)).trans ((HK2.out.block (w.heap.size + 1) hz1).trans HZ1.out)
      obtain ⟨y0, y1, y2, y3, y4, y5, y6⟩ := cells6 hr
      have fr' := frz hr
      have HB3 : Hid (RowKit.Below w.heap.size w w3) := HB1.out.trans ((HK2.out.mono HB1.out.size).trans (hb3.mono (by omega)))
      clear hr hb3
      by_cases hcl : checkT L = 0
      · rw [if_pos hcl] at hans
        rw [if_pos hcl] at HR2
        obtain ⟨v3, rfl, ht3⟩ := hans
        have HT3 := Hid.mk ht3
        obtain ⟨z0, z1, z2, z3, z4, z5, z6, z7, z8, z9, rfl⟩ := ht3.shapeE
        clear ht3 hcl
        go_wp2
        refine bodyPost_ret (v := .tuple #[.agg #[.int .i64 z0, .int .i64 z1, .bool z2, .string z3, .slice z4 z5 z6, .slice z7 z8 z9], .int .i64 0]) (by simp [results, Try.results22, go_sem, y0, y1, y2, y3, y4, y5]) rfl ⟨?_, ?_⟩
        · rw [HR2.out]
          refine ⟨_, rfl, ?_⟩
          rw [size6]
          exact (HT3.out.on (fun k h1 h2 => (keep6 (P := fun k => k = w.heap.size + 1) rfl).block k h2 (by omega))).mono (by omega) (Nat.le_refl _)
        · exact HB3.out.trans ((keep6 (P := fun k => k = w.heap.size + 1) rfl).below HB3.out.size (fun k hk => by omega))
      · rw [if_neg hcl] at hans
        rw [if_neg hcl] at HR2
        have hans : e = .returned (.tuple #[zeroV, .int .i64 2]) := hans
        subst hans
        unfold zeroV
        clear hcl
        go_wp2
        refine bodyPost_ret (v := .tuple #[zeroV, .int .i64 2]) (by simp [results, Try.results22, go_sem, zeroV, y0, y1, y2, y3, y4, y5]) rfl ⟨by rw [HR2.out]; rfl, ?_⟩
        exact HB3.out.trans ((keep6 (P := fun k => k = w.heap.size + 1) rfl).below HB3.out.size (fun k hk => by omega))
  · have hcb : (C != 0) = true := by simpa using hc
    have HR2 : Hid (R = .error C) := by unfold Hid; rw [HR.out, if_pos hc]
    clear hc HR HW HSL
    go_enter Try.func22, Try.ntmps22
    go_wp2_with fail
    refine (HCH _ (HG _ _)).mono ?_
    rintro e w1 ⟨rfl, hb1⟩
    have hr := (hb1.block (w.heap.size + 1) (by simp)).trans box_at1
    obtain ⟨y0, y1, y2, y3, y4, y5, y6⟩ := cells6 hr
    have fr' := frz hr
    have HB1 : Hid (RowKit.Below w.heap.size w w1) := (HG _ _).trans (hb1.mono (by simp; omega))
    clear hr hb1
    go_wp2
    refine bodyPost_ret (v := .tuple #[zeroV, .int .i64 C]) (by simp [results, Try.results22, go_sem, zeroV, y0, y1, y2, y3, y4, y5]) rfl ⟨by rw [HR2.out]; rfl, ?_⟩
    exact HB1.out.trans ((keep6 (P := fun k => k = w.heap.size + 1) rfl).below HB1.out.size (fun k hk => by omega))
end Go.Proofs.Ytbgkeomlfdmkeaa

/- The contract of term's replacing.kept. -/
namespace Go.Proofs.Ytbgkeomlfdmkeaa
open Go.RowKit Go.Sort

theorem cells4 {w : World} {b : Nat} {v0 v1 v2 v3 : Value} {t : TypeId} (h : w.heap[b]? = some (.cells #[v0, v1, v2, v3] t (0, 0))) :
    w.cell? ⟨b, 0, none⟩ = some v0 ∧ w.cell? ⟨b, 1, none⟩ = some v1 ∧ w.cell? ⟨b, 2, none⟩ = some v2 ∧ w.cell? ⟨b, 3, none⟩ = some v3 ∧ b < w.heap.size :=
  ⟨by rw [cell_of_row _ b 0 _ _ _ h]; rfl, by rw [cell_of_row _ b 1 _ _ _ h]; rfl, by rw [cell_of_row _ b 2 _ _ _ h]; rfl, by rw [cell_of_row _ b 3 _ _ _ h]; rfl, (Array.getElem?_eq_some_iff.1 h).1⟩

theorem set43 {w : World} {b : Nat} {v0 v1 v2 v3 x : Value} {t : TypeId} (h : w.heap[b]? = some (.cells #[v0, v1, v2, v3] t (0, 0))) : (w.setCell ⟨b, 3, none⟩ x).heap[b]? = some (.cells #[v0, v1, v2, x] t (0, 0)) := by
  rw [setCell_eq]; show (w.heap.modify b _)[b]? = _
  rw [Array.getElem?_modify, if_pos rfl, h]; rfl

theorem Fresh.setN {w : World} {B k : Nat} {f n : Int} {h : Bool} {nm : ByteArray} {lv kv : Value} {r : Tm} (hF : Fresh w B k (.agg #[.int .i64 f, .int .i64 n, .bool h, .string nm, lv, kv]) r) (n' : Int) : Fresh w B k (.agg #[.int .i64 f, .int .i64 n', .bool h, .string nm, lv, kv]) (r.setN n') := by
  rcases hF with ⟨hk, h⟩ | ⟨hk, g, h1, h2, h3⟩
  · exact Or.inl ⟨hk, h.setN n'⟩
  · refine Or.inr ⟨hk, g, h1, h2, fun N E hN hE => ?_⟩
    obtain ⟨f', n2, h', nm', ls, ks, lv', m, bd, kvs, hv, rfl, rest⟩ := h3 N E hN hE
    injection hv with hv
    have e0 := congrArg (fun a : Array Value => a[0]?) hv
    have e2 := congrArg (fun a : Array Value => a[2]?) hv
    have e3 := congrArg (fun a : Array Value => a[3]?) hv
    have e4 := congrArg (fun a : Array Value => a[4]?) hv
    have e5 := congrArg (fun a : Array Value => a[5]?) hv
    simp at e0 e2 e3 e4 e5
    subst e0 e2 e3 e4 e5
    exact ⟨f, n', h, nm, ls, ks, lv, m, bd, kvs, rfl, rfl, rest⟩

theorem setN_kids (t : Tm) (n : Int) : (t.setN n).kids = t.kids := by cases t; rfl

theorem cf_kept (xs : Array Value) (w : World) : Sem.run Try.prog (callFunc 88 xs) w = .ok (.enter 88 xs) w := by simp [callFunc, go_sem, Try.func88]; rfl

set_option maxRecDepth 100000 in
set_option maxHeartbeats 2000000 in
theorem kept_bad (X : Nat) (at_ s less : Int) (ba sa : Option Addr) (bl bc sl sc : Nat) (t : Tm) (v : Value) (w : World) (hv : TV w v t) (hXc : w.heap[X]? = some (.cells #[.int .i64 at_, .slice ba bl bc, .slice sa sl sc, .int .i64 s] 98 (0, 0))) (hs : s - 1 < 0) (hs0 : 0 ≤ s) :
    Calls Try.prog 88 #[.pointer (some ⟨X, 0, none⟩), v, .int .i64 less] w fun e w' => Kept (· = X) w w' ∧ (∃ v', ShapeT v' ∧ e = .returned (.tuple #[v', .int .i64 2])) ∧ w'.heap[X]? = some (.cells #[.int .i64 at_, .slice ba bl bc, .slice sa sl sc, .int .i64 (s - 1)] 98 (0, 0)) := by
  obtain ⟨c0, c1, c2, c3, cX⟩ := cells4 hXc
  have fX := frz hXc
  have HXC := Hid.mk hXc
  clear hXc
  obtain ⟨la, lc, ka, kc, rfl⟩ := hv.shape
  clear hv
  generalize t.form = f at *
  generalize t.n = n at *
  generalize t.hid = hd at *
  generalize t.name = nm at *
  generalize t.levels.length = l1 at *
  generalize t.kids.length = k1 at *
  go_enter Try.func88, Try.ntmps88
  go_wp2
  refine bodyPost_ret (v := .tuple #[zeroV, .int .i64 2]) (by simp [results, Try.results88, go_sem, zeroV]) rfl ⟨?_, ?_, ?_⟩
  · exact (((Kept.refl (· = X) w).setCell (p := ⟨X, 3, none⟩) rfl _).alloc _).alloc _
  · exact ⟨_, ⟨_, _, _, _, _, _, _, _, _, _, rfl⟩, rfl⟩
  · exact alloc_old (alloc_old (set43 HXC.out) _) _

set_option maxRecDepth 100000 in
set_option maxHeartbeats 2000000 in
theorem kept_ok (X : Nat) (at_ s less : Int) (ba sa : Option Addr) (bl bc sl sc : Nat) (t : Tm) (v : Value) (w : World) (hTV : ∀ W : World, Kept (· = X) w W → TV W v t) (hXc : w.heap[X]? = some (.cells #[.int .i64 at_, .slice ba bl bc, .slice sa sl sc, .int .i64 s] 98 (0, 0))) (hs : ¬ s - 1 < 0) (hs1 : s ≤ 20000) (hsm : smT 1000000 t) (h0 : t.form = 2 ∨ t.form = 10 → t.kids = []) (hl0 : -9223372036854775808 ≤ (bareT t).n - less) (hl1 : (bareT t).n - less ≤ 9223372036854775807) :
    Calls Try.prog 88 #[.pointer (some ⟨X, 0, none⟩), v, .int .i64 less] w fun e w' => Kept (· = X) w w' ∧ (∃ v', e = .returned (.tuple #[v', .int .i64 0]) ∧ Fresh w' w.heap.size t.kids.length v' ((bareT t).setN ((bareT t).n - less))) ∧ w'.heap[X]? = some (.cells #[.int .i64 at_, .slice ba bl bc, .slice sa sl sc, .int .i64 (s - 1)] 98 (0, 0)) := by
  obtain ⟨c0, c1, c2, c3, cX⟩ := cells4 hXc
  have fX := frz hXc
  have HXC := Hid.mk hXc
  clear hXc
  have HBA := fun (W : World) (hb : TV W v t) => bare_any t v W hb hsm h0
  have hv := hTV w (Kept.refl _ _)
  have HTVW := Hid.mk hTV
  clear hTV
  have HBF := Hid.mk (bareT_form t)
  have HBK := Hid.mk (bareT_kids t)
  obtain ⟨la, lc, ka, kc, rfl⟩ := hv.shape
  generalize bareT t = r at *
  clear hv hsm h0
  generalize t.form = f at *
  generalize t.n = n at *
  generalize t.hid = hd at *
  generalize t.name = nm at *
  generalize t.levels.length = l1 at *
  generalize hkk : t.kids.length = k1 at *
  clear hkk
  go_enter Try.func88, Try.ntmps88
  go_wp2_with fail
  obtain ⟨W1, hW1⟩ : ∃ W1, ((w.setCell ⟨X, 3, none⟩ (.int .i64 (s - 1))).alloc (.cells #[.int .i64 f, .int .i64 n, .bool hd, .string nm, .slice la l1 lc, .slice ka k1 kc] 25)).alloc (.cells #[.int .i64 0, .int .i64 0, .bool false, .string { data := #[] }, .slice none 0 0, .slice none 0 0] 25) = W1 := ⟨_, rfl⟩
  have hsz : (w.setCell ⟨X, 3, none⟩ (.int .i64 (s - 1))).heap.size = w.heap.size := by simp [World.setCell]
  have HX1 : Hid (W1.heap[X]? = some (.cells #[.int .i64 at_, .slice ba bl bc, .slice sa sl sc, .int .i64 (s - 1)] 98 (0, 0))) := by unfold Hid; rw [← hW1]; exact alloc_old (alloc_old (set43 HXC.out) _) _
  have HK1 : Hid (Kept (· = X) w W1) := by unfold Hid; rw [← hW1]; exact (((Kept.refl (· = X) w).setCell (p := ⟨X, 3, none⟩) rfl _).alloc _).alloc _
  have HSZ1 : Hid (W1.heap.size = w.heap.size + 1 + 1) := by unfold Hid; rw [← hW1]; simp [World.setCell]
  have HT1 : Hid (W1.heap[w.heap.size]? = some (.cells #[.int .i64 f, .int .i64 n, .bool hd, .string nm, .slice la l1 lc, .slice ka k1 kc] 25 (0, 0))) := by unfold Hid; rw [← hW1, ← hsz]; exact box_at
  have HZ1 : Hid (W1.heap[w.heap.size + 1]? = some (.cells #[.int .i64 0, .int .i64 0, .bool false, .string { data := #[] }, .slice none 0 0, .slice none 0 0] 25 (0, 0))) := by unfold Hid; rw [← hW1, ← hsz]; exact box_at1
  rw [hW1]
  clear hW1 hsz
  refine (HBA W1 (HTVW.out W1 HK1.out)).mono ?_
  rintro e w5 ⟨v5, rfl, hfr, hb5⟩
  have hz5 := hb5.size
  have hsz1 := HSZ1.out
  have hzr : w.heap.size + 1 < w5.heap.size := by omega
  have hzt : w.heap.size < w5.heap.size := by omega
  have hzX : X < w5.heap.size := by omega
  obtain ⟨q1, q2, q3, p1, p2, p3, rfl⟩ := hfr.shapeF
  have HFR := Hid.mk hfr
  generalize r.form = rf at *
  generalize r.hid = rh at *
  generalize r.name = rn at *
  obtain ⟨rN, hrN⟩ : ∃ rN, r.n = rN := ⟨_, rfl⟩
  rw [hrN] at HFR hl0 hl1 ⊢
  have HRN := Hid.mk hrN
  clear hrN
  obtain ⟨c0, c1, c2, c3, -⟩ := cells4 ((hb5.block X (by omega)).trans HX1.out)
  obtain ⟨x0, x1, x2, x3, x4, x5, x6⟩ := cells6 ((hb5.block w.heap.size (by omega)).trans HT1.out)
  have hr := (hb5.block (w.heap.size + 1) (by omega)).trans HZ1.out
  obtain ⟨y0, y1, y2, y3, y4, y5, y6⟩ := cells6 hr
  have fr := frz hr
  have HB5 := Hid.mk hb5
  clear hr hb5 hfr hsz1 HBA
  go_wp2
  refine bodyPost_ret (v := .tuple #[.agg #[.int .i64 rf, .int .i64 (rN - less), .bool rh, .string rn, .slice q1 q2 q3, .slice p1 p2 p3], .int .i64 0]) (by simp [results, Try.results88, go_sem, y0, y1, y2, y3, y4, y5, hzr]) rfl ⟨?_, ?_, ?_⟩
  · exact ((HK1.out.trans (Kept.of_below HB5.out)).old (Q := fun k => k = w.heap.size + 1) (keep6 rfl) (fun i h1 h2 => by omega)).alloc _
  · rw [HRN.out]
    exact ⟨_, rfl, (HFR.out.setN _).fin (fun _ => by rw [setN_kids]; exact HBK.out) (by have := HSZ1.out; omega) (by have := HSZ1.out; omega)⟩
  · exact alloc_old (((keep6 (P := fun k => k = w.heap.size + 1) rfl).block X hzX (by omega)).trans ((HB5.out.block X (by have := HSZ1.out; omega)).trans HX1.out)) _
end Go.Proofs.Ytbgkeomlfdmkeaa
