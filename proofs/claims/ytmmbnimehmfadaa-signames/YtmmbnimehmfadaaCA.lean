/- The contract of term's lifting.part. -/
import Derived.Test.YtmmbnimehmfadaaOG
import Derived.Test.YtmmbnimehmfadaaWF
import Derived.Test.YtmmbnimehmfadaaWH
import Derived.Test.YtmmbnimehmfadaaTH
import Derived.Test.YtmmbnimehmfadaaG
import Derived.Deep.RegionHeld3
import Derived.Deep.AppendLies
import Derived.Test.YtmmbnimehmfadaaWD
import Derived.Test.YtmmbnimehmfadaaOA
namespace Go.Proofs.Ytmmbnimehmfadaa
open Go.RowKit Go.Sort

theorem RO.leafOn {w w' : World} {B B' N E N' E' M g k : Nat} {v : Value} {r : Tm} (h : RO w B N E g k v r) (hr : r.kids = []) (hg : g < M) (hag : Agree B M w w') (hB : B' ≤ B) (hN : g < N') (hE : N' < E') : RO w' B' N' E' g k v r := by
  obtain ⟨f, n, hh, nm, ls, ks, lv, m, bd, kvs, rfl, rfl, hl, hBm, hmg, hgN, hNb, hbd, hE0, hrow, hkc, hkm, cells, kids⟩ := h
  have hk : ks = [] := hr
  subst hk
  exact ⟨f, n, hh, nm, ls, [], lv, m, fun _ => N' + 1, kvs, rfl, rfl, (hl.on (hag.mono (Nat.le_refl _) (by omega))).mono hB (Nat.le_refl _), by omega, hmg, hN, Nat.lt_succ_self N', fun _ => Nat.le_refl _, hE, hrow.on hag (by omega) (by omega), hkc, hkm, fun i hi => by simp at hi, fun i t hi => by simp at hi⟩

theorem Fresh.on {w w' : World} {B B' k : Nat} {v : Value} {r : Tm} (h : Fresh w B k v r) (hr : 0 < k → r.kids = []) (hs : w.heap.size ≤ w'.heap.size) (hag : Agree B w.heap.size w w') (hB : B' ≤ B) : Fresh w' B' k v r := by
  rcases h with ⟨h1, h⟩ | ⟨h1, g, hBg, hg, h⟩
  · exact Or.inl ⟨h1, (h.on hag).mono hB hs⟩
  · exact Or.inr ⟨h1, g, by omega, by omega, fun N E h2 h3 => (h (g + 1) (g + 2) (by omega) (by omega)).leafOn (hr h1) hg hag hB h2 h3⟩

theorem TO.shapeF {w : World} {B E : Nat} {v : Value} {t : Tm} (h : TO w B E v t) : ∃ (l1 : Option Addr) (l2 l3 : Nat) (k1 : Option Addr) (k2 k3 : Nat), v = .agg #[.int .i64 t.form, .int .i64 t.n, .bool t.hid, .string t.name, .slice l1 l2 l3, .slice k1 k2 k3] := by
  cases h with
  | leaf hl => obtain ⟨la, lc, rfl, -⟩ := hl.ln; exact ⟨_, _, _, _, _, _, rfl⟩
  | row hl => obtain ⟨la, lc, rfl, -⟩ := hl.ln; exact ⟨_, _, _, _, _, _, rfl⟩

theorem Fresh.shapeF {w : World} {B k : Nat} {v : Value} {t : Tm} (h : Fresh w B k v t) : ∃ (l1 : Option Addr) (l2 l3 : Nat) (k1 : Option Addr) (k2 k3 : Nat), v = .agg #[.int .i64 t.form, .int .i64 t.n, .bool t.hid, .string t.name, .slice l1 l2 l3, .slice k1 k2 k3] := by
  rcases h with ⟨-, h⟩ | ⟨-, g, -, -, h⟩
  · exact h.shapeF
  · exact (h (g + 1) (g + 2) (by omega) (by omega)).to.shapeF

/-- a right part: its fields and its kids' number -/
def GT (t : Tm) : Prop := smT 1000000 t ∧ formedB t = true

theorem GT_kid (f n : Int) (hd : Bool) (nm : ByteArray) (ls : List LvT) (ks : List Tm) (h : GT (.mk f n hd nm ls ks)) : ∀ k ∈ ks, GT k := fun k hk => by
  refine ⟨smT_kid _ _ _ _ _ _ _ h.1 k hk, ?_⟩
  have := h.2
  rw [formedB_mk, Bool.and_eq_true, List.all_eq_true] at this
  exact this.2 k hk

theorem GT_jud {t : Tm} (h : GT t) : (t.kids.length : Int) = kidsR t.form ∧ fieldsB t = true := by
  have h2 := h.2
  cases t
  rw [formedB_mk, Bool.and_eq_true] at h2
  have h3 := h2.1
  unfold judB at h3
  rw [Bool.and_eq_true] at h3
  exact ⟨of_decide_eq_true h3.1, h3.2⟩

theorem GT_leaf {t : Tm} (h : GT t) (hf : t.form = 1 ∨ t.form = 2 ∨ t.form = 10 ∨ t.form = 11) : t.kids = [] := by
  have h1 := (GT_jud h).1
  have h2 : kidsR t.form = 0 := by unfold kidsR; rw [if_pos (by omega)]
  rw [h2] at h1
  exact List.length_eq_zero_iff.1 (by omega)

theorem bareT_kids (t : Tm) : (bareT t).kids = [] := by cases t; rfl

end Go.Proofs.Ytmmbnimehmfadaa

/- The contract of telamonref1.same at right terms. -/
namespace Go.Proofs.Ytmmbnimehmfadaa
open Go.RowKit Go.Sort

theorem formed_len {f n : Int} {hd : Bool} {nm : ByteArray} {ls : List LvT} {ks : List Tm} (h : formedB (.mk f n hd nm ls ks) = true) : (ks.length : Int) = kidsR f ∧ ∀ k ∈ ks, formedB k = true := by
  rw [formedB_mk, Bool.and_eq_true, List.all_eq_true] at h
  have h1 := h.1
  unfold judB at h1
  rw [Bool.and_eq_true, decide_eq_true_eq] at h1
  exact ⟨h1.1, h.2⟩

end Go.Proofs.Ytmmbnimehmfadaa

/- The contracts of term.Free and Has, and of the reference's. -/
namespace Go.Proofs.Ytmmbnimehmfadaa
open Go.RowKit Go.Sort

theorem formed_vars (t : Tm) : formedB t = true → varsB t = true := by
  refine Tm.ind (P := fun t => formedB t = true → varsB t = true) ?_ t
  intro f n hd nm ls ks ih h
  have h2 := (formed_len h).2
  rw [varsB_mk, Bool.and_eq_true, List.all_eq_true]
  refine ⟨?_, fun k hk => ih k hk (h2 k hk)⟩
  by_cases hf : f = 1
  · subst hf
    rw [formedB_mk, Bool.and_eq_true] at h
    have h1 := h.1
    unfold judB at h1
    rw [Bool.and_eq_true] at h1
    have h3 := h1.2
    simp [fieldsB] at h3
    simp; omega
  · simp [hf]

theorem freeK_snoc (f deep : Int) (pre : List Tm) (k : Tm) : freeK f deep (pre ++ [k]) = max (freeK f deep pre) (freeR k (deepR f deep pre.length)) := by
  have := freeK_take (f := f) (deep := deep) (ks := pre ++ [k]) (j := pre.length) (k := k) (by simp)
  rw [List.take_of_length_le (by simp), List.take_left'  (by simp)] at this
  exact this

theorem deep_same {f : Int} {ks : List Tm} (hl : (ks.length : Int) = kidsR f) (b : Int) {i : Nat} (hi : i < ks.length) : deepC f b i = deepR f b i := by
  unfold deepC deepR
  by_cases hb : bindsB f = true
  · have h2 : i = 0 ∨ i = 1 := by
      unfold bindsB at hb
      simp at hb
      unfold kidsR at hl
      rw [if_neg (by omega), if_neg (by omega), if_pos (by omega)] at hl
      omega
    rcases h2 with rfl | rfl
    · simp
    · simp
  · simp [hb]

theorem abo_list (f b p : Int) : ∀ (ks pre : List Tm), (∀ (i : Nat) (k : Tm), ks[i]? = some k → deepC f b (pre.length + i) = deepR f b (pre.length + i)) → (∀ k ∈ ks, ∀ (c q : Int), 0 ≤ c → c + heightT k ≤ b + 1 + (ks.map heightT).foldl max 0 → walkF aboV max k () c q = .ok ((), freeR k c)) → 0 ≤ b → walkL aboV max f ks pre.length () (freeK f b pre) b p = .ok ((), freeK f b (pre ++ ks))
  | [], pre, _, _, _ => by rw [walkL]; simp
  | k :: ks, pre, hd, ih, hb => by
    have hm : ((k :: ks).map heightT).foldl max 0 = max (heightT k) ((ks.map heightT).foldl max 0) := by
      simp only [List.map_cons, List.foldl_cons]
      have : ∀ (l : List Nat) (a c : Nat), l.foldl max (max a c) = max a (l.foldl max c) := by
        intro l
        induction l with
        | nil => intro a c; rfl
        | cons x l ihl => intro a c; simp only [List.foldl_cons]; rw [Nat.max_assoc, ihl]
      rw [Nat.max_comm 0, this]
    rw [hm] at ih
    have e0 := hd 0 k (by simp)
    rw [Nat.add_zero] at e0
    have hdc : 0 ≤ deepR f b pre.length ∧ deepR f b pre.length ≤ b + 1 := by unfold deepR; split <;> omega
    rw [walkL, e0, ih k (by simp) _ _ hdc.1 (by omega)]
    simp only []
    rw [← freeK_snoc]
    have := abo_list f b p ks (pre ++ [k]) (fun i k' hk' => by
      have := hd (i + 1) k' (by simpa using hk')
      rw [List.length_append, List.length_singleton, show pre.length + 1 + i = pre.length + (i + 1) by omega]; exact this) (fun k' hk' c q h1 h2 => ih k' (by simp [hk']) c q h1 (by omega)) hb
    rw [List.length_append, List.length_singleton] at this
    rw [this, List.append_assoc]; rfl

theorem abo_walk (t : Tm) : formedB t = true → ∀ (b p : Int), 0 ≤ b → b + heightT t ≤ 1000000 → walkF aboV max t () b p = .ok ((), freeR t b) := by
  refine Tm.ind (P := fun t => formedB t = true → ∀ (b p : Int), 0 ≤ b → b + heightT t ≤ 1000000 → walkF aboV max t () b p = .ok ((), freeR t b)) ?_ t
  intro f n hd nm ls ks ih hf b p hb hh
  obtain ⟨h1, h2⟩ := formed_len hf
  have hv := formed_vars _ hf
  rw [walkF_mk, freeR_mk]
  rw [heightT_mk] at hh
  by_cases h0 : f = 1
  · subst h0
    have hk : ks = [] := List.length_eq_zero_iff.1 (by unfold kidsR at h1; rw [if_pos (by omega)] at h1; omega)
    subst hk
    rw [varsB_mk] at hv
    simp at hv
    have hV : aboV () (.mk 1 n hd nm ls []) b p = .ok ((), if n < b then 0 else n - b + 1) := by
      unfold aboV
      simp only [Tm.form, Tm.n, if_true]
      congr 2
      unfold wrap64
      split <;> omega
    rw [hV, if_pos rfl]
    simp only [walkL]
  · have hV : aboV () (.mk f n hd nm ls ks) b p = .ok ((), 0) := by
      unfold aboV; simp [Tm.form, h0]
    rw [hV, if_neg h0]
    have := abo_list f b p ks [] (fun i k hk => deep_same h1 b (by have := (List.getElem?_eq_some_iff.1 hk).1; simpa using this)) (fun k hk c q hc hl => ih k hk (h2 k hk) c q hc (by omega)) hb
    have e0 : freeK f b [] = 0 := by simp [freeK]
    rw [e0] at this
    simpa using this

/-- what Free answers -/
def tfreeR (t : Tm) : Int := if checkT t = 0 then freeR t 0 else 0
set_option maxRecDepth 100000 in
set_option maxHeartbeats 2000000 in
theorem Free_any (t : Tm) (v : Value) (w : World) (hv : TV w v t) (hsm : smT 1000000 t) : Calls Try.prog 33 #[v] w fun e w' => e = .returned (.int .i64 (tfreeR t)) ∧ RowKit.Below w.heap.size w w' := by
  have HR : Hid (tfreeR t = if checkT t = 0 then freeR t 0 else 0) := rfl
  have HCH := Check_any t v (w.alloc (.cells (v.cells) 26)) (hv.on ((Below.refl _ _).alloc (Nat.le_refl _) _)) hsm
  have HW := fun (hc : checkT t = 0) (W : World) (hB : RowKit.Below w.heap.size w W) => walkI_any (w0 := w) (bs := #[]) (fun _ _ _ _ _ _ _ _ _ => trivial) (fun k hk => hk.elim) (fun s w' k hI hk => hk.elim) (fun s a b h _ => trivial) cf_above cf_greater (above_visits w) greater_any t () v 0 0 W trivial trivial hv hB (by omega) (by omega) (by omega) (Or.inr (by have := (check_ok hc).2.1; omega))
  have HE := fun (hc : checkT t = 0) => abo_walk t (check_ok hc).2.2 0 0 (by omega) (by have := (check_ok hc).2.1; omega)
  generalize tfreeR t = R at HR ⊢
  obtain ⟨la, lc, ka, kc, rfl⟩ := hv.shape
  clear hv hsm
  simp only [Value.cells] at HCH
  generalize checkT t = C at *
  generalize freeR t 0 = F at *
  generalize walkF aboV max t () 0 0 = V at *
  generalize t.form = f at *
  generalize t.n = n at *
  generalize t.hid = hd at *
  generalize t.name = nm at *
  generalize t.levels.length = l1 at *
  generalize t.kids.length = k1 at *
  by_cases hc : C = 0
  · subst hc
    have HW2 := HW rfl
    rw [HE rfl] at HW2
    have HR2 : Hid (R = F) := by unfold Hid; rw [HR.out, if_pos rfl]
    clear HR HW HE
    go_enter Try.func33, Try.ntmps33
    go_wp2_with fail
    refine HCH.mono ?_
    rintro e w1 ⟨rfl, hb1⟩
    have HB1 : Hid (RowKit.Below w.heap.size w w1) := ((Below.refl w.heap.size w).alloc (Nat.le_refl _) _).trans (hb1.mono (by simp))
    obtain ⟨x0, x1, x2, x3, x4, x5, x6⟩ := cells6 ((hb1.block w.heap.size (by simp)).trans (alloc_new _ _))
    clear HCH hb1
    go_wp2_with fail
    refine (HW2 w1 HB1.out).mono ?_
    rintro e w2 ⟨hk2, rfl, -⟩
    go_wp2
    go_ret
    exact ⟨by rw [HR2.out]; rfl, HB1.out.trans (hk2.below HB1.out.size (fun k hk => hk.elim))⟩
  · have hcb : (C != 0) = true := by simpa using hc
    have HR2 : Hid (R = 0) := by unfold Hid; rw [HR.out, if_neg hc]
    clear hc HR HW HE
    go_enter Try.func33, Try.ntmps33
    go_wp2_with fail
    refine HCH.mono ?_
    rintro e w1 ⟨rfl, hb1⟩
    go_wp2
    go_ret
    exact ⟨by rw [HR2.out]; rfl, ((Below.refl w.heap.size w).alloc (Nat.le_refl _) _).trans (hb1.mono (by simp))⟩

end Go.Proofs.Ytmmbnimehmfadaa
