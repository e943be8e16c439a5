/- Rows of levels that grow, with a footprint. -/
import Derived.Test.YtbgkeomlfdmkeaaLVE
import Derived.Test.YtbgkeomlfdmkeaaRL
import Derived.Test.YtbgkeomlfdmkeaaOG
import Derived.Test.YtbgkeomlfdmkeaaOD
import Derived.Test.YtbgkeomlfdmkeaaOJA
import Derived.Test.YtbgkeomlfdmkeaaRP
namespace Go.Proofs.Ytbgkeomlfdmkeaa
open Go.RowKit Go.Sort

theorem ownsG_shape {w : World} {B n size : Nat} {e : TypeId} {v : Value} {xs : List Value} (h : w.ownsRow B e size v n xs) : ∃ a cap, v = .slice a n cap ∧ n ≤ cap ∧ cap ≤ 9223372036854775807 ∧ (a = none → n = 0 ∧ cap = 0) ∧ ∀ ad, a = some ad → ∃ g, ad = ⟨g, 0, none⟩ ∧ B ≤ g ∧ g < w.heap.size := by
  rcases h.2 with ⟨hv, hn⟩ | ⟨g, cap, cur, hv, hg, hh, hc, hm, hs, ht⟩
  · exact ⟨none, 0, by rw [hv, hn], by omega, by omega, fun _ => ⟨hn, rfl⟩, fun ad h => by cases h⟩
  · exact ⟨_, cap, hv, hc, by unfold maxLen at hm; omega, fun h => (by cases h), fun ad h => ⟨g, (by simpa using h.symm), hg, heap_lt hh⟩⟩

theorem ownsG_block {w W : World} {B n cap size : Nat} {e : TypeId} {a : Option Addr} {xs : List Value} (h : w.ownsRow B e size (.slice a n cap) n xs) (hk : ∀ g, a = some ⟨g, 0, none⟩ → W.heap[g]? = w.heap[g]?) : W.ownsRow B e size (.slice a n cap) n xs := by
  rcases h with ⟨h1, h2⟩
  refine ⟨h1, ?_⟩
  rcases h2 with h2 | ⟨g, cap', cur, hv, hg, hh, r⟩
  · exact Or.inl h2
  · refine Or.inr ⟨g, cap', cur, hv, hg, (hk g ?_).trans hh, r⟩
    simp at hv
    exact hv.1

theorem rowG_block {w : World} {B cap n size : Nat} {e : TypeId} {a : Option Addr} {xs : List Value} (h : w.ownsRow B e size (.slice a n cap) n xs) {k : Nat} (hk : ownB a k = true) : B ≤ k ∧ k < w.heap.size := by
  cases a with
  | none => simp [ownB] at hk
  | some ad =>
    obtain ⟨_, _, e, -, -, -, hg⟩ := ownsG_shape h
    simp only [Value.slice.injEq, true_and] at e
    obtain ⟨rfl, rfl⟩ := e
    obtain ⟨g, rfl, h1, h2⟩ := hg ad rfl
    simp [ownB] at hk
    omega

/-- a row of levels of the call's own, which do not look into it, nor into the blocks of P -/
structure RowL (w : World) (B : Nat) (P : Nat → Bool) (a : Option Addr) (cap : Nat) (ls : List LvT) : Prop where
  go : ∃ xs : List Value, w.ownsRow B 43 2 (.slice a ls.length cap) ls.length xs ∧ ∀ j n vs, ls[j]? = some (n, vs) → xs[j * 2]? = some (.int .i64 n) ∧ ∃ a' cap', xs[j * 2 + 1]? = some (.slice a' vs.length cap') ∧ (a' = none → cap' = 0) ∧ SL (maskB (fun k => P k || ownB a k) w) a' vs

theorem RowL.nil (w : World) (B : Nat) (P : Nat → Bool) : RowL w B P none 0 [] := ⟨[], World.ownsRow_nil _ _ _ _, fun j n vs h => by simp at h⟩

theorem RowL.move {w w' : World} {B cap : Nat} {P : Nat → Bool} {a : Option Addr} {ls : List LvT} (h : RowL w B P a cap ls) (hB : ∀ k, B ≤ k → P k = false) (hs : w.heap.size ≤ w'.heap.size) (hk : ∀ k, k < w.heap.size → P k = false → w'.heap[k]? = w.heap[k]?) : RowL w' B P a cap ls := by
  obtain ⟨xs, hown, hkv⟩ := h.go
  refine ⟨xs, ownsG_block hown fun g hg => ?_, fun j n vs hj => ?_⟩
  · subst hg
    obtain ⟨h1, h2⟩ := World.ownsRow.lt hown g rfl
    exact hk g h2 (hB g h1)
  · obtain ⟨c0, a', cap', c1, hn, hS⟩ := hkv j n vs hj
    refine ⟨c0, a', cap', c1, hn, hS.subF (by rw [maskB_size, maskB_size]; exact hs) (maskB_keeps fun k h1 h2 => ⟨h2, hk k h1 ?_⟩)⟩
    rw [Bool.or_eq_false_iff] at h2; exact h2.1

theorem RowL.snoc {w w' : World} {B cap cap' g : Nat} {P : Nat → Bool} {a : Option Addr} {ls : List LvT} {xs : List Value} {n : Int} {vs : List (Int × Int)} {a' : Option Addr} {c' : Nat} (hkv : ∀ j n vs, ls[j]? = some (n, vs) → xs[j * 2]? = some (.int .i64 n) ∧ ∃ a' cap', xs[j * 2 + 1]? = some (.slice a' vs.length cap') ∧ (a' = none → cap' = 0) ∧ SL (maskB (fun k => P k || ownB a k) w) a' vs) (hl : xs.length = ls.length * 2)
    (hown : w'.ownsRow B 43 2 (.slice (some ⟨g, 0, none⟩) (ls.length + 1) cap') (ls.length + 1) (xs ++ [.int .i64 n, .slice a' vs.length c'])) (hgr : w.grownBy w' (Value.slice a ls.length cap).ownBlock) (hat : (Value.slice a ls.length cap).ownBlock = some g ∨ g = w.heap.size)
    (hn : a' = none → c' = 0) (hnew : SL (maskB (fun k => P k || ownB a k) w) a' vs) : RowL w' B P (some ⟨g, 0, none⟩) cap' (ls ++ [(n, vs)]) := by
  have hmv : ∀ k, k < w.heap.size → (P k || ownB a k) = false → (P k || ownB (some ⟨g, 0, none⟩) k) = false ∧ w'.heap[k]? = w.heap[k]? := by
    intro k hk hp
    rw [Bool.or_eq_false_iff] at hp
    refine ⟨?_, hgr.block k hk (ownB_none hp.2)⟩
    rw [Bool.or_eq_false_iff]
    refine ⟨hp.1, ?_⟩
    simp only [ownB, beq_eq_false_iff_ne]
    rcases hat with hat | hat
    · intro e
      exact ownB_none hp.2 (by rw [← e, hat])
    · omega
  have hsz : (maskB (fun k => P k || ownB a k) w).heap.size ≤ (maskB (fun k => P k || ownB (some ⟨g, 0, none⟩) k) w').heap.size := by rw [maskB_size, maskB_size]; exact hgr.size
  refine ⟨_, by rw [List.length_append]; exact hown, fun j m us hj => ?_⟩
  by_cases h : j < ls.length
  · rw [List.getElem?_append_left h] at hj
    obtain ⟨c0, b', cap2, c1, hn2, hS⟩ := hkv j m us hj
    exact ⟨by rw [List.getElem?_append_left (by omega)]; exact c0, b', cap2, by rw [List.getElem?_append_left (by omega)]; exact c1, hn2, hS.subF hsz (maskB_keeps hmv)⟩
  · obtain rfl : j = ls.length := by
      have := (List.getElem?_eq_some_iff.1 hj).1; simp at this; omega
    simp only [List.getElem?_concat_length, Option.some.injEq, Prod.mk.injEq] at hj
    obtain ⟨rfl, rfl⟩ := hj
    refine ⟨?_, a', c', ?_, hn, hnew.subF hsz (maskB_keeps hmv)⟩
    · rw [List.getElem?_append_right (by omega), hl, Nat.sub_self]; rfl
    · rw [List.getElem?_append_right (by omega), hl, Nat.add_sub_cancel_left]; rfl

/-- the row as the levels of a term -/
theorem RowL.ln {w : World} {B cap : Nat} {P : Nat → Bool} {a : Option Addr} {ls : List LvT} (h : RowL w B P a cap ls) (hB : ∀ k, B ≤ k → P k = false) : LN (maskB P w) a ls ∧ (a = none → cap = 0) ∧ ls.length ≤ cap ∧ cap ≤ 9223372036854775807 := by
  obtain ⟨xs, hown, hkv⟩ := h.go
  obtain ⟨a0, cap0, e, hc, hm, hn, hg⟩ := ownsG_shape hown
  simp only [Value.slice.injEq, true_and] at e
  obtain ⟨rfl, rfl⟩ := e
  have hsub : ∀ p v, (maskB (fun k => P k || ownB a k) w).cell? p = some v → (maskB P w).cell? p = some v := maskB_keeps fun k _ hp => ⟨by rw [Bool.or_eq_false_iff] at hp; exact hp.1, rfl⟩
  refine ⟨?_, fun e => (hn e).2, hc, hm⟩
  cases a with
  | none => exact Or.inl (List.length_eq_zero_iff.1 (hn rfl).1)
  | some ad =>
    obtain ⟨g, rfl, hg1, hg2⟩ := hg ad rfl
    refine Or.inr ⟨g, 0, rfl, by rw [maskB_size]; exact hg2, fun i n vs hi => ?_⟩
    have hi' : i < ls.length := (List.getElem?_eq_some_iff.1 hi).1
    obtain ⟨c0, a', cap', c1, hn', hS⟩ := hkv i n vs hi
    have hcell : ∀ o, (maskB P w).cell? ⟨g, o, none⟩ = w.cell? ⟨g, o, none⟩ := fun o => World.cell?_of_block (maskB_no w (hB g hg1))
    refine ⟨?_, a', cap', ?_, hS.subF (by rw [maskB_size, maskB_size]; exact Nat.le_refl _) hsub, hn'⟩
    · rw [Nat.zero_add, hcell, World.ownsRow.cellAt hown (i * 2) (by omega)]; exact c0
    · rw [Nat.zero_add, hcell, World.ownsRow.cellAt hown (i * 2 + 1) (by omega)]; exact c1

theorem OR.slF {B : Nat} {w : World} {v : Value} {xs : List (Int × Int)} {P : Nat → Bool} (h : OR B w v xs) (hP : ∀ k, B ≤ k → P k = false) : ∃ a cap, v = .slice a xs.length cap ∧ SL (maskB P w) a xs ∧ (a = none → cap = 0) := by
  rcases h.2 with ⟨hv, hn⟩ | ⟨g, cap, cur, hv, hg, hh, hc, hm, hs, ht⟩
  · have : xs = [] := List.length_eq_zero_iff.1 hn
    subst this
    exact ⟨none, 0, hv, Or.inl rfl, fun _ => rfl⟩
  · refine ⟨some ⟨g, 0, none⟩, cap, hv, ?_, fun e => by cases e⟩
    obtain ⟨a', cap', e, hS, -⟩ := h.shape
    rw [hv] at e
    simp only [Value.slice.injEq, true_and] at e
    obtain ⟨rfl, rfl⟩ := e
    rcases hS with hS | ⟨b, off, ha, hlt, hS⟩
    · exact Or.inl hS
    · simp only [Option.some.injEq, Addr.mk.injEq, and_true] at ha
      obtain ⟨rfl, rfl⟩ := ha
      have hcell : ∀ o, (maskB P w).cell? ⟨g, o, none⟩ = w.cell? ⟨g, o, none⟩ := fun o => World.cell?_of_block (maskB_no w (hP g hg))
      exact Or.inr ⟨g, 0, rfl, by rw [maskB_size]; exact hlt, fun i hi => ⟨(hcell _).trans (hS i hi).1, (hcell _).trans (hS i hi).2⟩⟩

/-- append(nil, x...) of pairs, at a step of a region that draws its order -/
theorem step_appV {w : World} {ops : Array Oper} {o : Oper} {a : Act} {K : Act → World → Prop} {Q : Exit → Act → World → Prop} {E : Prop} (hgd : o.guard = none) (s x : Operand) (ho : o.op = .call { callee := .builtin .append, args := #[s, x], argTypes := #[41, 41] })
    (B : Nat) (xs : List (Int × Int)) (a1 : Option Addr) (c1 : Nat) (hs : a.eval s = .slice none 0 0) (hx : a.eval x = .slice a1 xs.length c1) (hS : SL w a1 xs) (hn : a1 = none → c1 = 0) (hl : xs.length ≤ 4398046511104) (hB : B ≤ w.heap.size)
    (h : ∀ v' w', OR B w' v' xs → w.grownBy w' none → K (a.put o.dst v') w') : if Region.wanted o (yielded ops a.tmps) = true then Oper.wp Try.prog o a w K Q else E := by
  have hw : Region.wanted o (yielded ops a.tmps) = true := by simp [Region.wanted, hgd]
  rw [if_pos hw]
  obtain ⟨i0, hi, hz0, hz1, hz2⟩ := info_parts infoLVar
  have hO : OR B w (.slice none 0 0) [] := OR.nil _ _
  cases a1 with
  | none =>
    have hxe : xs = [] := by
      rcases hS with h | ⟨b, off, ha, _⟩
      · exact h
      · cases ha
    subst hxe
    rw [hn rfl] at hx
    have hrun := run_append_owned_none (P := Try.prog) (w := w) B 41 o.type 89 i0 2 Try.underlying41 hi (.slice none 0 0) 0 [] hO
    unfold Oper.wp
    simp only [List.length_nil] at hx
    simp [execOp, ho, resolve, invoke, builtin, hs, hx, hrun, Result.andThen]
    exact h _ w hO ⟨rfl, rfl, rfl, Nat.le_refl _, fun _ _ _ => rfl⟩
  | some ad =>
    have hnews : ∀ j u, (flat xs)[j]? = some u → w.cell? (ad.add j) = some u := by
      rcases hS with h | ⟨b, off, ha, hr⟩
      · subst h; intro j u hu; simp [flat] at hu
      · have ha' : ad = ⟨b, off, none⟩ := by simpa using ha
        subst ha'
        exact SL.flat (Or.inr ⟨b, off, rfl, hr⟩)
    refine wp_append_own _ s x 41 ho B 89 i0 _ 2 16 Try.underlying41 hi hz0 hz1 hz2 rfl (by decide) (.slice none 0 0) 0 [] hs hO ad xs.length c1 (flat xs) hx (flat_length xs) hnews (flat_one xs) (by simp [maxLen]; omega) (by omega) hB ?_
    intro v' w' hown hgr _
    exact h v' w' (by unfold OR; simpa using hown) hgr
end Go.Proofs.Ytbgkeomlfdmkeaa

/- The contract of telamonref1.Clean, form by form. -/
namespace Go.Proofs.Ytbgkeomlfdmkeaa
open Go.RowKit Go.Sort

theorem set5_heap {w : World} {b : Nat} {u0 u1 u2 u3 u4 u5 x : Value} {t : TypeId} (h : w.heap[b]? = some (.cells #[u0, u1, u2, u3, u4, u5] t (0, 0))) : (w.setCell ⟨b, 5, none⟩ x).heap[b]? = some (.cells #[u0, u1, u2, u3, u4, x] t (0, 0)) := by
  rw [setCell_eq]; show (w.heap.modify b _)[b]? = _
  rw [Array.getElem?_modify, if_pos rfl, h]; rfl

theorem set4_heap {w : World} {b : Nat} {u0 u1 u2 u3 u4 u5 x : Value} {t : TypeId} (h : w.heap[b]? = some (.cells #[u0, u1, u2, u3, u4, u5] t (0, 0))) : (w.setCell ⟨b, 4, none⟩ x).heap[b]? = some (.cells #[u0, u1, u2, u3, x, u5] t (0, 0)) := by
  rw [setCell_eq]; show (w.heap.modify b _)[b]? = _
  rw [Array.getElem?_modify, if_pos rfl, h]; rfl
end Go.Proofs.Ytbgkeomlfdmkeaa

/- The contract of telamonref1.PutLevels. -/
namespace Go.Proofs.Ytbgkeomlfdmkeaa
open Go.RowKit Go.Sort

/-- a term and true, or the zero term and false -/
def PutOut (P : Nat → Bool) (R : Option Tm) (e : Ending) (w' : World) : Prop := match R with
  | none => e = .returned (.tuple #[zeroV, .bool false])
  | some x => ∃ v, e = .returned (.tuple #[v, .bool true]) ∧ ShapeT v ∧ TF w' P v x

/-- append of one level onto a row of the call's own -/
theorem wpList_appLv {w : World} {ops : Array Oper} {rest : List Oper} {o : Oper} {a : Act} {Q : Exit → Act → World → Prop} (hgd : o.guard = none) (s x : Operand) (ho : o.op = .call { callee := .builtin .append, args := #[s, x], argTypes := #[22, 22] })
    (B : Nat) (v : Value) (n : Nat) (xs news : List Value) (b c1 : Nat) (hs : a.eval s = v) (hx : a.eval x = .slice (some ⟨b, 0, none⟩) 1 c1) (hO : w.ownsRow B 43 2 v n xs) (hl : news.length = 2) (hnews : ∀ j u, news[j]? = some u → w.cell? ((⟨b, 0, none⟩ : Addr).add j) = some u) (h1 : ∀ u ∈ news, u.oneCell' = true) (hlen : n ≤ 1500000000000) (hB : B ≤ w.heap.size)
    (h : ∀ g cap w', w'.ownsRow B 43 2 (.slice (some ⟨g, 0, none⟩) (n + 1) cap) (n + 1) (xs ++ news) → w.grownBy w' v.ownBlock → (v.ownBlock = some g ∨ g = w.heap.size) → wpList Try.prog ops Q rest (a.put o.dst (.slice (some ⟨g, 0, none⟩) (n + 1) cap)) w') : wpList Try.prog ops Q (o :: rest) a w := by
  obtain ⟨i0, hi, hz0, hz1, hz2⟩ := info_parts infoLevel
  refine wpList_append_lies _ hgd s x 22 ho B 43 i0 _ 2 32 Try.underlying22 hi hz0 hz1 hz2 rfl (by decide) v n xs hs hO _ 1 c1 news hx hl hnews h1 (by decide) (by simp [maxLen]; omega) (by omega) hB _ rfl ?_
  intro g cap w' hown hgr hat _
  exact h g cap w' hown hgr hat

set_option maxRecDepth 100000 in
set_option maxHeartbeats 8000000 in
theorem putN (args : List LvT) (aa : Option Addr) (acap : Nat) (w0 : World) (f n : Int) (hd : Bool) (nm : ByteArray) (ls : List LvT) (ks : List Tm) (hf : ¬ (f = 2 ∨ f = 10)) (ih : ∀ t ∈ ks, ∀ (P : Nat → Bool) (v : Value) (w : World), smT 1000000 t → formedB t = true → TF w P v t → (∀ k, w.heap.size ≤ k → P k = false) → RowKit.Below w0.heap.size w0 w → Calls Try.prog 56 #[v, .slice aa args.length acap] w fun e w' => PutOut P (rputT args t) e w' ∧ RowKit.Below w.heap.size w w') : ∀ (P : Nat → Bool) (v : Value) (w : World), smT 1000000 (.mk f n hd nm ls ks) → formedB (.mk f n hd nm ls ks) = true → TF w P v (.mk f n hd nm ls ks) → (∀ k, w.heap.size ≤ k → P k = false) → RowKit.Below w0.heap.size w0 w → Calls Try.prog 56 #[v, .slice aa args.length acap] w fun e w' => PutOut P (rputT args (.mk f n hd nm ls ks)) e w' ∧ RowKit.Below w.heap.size w w' := by
  intro P v w hsm hfm hv hP hB0
  obtain ⟨-, s1, s2, s3, s4⟩ := (smT_mk _ _ _ _ _ _ _).1 hsm
  obtain ⟨hkl, hkf⟩ := formed_len hfm
  have hv' : TV (maskB P w) v (.mk f n hd nm ls ks) := hv
  cases hv' with
  | @mk _ _ _ _ _ _ la lc ka kc kb ko hl hln hlc hlm hkn hkc hkm hk kids =>
    have HL := Hid.mk hl
    have HLN := Hid.mk hln
    have HK := Hid.mk hk
    have HKIDS := Hid.mk kids
    have HIH := Hid.mk ih
    have HS4 := Hid.mk s4
    have HKF := Hid.mk hkf
    have HP := Hid.mk hP
    have HB0 := Hid.mk hB0
    have hf2 : (f == 2) = false := by simp; omega
    have hf10 : (f == 10) = false := by simp; omega
    have HRN : Hid (rputTs args ks = none → rputT args (.mk f n hd nm ls ks) = none) := fun h => by rw [rputT, h, if_neg hf]
    have HRS : Hid (∀ q, rputTs args ks = some q → rputT args (.mk f n hd nm ls ks) = some (.mk f n hd nm ls q)) := fun q h => by rw [rputT, h, if_neg hf]
    have HTK := Hid.mk (fun j k x d (h : ks[j]? = some k) hd hx => rputTs_take (args := args) (x := x) (d := d) h hd hx)
    have HBD := Hid.mk (fun j k (h : ks[j]? = some k) hx => rputTs_bad (args := args) h hx)
    generalize rputT args (.mk f n hd nm ls ks) = R at *
    clear hk kids ih hl hln hkn s2 s4 hsm hkf hP hv hf hfm hkl hB0
    obtain ⟨W0, hW0⟩ : ∃ W0, (w.alloc (.cells #[.int .i64 f, .int .i64 n, .bool hd, .string nm, .slice la ls.length lc, .slice ka ks.length kc] 25)).alloc (.cells #[.int .i64 0, .int .i64 0, .bool false, .string { data := #[] }, .slice none 0 0, .slice none 0 0] 25) = W0 := ⟨_, rfl⟩
    have HG0 : Hid (Grew w W0) := by unfold Hid; rw [← hW0]; exact ((Grew.refl w).alloc _).alloc _
    have HX0 : Hid (W0.heap[w.heap.size]? = some (.cells #[.int .i64 f, .int .i64 n, .bool hd, .string nm, .slice la ls.length lc, .slice ka ks.length kc] 25 (0, 0))) := by unfold Hid; rw [← hW0]; exact box_at
    have HY0 : Hid (W0.heap[w.heap.size + 1]? = some (.cells #[.int .i64 0, .int .i64 0, .bool false, .string { data := #[] }, .slice none 0 0, .slice none 0 0] 25 (0, 0))) := by unfold Hid; rw [← hW0]; exact box_at1
    have hsz0 : W0.heap.size = w.heap.size + 2 := by rw [← hW0]; simp
    have HNW : Hid (∀ k, w.heap.size + 2 ≤ k → andXY P w.heap.size k = false) := fun k hk => andXY_new HP.out k hk
    have HW0 := Hid.mk hW0
    clear hW0
    go_enter Try.func56, Try.ntmps56
    go_wp2
    rw [HW0.out]
    go_loopw [10, 11] (fun vl i wr => ∃ (j : Nat) (a : Option Addr) (cap : Nat) (d : List Tm), j ≤ ks.length ∧ i = .int .i64 j ∧ vl = .slice a j cap ∧ rputTs args (ks.take j) = some d ∧ RowF wr (w.heap.size + 2) (andXY P w.heap.size) a cap d ∧ RowKit.Below (w.heap.size + 2) W0 wr) (fun _ i _ => ks.length - (intOf i).toNat)
    case atStart => exact ⟨0, none, 0, [], Nat.zero_le _, rfl, rfl, rfl, RowF.nil W0 _ _, Below.refl _ _⟩
    case round =>
      obtain ⟨j, a, cap, d, hj, rfl, rfl, hd1, hrow, hbr⟩ := hrel
      have hdl := rputTs_len hd1
      rw [List.length_take, Nat.min_eq_left hj] at hdl
      have HDL := Hid.mk hdl
      have HD1 := Hid.mk hd1
      have HROW := Hid.mk hrow
      have HBR := Hid.mk hbr
      have hszr := hbr.size
      clear hrow hbr hd1 hdl
      have HX1 := Hid.mk ((HBR.out.block w.heap.size (by omega)).trans HX0.out)
      have HY1 := Hid.mk ((HBR.out.block (w.heap.size + 1) (by omega)).trans HY0.out)
      obtain ⟨x0, x1, x2, x3, x4, x5, x6⟩ := cells6 HX1.out
      obtain ⟨y0, y1, y2, y3, y4, y5, y6⟩ := cells6 HY1.out
      have fx := frz HX1.out
      have fy := frz HY1.out
      by_cases hlt : j < ks.length
      · obtain ⟨rfl, hkb0⟩ := HK.out (by intro e; rw [e] at hlt; simp at hlt)
        have hkt : ks[j]? = some ks[j] := List.getElem?_eq_getElem hlt
        have hmem : ks[j] ∈ ks := List.getElem_mem hlt
        obtain ⟨xs, kvs, hown, hkv⟩ := HROW.out.go
        rw [HDL.out] at hown
        have HRB : Hid (∀ k, ownB a k = true → w.heap.size + 2 ≤ k ∧ k < wr.heap.size) := fun k hk => row_block hown hk
        obtain ⟨v0, v1, v2, v3, l1, l2, l3, q1, q2, q3, c0, c1, c2, c3, c4, c5, htf⟩ := kid_tf (w' := wr) (Q := fun k => andXY P w.heap.size k || ownB a k) (HKIDS.out j _ hkt) (by omega) (fun k h1 h2 => ⟨by
            rw [andXY_old h2 h1, Bool.false_or]
            cases ho : ownB a k
            · rfl
            · have := (HRB.out k ho).1; omega, (HBR.out.block k (by omega)).trans (HG0.out.below.block k h1)⟩)
        have hPr : ∀ k, wr.heap.size ≤ k → (andXY P w.heap.size k || ownB a k) = false := fun k hk => by
          rw [HNW.out k (by omega), Bool.false_or]
          cases ho : ownB a k
          · rfl
          · have := (HRB.out k ho).2; omega
        have hkr : kb < wr.heap.size := World.block_lt_of_cell? wr _ c0
        have hbw : RowKit.Below w0.heap.size w0 wr := HB0.out.trans ((HG0.out.below.mono HB0.out.size).trans (HBR.out.mono (by have := HB0.out.size; omega)))
        have HCALL := HIH.out ks[j] hmem (fun k => andXY P w.heap.size k || ownB a k) _ wr (HS4.out _ hmem) (HKF.out _ hmem) htf hPr hbw
        have HTKJ := Hid.mk (fun x => HTK.out j _ x d hkt HD1.out)
        have HBDJ := Hid.mk (HBD.out j _ hkt)
        have HOWN := Hid.mk hown
        have HKV := Hid.mk hkv
        have HXL : Hid (xs.length = d.length * 6) := by unfold Hid; rw [HDL.out, hown.1]
        have zj : (j : Int) < (ks.length : Int) := by omega
        clear htf hPr hkt hmem hown hkv hbw
        generalize ks[j] = tk at *
        generalize rputT args tk = RK at *
        go_wp2_with fail
        refine HCALL.mono ?_
        rintro e w5 ⟨hout, hb5⟩
        have HB5 := Hid.mk hb5
        have hsz5 := hb5.size
        have HY5 := Hid.mk ((hb5.block (w.heap.size + 1) y6).trans HY1.out)
        clear hb5 HCALL c0 c1 c2 c3 c4 c5 x0 x1 x2 x3 x4 x5 y0 y1 y2 y3 y4 y5 y6 fx fy
        obtain ⟨y0, y1, y2, y3, y4, y5, y6⟩ := cells6 HY5.out
        have fy := frz HY5.out
        cases RK with
        | none =>
          have hout : e = .returned (.tuple #[zeroV, .bool false]) := hout
          subst hout
          have HE : Hid (R = none) := HRN.out (HBDJ.out rfl)
          unfold zeroV
          go_wp2
          refine bodyPost_ret (v := .tuple #[zeroV, .bool false]) (by simp [results, Try.results56, go_sem, zeroV, y0, y1, y2, y3, y4, y5, y6]) rfl ⟨by rw [HE.out]; rfl, ?_⟩
          have KF := (keep6 (P := fun k => k = w.heap.size + 1) (w := w5) (b := w.heap.size + 1) (a0 := .int .i64 0) (a1 := .int .i64 0) (a2 := .bool false) (a3 := .string { data := #[] }) (a4 := .slice none 0 0) (a5 := .slice none 0 0) rfl).alloc (.cells #[.int .i64 0, .int .i64 0, .bool false, .string { data := #[] }, .slice none 0 0, .slice none 0 0] 25)
          exact HG0.out.below.trans ((HBR.out.mono (by omega)).trans ((HB5.out.mono (by omega)).trans (KF.below (by omega) (fun k hk => by omega))))
        | some x =>
          obtain ⟨v', rfl, ⟨u0, u1, u2, u3, r1, r2, r3, s1', s2', s3', rfl⟩, htf5⟩ := hout
          have HTF5 := Hid.mk htf5
          have HOWN5 := Hid.mk (owns_block HOWN.out (fun g hg => HB5.out.block g (by subst hg; exact (World.ownsRow.lt HOWN.out g rfl).2)))
          have HOWN6 := Hid.mk ((HOWN5.out.alloc (.cells #[.int .i64 u0, .int .i64 u1, .bool u2, .string u3, .slice r1 r2 r3, .slice s1' s2' s3'] 25)).alloc (.cells #[.int .i64 u0, .int .i64 u1, .bool u2, .string u3, .slice r1 r2 r3, .slice s1' s2' s3'] 25))
          have HNEWS := Hid.mk (World.news_of_block (cs := #[.int .i64 u0, .int .i64 u1, .bool u2, .string u3, .slice r1 r2 r3, .slice s1' s2' s3']) (t := 25) (fr := (0, 0)) (box_at1 (w := w5) (o := .cells #[.int .i64 u0, .int .i64 u1, .bool u2, .string u3, .slice r1 r2 r3, .slice s1' s2' s3'] 25) (p := .cells #[.int .i64 u0, .int .i64 u1, .bool u2, .string u3, .slice r1 r2 r3, .slice s1' s2' s3'] 25)))
          have hbase : w.heap.size + 2 ≤ ((w5.alloc (.cells #[.int .i64 u0, .int .i64 u1, .bool u2, .string u3, .slice r1 r2 r3, .slice s1' s2' s3'] 25)).alloc (.cells #[.int .i64 u0, .int .i64 u1, .bool u2, .string u3, .slice r1 r2 r3, .slice s1' s2' s3'] 25)).heap.size := by simp; omega
          clear htf5
          go_wp2_with (at_builtin; refine wpList_appF rfl _ _ rfl (w.heap.size + 2) (.slice a j cap) j xs [.int .i64 u0, .int .i64 u1, .bool u2, .string u3, .slice r1 r2 r3, .slice s1' s2' s3'] (w5.heap.size + 1) 1 rfl rfl HOWN6.out rfl HNEWS.out (by simp [Value.oneCell']) (by omega) hbase ?_; intro g7 c7 W7 hown7 hgr7 hat7; have HOWN7 := Hid.mk hown7; have HGR7 := Hid.mk hgr7; have HAT7 := Hid.mk hat7; clear hown7 hgr7 hat7)
          have hbb : RowKit.Below w5.heap.size w5 ((w5.alloc (.cells #[.int .i64 u0, .int .i64 u1, .bool u2, .string u3, .slice r1 r2 r3, .slice s1' s2' s3'] 25)).alloc (.cells #[.int .i64 u0, .int .i64 u1, .bool u2, .string u3, .slice r1 r2 r3, .slice s1' s2' s3'] 25)) := ((Below.refl _ _).alloc (Nat.le_refl _) _).alloc (by simp) _
          refine ⟨⟨j + 1, some ⟨g7, 0, none⟩, c7, d ++ [x], hlt, by go_num, rfl, HTKJ.out x rfl, ?_, ?_⟩, by simp [intOf]; omega⟩
          · refine RowF.snoc (w := (w5.alloc (.cells #[.int .i64 u0, .int .i64 u1, .bool u2, .string u3, .slice r1 r2 r3, .slice s1' s2' s3'] 25)).alloc (.cells #[.int .i64 u0, .int .i64 u1, .bool u2, .string u3, .slice r1 r2 r3, .slice s1' s2' s3'] 25)) (a := a) (cap := cap) (xs := xs) (kvs := kvs) (fun j' t' hj' => ⟨(HKV.out j' t' hj').1, ((HKV.out j' t' hj').2.on HB5.out).on hbb⟩) HXL.out (by rw [HDL.out]; exact HOWN7.out) (by rw [HDL.out]; exact HGR7.out) (by rw [HDL.out]; exact HAT7.out) (HTF5.out.on hbb)
          · refine HBR.out.trans ((HB5.out.mono (by omega)).trans ((hbb.mono (by omega)).grown HGR7.out (by simp; omega) (fun k e => ?_)))
            exact (World.ownsRow.lt HOWN.out k e).1
      · obtain rfl : j = ks.length := by omega
        rw [List.take_length] at HD1
        have HE := Hid.mk (HRS.out d HD1.out)
        go_wp2
        refine bodyPost_ret (v := .tuple #[.agg #[.int .i64 f, .int .i64 n, .bool hd, .string nm, .slice la ls.length lc, .slice a ks.length cap], .bool true]) (by simp [results, Try.results56, go_sem, y0, y1, y2, y3, y4, y5]) rfl ⟨?_, ?_⟩
        all_goals have KF := (((((((Kept.refl (fun k => w.heap.size ≤ k ∧ k < w.heap.size + 2) wr).setCell (p := ⟨w.heap.size, 5, none⟩) (by simp) (.slice a ks.length cap)).setCell (p := ⟨w.heap.size + 1, 0, none⟩) (by simp) (.int .i64 f)).setCell (p := ⟨w.heap.size + 1, 1, none⟩) (by simp) (.int .i64 n)).setCell (p := ⟨w.heap.size + 1, 2, none⟩) (by simp) (.bool hd)).setCell (p := ⟨w.heap.size + 1, 3, none⟩) (by simp) (.string nm)).setCell (p := ⟨w.heap.size + 1, 4, none⟩) (by simp) (.slice la ls.length lc)).setCell (p := ⟨w.heap.size + 1, 5, none⟩) (by simp) (.slice a ks.length cap)
        · rw [HE.out]
          refine ⟨_, rfl, ⟨_, _, _, _, _, _, _, _, _, _, rfl⟩, ?_⟩
          have hrow := HROW.out.move HNW.out KF.size (fun k h1 h2 => KF.block k h1 (fun h => by
            unfold andXY at h2
            simp at h2
            omega))
          have hln : LN (maskB (andXY P w.heap.size) _) la ls := LN.subF (by rw [maskB_size, maskB_size]; have := KF.size; omega) (maskB_keeps (w := w) (P := P) (Q := andXY P w.heap.size) fun k h1 h2 => ⟨andXY_old h2 h1, (KF.block k (by omega) (by omega)).trans ((HBR.out.block k (by omega)).trans (HG0.out.below.block k h1))⟩) HL.out
          have hd := hrow.done HNW.out (f := f) (n := n) (hd := hd) (nm := nm) hln HLN.out hlc hlm
          rw [HDL.out] at hd
          exact hd.sub (fun k hk => by unfold andXY at hk; rw [Bool.or_eq_false_iff] at hk; exact hk.1)
        · exact HG0.out.below.trans ((HBR.out.mono (by omega)).trans (KF.below (by omega) (fun k hk => hk.1)))
end Go.Proofs.Ytbgkeomlfdmkeaa
