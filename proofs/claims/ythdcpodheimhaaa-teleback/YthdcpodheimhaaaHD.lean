/- A region that draws its order and some of whose operations are late: they wait for all others; a condition S holds behind every operation that is not late. -/
import Derived.Test.YthdcpodheimhaaaHB
import Derived.Test.YthdcpodheimhaaaEMA
import Derived.Test.YthdcpodheimhaaaOG
namespace Go.Proofs.Ythdcpodheimhaaa
open Go.RowKit Go.Sort

section
variable {P : Program} {ops : Array Oper} {Q : Exit → Act → World → Prop} {md : Region.Mode} {S : World → Prop} {late : Nat → Bool}

/-- no operation is a defer -/
def noDefer (ops : Array Oper) : Bool := ops.all fun o => match o.op with
  | .defer _ => false
  | _ => true

theorem noDefer_spec (h : noDefer ops = true) (i : Nat) (o : Oper) (ho : ops[i]? = some o) (c : Call) : o.op ≠ .defer c := by
  intro e
  unfold noDefer at h
  rw [Array.all_eq_true] at h
  obtain ⟨hi, rfl⟩ := Array.getElem?_eq_some_iff.1 ho
  have := h i hi
  rw [e] at this
  cases this

/-- whatever order is picked from here on; S holds behind every operation that is not late -/
def wpAnyM (P : Program) (md : Region.Mode) (ops : Array Oper) (Q : Exit → Act → World → Prop) (S : World → Prop) (late : Nat → Bool) : Nat → Array Bool → Act → World → Prop
  | 0, listed, a, w => Region.ready md ops listed = [] ∧ Q .normal a w
  | fuel + 1, listed, a, w =>
    (Region.ready md ops listed = [] → Q .normal a w) ∧
    ∀ i ∈ Region.ready md ops listed, wpOp P ops Q i (fun a' w' => (late i = false → S w') ∧ wpAnyM P md ops Q S late fuel (listed.setIfInBounds i true) a' w') a w

theorem wpAny_of_late : ∀ (fuel : Nat) (listed : Array Bool) (a : Act) (w : World), wpAnyM P md ops Q S late fuel listed a w → wpAny P md ops Q fuel listed a w
  | 0, _, _, _, h => h
  | fuel + 1, _, _, _, h => ⟨h.1, fun i hi => wpOp_mono (fun a' w' h' => wpAny_of_late fuel _ a' w' h'.2) (h.2 i hi)⟩

/-- do all late operations wait for operation i? -/
def waitsM (md : Region.Mode) (ops : Array Oper) (late : Nat → Bool) (i : Nat) : Bool := (List.range ops.size).all fun j => !late j || waits md ops j i

theorem waitsM_spec {i : Nat} {listed : Array Bool} (h : waitsM md ops late i = true) (hi : i ∈ Region.ready md ops listed) {j : Nat} (hj : j ∈ Region.ready md ops listed) : late j = false := by
  cases hl : late j with
  | false => rfl
  | true =>
    exfalso
    unfold waitsM at h
    rw [List.all_eq_true] at h
    obtain ⟨-, o, ho, -⟩ := mem_ready.1 hj
    have hlt : j < ops.size := (Array.getElem?_eq_some_iff.1 ho).1
    have h1 := h j (List.mem_range.2 hlt)
    rw [hl] at h1
    exact waits_spec (by simpa using h1) hi hj

theorem wpAnyM_first {i : Nat} {oi : Oper} {v : Value} (hi : ops[i]? = some oi) (hsel : ∀ (j : Nat) (o : Oper) cs b, ops[j]? = some o → o.op ≠ .select cs b)
    (hw : waitsM md ops late i = true) (hQ : ∀ c a w, Q (.panic c) (a.put oi.dst v) w → Q (.panic c) a w) :
    ∀ (fuel : Nat) (listed : Array Bool) (a : Act) (w : World),
      (∀ j oj, ops[j]? = some oj → j ≠ i → listed.getD j true = false → (∀ e ∈ oj.after, Region.binds md e = true → e.on ≠ i) → oi.apart ops oj = true) →
      i ∈ Region.ready md ops listed → YieldsIf P ops S oi v a → S w →
      wpAnyM P md ops Q S late fuel (listed.setIfInBounds i true) (a.put oi.dst v) w → wpAnyM P md ops Q S late (fuel + 1) listed a w := by
  intro fuel
  induction fuel with
  | zero =>
    intro listed a w _ hr hy hS H
    refine ⟨fun h => (by rw [h] at hr; cases hr), fun j hj => ?_⟩
    by_cases hji : j = i
    · subst hji; exact hy.wpOp hi hS ⟨fun _ => hS, H⟩
    · have := ready_mono hj hji
      rw [H.1] at this
      cases this
  | succ fuel ih =>
    intro listed a w hfree hr hy hS H
    refine ⟨fun h => (by rw [h] at hr; cases hr), fun j hj => ?_⟩
    by_cases hji : j = i
    · subst hji; exact hy.wpOp hi hS ⟨fun _ => hS, H⟩
    · have hjl : late j = false := waitsM_spec hw hr hj
      have h1 := H.2 j (ready_mono hj hji)
      obtain ⟨hjun, oj, hoj, hall⟩ := mem_ready.1 hj
      have hnot : ∀ e ∈ oj.after, Region.binds md e = true → e.on ≠ i := fun e he hb heq => by
        have h1 := hall e he hb
        have h0 := (mem_ready.1 hr).1
        rw [heq] at h1
        rcases Nat.lt_or_ge i listed.size with h' | h'
        · simp [h'] at h0 h1; rw [h0] at h1; cases h1
        · simp [Array.getElem?_eq_none h'] at h1
      have h2 := wpOp_putIf hoj (hfree j oj hoj hji hjun hnot) (fun cs b => hsel i oi cs b hi) (fun cs b => hsel j oj cs b hoj) hQ hy h1
      have hfree' : ∀ k ok, ops[k]? = some ok → k ≠ i → (listed.setIfInBounds j true).getD k true = false →
          (∀ e ∈ ok.after, Region.binds md e = true → e.on ≠ i) → oi.apart ops ok = true := fun k ok hk hki hun hno => by
        refine hfree k ok hk hki ?_ hno
        by_cases hjk : j = k
        · subst hjk; exact hjun
        · rw [getD_set_ne true hjk] at hun; exact hun
      refine wpOp_mono (fun a' w' h3 => ⟨h3.2.1, ih (listed.setIfInBounds j true) a' w' hfree' (ready_mono hr (Ne.symm hji)) h3.1 (h3.2.1 hjl) ?_⟩) h2
      rw [Array.setIfInBounds_comm _ _ hji]
      exact h3.2.2

theorem wpAnyM_take {i : Nat} {oi : Oper} {v : Value} {fuel : Nat} {listed : Array Bool} {a : Act} {w : World} (hi : ops[i]? = some oi)
    (hs : Region.noSelect ops = true) (hf : Region.free md ops listed i = true) (hr : (Region.ready md ops listed).contains i = true) (hw : waitsM md ops late i = true)
    (hQ : ∀ c a w, Q (.panic c) (a.put oi.dst v) w → Q (.panic c) a w) (hy : YieldsIf P ops S oi v a) (hS : S w)
    (h : wpAnyM P md ops Q S late fuel (listed.setIfInBounds i true) (a.put oi.dst v) w) : wpAnyM P md ops Q S late (fuel + 1) listed a w :=
  wpAnyM_first hi (Region.noSelect_spec hs) hw hQ fuel listed a w (Region.free_spec hi hf) (by simpa using hr) hy hS h

theorem wpAnyM_done {listed : Array Bool} {a : Act} {w : World} (hr : Region.ready md ops listed = []) (h : Q .normal a w) :
    ∀ fuel, wpAnyM P md ops Q S late fuel listed a w
  | 0 => ⟨hr, h⟩
  | _ + 1 => ⟨fun _ => h, by rw [hr]; simp⟩

/-- what is to be shown where operation i comes up -/
def StepM (P : Program) (md : Region.Mode) (ops : Array Oper) (Q : Exit → Act → World → Prop) (S : World → Prop) (late : Nat → Bool) (fuel : Nat) (listed : Array Bool) (a : Act) (w : World) (i : Nat) : Prop :=
  ∃ o, ops[i]? = some o ∧ ∀ K' : Act → World → Prop, Shut (∀ a w, (late i = false → S w) → ((late i = false → S w) → wpAnyM P md ops Q S late fuel (listed.setIfInBounds i true) a w) → K' a w) → if Region.wanted o (yielded ops a.tmps) = true then Oper.wp P o a w K' Q else K' (a.put o.dst undef) w

/-- one operation alone may come up -/
theorem wpAnyM_one {i : Nat} {fuel : Nat} {listed : Array Bool} {a : Act} {w : World} (hr : Region.ready md ops listed = [i]) (h : StepM P md ops Q S late fuel listed a w i) : wpAnyM P md ops Q S late (fuel + 1) listed a w := by
  refine ⟨fun h0 => ?_, fun j hj => ?_⟩
  · rw [hr] at h0; cases h0
  · rw [hr] at hj
    obtain rfl : j = i := by simpa using hj
    obtain ⟨o, ho, h⟩ := h
    exact wpOp_step ho (fun K' hK => h K' (fun a w hS hW => hK a w ⟨hS, hW hS⟩))

/-- two operations may come up -/
theorem wpAnyM_two {i k : Nat} {fuel : Nat} {listed : Array Bool} {a : Act} {w : World} (hr : Region.ready md ops listed = [i, k]) (h : StepM P md ops Q S late fuel listed a w i) (h' : StepM P md ops Q S late fuel listed a w k) : wpAnyM P md ops Q S late (fuel + 1) listed a w := by
  refine ⟨fun h0 => ?_, fun j hj => ?_⟩
  · rw [hr] at h0; cases h0
  · rw [hr] at hj
    rcases List.mem_cons.1 hj with rfl | hj
    · obtain ⟨o, ho, h⟩ := h
      exact wpOp_step ho (fun K' hK => h K' (fun a w hS hW => hK a w ⟨hS, hW hS⟩))
    · obtain rfl : j = k := by simpa using hj
      obtain ⟨o, ho, h⟩ := h'
      exact wpOp_step ho (fun K' hK => h K' (fun a w hS hW => hK a w ⟨hS, hW hS⟩))

theorem wp_region_late {id : Nat} {a : Act} {w : World} (late : Nat → Bool) (hm : P.follows .mixedOrders = true) (hS : S w.drew)
    (h : S w.drew → wpAnyM P .any ops Q S late ops.size (Array.replicate ops.size false) a w.drew) : (Code.region id ops true).wp P Q a w :=
  wp_region_any hm (wpAny_of_late _ _ _ _ (h hS))

theorem wpIn_region_late {l n : Nat} {id : Nat} {a : Act} {w : World} (late : Nat → Bool) (hm : P.follows .mixedOrders = true) (hd : ∀ (i : Nat) (o : Oper), ops[i]? = some o → ∀ c, o.op ≠ .defer c) (hQ : ¬ LetsOut Q) (hS : S w.drew)
    (h : S w.drew → wpAnyM P .any ops Q S late ops.size (Array.replicate ops.size false) a w.drew) : (Code.region id ops true).wpIn (Fence.wide.inRound l) n P Q a w :=
  wpIn_region_any hm (any_in_round hd hQ _ _ _ _ (wpAny_of_late _ _ _ _ (h hS)))
end
end Go.Proofs.Ythdcpodheimhaaa

/- The contracts of tele.noting and of what it answers; lists of Hids in memory. -/
namespace Go.Proofs.Ythdcpodheimhaaa
open Go.RowKit Go.Sort

/-- The slice value v holds the Hids hs, in a block of its own from B on. -/
def OB1 (B : Nat) (w : World) (v : Value) (hs : List Bool) : Prop := w.ownsRow B 4 1 v hs.length (hs.map Value.bool)

theorem infoB1 : (Try.prog.info? 4).map (fun i => (i.zero, i.size, i.bytes)) = some (some (.bool false), 1, 1) := by kernel_rfl

theorem OB1.nil (B : Nat) (w : World) : OB1 B w (.slice none 0 0) [] := World.ownsRow_nil _ _ _ _

theorem OB1.move {B : Nat} {w w' : World} {v : Value} {hs : List Bool} (h : OB1 B w v hs) (hk : ∀ k, v.ownBlock = some k → w'.heap[k]? = w.heap[k]?) : OB1 B w' v hs := by
  refine ⟨h.1, ?_⟩
  rcases h.2 with h2 | ⟨g, cap, cur, hv, hg, hh, r⟩
  · exact Or.inl h2
  · exact Or.inr ⟨g, cap, cur, hv, hg, (hk g (by rw [hv]; rfl)).trans hh, r⟩

theorem OB1.lt {B : Nat} {w : World} {v : Value} {hs : List Bool} (h : OB1 B w v hs) {k : Nat} (hk : v.ownBlock = some k) : B ≤ k ∧ k < w.heap.size := World.ownsRow.lt h k hk

theorem OB1.shape {B : Nat} {w : World} {v : Value} {hs : List Bool} (h : OB1 B w v hs) : ∃ a cap, v = .slice a hs.length cap := by
  rcases h.2 with ⟨hv, hn⟩ | ⟨g, cap, cur, hv, r⟩
  · exact ⟨none, 0, by rw [hv, hn]⟩
  · exact ⟨_, cap, hv⟩

set_option maxRecDepth 100000 in
set_option maxHeartbeats 4000000 in
theorem noting1_any (B hb pb : Nat) (hs : List Bool) (hv : Value) (f n : Int) (hd : Bool) (nm : ByteArray) (la ka : Option Addr) (l1 lc k1 kc : Nat) (w : World) (hP : w.heap[pb]? = some (.cells #[.pointer (some ⟨hb, 0, none⟩)] 50 (0, 0))) (hH : w.heap[hb]? = some (.cells #[hv] 28 (0, 0))) (hO : OB1 B w hv hs) (hbB : hb < B) (hpB : pb < B) (hn : hs.length ≤ 1000000) (hBw : B ≤ w.heap.size) :
    Calls Try.prog 40 #[.agg #[.int .i64 f, .int .i64 n, .bool hd, .string nm, .slice la l1 lc, .slice ka k1 kc], .pointer (some ⟨pb, 0, none⟩)] w fun e w' => e = .returned (.tuple #[]) ∧ (∃ hv', w'.heap[hb]? = some (.cells #[hv'] 28 (0, 0)) ∧ OB1 B w' hv' (hs ++ [hd]) ∧ (hv'.ownBlock = hv.ownBlock ∨ ∀ k, hv'.ownBlock = some k → w.heap.size ≤ k)) ∧ Kept (fun k => k = hb ∨ hv.ownBlock = some k) w w' := by
  obtain ⟨a, cap, rfl⟩ := hO.shape
  obtain ⟨i0, hi, iz0, iz1, iz2⟩ := info_parts infoB1
  obtain ⟨W0, hW0⟩ : ∃ W0, w.alloc (.cells #[.int .i64 f, .int .i64 n, .bool hd, .string nm, .slice la l1 lc, .slice ka k1 kc] 25) = W0 := ⟨_, rfl⟩
  have hb0 : RowKit.Below w.heap.size w W0 := by rw [← hW0]; exact (Below.refl _ _).alloc (Nat.le_refl _) _
  have HX0 : Hid (W0.heap[w.heap.size]? = some (.cells #[.int .i64 f, .int .i64 n, .bool hd, .string nm, .slice la l1 lc, .slice ka k1 kc] 25 (0, 0))) := by unfold Hid; rw [← hW0]; exact alloc_new _ _
  have HP0 := Hid.mk ((hb0.block pb (heap_lt hP)).trans hP)
  have HH0 := Hid.mk ((hb0.block hb (heap_lt hH)).trans hH)
  have HO0 : Hid (OB1 B W0 (.slice a hs.length cap) hs) := hO.move fun k hk => hb0.block k (hO.lt hk).2
  have HB0 := Hid.mk hb0
  have hs0 : W0.heap.size = w.heap.size + 1 := by rw [← hW0]; simp
  have HSZ0 := Hid.mk hs0
  have HW0 := Hid.mk hW0
  have HCEL : Hid (∀ W : World, (∀ k, k = pb ∨ k = hb ∨ k = w.heap.size → W.heap[k]? = W0.heap[k]?) → W.cell? ⟨pb, 0, none⟩ = some (.pointer (some ⟨hb, 0, none⟩)) ∧ W.cell? ⟨hb, 0, none⟩ = some (.slice a hs.length cap) ∧ W.cell? ⟨w.heap.size, 2, none⟩ = some (.bool hd)) := fun W h => ⟨(cells1 ((h pb (by omega)).trans HP0.out)).1, (cells1 ((h hb (by omega)).trans HH0.out)).1, (cells6 ((h w.heap.size (by omega)).trans HX0.out)).2.2.1⟩
  have HOLT : Hid (∀ k, (Value.slice a hs.length cap).ownBlock = some k → B ≤ k ∧ k < w.heap.size) := fun k hk => hO.lt hk
  have mx := mixed
  have hlp := heap_lt hP
  have hlh := heap_lt hH
  clear hP hH hO hb0 hs0 hW0
  go_enter Try.func40, Try.ntmps40
  go_wp2_with fail
  rw [HW0.out]
  refine wp_region_last (S := fun w' => w'.cell? ⟨pb, 0, none⟩ = some (.pointer (some ⟨hb, 0, none⟩)) ∧ w'.cell? ⟨hb, 0, none⟩ = some (.slice a hs.length cap) ∧ w'.cell? ⟨w.heap.size, 2, none⟩ = some (.bool hd)) 9 mx ?_ (fun hHeld => ?_)
  · (try dsimp only)
    exact HCEL.out _ (fun k _ => rfl)
  refine wpAnyL_take (i := 0) (v := ?_) rfl (by kernel_rfl) (by kernel_rfl) (by kernel_rfl) (by kernel_rfl) (fun _ _ _ h => h) (Or.inl ⟨by rfl, ?_⟩) (by assumption) ?_
  rotate_left
  · (intro w hSw; (try dsimp only at hSw); go_simp; (try with_reducible rfl))
  refine wpAnyL_take (i := 1) (v := ?_) rfl (by kernel_rfl) (by kernel_rfl) (by kernel_rfl) (by kernel_rfl) (fun _ _ _ h => h) (Or.inl ⟨by rfl, ?_⟩) (by assumption) ?_
  rotate_left
  · (intro w hSw; (try dsimp only at hSw); go_simp; (try with_reducible rfl))
  refine wpAnyL_take (i := 2) (v := ?_) rfl (by kernel_rfl) (by kernel_rfl) (by kernel_rfl) (by kernel_rfl) (fun _ _ _ h => h) (Or.inl ⟨by rfl, ?_⟩) (by assumption) ?_
  rotate_left
  · (intro w hSw; (try dsimp only at hSw); go_simp; (try with_reducible rfl))
  refine wpAnyL_take (i := 3) (v := ?_) rfl (by kernel_rfl) (by kernel_rfl) (by kernel_rfl) (by kernel_rfl) (fun _ _ _ h => h) (Or.inl ⟨by rfl, ?_⟩) (by assumption) ?_
  rotate_left
  · (intro w hSw; (try dsimp only at hSw); go_simp; (try with_reducible rfl))
  refine wpAnyL_take (i := 4) (v := ?_) rfl (by kernel_rfl) (by kernel_rfl) (by kernel_rfl) (by kernel_rfl) (fun _ _ _ h => h) (Or.inl ⟨by rfl, ?_⟩) (by assumption) ?_
  rotate_left
  · (intro w hSw; (try dsimp only at hSw); go_simp; (try with_reducible rfl))
  refine wpAnyL_take (i := 5) (v := ?_) rfl (by kernel_rfl) (by kernel_rfl) (by kernel_rfl) (by kernel_rfl) (fun _ _ _ h => h) (Or.inl ⟨by rfl, ?_⟩) (by assumption) ?_
  rotate_left
  · (intro w hSw; (try dsimp only at hSw); go_simp; (try with_reducible rfl))
  refine wpAnyL_one (i := 6) (by kernel_rfl) rfl (fun K hK => ?_)
  go_simp
  refine hK.out _ _ ?_ (fun hHeld => ?_)
  · (try dsimp only)
    exact HCEL.out _ (fun k hk => Below.heap_alloc _ _ k (by have := HSZ0.out; simp; omega))
  clear hK K
  have HOWN6 : Hid ((W0.drew.alloc (.cells #[.bool hd] 4)).ownsRow B 4 1 (.slice a hs.length cap) hs.length (hs.map Value.bool)) := (HO0.out.move fun k hk => by have := HOLT.out k hk; have := HSZ0.out; exact Below.heap_alloc _ _ k (by simp; omega))
  have HNEWS := Hid.mk (World.news_of_block (cs := #[.bool hd]) (t := 4) (fr := (0, 0)) (alloc_new W0.drew (.cells #[.bool hd] 4)))
  refine wpAnyL_one (i := 7) (by kernel_rfl) rfl (fun K hK => ?_)
  refine step_append_lies _ (by rfl) _ _ _ (by rfl) B 4 i0 _ 1 1 Try.underlying28 hi iz0 iz1 iz2 rfl (by decide) (.slice a hs.length cap) hs.length (hs.map Value.bool) (by rfl) HOWN6.out ⟨W0.drew.heap.size, 0, none⟩ 1 1 [.bool hd] (by rfl) (by rfl) HNEWS.out (by simp [Value.oneCell']) (by omega) (by simp [maxLen]; omega) (by omega) (by have := HSZ0.out; simp; omega) _ rfl ?_
  intro g7 c7 W7 hown7 hgr7 hat7 hlt7
  have hne : ∀ k, k < B ∨ k = w.heap.size → W7.heap[k]? = W0.heap[k]? := fun k hk => (hgr7.block k (by have := HSZ0.out; simp; omega) (fun e => by have := HOLT.out k e.symm; omega)).trans (Below.heap_alloc _ _ k (by have := HSZ0.out; simp; omega))
  have HCE7 := Hid.mk (HCEL.out W7 (fun k hk => hne k (by omega)))
  have HH7 := Hid.mk ((hne hb (by omega)).trans HH0.out)
  have fz7 := frz HH7.out
  have HK7 : Hid (Kept (fun k => k = hb ∨ (Value.slice a hs.length cap).ownBlock = some k) w W7) := ⟨hgr7.os.trans HB0.out.os, hgr7.tape.trans HB0.out.tape, hgr7.output.trans HB0.out.output, by have := hgr7.size; have := HSZ0.out; simp at *; omega, fun k hk hp => (hgr7.block k (by have := HSZ0.out; simp; omega) (fun e => hp (Or.inr e.symm))).trans ((Below.heap_alloc _ _ k (by have := HSZ0.out; simp; omega)).trans (HB0.out.block k hk))⟩
  have HOWN7 := Hid.mk hown7
  have HAT7 : Hid ((Value.slice a hs.length cap).ownBlock = some g7 ∨ w.heap.size ≤ g7) := by
    rcases hat7 with h | h
    · exact Or.inl h
    · right; have := HSZ0.out; simp at h; omega
  have hg7 : g7 ≠ hb := by have := (World.ownsRow.lt hown7 g7 rfl).1; omega
  clear hown7 hgr7 hat7 hne
  refine hK.out _ _ ?_ (fun hHeld => ?_)
  · (try dsimp only)
    exact HCE7.out
  clear hK K
  refine wpAnyL_take (i := 8) (v := ?_) rfl (by kernel_rfl) (by kernel_rfl) (by kernel_rfl) (by kernel_rfl) (fun _ _ _ h => h) (Or.inl ⟨by rfl, ?_⟩) (by assumption) ?_
  rotate_left
  · (intro w hSw; (try dsimp only at hSw); go_simp; (try with_reducible rfl))
  refine wpAnyL_last (by kernel_rfl) rfl (by kernel_rfl) (fun K hK => ?_)
  go_simp
  refine hK.out _ _ ?_
  clear hK K
  go_wp2
  refine bodyPost_end (v := .tuple #[]) (by simp [results, Try.results40, go_sem]) rfl ?_
  refine ⟨rfl, ⟨.slice (some ⟨g7, 0, none⟩) (hs.length + 1) c7, heap_set1 HH7.out, ?_, ?_⟩, HK7.out.setCell (p := ⟨hb, 0, none⟩) (Or.inl rfl) _⟩
  · unfold OB1
    rw [List.length_append, List.map_append]
    exact ownsG_block HOWN7.out fun g hg => by
      simp only [Option.some.injEq, Addr.mk.injEq, and_true] at hg
      subst hg
      exact Below.heap_setCell _ _ _ _ (by simp only; omega)
  · rcases HAT7.out with h | h
    · exact Or.inl h.symm
    · exact Or.inr fun k hk => by simp [Value.ownBlock] at hk; omega
end Go.Proofs.Ythdcpodheimhaaa
