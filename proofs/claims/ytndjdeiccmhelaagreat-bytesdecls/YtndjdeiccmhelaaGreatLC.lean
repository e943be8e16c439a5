/- A region that draws its order and some of whose operations are late: they wait for all others; a condition S holds behind every operation that is not late. -/
import Derived.Test.YtndjdeiccmhelaaGreatRL
import Derived.Test.YtndjdeiccmhelaaGreatWA
import Derived.RangeFuncNested
import Derived.OrdersIn
import Derived.Test.YtndjdeiccmhelaaGreatLB
namespace Go.Proofs.YtndjdeiccmhelaaGreat
open Go.RowKit Go.Sort

section
variable {P : Program} {ops : Array Oper} {Q : Exit → Act → World → Prop} {md : Region.Mode} {S : World → Prop} {late : Nat → Bool}

/-- whatever order is picked from here on; S holds behind every operation that is not late -/
def wpAnyM (P : Program) (md : Region.Mode) (ops : Array Oper) (Q : Exit → Act → World → Prop) (S : World → Prop) (late : Nat → Bool) : Nat → Array Bool → Act → World → Prop
  | 0, listed, a, w => Region.ready md ops listed = [] ∧ Q .normal a w
  | fuel + 1, listed, a, w =>
    (Region.ready md ops listed = [] → Q .normal a w) ∧
    ∀ i ∈ Region.ready md ops listed, wpOp P ops Q i (fun a' w' => (late i = false → S w') ∧ wpAnyM P md ops Q S late fuel (listed.setIfInBounds i true) a' w') a w

theorem wpAny_of_late : ∀ (fuel : Nat) (listed : Array Bool) (a : Act) (w : World), wpAnyM P md ops Q S late fuel listed a w → wpAny P md ops Q fuel listed a w
  | 0, _, _, _, h => h
  | fuel + 1, _, _, _, h => ⟨h.1, fun i hi => wpOp_mono (fun a' w' h' => wpAny_of_late fuel _ a' w' h'.2) (h.2 i hi)⟩

/-- do all late operations wait for operation i? -/
def waitsM (md : Region.Mode) (ops : Array Oper) (late : Nat → Bool) (i : Nat) : Bool := (List.range ops.size).all fun j => !late j || waits md ops j i

theorem waitsM_spec {i : Nat} {listed : Array Bool} (h : waitsM md ops late i = true) (hi : i ∈ Region.ready md ops listed) {j : Nat} (hj : j ∈ Region.ready md ops listed) : late j = false := by
  cases hl : late j with
  | false => rfl
  | true =>
    exfalso
    unfold waitsM at h
    rw [List.all_eq_true] at h
    obtain ⟨-, o, ho, -⟩ := mem_ready.1 hj
    have hlt : j < ops.size := (Array.getElem?_eq_some_iff.1 ho).1
    have h1 := h j (List.mem_range.2 hlt)
    rw [hl] at h1
    exact waits_spec (by simpa using h1) hi hj

theorem wpAnyM_first {i : Nat} {oi : Oper} {v : Value} (hi : ops[i]? = some oi) (hsel : ∀ (j : Nat) (o : Oper) cs b, ops[j]? = some o → o.op ≠ .select cs b)
    (hw : waitsM md ops late i = true) (hQ : ∀ c a w, Q (.panic c) (a.put oi.dst v) w → Q (.panic c) a w) :
    ∀ (fuel : Nat) (listed : Array Bool) (a : Act) (w : World),
      (∀ j oj, ops[j]? = some oj → j ≠ i → listed.getD j true = false → (∀ e ∈ oj.after, Region.binds md e = true → e.on ≠ i) → oi.apart ops oj = true) →
      i ∈ Region.ready md ops listed → YieldsIf P ops S oi v a → S w →
      wpAnyM P md ops Q S late fuel (listed.setIfInBounds i true) (a.put oi.dst v) w → wpAnyM P md ops Q S late (fuel + 1) listed a w := by
  intro fuel
  induction fuel with
  | zero =>
    intro listed a w _ hr hy hS H
    refine ⟨fun h => (by rw [h] at hr; cases hr), fun j hj => ?_⟩
    by_cases hji : j = i
    · subst hji; exact hy.wpOp hi hS ⟨fun _ => hS, H⟩
    · have := ready_mono hj hji
      rw [H.1] at this
      cases this
  | succ fuel ih =>
    intro listed a w hfree hr hy hS H
    refine ⟨fun h => (by rw [h] at hr; cases hr), fun j hj => ?_⟩
    by_cases hji : j = i
    · subst hji; exact hy.wpOp hi hS ⟨fun _ => hS, H⟩
    · have hjl : late j = false := waitsM_spec hw hr hj
      have h1 := H.2 j (ready_mono hj hji)
      obtain ⟨hjun, oj, hoj, hall⟩ := mem_ready.1 hj
      have hnot : ∀ e ∈ oj.after, Region.binds md e = true → e.on ≠ i := fun e he hb heq => by
        have h1 := hall e he hb
        have h0 := (mem_ready.1 hr).1
        rw [heq] at h1
        rcases Nat.lt_or_ge i listed.size with h' | h'
        · simp [h'] at h0 h1; rw [h0] at h1; cases h1
        · simp [Array.getElem?_eq_none h'] at h1
      have h2 := wpOp_putIf hoj (hfree j oj hoj hji hjun hnot) (fun cs b => hsel i oi cs b hi) (fun cs b => hsel j oj cs b hoj) hQ hy h1
      have hfree' : ∀ k ok, ops[k]? = some ok → k ≠ i → (listed.setIfInBounds j true).getD k true = false →
          (∀ e ∈ ok.after, Region.binds md e = true → e.on ≠ i) → oi.apart ops ok = true := fun k ok hk hki hun hno => by
        refine hfree k ok hk hki ?_ hno
        by_cases hjk : j = k
        · subst hjk; exact hjun
        · rw [getD_set_ne true hjk] at hun; exact hun
      refine wpOp_mono (fun a' w' h3 => ⟨h3.2.1, ih (listed.setIfInBounds j true) a' w' hfree' (ready_mono hr (Ne.symm hji)) h3.1 (h3.2.1 hjl) ?_⟩) h2
      rw [Array.setIfInBounds_comm _ _ hji]
      exact h3.2.2

theorem wpAnyM_take {i : Nat} {oi : Oper} {v : Value} {fuel : Nat} {listed : Array Bool} {a : Act} {w : World} (hi : ops[i]? = some oi)
    (hs : Region.noSelect ops = true) (hf : Region.free md ops listed i = true) (hr : (Region.ready md ops listed).contains i = true) (hw : waitsM md ops late i = true)
    (hQ : ∀ c a w, Q (.panic c) (a.put oi.dst v) w → Q (.panic c) a w) (hy : YieldsIf P ops S oi v a) (hS : S w)
    (h : wpAnyM P md ops Q S late fuel (listed.setIfInBounds i true) (a.put oi.dst v) w) : wpAnyM P md ops Q S late (fuel + 1) listed a w :=
  wpAnyM_first hi (Region.noSelect_spec hs) hw hQ fuel listed a w (Region.free_spec hi hf) (by simpa using hr) hy hS h

theorem wpAnyM_done {listed : Array Bool} {a : Act} {w : World} (hr : Region.ready md ops listed = []) (h : Q .normal a w) :
    ∀ fuel, wpAnyM P md ops Q S late fuel listed a w
  | 0 => ⟨hr, h⟩
  | _ + 1 => ⟨fun _ => h, by rw [hr]; simp⟩

/-- what is to be shown where operation i comes up -/
def StepM (P : Program) (md : Region.Mode) (ops : Array Oper) (Q : Exit → Act → World → Prop) (S : World → Prop) (late : Nat → Bool) (fuel : Nat) (listed : Array Bool) (a : Act) (w : World) (i : Nat) : Prop :=
  ∃ o, ops[i]? = some o ∧ ∀ K' : Act → World → Prop, Shut (∀ a w, (late i = false → S w) → ((late i = false → S w) → wpAnyM P md ops Q S late fuel (listed.setIfInBounds i true) a w) → K' a w) → if Region.wanted o (yielded ops a.tmps) = true then Oper.wp P o a w K' Q else K' (a.put o.dst undef) w

/-- one operation alone may come up -/
theorem wpAnyM_one {i : Nat} {fuel : Nat} {listed : Array Bool} {a : Act} {w : World} (hr : Region.ready md ops listed = [i]) (h : StepM P md ops Q S late fuel listed a w i) : wpAnyM P md ops Q S late (fuel + 1) listed a w := by
  refine ⟨fun h0 => ?_, fun j hj => ?_⟩
  · rw [hr] at h0; cases h0
  · rw [hr] at hj
    obtain rfl : j = i := by simpa using hj
    obtain ⟨o, ho, h⟩ := h
    exact wpOp_step ho (fun K' hK => h K' (fun a w hS hW => hK a w ⟨hS, hW hS⟩))

theorem wp_region_late {id : Nat} {a : Act} {w : World} (late : Nat → Bool) (hm : P.follows .mixedOrders = true) (hS : S w.drew)
    (h : S w.drew → wpAnyM P .any ops Q S late ops.size (Array.replicate ops.size false) a w.drew) : (Code.region id ops true).wp P Q a w :=
  wp_region_any hm (wpAny_of_late _ _ _ _ (h hS))

end
end Go.Proofs.YtndjdeiccmhelaaGreat

/- The contract of the reference's ExactDecls at declarations that are one. -/
namespace Go.Proofs.YtndjdeiccmhelaaGreat
open Go.RowKit Go.Sort Go.Lib

theorem wpAnyM_takeD {P : Program} {ops : Array Oper} {Q : Exit → Act → World → Prop} {md : Region.Mode} {S : World → Prop} {late : Nat → Bool} {i : Nat} {oi : Oper} {v : Value} {d : Option Tmp} {fuel : Nat} {listed : Array Bool} {a : Act} {w : World} (hi : ops[i]? = some oi) (hd : oi.dst = d)
    (hs : Region.noSelect ops = true) (hf : Region.free md ops listed i = true) (hr : (Region.ready md ops listed).contains i = true) (hw : waitsM md ops late i = true)
    (hQ : ∀ c a w, Q (.panic c) (a.put d v) w → Q (.panic c) a w) (hy : YieldsIf P ops S oi v a) (hS : S w)
    (h : wpAnyM P md ops Q S late fuel (listed.setIfInBounds i true) (a.put d v) w) : wpAnyM P md ops Q S late (fuel + 1) listed a w := by
  subst hd
  exact wpAnyM_take hi hs hf hr hw hQ hy hS h

set_option maxRecDepth 100000 in
set_option maxHeartbeats 8000000 in
theorem ExactDecls_yes (ds : List Dl) (a b : Option Addr) (ca cb : Nat) (w : World) (hA : DL w a ds) (hB : DL w b ds) (hn : ds.length ≤ 1000000) (hsm : ∀ d ∈ ds, smD d) : Calls Tryz.prog 15 #[.slice a ds.length ca, .slice b ds.length cb] w fun e w' => e = .returned (.bool true) ∧ RowKit.Below w.heap.size w w' := by
  have HA := Hid.mk hA
  have HBB := Hid.mk hB
  have HSM := Hid.mk hsm
  have mx := mixed
  clear hA hB hsm
  go_enter Tryz.func15, Tryz.ntmps15
  go_wp2
  go_loopw [5] (fun i wr => ∃ k : Nat, k ≤ ds.length ∧ i = .int .i64 k ∧ RowKit.Below w.heap.size w wr) (fun i _ => ds.length - (intOf i).toNat)
  case atStart => exact ⟨0, Nat.zero_le _, rfl, Below.refl _ _⟩
  case round =>
    obtain ⟨k, hk, rfl, hb⟩ := hrel
    have HBR := Hid.mk hb
    clear hb
    by_cases hlt : k < ds.length
    · obtain ⟨ab, ao, rfl, hab0, acs⟩ := (HA.out.on HBR.out).resolve_left (by intro e; rw [e] at hlt; simp at hlt)
      obtain ⟨bb, bo, rfl, hbb0, bcs⟩ := (HBB.out.on HBR.out).resolve_left (by intro e; rw [e] at hlt; simp at hlt)
      have had := acs k _ (List.getElem?_eq_getElem hlt)
      have hbd := bcs k _ (List.getElem?_eq_getElem hlt)
      have hsk := HSM.out _ (List.getElem_mem hlt)
      generalize ds[k] = kk at *
      obtain ⟨vs, hvl, hvr, -, hvd⟩ := had.go
      obtain ⟨us, hul, hur, -, hud⟩ := hbd.go
      have HS1 : Hid ((Tryz.prog.info? 41).map (·.size) = some vs.length) := by unfold Hid; rw [hvl]; kernel_rfl
      have HS2 : Hid ((Tryz.prog.info? 41).map (·.size) = some us.length) := by unfold Hid; rw [hul]; kernel_rfl
      have HCALL := ExactDecl_yes kk _ _ wr.drew (hvd.on (Below.refl _ _).drew) (hud.on (Below.refl _ _).drew) hsk
      have HCEL : Hid (∀ W : World, RowKit.Below wr.heap.size wr W → W.rangeAt ab (ao + k * 17) vs ∧ W.rangeAt bb (bo + k * 17) us) := fun W h => ⟨range_keep hvr (h.block _ hab0), range_keep hur (h.block _ hbb0)⟩
      have zk : (k : Int) < (ds.length : Int) := by omega
      clear had hbd acs bcs hvr hur hvd hud hsk
      go_wp2_with fail
      refine wp_region_late (S := fun w' => w'.rangeAt ab (ao + k * 17) vs ∧ w'.rangeAt bb (bo + k * 17) us) (fun _ => false) mx ?_ (fun hHeld => ?_)
      · (try dsimp only)
        exact HCEL.out _ (Below.refl _ _).drew
      refine wpAnyM_takeD (i := 0) (v := .slice (some ⟨ab, ao, none⟩) ds.length ca) (d := some 18) rfl (by kernel_rfl) (by kernel_rfl) (by kernel_rfl) (by kernel_rfl) (by kernel_rfl) (fun _ _ _ h => h) (Or.inl ⟨by kernel_rfl, fun _ _ => by kernel_rfl⟩) (by assumption) ?_
      refine wpAnyM_takeD (i := 1) (v := .int .i64 k) (d := some 19) rfl (by kernel_rfl) (by kernel_rfl) (by kernel_rfl) (by kernel_rfl) (by kernel_rfl) (fun _ _ _ h => h) (Or.inl ⟨by kernel_rfl, fun _ _ => by kernel_rfl⟩) (by assumption) ?_
      refine wpAnyM_takeD (i := 2) (v := .pointer (some ⟨ab, ao + k * 17, none⟩)) (d := some 20) rfl (by kernel_rfl) (by kernel_rfl) (by kernel_rfl) (by kernel_rfl) (by kernel_rfl) (fun _ _ _ h => h) (Or.inl ⟨by kernel_rfl, fun w hSw => by go_simp⟩) (by assumption) ?_
      refine wpAnyM_takeD (i := 3) (v := .agg vs.toArray) (d := some 21) rfl (by kernel_rfl) (by kernel_rfl) (by kernel_rfl) (by kernel_rfl) (by kernel_rfl) (fun _ _ _ h => h) (yieldsIf_load_mid (by kernel_rfl) 41 (.tmp 20) rfl ab (ao + k * 17) (by kernel_rfl) vs _ (fun w hSw => hSw.1) Tryz.underlying41 rfl HS1.out) (by assumption) ?_
      refine wpAnyM_takeD (i := 4) (v := .slice (some ⟨bb, bo, none⟩) ds.length cb) (d := some 22) rfl (by kernel_rfl) (by kernel_rfl) (by kernel_rfl) (by kernel_rfl) (by kernel_rfl) (fun _ _ _ h => h) (Or.inl ⟨by kernel_rfl, fun _ _ => by kernel_rfl⟩) (by assumption) ?_
      refine wpAnyM_takeD (i := 5) (v := .int .i64 k) (d := some 23) rfl (by kernel_rfl) (by kernel_rfl) (by kernel_rfl) (by kernel_rfl) (by kernel_rfl) (fun _ _ _ h => h) (Or.inl ⟨by kernel_rfl, fun _ _ => by kernel_rfl⟩) (by assumption) ?_
      refine wpAnyM_takeD (i := 6) (v := .pointer (some ⟨bb, bo + k * 17, none⟩)) (d := some 24) rfl (by kernel_rfl) (by kernel_rfl) (by kernel_rfl) (by kernel_rfl) (by kernel_rfl) (fun _ _ _ h => h) (Or.inl ⟨by kernel_rfl, fun w hSw => by go_simp⟩) (by assumption) ?_
      refine wpAnyM_takeD (i := 7) (v := .agg us.toArray) (d := some 25) rfl (by kernel_rfl) (by kernel_rfl) (by kernel_rfl) (by kernel_rfl) (by kernel_rfl) (fun _ _ _ h => h) (yieldsIf_load_mid (by kernel_rfl) 41 (.tmp 24) rfl bb (bo + k * 17) (by kernel_rfl) us _ (fun w hSw => hSw.2) Tryz.underlying41 rfl HS2.out) (by assumption) ?_
      refine wpAnyM_one (i := 8) (by kernel_rfl) ?_
      refine ⟨_, rfl, fun K hK => ?_⟩
      go_simp
      go_at_call 12
      refine HCALL.mono ?_
      rintro e w3 ⟨rfl, hb3⟩
      have HB3 : Hid (RowKit.Below wr.heap.size wr w3) := (Below.refl _ wr).drew.trans hb3
      clear hb3
      refine hK.out _ _ (fun _ => ?_) (fun hHeld => ?_)
      · (try dsimp only)
        exact HCEL.out _ HB3.out
      replace hHeld := hHeld rfl
      clear hK K
      refine wpAnyM_one (i := 9) (by kernel_rfl) ?_
      refine ⟨_, rfl, fun K hK => ?_⟩
      go_simp
      refine hK.out _ _ (fun _ => ?_) (fun hHeld => ?_)
      · (try dsimp only)
        exact HCEL.out _ HB3.out
      replace hHeld := hHeld rfl
      clear hK K
      refine wpAnyM_done (by kernel_rfl) ?_ _
      go_wp2
      exact ⟨⟨k + 1, hlt, by go_num, HBR.out.trans (HB3.out.mono HBR.out.size)⟩, by simp [intOf]; omega⟩
    · go_wp2
      go_ret
      exact ⟨rfl, HBR.out⟩
end Go.Proofs.YtndjdeiccmhelaaGreat
