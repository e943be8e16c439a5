/- The contract of bytes.Decls. -/
import Derived.Test.YtmmbnimehmfadaaKC
import Derived.Test.YtmmbnimehmfadaaKD
import Derived.Test.YtmmbnimehmfadaaEN
import Derived.Recover
import Derived.Defers
import Derived.Test.YtmmbnimehmfadaaTH
namespace Go.Proofs.Ytmmbnimehmfadaa
open Go.RowKit Go.Sort

/-- what is wrong with the first of them that is wrong -/
def judgDs : List Dl → Int
  | [] => 0
  | d :: ds => if judgD d = 0 then judgDs ds else judgD d

/-- what Decls answers -/
def declsRes (ds : List Dl) : Except Int (List UInt8) := if 500 < ds.length then .error 2 else if judgDs ds ≠ 0 then .error (judgDs ds) else if 1000000 < (encDs ds).length then .error 2 else .ok (encDs ds)

theorem judgC_ok {cs : List (ByteArray × Tm)} (h : judgC cs = 0) : ∀ c ∈ cs, namedB c.1 = true ∧ checkT c.2 = 0 := by
  induction cs with
  | nil => intro c hc; cases hc
  | cons x xs ih =>
    unfold judgC at h
    cases hn : namedB x.1
    · rw [if_pos hn] at h; exact absurd h (by decide)
    · rw [if_neg (by simp [hn])] at h
      by_cases hc : checkT x.2 = 0
      · rw [if_pos hc] at h
        intro c hm
        rcases List.mem_cons.1 hm with rfl | hm
        · exact ⟨hn, hc⟩
        · exact ih h c hm
      · rw [if_neg hc] at h; exact absurd h hc

theorem judgD_ok {d : Dl} (hsm : smD d) (h : judgD d = 0) : okD d := by
  unfold judgD at h
  by_cases h1 : d.kind < 1 ∨ 3 < d.kind ∨ namedB d.name = false
  · rw [if_pos h1] at h; exact absurd h (by decide)
  rw [if_neg h1] at h
  by_cases h2 : d.levels < 0 ∨ 8 < d.levels
  · rw [if_pos h2] at h; exact absurd h (by decide)
  rw [if_neg h2] at h
  by_cases h3 : checkT d.ty ≠ 0
  · rw [if_pos h3] at h; exact absurd h h3
  rw [if_neg h3] at h
  have hn : namedB d.name = true := by
    cases hx : namedB d.name
    · exact absurd (Or.inr (Or.inr hx)) h1
    · rfl
  refine ⟨by omega, namedB_size hn, by omega, ⟨hsm.ty, (check_ok (Decidable.not_not.1 h3)).2.2⟩, ?_, ?_⟩
  · intro hk
    rw [if_pos hk] at h
    exact ⟨hsm.val, (check_ok h).2.2⟩
  · intro hk
    rw [if_neg (by omega), if_pos hk] at h
    unfold judgF at h
    by_cases h4 : d.params < 0 ∨ 60 < d.params ∨ 40 < d.ctors.length
    · rw [if_pos h4] at h; exact absurd h (by decide)
    rw [if_neg h4] at h
    refine ⟨by omega, by omega, by omega, ?_⟩
    intro c hc
    obtain ⟨hcn, hcc⟩ := judgC_ok h c hc
    exact ⟨(namedB_size hcn).1, (namedB_size hcn).2, (hsm.ctors c hc).2, (check_ok hcc).2.2⟩

theorem judgDs_ok {ds : List Dl} (hsm : ∀ d ∈ ds, smD d) (h : judgDs ds = 0) : ∀ d ∈ ds, okD d := by
  induction ds with
  | nil => intro c hc; cases hc
  | cons x xs ih =>
    unfold judgDs at h
    by_cases hc : judgD x = 0
    · rw [if_pos hc] at h
      intro c hm
      rcases List.mem_cons.1 hm with rfl | hm
      · exact judgD_ok (hsm _ (List.mem_cons_self ..)) hc
      · exact ih (fun d hd => hsm d (List.mem_cons_of_mem _ hd)) h c hm
    · rw [if_neg hc] at h; exact absurd h hc

set_option maxRecDepth 100000 in
set_option maxHeartbeats 8000000 in
theorem Decls_any (ds : List Dl) (a : Option Addr) (cap : Nat) (w : World) (hS : DL w a ds) (hn : ds.length ≤ 1000000) (hsm : ∀ d ∈ ds, smD d) : Calls Try.prog 20 #[.slice a ds.length cap] w fun e w' => AnsB w.heap.size e w' (declsRes ds) ∧ RowKit.Below w.heap.size w w' := by
  have HWD := fun (W : World) (wb : Nat) (hb : RowKit.Below w.heap.size w W) (hw : WR W w.heap.size wb []) (h : judgDs ds = 0) => decls_any w wb [] ds a cap W hb hw hS hn (judgDs_ok hsm h)
  have HR : Hid (declsRes ds = if 500 < ds.length then .error 2 else if judgDs ds ≠ 0 then .error (judgDs ds) else if 1000000 < (encDs ds).length then .error 2 else .ok (encDs ds)) := rfl
  generalize declsRes ds = R at HR ⊢
  have HJ : Hid (∃ J, judgDs ds = J) := ⟨_, rfl⟩
  obtain ⟨J, hJ⟩ := HJ.out
  rw [hJ] at HR HWD
  have HJ1 := Hid.mk hJ
  have HS := Hid.mk hS
  have HSM := Hid.mk hsm
  clear hS hsm hJ HJ
  generalize encDs ds = EN at *
  go_enter Try.func20, Try.ntmps20
  by_cases hl : (500 : Int) < (ds.length : Int)
  · go_wp2
    go_ret2
    rw [HR.out, if_pos (by omega)]
    exact ⟨⟨by decide, rfl⟩, Below.refl _ _⟩
  have hl2 : ¬ 500 < ds.length := by omega
  have HR2 : Hid (R = if J ≠ 0 then .error J else if 1000000 < EN.length then .error 2 else .ok EN) := by unfold Hid; rw [HR.out, if_neg hl2]
  clear hl2 HR
  go_wp2
  go_loopw [13] (fun i wr => ∃ k : Nat, k ≤ ds.length ∧ i = .int .i64 k ∧ RowKit.Below w.heap.size w wr ∧ judgDs (ds.drop k) = J) (fun i _ => ds.length - (intOf i).toNat)
  case atStart => exact ⟨0, Nat.zero_le _, rfl, Below.refl _ _, by rw [List.drop_zero]; exact HJ1.out⟩
  case round =>
    obtain ⟨k, hk, rfl, hbr, hjd⟩ := hrel
    have HBR := Hid.mk hbr
    have HJD := Hid.mk hjd
    clear hbr hjd
    by_cases hlt : k < ds.length
    · obtain ⟨cb, co, rfl, hcb0, hcs⟩ := HS.out.resolve_left (by intro e; rw [e] at hlt; simp at hlt)
      have hsk := HSM.out _ (List.getElem_mem hlt)
      have hd0 := hcs k _ (List.getElem?_eq_getElem hlt)
      have hbl : cb < wr.heap.size := Nat.lt_of_lt_of_le hcb0 HBR.out.size
      have hjs := HJD.out
      rw [List.drop_eq_getElem_cons hlt] at hjs
      generalize ds[k] = kk at *
      have HJS : Hid ((if judgD kk = 0 then judgDs (ds.drop (k + 1)) else judgD kk) = J) := hjs
      obtain ⟨vs, hvl, hrg, hone, hdv⟩ := hd0.go
      have hrw : wr.rangeAt cb (co + k * 17) vs := fun j v hj => (HBR.out.cell (p := ⟨cb, co + k * 17 + j, none⟩) hcb0).trans (hrg j v hj)
      have HRG := Hid.mk hrw
      have HRB : Hid ((wr.alloc (.cells vs.toArray 29)).rangeAt wr.heap.size 0 vs) := fun j v hj => by rw [cell_of_row _ wr.heap.size (0 + j) _ _ _ (alloc_new wr _), Nat.zero_add]; simpa using hj
      have HSZ : Hid ((Try.prog.info? 29).map (·.size) = some vs.length) := by unfold Hid; rw [hvl]; kernel_rfl
      have HSA : Hid ((Try.prog.info? 29).map (·.size) = some vs.toArray.size) := by unfold Hid; rw [List.size_toArray, hvl]; kernel_rfl
      have HONE : Hid (vs.toArray.all (·.oneCell') = true) := all_oneCell_toArray hone
      have HS17 : Hid (17 = vs.toArray.size) := by unfold Hid; rw [List.size_toArray, hvl]
      have hba : RowKit.Below w.heap.size w (wr.alloc (.cells vs.toArray 29)) := HBR.out.alloc HBR.out.size _
      have HBA := Hid.mk hba
      have HC := judged_any kk _ (wr.alloc (.cells vs.toArray 29)) (hdv.on hba) hsk
      clear hdv hd0 hcs hsk hrg hrw hone hvl hjs hba
      generalize judgD kk = JK at *
      have zk : (k : Int) < (ds.length : Int) := by omega
      go_wp2_with (first | (refine wpList_load_mid rfl 29 _ rfl cb (co + k * 17) rfl vs _ HRG.out Try.underlying29 rfl HSZ.out ?_) | (refine wpList_load_mid rfl 29 _ rfl wr.heap.size 0 rfl vs _ HRB.out Try.underlying29 rfl HSZ.out ?_) | (refine wpList_store_new rfl 29 _ _ rfl rfl rfl HSA.out (by exact HS17.out) HONE.out ?_))
      refine HC.mono ?_
      rintro e w2 ⟨rfl, hb2⟩
      have HB2 : Hid (RowKit.Below w.heap.size w w2) := HBA.out.trans (hb2.mono HBA.out.size)
      clear hb2 HC HRG HRB HSZ HSA HONE HS17
      by_cases hc : JK = 0
      · subst hc
        go_wp2
        exact ⟨⟨k + 1, hlt, by go_num, HB2.out, by have := HJS.out; simpa using this⟩, by simp [intOf]; omega⟩
      · have hc' : (JK != 0) = true := by simpa using hc
        have HRE : Hid (R = .error JK ∧ JK ≠ 0) := by
          have hJJ : J = JK := by have := HJS.out; rw [if_neg hc] at this; exact this.symm
          refine ⟨?_, hc⟩
          rw [HR2.out, hJJ, if_pos hc]
        go_wp2
        go_ret2
        rw [HRE.out.1]
        exact ⟨⟨HRE.out.2, rfl⟩, HB2.out⟩
    · have hJ0 : J = 0 := by have := HJD.out; rw [List.drop_of_length_le (by omega)] at this; exact this.symm
      have HRE : Hid (R = if 1000000 < EN.length then .error 2 else .ok EN) := by unfold Hid; rw [HR2.out, hJ0, if_neg (by simp)]
      obtain ⟨W2, hW2⟩ : ∃ W2, wr.alloc (.cells #[.slice none 0 0, .bool false] 78) = W2 := ⟨_, rfl⟩
      have HB2 : Hid (RowKit.Below w.heap.size w W2) := by unfold Hid; rw [← hW2]; exact HBR.out.alloc HBR.out.size _
      have HWR2 : Hid (WR W2 w.heap.size wr.heap.size []) := by unfold Hid; rw [← hW2]; exact WR.new wr _ HBR.out.size
      have HCT := HWD W2 wr.heap.size HB2.out HWR2.out hJ0
      have HW2 := Hid.mk hW2
      clear hW2 hJ0 HWD HR2 HJD HJ1 HS HSM
      go_wp2_with fail
      rw [HW2.out]
      refine HCT.mono ?_
      rintro e w3 ⟨rfl, hW3, hw3⟩
      have HB3 : Hid (RowKit.Below w.heap.size w w3) := HB2.out.trans (hw3.toBelow HWR2.out HB2.out.size)
      have HCW := written_any w.heap.size wr.heap.size _ w3 hW3
      rw [List.nil_append, ← HRE.out] at HCW
      clear hW3 hw3 HCT HRE
      go_wp2_with fail
      refine HCW.mono ?_
      rintro e w4 ⟨hans, hw4⟩
      have hw4' := hw4.symm
      subst hw4'
      clear HCW
      cases R with
      | ok bs =>
        obtain ⟨vb, rfl, hO⟩ := hans
        have HO := Hid.mk hO
        clear hO
        go_wp2
        go_ret2
        exact ⟨⟨_, rfl, HO.out⟩, HB3.out⟩
      | error c =>
        obtain ⟨hc0, rfl⟩ := hans
        go_wp2
        go_ret2
        exact ⟨⟨hc0, rfl⟩, HB3.out⟩
end Go.Proofs.Ytmmbnimehmfadaa

/- The reader of package bytes, whatever it reads and where what is read was written, in one: number, name, term. Rows of the call's own whose elements do not look into them. -/
namespace Go.Proofs.Ytmmbnimehmfadaa
open Go.RowKit Go.Sort Go.Lib

/-- a term that is right -/
def okTm (t : Tm) : Prop := smT 1000000 t ∧ checkT t = 0

/-- a row of the call's own, m cells an element; what an element is does not look into the row, nor into the blocks of P -/
structure RowX {α : Type} (e : TypeId) (m : Nat) (E : World → (Nat → Bool) → List Value → α → Prop) (w : World) (B : Nat) (P : Nat → Bool) (a : Option Addr) (cap : Nat) (ts : List α) : Prop where
  go : ∃ xss : List (List Value), xss.length = ts.length ∧ (∀ xs ∈ xss, xs.length = m) ∧ w.ownsRow B e m (.slice a ts.length cap) ts.length xss.flatten ∧ ∀ (j : Nat) t xs, ts[j]? = some t → xss[j]? = some xs → E w (fun k => P k || ownB a k) xs t

/-- what an element is may be moved -/
def Moves {α : Type} (E : World → (Nat → Bool) → List Value → α → Prop) : Prop := ∀ w w' P Q xs t, E w P xs t → w.heap.size ≤ w'.heap.size → (∀ k, k < w.heap.size → P k = false → Q k = false ∧ w'.heap[k]? = w.heap[k]?) → E w' Q xs t

theorem RowX.nil {α : Type} (e : TypeId) (m : Nat) (E : World → (Nat → Bool) → List Value → α → Prop) (w : World) (B : Nat) (P : Nat → Bool) : RowX e m E w B P none 0 [] := ⟨[], rfl, (fun xs h => by cases h), World.ownsRow_nil _ _ _ _, fun j t xs h => by simp at h⟩

theorem ownsX_lt {w : World} {B n m cap k : Nat} {e : TypeId} {a : Option Addr} {xs : List Value} (h : w.ownsRow B e m (.slice a n cap) n xs) (hk : ownB a k = true) : B ≤ k ∧ k < w.heap.size := by
  cases a with
  | none => simp [ownB] at hk
  | some ad => simp only [ownB, beq_iff_eq] at hk; exact World.ownsRow.lt h k (by rw [← hk]; rfl)

theorem RowX.move {α : Type} {e : TypeId} {m : Nat} {E : World → (Nat → Bool) → List Value → α → Prop} (hE : Moves E) {w w' : World} {B cap : Nat} {P : Nat → Bool} {a : Option Addr} {ts : List α} (h : RowX e m E w B P a cap ts) (hB : ∀ k, B ≤ k → P k = false) (hs : w.heap.size ≤ w'.heap.size) (hk : ∀ k, k < w.heap.size → P k = false → w'.heap[k]? = w.heap[k]?) : RowX e m E w' B P a cap ts := by
  obtain ⟨xss, h1, h2, hown, hkv⟩ := h.go
  refine ⟨xss, h1, h2, owns_move hown fun g hg => ?_, fun j t xs hj hx => hE _ _ _ _ _ _ (hkv j t xs hj hx) hs fun k h3 h4 => ⟨h4, hk k h3 ?_⟩⟩
  · obtain ⟨h3, h4⟩ := World.ownsRow.lt hown g hg
    exact hk g h4 (hB g h3)
  · rw [Bool.or_eq_false_iff] at h4; exact h4.1

theorem RowX.snoc {α : Type} {e : TypeId} {m : Nat} {E : World → (Nat → Bool) → List Value → α → Prop} (hE : Moves E) {w w' : World} {B cap cap' g : Nat} {P : Nat → Bool} {a : Option Addr} {ts : List α} {xss : List (List Value)} {xs : List Value} {t : α} (h1 : xss.length = ts.length) (h2 : ∀ xs ∈ xss, xs.length = m) (hkv : ∀ (j : Nat) t xs, ts[j]? = some t → xss[j]? = some xs → E w (fun k => P k || ownB a k) xs t)
    (hxl : xs.length = m) (hown : w'.ownsRow B e m (.slice (some ⟨g, 0, none⟩) (ts.length + 1) cap') (ts.length + 1) (xss.flatten ++ xs)) (hgr : w.grownBy w' (Value.slice a ts.length cap).ownBlock) (hat : (Value.slice a ts.length cap).ownBlock = some g ∨ g = w.heap.size)
    (hnew : E w (fun k => P k || ownB a k) xs t) : RowX e m E w' B P (some ⟨g, 0, none⟩) cap' (ts ++ [t]) := by
  have hmv : ∀ k, k < w.heap.size → (P k || ownB a k) = false → (P k || ownB (some ⟨g, 0, none⟩) k) = false ∧ w'.heap[k]? = w.heap[k]? := by
    intro k hk hp
    rw [Bool.or_eq_false_iff] at hp
    refine ⟨?_, hgr.block k hk (ownB_none hp.2)⟩
    rw [Bool.or_eq_false_iff]
    refine ⟨hp.1, ?_⟩
    simp only [ownB, beq_eq_false_iff_ne]
    rcases hat with hat | hat
    · intro e
      exact ownB_none hp.2 (by rw [← e, hat])
    · omega
  refine ⟨xss ++ [xs], by simp [h1], fun ys hy => ?_, by rw [List.length_append, List.flatten_append]; simpa using hown, fun j t' ys hj hx => ?_⟩
  · rcases List.mem_append.1 hy with h | h
    · exact h2 ys h
    · rw [List.mem_singleton.1 h]; exact hxl
  · by_cases h : j < ts.length
    · rw [List.getElem?_append_left h] at hj
      rw [List.getElem?_append_left (by omega)] at hx
      exact hE _ _ _ _ _ _ (hkv j t' ys hj hx) hgr.size hmv
    · obtain rfl : j = ts.length := by
        have := (List.getElem?_eq_some_iff.1 hj).1; simp at this; omega
      simp only [List.getElem?_concat_length, Option.some.injEq] at hj
      rw [← h1] at hx
      simp only [List.getElem?_concat_length, Option.some.injEq] at hx
      subst hj hx
      exact hE _ _ _ _ _ _ hnew hgr.size hmv

theorem flatten_at {m : Nat} : ∀ (xss : List (List Value)), (∀ xs ∈ xss, xs.length = m) → ∀ (j i : Nat) (xs : List Value) (v : Value), xss[j]? = some xs → xs[i]? = some v → xss.flatten[j * m + i]? = some v
  | [], _, j, i, xs, v, h, _ => by simp at h
  | ys :: yss, hl, 0, i, xs, v, h, hv => by
    simp only [List.getElem?_cons_zero, Option.some.injEq] at h
    subst h
    rw [List.flatten_cons, Nat.zero_mul, Nat.zero_add, List.getElem?_append_left (List.getElem?_eq_some_iff.1 hv).1]
    exact hv
  | ys :: yss, hl, j + 1, i, xs, v, h, hv => by
    rw [List.getElem?_cons_succ] at h
    have hy := hl ys (List.mem_cons_self ..)
    rw [List.flatten_cons, List.getElem?_append_right (by rw [hy, Nat.succ_mul]; omega), hy, show (j + 1) * m + i - m = j * m + i by rw [Nat.succ_mul]; omega]
    exact flatten_at yss (fun xs hx => hl xs (List.mem_cons_of_mem _ hx)) j i xs v h hv

/-- the cells of an element -/
theorem RowX.at {α : Type} {e : TypeId} {m : Nat} {E : World → (Nat → Bool) → List Value → α → Prop} (hE : Moves E) {w : World} {B cap : Nat} {P : Nat → Bool} {a : Option Addr} {ts : List α} (h : RowX e m E w B P a cap ts) (hB : ∀ k, B ≤ k → P k = false) {j : Nat} {t : α} (hj : ts[j]? = some t) : ∃ g xs, a = some ⟨g, 0, none⟩ ∧ B ≤ g ∧ g < w.heap.size ∧ xs.length = m ∧ (maskB P w).rangeAt g (j * m) xs ∧ E w P xs t := by
  obtain ⟨xss, h1, h2, hown, hkv⟩ := h.go
  have hlt : j < ts.length := (List.getElem?_eq_some_iff.1 hj).1
  rcases hown.2 with ⟨hv, hn⟩ | ⟨g, cap', cur, hv, hg, hh, hr⟩
  · omega
  · simp only [Value.slice.injEq, true_and] at hv
    obtain ⟨rfl, rfl⟩ := hv
    have hxj : xss[j]? = some xss[j] := List.getElem?_eq_getElem (by omega)
    have hxm : (xss[j]'(by omega)).length = m := h2 _ (List.getElem_mem _)
    refine ⟨g, _, rfl, hg, heap_lt hh, hxm, fun i v hi => ?_, hE _ _ _ _ _ _ (hkv j t _ hj hxj) (Nat.le_refl _) fun k _ hp => ⟨by rw [Bool.or_eq_false_iff] at hp; exact hp.1, rfl⟩⟩
    have hil : i < m := by have := (List.getElem?_eq_some_iff.1 hi).1; omega
    have hin : j * m + i < ts.length * m := by
      have : (j + 1) * m ≤ ts.length * m := Nat.mul_le_mul_right _ hlt
      rw [Nat.succ_mul] at this
      omega
    rw [World.cell?_of_block (a := ⟨g, j * m + i, none⟩) (maskB_no w (hB g hg))]
    exact (World.ownsRow.cellAt hown (j * m + i) hin).trans (flatten_at xss h2 j i _ v hxj hi)
end Go.Proofs.Ytmmbnimehmfadaa
