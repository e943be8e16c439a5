/- The contract of bytes.Decls. -/
import Derived.Test.YtmmbnimehmfadaaKC
import Derived.Test.YtmmbnimehmfadaaKD
namespace Go.Proofs.Ytmmbnimehmfadaa
open Go.RowKit Go.Sort

/-- what is wrong with the first of them that is wrong -/
def judgDs : List Dl → Int
  | [] => 0
  | d :: ds => if judgD d = 0 then judgDs ds else judgD d

/-- what Decls answers -/
def declsRes (ds : List Dl) : Except Int (List UInt8) := if 500 < ds.length then .error 2 else if judgDs ds ≠ 0 then .error (judgDs ds) else if 1000000 < (encDs ds).length then .error 2 else .ok (encDs ds)

theorem judgC_ok {cs : List (ByteArray × Tm)} (h : judgC cs = 0) : ∀ c ∈ cs, namedB c.1 = true ∧ checkT c.2 = 0 := by
  induction cs with
  | nil => intro c hc; cases hc
  | cons x xs ih =>
    unfold judgC at h
    cases hn : namedB x.1
    · rw [if_pos hn] at h; exact absurd h (by decide)
    · rw [if_neg (by simp [hn])] at h
      by_cases hc : checkT x.2 = 0
      · rw [if_pos hc] at h
        intro c hm
        rcases List.mem_cons.1 hm with rfl | hm
        · exact ⟨hn, hc⟩
        · exact ih h c hm
      · rw [if_neg hc] at h; exact absurd h hc

theorem judgD_ok {d : Dl} (hsm : smD d) (h : judgD d = 0) : okD d := by
  unfold judgD at h
  by_cases h1 : d.kind < 1 ∨ 3 < d.kind ∨ namedB d.name = false
  · rw [if_pos h1] at h; exact absurd h (by decide)
  rw [if_neg h1] at h
  by_cases h2 : d.levels < 0 ∨ 8 < d.levels
  · rw [if_pos h2] at h; exact absurd h (by decide)
  rw [if_neg h2] at h
  by_cases h3 : checkT d.ty ≠ 0
  · rw [if_pos h3] at h; exact absurd h h3
  rw [if_neg h3] at h
  have hn : namedB d.name = true := by
    cases hx : namedB d.name
    · exact absurd (Or.inr (Or.inr hx)) h1
    · rfl
  refine ⟨by omega, namedB_size hn, by omega, ⟨hsm.ty, (check_ok (Decidable.not_not.1 h3)).2.2⟩, ?_, ?_⟩
  · intro hk
    rw [if_pos hk] at h
    exact ⟨hsm.val, (check_ok h).2.2⟩
  · intro hk
    rw [if_neg (by omega), if_pos hk] at h
    unfold judgF at h
    by_cases h4 : d.params < 0 ∨ 60 < d.params ∨ 40 < d.ctors.length
    · rw [if_pos h4] at h; exact absurd h (by decide)
    rw [if_neg h4] at h
    refine ⟨by omega, by omega, by omega, ?_⟩
    intro c hc
    obtain ⟨hcn, hcc⟩ := judgC_ok h c hc
    exact ⟨(namedB_size hcn).1, (namedB_size hcn).2, (hsm.ctors c hc).2, (check_ok hcc).2.2⟩

theorem judgDs_ok {ds : List Dl} (hsm : ∀ d ∈ ds, smD d) (h : judgDs ds = 0) : ∀ d ∈ ds, okD d := by
  induction ds with
  | nil => intro c hc; cases hc
  | cons x xs ih =>
    unfold judgDs at h
    by_cases hc : judgD x = 0
    · rw [if_pos hc] at h
      intro c hm
      rcases List.mem_cons.1 hm with rfl | hm
      · exact judgD_ok (hsm _ (List.mem_cons_self ..)) hc
      · exact ih (fun d hd => hsm d (List.mem_cons_of_mem _ hd)) h c hm
    · rw [if_neg hc] at h; exact absurd h hc

set_option maxRecDepth 100000 in
set_option maxHeartbeats 8000000 in
theorem Decls_any (ds : List Dl) (a : Option Addr) (cap : Nat) (w : World) (hS : DL w a ds) (hn : ds.length ≤ 1000000) (hsm : ∀ d ∈ ds, smD d) : Calls Try.prog 20 #[.slice a ds.length cap] w fun e w' => AnsB w.heap.size e w' (declsRes ds) ∧ RowKit.Below w.heap.size w w' := by
  have HWD := fun (W : World) (wb : Nat) (hb : RowKit.Below w.heap.size w W) (hw : WR W w.heap.size wb []) (h : judgDs ds = 0) => decls_any w wb [] ds a cap W hb hw hS hn (judgDs_ok hsm h)
  have HR : Hid (declsRes ds = if 500 < ds.length then .error 2 else if judgDs ds ≠ 0 then .error (judgDs ds) else if 1000000 < (encDs ds).length then .error 2 else .ok (encDs ds)) := rfl
  generalize declsRes ds = R at HR ⊢
  have HJ : Hid (∃ J, judgDs ds = J) := ⟨_, rfl⟩
  obtain ⟨J, hJ⟩ := HJ.out
  rw [hJ] at HR HWD
  have HJ1 := Hid.mk hJ
  have HS := Hid.mk hS
  have HSM := Hid.mk hsm
  clear hS hsm hJ HJ
  generalize encDs ds = EN at *
  go_enter Try.func20, Try.ntmps20
  by_cases hl : (500 : Int) < (ds.length : Int)
  · go_wp2
    go_ret2
    rw [HR.out, if_pos (by omega)]
    exact ⟨⟨by decide, rfl⟩, Below.refl _ _⟩
  have hl2 : ¬ 500 < ds.length := by omega
  have HR2 : Hid (R = if J ≠ 0 then .error J else if 1000000 < EN.length then .error 2 else .ok EN) := by unfold Hid; rw [HR.out, if_neg hl2]
  clear hl2 HR
  go_wp2
  go_loopw [13] (fun i wr => ∃ k : Nat, k ≤ ds.length ∧ i = .int .i64 k ∧ RowKit.Below w.heap.size w wr ∧ judgDs (ds.drop k) = J) (fun i _ => ds.length - (intOf i).toNat)
  case atStart => exact ⟨0, Nat.zero_le _, rfl, Below.refl _ _, by rw [List.drop_zero]; exact HJ1.out⟩
  case round =>
    obtain ⟨k, hk, rfl, hbr, hjd⟩ := hrel
    have HBR := Hid.mk hbr
    have HJD := Hid.mk hjd
    clear hbr hjd
    by_cases hlt : k < ds.length
    · obtain ⟨cb, co, rfl, hcb0, hcs⟩ := HS.out.resolve_left (by intro e; rw [e] at hlt; simp at hlt)
      have hsk := HSM.out _ (List.getElem_mem hlt)
      have hd0 := hcs k _ (List.getElem?_eq_getElem hlt)
      have hbl : cb < wr.heap.size := Nat.lt_of_lt_of_le hcb0 HBR.out.size
      have hjs := HJD.out
      rw [List.drop_eq_getElem_cons hlt] at hjs
      generalize ds[k] = kk at *
      have HJS : Hid ((if judgD kk = 0 then judgDs (ds.drop (k + 1)) else judgD kk) = J) := hjs
      obtain ⟨vs, hvl, hrg, hone, hdv⟩ := hd0.go
      have hrw : wr.rangeAt cb (co + k * 17) vs := fun j v hj => (HBR.out.cell (p := ⟨cb, co + k * 17 + j, none⟩) hcb0).trans (hrg j v hj)
      have HRG := Hid.mk hrw
      have HRB : Hid ((wr.alloc (.cells vs.toArray 29)).rangeAt wr.heap.size 0 vs) := fun j v hj => by rw [cell_of_row _ wr.heap.size (0 + j) _ _ _ (alloc_new wr _), Nat.zero_add]; simpa using hj
      have HSZ : Hid ((Try.prog.info? 29).map (·.size) = some vs.length) := by unfold Hid; rw [hvl]; kernel_rfl
      have HSA : Hid ((Try.prog.info? 29).map (·.size) = some vs.toArray.size) := by unfold Hid; rw [List.size_toArray, hvl]; kernel_rfl
      have HONE : Hid (vs.toArray.all (·.oneCell') = true) := all_oneCell_toArray hone
      have HS17 : Hid (17 = vs.toArray.size) := by unfold Hid; rw [List.size_toArray, hvl]
      have hba : RowKit.Below w.heap.size w (wr.alloc (.cells vs.toArray 29)) := HBR.out.alloc HBR.out.size _
      have HBA := Hid.mk hba
      have HC := judged_any kk _ (wr.alloc (.cells vs.toArray 29)) (hdv.on hba) hsk
      clear hdv hd0 hcs hsk hrg hrw hone hvl hjs hba
      generalize judgD kk = JK at *
      have zk : (k : Int) < (ds.length : Int) := by omega
      go_wp2_with (first | (refine wpList_load_mid rfl 29 _ rfl cb (co + k * 17) rfl vs _ HRG.out Try.underlying29 rfl HSZ.out ?_) | (refine wpList_load_mid rfl 29 _ rfl wr.heap.size 0 rfl vs _ HRB.out Try.underlying29 rfl HSZ.out ?_) | (refine wpList_store_new rfl 29 _ _ rfl rfl rfl HSA.out (by exact HS17.out) HONE.out ?_))
      refine HC.mono ?_
      rintro e w2 ⟨rfl, hb2⟩
      have HB2 : Hid (RowKit.Below w.heap.size w w2) := HBA.out.trans (hb2.mono HBA.out.size)
      clear hb2 HC HRG HRB HSZ HSA HONE HS17
      by_cases hc : JK = 0
      · subst hc
        go_wp2
        exact ⟨⟨k + 1, hlt, by go_num, HB2.out, by have := HJS.out; simpa using this⟩, by simp [intOf]; omega⟩
      · have hc' : (JK != 0) = true := by simpa using hc
        have HRE : Hid (R = .error JK ∧ JK ≠ 0) := by
          have hJJ : J = JK := by have := HJS.out; rw [if_neg hc] at this; exact this.symm
          refine ⟨?_, hc⟩
          rw [HR2.out, hJJ, if_pos hc]
        go_wp2
        go_ret2
        rw [HRE.out.1]
        exact ⟨⟨HRE.out.2, rfl⟩, HB2.out⟩
    · have hJ0 : J = 0 := by have := HJD.out; rw [List.drop_of_length_le (by omega)] at this; exact this.symm
      have HRE : Hid (R = if 1000000 < EN.length then .error 2 else .ok EN) := by unfold Hid; rw [HR2.out, hJ0, if_neg (by simp)]
      obtain ⟨W2, hW2⟩ : ∃ W2, wr.alloc (.cells #[.slice none 0 0, .bool false] 78) = W2 := ⟨_, rfl⟩
      have HB2 : Hid (RowKit.Below w.heap.size w W2) := by unfold Hid; rw [← hW2]; exact HBR.out.alloc HBR.out.size _
      have HWR2 : Hid (WR W2 w.heap.size wr.heap.size []) := by unfold Hid; rw [← hW2]; exact WR.new wr _ HBR.out.size
      have HCT := HWD W2 wr.heap.size HB2.out HWR2.out hJ0
      have HW2 := Hid.mk hW2
      clear hW2 hJ0 HWD HR2 HJD HJ1 HS HSM
      go_wp2_with fail
      rw [HW2.out]
      refine HCT.mono ?_
      rintro e w3 ⟨rfl, hW3, hw3⟩
      have HB3 : Hid (RowKit.Below w.heap.size w w3) := HB2.out.trans (hw3.toBelow HWR2.out HB2.out.size)
      have HCW := written_any w.heap.size wr.heap.size _ w3 hW3
      rw [List.nil_append, ← HRE.out] at HCW
      clear hW3 hw3 HCT HRE
      go_wp2_with fail
      refine HCW.mono ?_
      rintro e w4 ⟨hans, hw4⟩
      have hw4' := hw4.symm
      subst hw4'
      clear HCW
      cases R with
      | ok bs =>
        obtain ⟨vb, rfl, hO⟩ := hans
        have HO := Hid.mk hO
        clear hO
        go_wp2
        go_ret2
        exact ⟨⟨_, rfl, HO.out⟩, HB3.out⟩
      | error c =>
        obtain ⟨hc0, rfl⟩ := hans
        go_wp2
        go_ret2
        exact ⟨⟨hc0, rfl⟩, HB3.out⟩
end Go.Proofs.Ytmmbnimehmfadaa
