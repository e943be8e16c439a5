/- BytesDecls: for any list of declarations that is not too much, bytes.Decls answers what the reference's Decls answers, the same error and the same bytes; and these bytes are read by bytes.ReadDecls as that list, with zero in each field that a declaration does not have. Conditions: none but the row's own. -/
import Derived.Test.YtndjdeiccmhelaaGreatRows
import Derived.Test.YtndjdeiccmhelaaGreatLE
import Derived.Test.YtndjdeiccmhelaaGreatLC
import Derived.Test.YtndjdeiccmhelaaGreatKL
import Derived.Test.YtndjdeiccmhelaaGreatNC
import Derived.Test.YtndjdeiccmhelaaGreatNB
import Derived.Test.YtndjdeiccmhelaaGreatTE
import Derived.ProofKit
import Derived.OpenShut
import Derived.Below
import Derived.Lib.SmallJoins
import Derived.Deep.SlicePairs
import Derived.SizedLaws
import Derived.Test.YtndjdeiccmhelaaGreatKB
import Derived.Test.YtndjdeiccmhelaaGreatRS
import Derived.Test.YtndjdeiccmhelaaGreatWG
import Derived.Test.YtndjdeiccmhelaaGreatEH
import Derived.Test.YtndjdeiccmhelaaGreatKC
import Derived.Test.YtndjdeiccmhelaaGreatOL
import Derived.Test.YtndjdeiccmhelaaGreatKF
import Derived.Test.YtndjdeiccmhelaaGreatND
import Derived.Test.YtndjdeiccmhelaaGreatKH
import Derived.Test.YtndjdeiccmhelaaGreatKI
import Derived.Test.YtndjdeiccmhelaaGreatFD
import Derived.Test.YtndjdeiccmhelaaGreatEK
import Derived.Test.YtndjdeiccmhelaaGreatNE
import Derived.Test.YtndjdeiccmhelaaGreatKK
import Derived.Test.YtndjdeiccmhelaaGreatEP
namespace Go.Proofs.YtndjdeiccmhelaaGreat
open Go.RowKit Go.Sort Go.Lib
namespace bytesDecls
open Go.ChangeShapes Go.WideShapes Go.ChangeAt

theorem cleanD_sm {d : Dl} (h : smD d) : smD (cleanD d) := by
  refine ⟨h.name, smT_clean _ _ h.ty, ?_, ?_, ?_⟩
  · unfold cleanD
    simp only
    split
    · exact smT_clean _ _ h.val
    · exact (smT_mk _ _ _ _ _ _ _).2 ⟨by decide, by simp, by simp, by simp, by simp⟩
  · unfold cleanD
    simp only
    split
    · rw [List.length_map]; exact h.len
    · simp
  · unfold cleanD
    simp only
    split
    · intro c hc
      obtain ⟨c0, h0, rfl⟩ := List.mem_map.1 hc
      exact ⟨(h.ctors c0 h0).1, smT_clean _ _ (h.ctors c0 h0).2⟩
    · intro c hc; cases hc

set_option maxRecDepth 100000 in
set_option maxHeartbeats 8000000 in
theorem walk (ds : List Dl) (a : Option Addr) (cb : Nat) (w : World) (hL : DL w a ds) (hok : ∀ d ∈ ds, okDo d) (hn : ds.length ≤ 8796093022208) :
    Calls Tryz.prog 3 #[.slice a ds.length cb] w fun e w' => e = .returned (.bool true) ∧ RowKit.Below w.heap.size w w' := by
  have HL := Hid.mk hL
  have HOK := Hid.mk hok
  have HA := alive3_any w
  clear hL hok
  go_enter Tryz.func3, Tryz.ntmps3
  go_wp2_with fail
  refine HA.mono ?_
  rintro e w1 ⟨rfl, hb1⟩
  have HB1 := Hid.mk hb1
  have HC1 := Big3_any ds a cb w1 (HL.out.on HB1.out) HOK.out hn
  clear hb1 HA
  go_wp2_with fail
  refine HC1.mono ?_
  rintro e w2 ⟨⟨q, rfl, hq⟩, hb2⟩
  have HQ := Hid.mk hq
  have HB2 : Hid (RowKit.Below w.heap.size w w2) := HB1.out.trans (hb2.mono HB1.out.size)
  clear hq hb2 HC1
  cases q with
  | true =>
    go_wp2
    go_ret
    exact ⟨rfl, HB2.out⟩
  | false =>
    obtain ⟨hl6, hbg⟩ := HQ.out rfl
    have HBG := Hid.mk hbg
    have hsm : ∀ d ∈ ds, smD d := fun d hd => (hbg d hd).sm (HOK.out d hd)
    have HSM := Hid.mk hsm
    have HC2 := Decls_any ds a cb w2 (HL.out.on HB2.out) (by omega) hsm
    clear hbg hsm HQ
    go_wp2_with fail
    refine HC2.mono ?_
    rintro e w3 ⟨hans, hb3⟩
    have HANS := Hid.mk hans
    have HB23 := Hid.mk hb3
    have HB3 : Hid (RowKit.Below w.heap.size w w3) := HB2.out.trans (hb3.mono HB2.out.size)
    have HC3 := rDecls_any ds a cb w3 (HL.out.on HB3.out) (by omega) HSM.out (fun hj => encDs_most hl6 HBG.out (judgDs_ok HSM.out hj))
    rcases res_cases ds with ⟨x, hx, hr⟩ | hr
    · rw [hr] at hans HC3
      obtain ⟨-, rfl⟩ := hans
      have hx1 : (x != 0) = true := by simpa using hx
      have hconv : Sem.run Tryz.prog (convert 25 9 (.slice none 0 0)) w3 = _ := string_of (bs := []) (Or.inl rfl) (fun _ => rfl)
      clear hb3 HC2 hr HANS
      go_wp2_with fail
      refine HC3.mono ?_
      rintro e w4 ⟨⟨-, rfl⟩, hb4⟩
      have HB4 : Hid (RowKit.Below w.heap.size w w4) := HB3.out.trans (hb4.mono HB3.out.size)
      have hconv4 : Sem.run Tryz.prog (convert 25 9 (.slice none 0 0)) w4 = _ := string_of (bs := []) (Or.inl rfl) (fun _ => rfl)
      clear hb4 HC3 hconv
      go_wp2_with (go_at_call 10; refine (num3_any _ _).mono ?_; rintro e w' ⟨rfl, hww⟩; have hwx := hww.symm; subst hwx)
      go_ret
      exact ⟨rfl, HB4.out⟩
    · obtain ⟨hhas, hlen⟩ := res_has HSM.out hr
      have HH := Hid.mk hhas
      have HEN : Hid (∃ bs, encDs ds = bs) := ⟨_, rfl⟩
      obtain ⟨bs, hbs⟩ := HEN.out
      rw [hr, hbs] at hans HC3
      rw [hbs] at HH hlen
      obtain ⟨vb, rfl, hO3⟩ := hans
      obtain ⟨a3, c3, rfl, hbl3, hc31, hc32, hn3, -⟩ := hO3.shape
      have HO3 := Hid.mk hO3
      have HBL3 := Hid.mk hbl3
      have HN3 := Hid.mk hn3
      have hlt3 : ∀ ad, a3 = some ad → ad.block < w3.heap.size := fun ad e => (hO3.lt (k := ad.block) (by rw [e]; rfl)).2
      have HLT3 := Hid.mk hlt3
      clear hb3 HC2 hr HANS hhas hO3 hbl3 hlt3 HEN hbs hn3
      go_wp2_with fail
      refine HC3.mono ?_
      rintro e w4 ⟨⟨vb4, rfl, hO4⟩, hb4⟩
      obtain ⟨a4, c4, rfl, hbl4, -, -, hn4, -⟩ := hO4.shape
      have HB4 : Hid (RowKit.Below w.heap.size w w4) := HB3.out.trans (hb4.mono HB3.out.size)
      have hbl34 := HBL3.out.below hb4
      have hconv3 : Sem.run Tryz.prog (convert 25 9 (.slice a3 bs.length c3)) w4 = _ := string_of hbl34 HN3.out
      have hconv4 : Sem.run Tryz.prog (convert 25 9 (.slice a4 bs.length c4)) w4 = _ := string_of hbl4 hn4
      have HC5 := ReadDecls_any bs a3 c3 w4 hbl34 (fun ad e => by have := HLT3.out ad e; have := hb4.size; omega) (fun e => by have := HN3.out e; exact List.eq_nil_of_length_eq_zero (by omega)) hc31 hc32 hlen
      clear hO4 hbl4 hn4 hb4 hbl34 HC3
      go_wp2_with (go_at_call 10; refine (num3_any _ _).mono ?_; rintro e w' ⟨rfl, hww⟩; have hwx := hww.symm; subst hwx)
      refine HC5.mono ?_
      rintro e w5 ⟨hans, hb5⟩
      have HB5 : Hid (RowKit.Below w.heap.size w w5) := HB4.out.trans (hb5.mono HB4.out.size)
      rcases hans with ⟨es, ma, mc, hh5, hcl5, rfl, hrow5⟩ | ⟨hno, rfl⟩
      rotate_left
      · exact absurd HH.out (hno ds)
      have hes : es = ds.map cleanD := by rw [hcl5]; exact HasD.one hh5 HH.out
      obtain ⟨hdl5, -⟩ := hrow5.dl (fun k hk => oldB_new hk)
      have hel : es.length = ds.length := by rw [hes, List.length_map]
      rw [hes] at hdl5
      rw [hel]
      have HDL5 := Hid.mk hdl5
      have hokd : ∀ d ∈ ds, okD d := judgDs_ok HSM.out (judgDs_zero fun d hd => (HH.out.1.2 d hd).2)
      have HOKD := Hid.mk hokd
      clear hb5 hh5 hcl5 hrow5 hdl5 hes hel HC5 hconv3 hconv4 hokd
      go_wp2_with (go_at_call 10; refine (num3_any _ _).mono ?_; rintro e w' ⟨rfl, hww⟩; have hwx := hww.symm; subst hwx)
      go_loopw [11] (fun i wr => ∃ k : Nat, k ≤ ds.length ∧ i = .int .i64 k ∧ RowKit.Below w5.heap.size w5 wr) (fun i _ => ds.length - (intOf i).toNat)
      case atStart => exact ⟨0, Nat.zero_le _, rfl, Below.refl _ _⟩
      case round =>
        obtain ⟨k, hk, rfl, hb⟩ := hrel
        have HBR := Hid.mk hb
        have HBWR : Hid (RowKit.Below w.heap.size w wr) := HB5.out.trans (hb.mono HB5.out.size)
        clear hb
        by_cases hlt : k < ds.length
        rotate_left
        · go_wp2
          go_ret
          exact ⟨rfl, HBWR.out⟩
        obtain ⟨ab, ao, rfl, hab0, acs⟩ := (HDL5.out.on HBR.out).resolve_left (by intro e; rw [List.map_eq_nil_iff] at e; rw [e] at hlt; simp at hlt)
        obtain ⟨bb, bo, rfl, hbb0, bcs⟩ := (HL.out.on HBWR.out).resolve_left (by intro e; rw [e] at hlt; simp at hlt)
        have had := acs k (cleanD ds[k]) (by rw [List.getElem?_map, List.getElem?_eq_getElem hlt]; rfl)
        have hbd := bcs k _ (List.getElem?_eq_getElem hlt)
        have hsk := HSM.out _ (List.getElem_mem hlt)
        have hokk := HOKD.out _ (List.getElem_mem hlt)
        have hrk := (HH.out.1.2 _ (List.getElem_mem hlt))
        generalize ds[k] = kk at *
        obtain ⟨vs, hvl, hvr, -, hvd⟩ := had.go
        obtain ⟨us, hul, hur, -, hud⟩ := hbd.go
        have HS1 : Hid ((Tryz.prog.info? 41).map (·.size) = some vs.length) := by unfold Hid; rw [hvl]; kernel_rfl
        have HS2 : Hid ((Tryz.prog.info? 41).map (·.size) = some us.length) := by unfold Hid; rw [hul]; kernel_rfl
        have HCALL := CleanDecl_any kk _ wr.drew (hud.on (Below.refl _ _).drew) hokk hsk
        have HVD := Hid.mk hvd
        have HSC : Hid (smD (cleanD kk)) := cleanD_sm hsk
        have HCEL : Hid (∀ W : World, RowKit.Below wr.heap.size wr W → W.rangeAt ab (ao + k * 17) vs ∧ W.rangeAt bb (bo + k * 17) us) := fun W h => ⟨range_keep hvr (h.block _ hab0), range_keep hur (h.block _ hbb0)⟩
        have zk : (k : Int) < (ds.length : Int) := by omega
        have mx := mixed
        clear had hbd acs bcs hvr hur hvd hud hsk hokk hrk
        go_wp2_with fail
        refine wp_region_late (S := fun w' => w'.rangeAt ab (ao + k * 17) vs ∧ w'.rangeAt bb (bo + k * 17) us) (fun _ => false) mx ?_ (fun hHeld => ?_)
        · (try dsimp only)
          exact HCEL.out _ (Below.refl _ _).drew
        refine wpAnyM_takeD (i := 0) (v := .slice (some ⟨ab, ao, none⟩) ds.length mc) (d := some 66) rfl (by kernel_rfl) (by kernel_rfl) (by kernel_rfl) (by kernel_rfl) (by kernel_rfl) (fun _ _ _ h => h) (Or.inl ⟨by kernel_rfl, fun _ _ => by kernel_rfl⟩) (by assumption) ?_
        refine wpAnyM_takeD (i := 1) (v := .int .i64 k) (d := some 67) rfl (by kernel_rfl) (by kernel_rfl) (by kernel_rfl) (by kernel_rfl) (by kernel_rfl) (fun _ _ _ h => h) (Or.inl ⟨by kernel_rfl, fun _ _ => by kernel_rfl⟩) (by assumption) ?_
        refine wpAnyM_takeD (i := 2) (v := .pointer (some ⟨ab, ao + k * 17, none⟩)) (d := some 68) rfl (by kernel_rfl) (by kernel_rfl) (by kernel_rfl) (by kernel_rfl) (by kernel_rfl) (fun _ _ _ h => h) (Or.inl ⟨by kernel_rfl, fun w hSw => by go_simp⟩) (by assumption) ?_
        refine wpAnyM_takeD (i := 3) (v := .agg vs.toArray) (d := some 69) rfl (by kernel_rfl) (by kernel_rfl) (by kernel_rfl) (by kernel_rfl) (by kernel_rfl) (fun _ _ _ h => h) (yieldsIf_load_mid (by kernel_rfl) 41 (.tmp 68) rfl ab (ao + k * 17) (by kernel_rfl) vs _ (fun w hSw => hSw.1) Tryz.underlying41 rfl HS1.out) (by assumption) ?_
        refine wpAnyM_takeD (i := 4) (v := .slice (some ⟨bb, bo, none⟩) ds.length cb) (d := some 70) rfl (by kernel_rfl) (by kernel_rfl) (by kernel_rfl) (by kernel_rfl) (by kernel_rfl) (fun _ _ _ h => h) (Or.inl ⟨by kernel_rfl, fun _ _ => by kernel_rfl⟩) (by assumption) ?_
        refine wpAnyM_takeD (i := 5) (v := .int .i64 k) (d := some 71) rfl (by kernel_rfl) (by kernel_rfl) (by kernel_rfl) (by kernel_rfl) (by kernel_rfl) (fun _ _ _ h => h) (Or.inl ⟨by kernel_rfl, fun _ _ => by kernel_rfl⟩) (by assumption) ?_
        refine wpAnyM_takeD (i := 6) (v := .pointer (some ⟨bb, bo + k * 17, none⟩)) (d := some 72) rfl (by kernel_rfl) (by kernel_rfl) (by kernel_rfl) (by kernel_rfl) (by kernel_rfl) (fun _ _ _ h => h) (Or.inl ⟨by kernel_rfl, fun w hSw => by go_simp⟩) (by assumption) ?_
        refine wpAnyM_takeD (i := 7) (v := .agg us.toArray) (d := some 73) rfl (by kernel_rfl) (by kernel_rfl) (by kernel_rfl) (by kernel_rfl) (by kernel_rfl) (fun _ _ _ h => h) (yieldsIf_load_mid (by kernel_rfl) 41 (.tmp 72) rfl bb (bo + k * 17) (by kernel_rfl) us _ (fun w hSw => hSw.2) Tryz.underlying41 rfl HS2.out) (by assumption) ?_
        refine wpAnyM_one (i := 8) (by kernel_rfl) ?_
        refine ⟨_, rfl, fun K hK => ?_⟩
        go_simp
        go_at_call 13
        refine HCALL.mono ?_
        rintro e w6 ⟨zs, rfl, hdv6, hb6⟩
        have HB6 : Hid (RowKit.Below wr.heap.size wr w6) := (Below.refl _ wr).drew.trans hb6
        have HCALL2 := ExactDecl_yes (cleanD kk) _ _ w6 (HVD.out.on HB6.out) hdv6 HSC.out
        clear hb6 hdv6 HCALL
        refine hK.out _ _ (fun _ => ?_) (fun hHeld => ?_)
        · (try dsimp only)
          exact HCEL.out _ HB6.out
        replace hHeld := hHeld rfl
        clear hK K
        refine wpAnyM_one (i := 9) (by kernel_rfl) ?_
        refine ⟨_, rfl, fun K hK => ?_⟩
        go_simp
        go_at_call 12
        refine HCALL2.mono ?_
        rintro e w7 ⟨rfl, hb7⟩
        have HB7 : Hid (RowKit.Below wr.heap.size wr w7) := HB6.out.trans (hb7.mono HB6.out.size)
        clear hb7 HCALL2
        refine hK.out _ _ (fun _ => ?_) (fun hHeld => ?_)
        · (try dsimp only)
          exact HCEL.out _ HB7.out
        replace hHeld := hHeld rfl
        clear hK K
        refine wpAnyM_one (i := 10) (by kernel_rfl) ?_
        refine ⟨_, rfl, fun K hK => ?_⟩
        go_simp
        refine hK.out _ _ (fun _ => ?_) (fun hHeld => ?_)
        · (try dsimp only)
          exact HCEL.out _ HB7.out
        replace hHeld := hHeld rfl
        clear hK K
        refine wpAnyM_done (by kernel_rfl) ?_ _
        go_wp2
        exact ⟨⟨k + 1, hlt, by go_num, HBR.out.trans (HB7.out.mono HBR.out.size)⟩, by simp [intOf]; omega⟩

theorem all_one {H : Type} {ts : List TypeId} {d0 : DataW H} (h : (DataW.weightsEach Tryz.prog ([22] ++ ts) ([d0] ++ [])).all (· ≤ reachBytes) = true) : ∀ n ∈ d0.weights Tryz.prog 22, n ≤ reachBytes := by
  simp only [List.cons_append, List.nil_append, DataW.weightsEach, List.all_append, Bool.and_eq_true, List.all_eq_true, decide_eq_true_eq] at h
  exact h.1

theorem ownL : ownKnob Tryz.prog.godebug = none := by kernel_rfl

set_option maxRecDepth 100000 in
theorem lifted (os : Os) (started : os.Started) (H : Type) (enc : TypeId × Value → H) :
    ReturnsInHanded {} Tryz.checked os 3 .any (Rows.bytesDeclsSpec.pre6 enc Tryz.prog Tryz.f3 Rows.bytesDeclsRow.domain false) (Rows.bytesDeclsSpec.post enc Tryz.prog Tryz.f3 false true false false) := by
  refine returnsInHanded_of_change_sized (C := Tryz.checked) ownL started (by kernel_rfl) Tryz.func3
    (ChangeSpec.witness6 (enc := enc) (C := Tryz.checked) false ⟨#[], #[.slice none 0 0], []⟩ 8 (by kernel_rfl) (by kernel_rfl) (by kernel_rfl) (by kernel_rfl)) ?_
  intro W base args ds gs before hval0 hW hcnd hwt _
  have hval : ∀ (j : Nat) t v, Tryz.f3.params[j]? = some t → args[j]? = some v → Value.okWide Tryz.prog W .any base t v := hval0
  have hW' := hW
  obtain ⟨p, q, hA0, hV, rfl, hfz, hnd⟩ := hW
  have hA : DataW.TrodAll enc Tryz.prog W 0 (fun _ => true) true Tryz.f3.params.toList args.toList ds p := hA0
  rw [Tryz.params3] at hA hval
  obtain ⟨v0, d0, rfl, rfl, h0⟩ := trodAll_one hA
  obtain ⟨rfl, rfl⟩ := trodVars_none hV
  have hwt' := hwt
  rw [show Tryz.checked.prog = Tryz.prog from rfl, Tryz.params3] at hwt'
  have wt := all_one hwt'
  have k0 := h0
  have lt0 : ∀ x ∈ p, x.block < W.heap.size := by obtain ⟨m, hm⟩ := k0; exact DataW.trod_lt m _ _ _ hm
  obtain ⟨l, aa, ca, rfl, -, -, -, ha4, ha5⟩ := open_decls (hval 0 22 v0 rfl rfl) h0
  obtain ⟨wt0, ok0⟩ := ha5 wt
  clear hA0 hval0
  refine (walk l aa ca W ha4 ok0 wt0).mono fun e W' ⟨he, bel⟩ => ?_
  subst he
  exact ⟨_, rfl, _, _, _, [], _, [], hW', trodAll_mk1 (shut_bool Tryz.underlying4 _), trodAll_mk1 (Below.trod laidOut (by kernel_rfl) (of_decide_eq_true (by kernel_rfl)) k0 bel lt0), rfl, bel.frame _, fun h => by cases h⟩

theorem over : Rows.bytesDeclsRow.holds Tryz.pinned (OpenSpec.ofChange Rows.bytesDeclsSpec) :=
  OpenClaim.holds_of_wide 3 Tryz.f3 rfl rfl rfl rfl rfl rfl rfl ⟨rfl, rfl, rfl, rfl, rfl⟩ rfl rfl rfl rfl rfl (by kernel_rfl) Tryz.func3 (by kernel_rfl)
    (of_decide_eq_true (by kernel_rfl)) (by unfold Func.isWrapper; first | (rw [if_pos (by decide +kernel)]; kernel_rfl) | (rw [if_neg (by decide +kernel)]; exact ⟨rfl, rfl⟩))
    (fun os started H enc _ => lifted os started H enc)

end bytesDecls

theorem bytesDecls_holds : Rows.BytesDeclsSaid := bytesDecls.over
#print axioms bytesDecls_holds
end Go.Proofs.YtndjdeiccmhelaaGreat
