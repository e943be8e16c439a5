/- The contract of the reference's ReadDecls, whatever the bytes are. -/
import Derived.Test.YtndjdeiccmhelaaGreatLE
import Derived.Test.YtndjdeiccmhelaaGreatLG
import Derived.Test.YtndjdeiccmhelaaGreatGF
namespace Go.Proofs.YtndjdeiccmhelaaGreat
open Go.RowKit Go.Sort Go.Lib

set_option maxRecDepth 100000 in
set_option maxHeartbeats 40000000 in
theorem rReadDecls_any (bs : List UInt8) (a : Option Addr) (cap : Nat) (w : World) (hB : BL w a bs) (hlt : ∀ ad, a = some ad → ad.block < w.heap.size) (hnn : a = none → cap = 0) (hcap : bs.length ≤ cap) (hcm : cap ≤ 9223372036854775807) (hl : bs.length ≤ 1000000) : Calls Tryz.prog 14 #[.slice a bs.length cap] w fun e w' => DsAnsU w bs e w' ∧ RowKit.Below w.heap.size w w' := by
  have hli : ¬ (1000000 : Int) < (bs.length : Int) := by omega
  obtain ⟨W0, hW0⟩ : ∃ W0, w.alloc (.cells #[.slice a bs.length cap, .int .i64 0, .bool false, .int .i64 0] 79) = W0 := ⟨_, rfl⟩
  have hb : RowKit.Below w.heap.size w W0 := by rw [← hW0]; exact (Below.refl _ _).alloc (Nat.le_refl _) _
  have hr0 : W0.heap[w.heap.size]? = some (.cells #[.slice a bs.length cap, .int .i64 0, .bool false, .int .i64 0] 79 (0, 0)) := by rw [← hW0]; exact alloc_new _ _
  have hs0 : W0.heap.size = w.heap.size + 1 := by rw [← hW0]; simp
  have hR : RR W0 W0.heap.size w.heap.size a cap bs bs false 0 := ⟨heap_lt hr0, Nat.le_refl _, hB.below hb, hcap, hcm, hl, fun ad e => by
    have := hlt ad e
    omega, [], rfl, hr0⟩
  have HC := rrnum_b W0.heap.size w.heap.size a cap bs bs false 0 W0 hR
  have HB0 := Hid.mk hb
  have HBL := Hid.mk hB
  have HNN := Hid.mk hnn
  have HW0 := Hid.mk hW0
  have HS0 := Hid.mk hs0
  clear hB hb hW0 hr0 hR hlt hnn
  go_enter Tryz.func14, Tryz.ntmps14
  go_wp2_with fail
  rw [HW0.out]
  refine HC.mono ?_
  rintro e w1 ⟨n, r1, bad1, rfl, hR1, hk1, hq1⟩
  obtain ⟨hpd, hny, hrm⟩ := PDs.start hq1
  have HR1 := Hid.mk hR1
  have HK1 := Hid.mk hk1
  have HPD1 := Hid.mk hpd
  have HNY := Hid.mk hny
  have HRM := Hid.mk hrm
  clear hR1 hk1 hq1 hpd hny hrm HC hs0
  go_wp2
  go_loopw [5, 7] (fun l i wr => ∃ (k : Nat) (la : Option Addr) (lc : Nat) (ds : List Dl) (r : List UInt8) (bad : Bool) (q : Nat), k ≤ 501 ∧ i = .int .i64 k ∧ l = .slice la ds.length lc ∧ ds.length = k ∧ RR wr W0.heap.size w.heap.size a cap bs r bad q ∧ Kept (fun k => k = w.heap.size) W0 wr ∧ RowX 41 17 ED0 wr W0.heap.size (oldB W0) la lc ds ∧ PDs bs r1 ds r bad ∧ (bad1 = true → bad = true)) (fun _ i _ => 501 - (intOf i).toNat)
  case atStart => exact ⟨0, none, 0, [], r1, bad1, 0, by omega, rfl, rfl, rfl, HR1.out, HK1.out, RowX.nil _ _ _ _ _ _, HPD1.out, fun h => h⟩
  case round =>
    obtain ⟨k, la, lc, ds, r, bad, q, hk, rfl, rfl, hdk, hRr, hkr, hrow, hpd, hbd1⟩ := hrel
    obtain ⟨WO, rfl⟩ : ∃ W, W = wr := ⟨_, rfl⟩
    have HDK := Hid.mk hdk
    have HRR := Hid.mk hRr
    have HKR := Hid.mk hkr
    have HROW := Hid.mk hrow
    have HPD := Hid.mk hpd
    have HBD1 := Hid.mk hbd1
    have hsz := hkr.size
    have hs0 := Nat.le_of_eq HS0.out
    have hsy0 := Nat.le_of_eq HS0.out.symm
    have HBW : Hid (RowKit.Below w.heap.size w WO) := HB0.out.trans (hkr.below HB0.out.size fun k hk => by omega)
    have HRB : Hid (∀ j, ownB la j = true → W0.heap.size ≤ j ∧ j < WO.heap.size) := fun j hj => by
      obtain ⟨ys, -, -, hown0, -⟩ := hrow.go
      exact ownsX_lt hown0 hj
    obtain ⟨p, hp, hh⟩ := hRr.2.2.2.2.2.2.2
    obtain ⟨c0, c1, c2, c3, cl, cf⟩ := cellsR hh
    have HP := Hid.mk hp
    clear hdk hRr hkr hrow hpd hh hbd1 hp
    by_cases hkn : k < n
    rotate_left
    · have zk : ¬ (k : Int) < (n : Int) := by omega
      cases bad with
      | true =>
        have HEX : Hid (∀ ys, HasD bs ys → ys.length ≤ k) := fun ys hy => by have := HNY.out ys hy; have := hy.1.1; omega

        have HNO : Hid (∀ ys, ¬ HasD bs ys) := fun ys hy => by have := (HPD.out.2 ys hy).1; cases this
        go_wp2
        go_ret2
        exact ⟨Or.inr ⟨HNO.out, rfl⟩, HBW.out⟩
      | false =>
        have HEX : Hid (∀ ys, HasD bs ys → ys.length ≤ k) := fun ys hy => by have := HNY.out ys hy; have := hy.1.1; omega

        by_cases hr : r = []
        · subst hr
          have hp := HP.out
          rw [List.append_nil] at hp
          subst hp
          obtain ⟨hsm, hrl⟩ := HPD.out.1 rfl
          have HSM := Hid.mk hsm
          have HROWS : Hid (RowX 41 17 ED WO W0.heap.size (oldB W0) la lc ds) := HROW.out.small hsm
          obtain ⟨hdl1, -⟩ := HROWS.out.dl (fun k hk => oldB_new hk)
          have HBL1 : Hid (BL WO a bs) := HBL.out.below HBW.out
          have hbd : bad1 = false := by
            cases hb1 : bad1 with
            | false => rfl
            | true => have := HBD1.out; rw [hb1] at this; have := this rfl; cases this
          have hrm := HRM.out hbd
          have hdn := numB_9 (n := ds.length) (by have := HDK.out; omega)
          have HC2 := rDecls_any ds la lc WO hdl1 (by have := HDK.out; omega) hsm (fun _ => by rw [encDs, List.length_append]; simp only [List.length_nil, Nat.add_zero] at hrl; omega)
          clear hsm hdl1
          go_wp2_with fail
          refine HC2.mono ?_
          rintro e w2 ⟨hans, hb2⟩
          have HB2 : Hid (RowKit.Below w.heap.size w w2) := HBW.out.trans (hb2.mono (by omega))
          have hs2 := hb2.size
          have HROW2 : Hid (RowX 41 17 ED w2 w.heap.size (oldB w) la lc ds) := RowX.weaken ED.moves (HROWS.out.move ED.moves (fun k hk => oldB_new hk) hb2.size fun k h1 _ => hb2.block k h1) (by omega)
          have HYC : Hid (∀ ys, HasD bs ys → ds = ys.map cleanD) := fun ys hy => by
            have h1 := (HPD.out.2 ys hy).2.1
            rw [List.take_of_length_le (by have := HEX.out ys hy; have := HDK.out; omega)] at h1
            exact h1
          rcases res_cases ds with ⟨x, hx, hr⟩ | hr
          · rw [hr] at hans
            obtain ⟨-, rfl⟩ := hans
            have hx1 : (x != 0) = true := by simpa using hx
            have HNO : Hid (∀ ys, ¬ HasD bs ys) := fun ys hy => by
              have h1 := has_res hy hl
              rw [← HYC.out ys hy, hr] at h1
              cases h1
            clear hb2 hr HC2
            go_wp2
            go_ret2
            exact ⟨Or.inr ⟨HNO.out, rfl⟩, HB2.out⟩
          · have hrk := hr
            rw [hr] at hans
            obtain ⟨vb, rfl, hO3⟩ := hans
            obtain ⟨a3, c3', rfl, hbl3, -, -, hn3, -⟩ := hO3.shape
            have hhas := res_has HSM.out hrk
            have hconv1 : Sem.run Tryz.prog (convert 25 9 (.slice a3 (encDs ds).length c3')) w2 = _ := string_of hbl3 hn3
            have hconv2 : Sem.run Tryz.prog (convert 25 9 (.slice a bs.length cap)) w2 = _ := string_of (HBL1.out.below hb2) HNN.out
            by_cases heq : encDs ds = bs
            · have HH : Hid (HasD bs ds) := by unfold Hid; rw [← heq]; exact hhas.1
              rw [heq] at hconv1
              rw [heq]
              clear hO3 hbl3 hb2 HC2 hr hrk hhas heq hn3
              go_wp2
              go_ret2
              exact ⟨Or.inl ⟨ds, la, lc, HH.out, HYC.out, rfl, HROW2.out⟩, HB2.out⟩
            · have hsne := bytes_ne heq
              have HNO : Hid (∀ ys, ¬ HasD bs ys) := fun ys hy => by
                have h1 := HYC.out ys hy
                apply heq
                rw [h1, encDs_clean]
                exact hy.2
              clear hO3 hbl3 hb2 HC2 hr hrk hhas heq hn3
              generalize (⟨(encDs ds).toArray⟩ : ByteArray) = sa at *
              generalize (⟨bs.toArray⟩ : ByteArray) = sb at *
              generalize (encDs ds).length = el at *
              go_wp2
              go_ret2
              exact ⟨Or.inr ⟨HNO.out, rfl⟩, HB2.out⟩
        · have hlen : p.length + r.length = bs.length := by have := congrArg List.length HP.out; rw [List.length_append] at this; omega
          have hrl : 0 < r.length := List.length_pos_iff.2 hr
          have hne2 : ((p.length : Int) != (bs.length : Int)) = true := by simp; omega
          have HNO : Hid (∀ ys, ¬ HasD bs ys) := fun ys hy => by
            have h1 := (HPD.out.2 ys hy).2.2
            rw [List.drop_of_length_le (by have := HEX.out ys hy; have := HDK.out; omega)] at h1
            exact hr h1
          go_wp2
          go_ret2
          exact ⟨Or.inr ⟨HNO.out, rfl⟩, HBW.out⟩
    have zk : (k : Int) < (n : Int) := by omega
    cases bad with
    | true =>
      have HEX : Hid (∀ ys, HasD bs ys → ys.length ≤ k) := fun ys hy => by have h1 := (HPD.out.2 ys hy).1; cases h1

      have HNO : Hid (∀ ys, ¬ HasD bs ys) := fun ys hy => by have := (HPD.out.2 ys hy).1; cases this
      go_wp2
      go_ret2
      exact ⟨Or.inr ⟨HNO.out, rfl⟩, HBW.out⟩
    | false =>
      by_cases h500 : k ≤ 500
      rotate_left
      · have z5 : ¬ (k : Int) ≤ 500 := by omega
        have HEX : Hid (∀ ys, HasD bs ys → ys.length ≤ k) := fun ys hy => by have := HNY.out ys hy; have := hy.1.1; omega

        by_cases hr : r = []
        · subst hr
          have hp := HP.out
          rw [List.append_nil] at hp
          subst hp
          obtain ⟨hsm, hrl⟩ := HPD.out.1 rfl
          have HSM := Hid.mk hsm
          have HROWS : Hid (RowX 41 17 ED WO W0.heap.size (oldB W0) la lc ds) := HROW.out.small hsm
          obtain ⟨hdl1, -⟩ := HROWS.out.dl (fun k hk => oldB_new hk)
          have HBL1 : Hid (BL WO a bs) := HBL.out.below HBW.out
          have hbd : bad1 = false := by
            cases hb1 : bad1 with
            | false => rfl
            | true => have := HBD1.out; rw [hb1] at this; have := this rfl; cases this
          have hrm := HRM.out hbd
          have hdn := numB_9 (n := ds.length) (by have := HDK.out; omega)
          have HC2 := rDecls_any ds la lc WO hdl1 (by have := HDK.out; omega) hsm (fun _ => by rw [encDs, List.length_append]; simp only [List.length_nil, Nat.add_zero] at hrl; omega)
          clear hsm hdl1
          go_wp2_with fail
          refine HC2.mono ?_
          rintro e w2 ⟨hans, hb2⟩
          have HB2 : Hid (RowKit.Below w.heap.size w w2) := HBW.out.trans (hb2.mono (by omega))
          have hs2 := hb2.size
          have HROW2 : Hid (RowX 41 17 ED w2 w.heap.size (oldB w) la lc ds) := RowX.weaken ED.moves (HROWS.out.move ED.moves (fun k hk => oldB_new hk) hb2.size fun k h1 _ => hb2.block k h1) (by omega)
          have HYC : Hid (∀ ys, HasD bs ys → ds = ys.map cleanD) := fun ys hy => by
            have h1 := (HPD.out.2 ys hy).2.1
            rw [List.take_of_length_le (by have := HEX.out ys hy; have := HDK.out; omega)] at h1
            exact h1
          rcases res_cases ds with ⟨x, hx, hr⟩ | hr
          · rw [hr] at hans
            obtain ⟨-, rfl⟩ := hans
            have hx1 : (x != 0) = true := by simpa using hx
            have HNO : Hid (∀ ys, ¬ HasD bs ys) := fun ys hy => by
              have h1 := has_res hy hl
              rw [← HYC.out ys hy, hr] at h1
              cases h1
            clear hb2 hr HC2
            go_wp2
            go_ret2
            exact ⟨Or.inr ⟨HNO.out, rfl⟩, HB2.out⟩
          · have hrk := hr
            rw [hr] at hans
            obtain ⟨vb, rfl, hO3⟩ := hans
            obtain ⟨a3, c3', rfl, hbl3, -, -, hn3, -⟩ := hO3.shape
            have hhas := res_has HSM.out hrk
            have hconv1 : Sem.run Tryz.prog (convert 25 9 (.slice a3 (encDs ds).length c3')) w2 = _ := string_of hbl3 hn3
            have hconv2 : Sem.run Tryz.prog (convert 25 9 (.slice a bs.length cap)) w2 = _ := string_of (HBL1.out.below hb2) HNN.out
            by_cases heq : encDs ds = bs
            · have HH : Hid (HasD bs ds) := by unfold Hid; rw [← heq]; exact hhas.1
              rw [heq] at hconv1
              rw [heq]
              clear hO3 hbl3 hb2 HC2 hr hrk hhas heq hn3
              go_wp2
              go_ret2
              exact ⟨Or.inl ⟨ds, la, lc, HH.out, HYC.out, rfl, HROW2.out⟩, HB2.out⟩
            · have hsne := bytes_ne heq
              have HNO : Hid (∀ ys, ¬ HasD bs ys) := fun ys hy => by
                have h1 := HYC.out ys hy
                apply heq
                rw [h1, encDs_clean]
                exact hy.2
              clear hO3 hbl3 hb2 HC2 hr hrk hhas heq hn3
              generalize (⟨(encDs ds).toArray⟩ : ByteArray) = sa at *
              generalize (⟨bs.toArray⟩ : ByteArray) = sb at *
              generalize (encDs ds).length = el at *
              go_wp2
              go_ret2
              exact ⟨Or.inr ⟨HNO.out, rfl⟩, HB2.out⟩
        · have hlen : p.length + r.length = bs.length := by have := congrArg List.length HP.out; rw [List.length_append] at this; omega
          have hrl : 0 < r.length := List.length_pos_iff.2 hr
          have hne2 : ((p.length : Int) != (bs.length : Int)) = true := by simp; omega
          have HNO : Hid (∀ ys, ¬ HasD bs ys) := fun ys hy => by
            have h1 := (HPD.out.2 ys hy).2.2
            rw [List.drop_of_length_le (by have := HEX.out ys hy; have := HDK.out; omega)] at h1
            exact hr h1
          go_wp2
          go_ret2
          exact ⟨Or.inr ⟨HNO.out, rfl⟩, HBW.out⟩
      have z5 : (k : Int) ≤ 500 := by omega
      have HB1F : Hid (bad1 = false) := by
        unfold Hid
        cases hb1 : bad1 with
        | false => rfl
        | true => have := HBD1.out hb1; cases this
      clear HP HBD1
      have HC1 := rrnum_b W0.heap.size w.heap.size a cap bs r false q WO HRR.out
      go_wp2_with fail
      refine HC1.mono ?_
      rintro e w2 ⟨kd, r2, b2, rfl, hR2, hk2, hq2⟩
      obtain ⟨K, hK⟩ : ∃ K : Int, (kd : Int) = K := ⟨_, rfl⟩
      rw [hK]
      have HKE := Hid.mk hK
      have HQ2 := Hid.mk hq2
      have HK2 := Hid.mk hk2
      have HC2 := rrtext_b W0.heap.size w.heap.size a cap bs r2 b2 q w2 hR2
      clear hK hq2 hk2 hR2 HC1 c0 c1 c2 c3 cl cf
      go_wp2_with fail
      refine HC2.mono ?_
      rintro e w3 ⟨nm, r3, b3, rfl, hnm, hR3, hk3, hq3⟩
      have HQ3 := Hid.mk hq3
      have HK3 : Hid (Kept (fun k => k = w.heap.size) WO w3) := HK2.out.trans hk3
      have HC3 := rrnum_b W0.heap.size w.heap.size a cap bs r3 b3 q w3 hR3
      clear hq3 hk3 hR3 HC2 HK2
      go_wp2_with fail
      refine HC3.mono ?_
      rintro e w4 ⟨lv, r4, b4, rfl, hR4, hk4, hq4⟩
      have HQ4 := Hid.mk hq4
      have HK4 : Hid (Kept (fun k => k = w.heap.size) WO w4) := HK3.out.trans hk4
      have hs4 := HK4.out.size
      obtain ⟨W5, hW5⟩ : ∃ W5, w4.alloc (.cells #[.int .i64 K, .string nm, .int .i64 (lv : Int), .int .i64 0, .int .i64 0, .bool false, .string { data := #[] }, .slice none 0 0, .slice none 0 0, .int .i64 0, .int .i64 0, .bool false, .string { data := #[] }, .slice none 0 0, .slice none 0 0, .int .i64 0, .slice none 0 0] 41) = W5 := ⟨_, rfl⟩
      have hb5 : RowKit.Below w4.heap.size w4 W5 := by rw [← hW5]; exact (Below.refl _ _).alloc (Nat.le_refl _) _
      have HX5 : Hid (W5.heap[w4.heap.size]? = some (.cells #[.int .i64 K, .string nm, .int .i64 (lv : Int), .int .i64 0, .int .i64 0, .bool false, .string { data := #[] }, .slice none 0 0, .slice none 0 0, .int .i64 0, .int .i64 0, .bool false, .string { data := #[] }, .slice none 0 0, .slice none 0 0, .int .i64 0, .slice none 0 0] 41 (0, 0))) := by unfold Hid; rw [← hW5]; exact alloc_new _ _
      have hR5 := hR4.on hb5
      obtain ⟨hR6', hk6'⟩ := hR5.zero
      obtain ⟨p5, -, hh5⟩ := hR5.2.2.2.2.2.2.2
      obtain ⟨c0, c1, c2, c3, cl, cf⟩ := cellsR hh5
      obtain ⟨W6, hW6⟩ : ∃ W6, W5.setCell ⟨w.heap.size, 3, none⟩ (.int .i64 0) = W6 := ⟨_, rfl⟩
      rw [hW6] at hR6' hk6'
      have HK6 : Hid (Kept (fun k => k = w.heap.size) WO W6) := (HK4.out.trans (Kept.of_below hb5)).trans hk6'
      have hs5 : w4.heap.size < W5.heap.size := heap_lt HX5.out
      have hs6 := hk6'.size
      have HX6 : Hid (W6.heap[w4.heap.size]? = some (.cells #[.int .i64 K, .string nm, .int .i64 (lv : Int), .int .i64 0, .int .i64 0, .bool false, .string { data := #[] }, .slice none 0 0, .slice none 0 0, .int .i64 0, .int .i64 0, .bool false, .string { data := #[] }, .slice none 0 0, .slice none 0 0, .int .i64 0, .slice none 0 0] 41 (0, 0))) := (hk6'.block _ hs5 (by omega)).trans HX5.out
      have HSA : Hid ((Tryz.prog.info? 41).map (·.size) = some (#[.int .i64 K, .string nm, .int .i64 (lv : Int), .int .i64 0, .int .i64 0, .bool false, .string { data := #[] }, .slice none 0 0, .slice none 0 0, .int .i64 0, .int .i64 0, .bool false, .string { data := #[] }, .slice none 0 0, .slice none 0 0, .int .i64 0, .slice none 0 0] : Array Value).size) := by unfold Hid; kernel_rfl
      have HONE : Hid (((#[.int .i64 K, .string nm, .int .i64 (lv : Int), .int .i64 0, .int .i64 0, .bool false, .string { data := #[] }, .slice none 0 0, .slice none 0 0, .int .i64 0, .int .i64 0, .bool false, .string { data := #[] }, .slice none 0 0, .slice none 0 0, .int .i64 0, .slice none 0 0] : Array Value)).all (·.oneCell') = true) := by unfold Hid; simp [Value.oneCell']
      have HC4 := rrterm_b W0.heap.size w.heap.size a cap bs r4 b4 W6 hR6'
      have HW5 := Hid.mk hW5
      have HW6 := Hid.mk hW6
      clear hq4 hk4 hR4 HC3 HK3 hb5 hR5 hR6' hk6' hh5 hW5 hW6 HX5
      go_wp2_with (first | (refine wpList_store_new rfl 41 _ _ rfl rfl rfl HSA.out rfl HONE.out ?_; rw [HW5.out]) | rw [HW6.out])
      refine HC4.mono ?_
      rintro e w7 ⟨vt, t, r5, b5, q5, rfl, ⟨t0, t1, t2, t3, t4, t5, t6, t7, t8, t9, rfl⟩, htf, hsm, hR7, hk7, hq7⟩
      have HTF := Hid.mk htf
      have HHD : Hid (RHead r K nm (lv : Int) t r5 b5) := by unfold Hid; rw [← HKE.out]; exact RHead.of HQ2.out HQ3.out HQ4.out hq7 hsm
      have hs7 := hk7.size
      have hX7 : w7.heap[w4.heap.size]? = some (.cells #[.int .i64 K, .string nm, .int .i64 (lv : Int), .int .i64 0, .int .i64 0, .bool false, .string { data := #[] }, .slice none 0 0, .slice none 0 0, .int .i64 0, .int .i64 0, .bool false, .string { data := #[] }, .slice none 0 0, .slice none 0 0, .int .i64 0, .slice none 0 0] 41 (0, 0)) := (hk7.block _ (by omega) (by omega)).trans HX6.out
      obtain ⟨W8, hW8⟩ : ∃ W8, w7.setCells w4.heap.size 3 (#[.int .i64 t0, .int .i64 t1, .bool t2, .string t3, .slice t4 t5 t6, .slice t7 t8 t9] : Array Value).toList = W8 := ⟨_, rfl⟩
      have HT8 : Hid (w7.there w4.heap.size 3 (#[.int .i64 t0, .int .i64 t1, .bool t2, .string t3, .slice t4 t5 t6, .slice t7 t8 t9] : Array Value).size) := there_of (n := 17) hX7 rfl 3 6 (by decide)
      have HS8 : Hid ((Tryz.prog.info? 38).map (·.size) = some (#[.int .i64 t0, .int .i64 t1, .bool t2, .string t3, .slice t4 t5 t6, .slice t7 t8 t9] : Array Value).size) := by unfold Hid; kernel_rfl
      have HO8 : Hid (((#[.int .i64 t0, .int .i64 t1, .bool t2, .string t3, .slice t4 t5 t6, .slice t7 t8 t9] : Array Value)).all (·.oneCell') = true) := by unfold Hid; simp [Value.oneCell']
      have HX8 : Hid (W8.heap[w4.heap.size]? = some (.cells #[.int .i64 K, .string nm, .int .i64 (lv : Int), .int .i64 t0, .int .i64 t1, .bool t2, .string t3, .slice t4 t5 t6, .slice t7 t8 t9, .int .i64 0, .int .i64 0, .bool false, .string { data := #[] }, .slice none 0 0, .slice none 0 0, .int .i64 0, .slice none 0 0] 41 (0, 0))) := by unfold Hid; rw [← hW8]; exact sets_block _ 3 _ _ hX7
      have hw8 := sets_heap w4.heap.size (#[.int .i64 t0, .int .i64 t1, .bool t2, .string t3, .slice t4 t5 t6, .slice t7 t8 t9] : Array Value).toList 3 w7
      rw [hW8] at hw8
      have HWS8 := Hid.mk hw8
      have hsz8 := Nat.le_of_eq hw8.1
      have hsy8 := Nat.le_of_eq hw8.1.symm
      have HW8 := Hid.mk hW8
      clear hw8
      have hR8 : RR W8 W0.heap.size w.heap.size a cap bs r5 b5 q5 := by rw [← hW8]; exact hR7.sets (by omega) _
      have HR8 := Hid.mk hR8
      have HK8 : Hid (Kept (fun k => k = w.heap.size) WO W8) := by unfold Hid; rw [← hW8]; exact Kept.sets (by omega) _ _ _ (HK6.out.trans hk7)
      have HM8 : Hid (∀ k, W6.heap.size ≤ k → W8.heap[k]? = w7.heap[k]?) := fun k hk => HWS8.out.2 k (by omega)
      have hb5r := hR8.len
      obtain ⟨p8, -, hh8⟩ := hR8.2.2.2.2.2.2.2
      obtain ⟨d0, d1, d2, d3, dl, df⟩ := cellsR hh8
      obtain ⟨f0, f1, f2, f3, f4, f5, f6, f7, f8, f9, f10, f11, f12, f13, f14, f15, f16, f17⟩ := cells17 HX8.out
      clear htf hsm hR7 hk7 hq7 HC4 hX7 hR8 hh8 hW8 HQ2 HQ3 HQ4 HKE c0 c1 c2 c3 cl cf HW5 HW6
      by_cases hk2 : K = 2
      · subst hk2
        cases b5 with
        | true =>
          have HXF := HX8
          have HKF := HK8
          have HRF := HR8

          obtain ⟨zs, hzs⟩ : ∃ zs : List Value, zs = [.int .i64 2, .string nm, .int .i64 (lv : Int), .int .i64 t0, .int .i64 t1, .bool t2, .string t3, .slice t4 t5 t6, .slice t7 t8 t9, .int .i64 0, .int .i64 0, .bool false, .string { data := #[] }, .slice none 0 0, .slice none 0 0, .int .i64 0, .slice none 0 0] := ⟨_, rfl⟩
          have hzl : zs.length = 17 := by rw [hzs]; rfl
          have HONZ : Hid (∀ v ∈ zs, v.oneCell' = true) := by unfold Hid; rw [hzs]; simp [Value.oneCell']
          have HRG : Hid (W8.rangeAt w4.heap.size 0 zs) := by unfold Hid; rw [hzs]; exact range_of (pre := []) (post := []) HXF.out (List.append_nil _).symm rfl
          have HSZ : Hid ((Tryz.prog.info? 41).map (·.size) = some zs.length) := by unfold Hid; rw [hzl]; kernel_rfl
          have hED : ED0 W8 (oldB WO) zs ⟨2, nm, (lv : Int), t, .mk 0 0 false { data := #[] } [] [], 0, []⟩ := ⟨hzl, HONZ.out, ⟨by rw [hzs]; exact ⟨t0, t1, t2, t3, t4, t5, t6, t7, t8, t9, 0, 0, false, { data := #[] }, none, 0, 0, none, 0, 0, none, 0, rfl, (HTF.out.move (by omega) fun k h1 h2 => ⟨oldB_new (by have := oldB_no h2; omega), HM8.out k (by have := oldB_no h2; omega)⟩), TF.leaf 0 0 false { data := #[] }, Or.inl rfl⟩⟩⟩
          have hsf := HKF.out.size
          have hrw0 : RowX 41 17 ED0 W8 W0.heap.size (oldB W0) la lc ds := HROW.out.move ED0.moves (fun k hk => oldB_new hk) hsf fun k h1 h2 => HKF.out.block k h1 (by have := oldB_no h2; omega)
          obtain ⟨xs9, hown9, hpush9⟩ := hrw0.push ED0.moves (fun k hk => oldB_new hk) hzl hED (fun k h1 h2 => ⟨oldB_new (by have := oldB_no h2; omega), by
            have h3 := oldB_no h2
            cases ho : ownB la k
            · rfl
            · have := (HRB.out k ho).2; omega⟩)
          have HOWN := Hid.mk hown9
          have HPUSH := Hid.mk hpush9
          have HNB : Hid (∀ (j : Nat) (u : Value), zs[j]? = some u → (W8.alloc (.cells zs.toArray 41)).cell? ((⟨W8.heap.size, 0, none⟩ : Addr).add j) = some u) := World.news_of_block (cs := zs.toArray) (t := 41) (fr := (0, 0)) (alloc_new W8 (.cells zs.toArray 41))
          have HFO : Hid (List.foldl (fun (cs : Array Value) (x : Value × Nat) => cs.setIfInBounds x.snd x.fst) #[.int .i64 0, .string { data := #[] }, .int .i64 0, .int .i64 0, .int .i64 0, .bool false, .string { data := #[] }, .slice none 0 0, .slice none 0 0, .int .i64 0, .int .i64 0, .bool false, .string { data := #[] }, .slice none 0 0, .slice none 0 0, .int .i64 0, .slice none 0 0] zs.zipIdx = zs.toArray) := fold_new _ _ (by rw [hzl]; rfl)
          have HZL : Hid (zs.length = 17) := hzl
          have hB9 : W0.heap.size ≤ (W8.alloc (.cells zs.toArray 41)).heap.size := by simp; omega
          have HPDN : Hid (PDs bs r1 (ds ++ [⟨2, nm, (lv : Int), t, .mk 0 0 false { data := #[] } [] [], 0, []⟩]) r5 true) := HPD.out.step (fun ys hy => by have := HNY.out ys hy; have := HDK.out; omega) (HHD.out.plain hnm (Or.inl rfl))
          clear hzs hED hrw0 hown9 hpush9
          go_wp2_with (first | (refine wpList_store_mid rfl 38 _ _ rfl w4.heap.size 3 #[.int .i64 t0, .int .i64 t1, .bool t2, .string t3, .slice t4 t5 t6, .slice t7 t8 t9] rfl rfl HT8.out HS8.out HO8.out ?_; rw [HW8.out]) | rw [HFO.out] | (refine wpList_load_mid rfl 41 _ rfl w4.heap.size 0 rfl zs _ HRG.out Tryz.underlying41 rfl HSZ.out ?_) | (at_builtin; refine wpList_appD rfl _ _ rfl W0.heap.size (.slice la ds.length lc) ds.length xs9 zs W8.heap.size 1 rfl rfl HOWN.out HZL.out HNB.out HONZ.out (by have := HDK.out; omega) hB9 ?_; intro g9 c9 W9 hown9 hgr9 hat9; obtain ⟨hrow9, hk9⟩ := HPUSH.out g9 c9 W9 hown9 hgr9 hat9; have HROW9 := Hid.mk hrow9; have HK9 := Hid.mk hk9; clear hown9 hgr9 hat9 hrow9 hk9))
          have hsf9 := HK9.out.size
          have hob : ∀ j, j < W0.heap.size → ¬ ownB la j = true := fun j hj ho => by have := (HRB.out j ho).1; omega
          refine ⟨⟨k + 1, some ⟨g9, 0, none⟩, c9, ds ++ [⟨2, nm, (lv : Int), t, .mk 0 0 false { data := #[] } [] [], 0, []⟩], r5, true, q5, by omega, by go_num, by rw [List.length_append]; rfl, by rw [List.length_append, HDK.out]; rfl, HRF.out.move hsf9 (fun j hj => HK9.out.block j (by omega) (hob j hj)), ⟨HK9.out.os.trans (HKF.out.os.trans HKR.out.os), HK9.out.tape.trans (HKF.out.tape.trans HKR.out.tape), HK9.out.output.trans (HKF.out.output.trans HKR.out.output), by omega, fun j hj hn => (HK9.out.block j (by omega) (hob j hj)).trans ((HKF.out.block j (by omega) hn).trans (HKR.out.block j hj hn))⟩, HROW9.out, HPDN.out, fun h => absurd (h.symm.trans HB1F.out) (by decide)⟩, by simp [intOf]; omega⟩
        | false =>
          obtain ⟨hR10, hk10⟩ := HR8.out.zero
          obtain ⟨W10, hW10⟩ : ∃ W10, W8.setCell ⟨w.heap.size, 3, none⟩ (.int .i64 0) = W10 := ⟨_, rfl⟩
          rw [hW10] at hR10 hk10
          have hs10 := hk10.size
          have HX10 : Hid (W10.heap[w4.heap.size]? = some (.cells #[.int .i64 2, .string nm, .int .i64 (lv : Int), .int .i64 t0, .int .i64 t1, .bool t2, .string t3, .slice t4 t5 t6, .slice t7 t8 t9, .int .i64 0, .int .i64 0, .bool false, .string { data := #[] }, .slice none 0 0, .slice none 0 0, .int .i64 0, .slice none 0 0] 41 (0, 0))) := (hk10.block _ (by omega) (by omega)).trans HX8.out
          have HK10 := Hid.mk hk10
          have HC5 := rrterm_b W0.heap.size w.heap.size a cap bs r5 false W10 hR10
          have HW10 := Hid.mk hW10
          clear hR10 hk10 hW10
          go_wp2_with (first | (refine wpList_store_mid rfl 38 _ _ rfl w4.heap.size 3 #[.int .i64 t0, .int .i64 t1, .bool t2, .string t3, .slice t4 t5 t6, .slice t7 t8 t9] rfl rfl HT8.out HS8.out HO8.out ?_; rw [HW8.out]) | rw [HW10.out])
          refine HC5.mono ?_
          rintro e w11 ⟨vv, tv, r6, b6, q6, rfl, ⟨v0, v1, v2, v3, v4, v5, v6, v7, v8, v9, rfl⟩, htv, hsv, hR11, hk11, hq11⟩
          have HTV := Hid.mk htv
          have HQ11 := Hid.mk hq11
          have HSV := Hid.mk hsv
          have HK11 := Hid.mk hk11
          have hs11 := hk11.size
          have hX11 : w11.heap[w4.heap.size]? = some (.cells #[.int .i64 2, .string nm, .int .i64 (lv : Int), .int .i64 t0, .int .i64 t1, .bool t2, .string t3, .slice t4 t5 t6, .slice t7 t8 t9, .int .i64 0, .int .i64 0, .bool false, .string { data := #[] }, .slice none 0 0, .slice none 0 0, .int .i64 0, .slice none 0 0] 41 (0, 0)) := (hk11.block _ (by omega) (by omega)).trans HX10.out

          obtain ⟨W12, hW12⟩ : ∃ W12, w11.setCells w4.heap.size 9 (#[.int .i64 v0, .int .i64 v1, .bool v2, .string v3, .slice v4 v5 v6, .slice v7 v8 v9] : Array Value).toList = W12 := ⟨_, rfl⟩
          have HT12 : Hid (w11.there w4.heap.size 9 (#[.int .i64 v0, .int .i64 v1, .bool v2, .string v3, .slice v4 v5 v6, .slice v7 v8 v9] : Array Value).size) := there_of (n := 17) hX11 rfl 9 6 (by decide)
          have HS12 : Hid ((Tryz.prog.info? 38).map (·.size) = some (#[.int .i64 v0, .int .i64 v1, .bool v2, .string v3, .slice v4 v5 v6, .slice v7 v8 v9] : Array Value).size) := by unfold Hid; kernel_rfl
          have HO12 : Hid (((#[.int .i64 v0, .int .i64 v1, .bool v2, .string v3, .slice v4 v5 v6, .slice v7 v8 v9] : Array Value)).all (·.oneCell') = true) := by unfold Hid; simp [Value.oneCell']
          have HX12 : Hid (W12.heap[w4.heap.size]? = some (.cells #[.int .i64 2, .string nm, .int .i64 (lv : Int), .int .i64 t0, .int .i64 t1, .bool t2, .string t3, .slice t4 t5 t6, .slice t7 t8 t9, .int .i64 v0, .int .i64 v1, .bool v2, .string v3, .slice v4 v5 v6, .slice v7 v8 v9, .int .i64 0, .slice none 0 0] 41 (0, 0))) := by unfold Hid; rw [← hW12]; exact sets_block _ 9 _ _ hX11
          have hw12 := sets_heap w4.heap.size (#[.int .i64 v0, .int .i64 v1, .bool v2, .string v3, .slice v4 v5 v6, .slice v7 v8 v9] : Array Value).toList 9 w11
          rw [hW12] at hw12
          have HWS12 := Hid.mk hw12
          have hsz12 := Nat.le_of_eq hw12.1
          have hsy12 := Nat.le_of_eq hw12.1.symm
          have HW12 := Hid.mk hW12
          clear hw12

          have HRF : Hid (RR W12 W0.heap.size w.heap.size a cap bs r6 b6 q6) := by unfold Hid; rw [← hW12]; exact hR11.sets (by omega) _
          have HKF : Hid (Kept (fun k => k = w.heap.size) WO W12) := by unfold Hid; rw [← hW12]; exact Kept.sets (by omega) _ _ _ ((HK8.out.trans HK10.out).trans hk11)
          have HXF := HX12
          obtain ⟨p12, -, hh12⟩ := HRF.out.2.2.2.2.2.2.2
          clear d0 d1 d2 d3 dl df f0 f1 f2 f3 f4 f5 f6 f7 f8 f9 f10 f11 f12 f13 f14 f15 f16 f17
          obtain ⟨d0, d1, d2, d3, dl, df⟩ := cellsR hh12
          obtain ⟨f0, f1, f2, f3, f4, f5, f6, f7, f8, f9, f10, f11, f12, f13, f14, f15, f16, f17⟩ := cells17 HX12.out
          clear htv hsv hR11 hk11 hq11 HC5 hX11 hW12 hh12 HW10

          obtain ⟨zs, hzs⟩ : ∃ zs : List Value, zs = [.int .i64 2, .string nm, .int .i64 (lv : Int), .int .i64 t0, .int .i64 t1, .bool t2, .string t3, .slice t4 t5 t6, .slice t7 t8 t9, .int .i64 v0, .int .i64 v1, .bool v2, .string v3, .slice v4 v5 v6, .slice v7 v8 v9, .int .i64 0, .slice none 0 0] := ⟨_, rfl⟩
          have hzl : zs.length = 17 := by rw [hzs]; rfl
          have HONZ : Hid (∀ v ∈ zs, v.oneCell' = true) := by unfold Hid; rw [hzs]; simp [Value.oneCell']
          have HRG : Hid (W12.rangeAt w4.heap.size 0 zs) := by unfold Hid; rw [hzs]; exact range_of (pre := []) (post := []) HXF.out (List.append_nil _).symm rfl
          have HSZ : Hid ((Tryz.prog.info? 41).map (·.size) = some zs.length) := by unfold Hid; rw [hzl]; kernel_rfl
          have hED : ED0 W12 (oldB WO) zs ⟨2, nm, (lv : Int), t, tv, 0, []⟩ := ⟨hzl, HONZ.out, ⟨by rw [hzs]; exact ⟨t0, t1, t2, t3, t4, t5, t6, t7, t8, t9, v0, v1, v2, v3, v4, v5, v6, v7, v8, v9, none, 0, rfl, (HTF.out.move (by omega) fun k h1 h2 => ⟨oldB_new (by have := oldB_no h2; omega), (HWS12.out.2 k (by have := oldB_no h2; omega)).trans ((HK11.out.block k (by omega) (by have := oldB_no h2; omega)).trans ((HK10.out.block k (by omega) (by have := oldB_no h2; omega)).trans (HM8.out k (by have := oldB_no h2; omega))))⟩), (HTV.out.move (by omega) fun k h1 h2 => ⟨oldB_new (by have := oldB_no h2; omega), HWS12.out.2 k (by have := oldB_no h2; omega)⟩), Or.inl rfl⟩⟩⟩
          have hsf := HKF.out.size
          have hrw0 : RowX 41 17 ED0 W12 W0.heap.size (oldB W0) la lc ds := HROW.out.move ED0.moves (fun k hk => oldB_new hk) hsf fun k h1 h2 => HKF.out.block k h1 (by have := oldB_no h2; omega)
          obtain ⟨xs9, hown9, hpush9⟩ := hrw0.push ED0.moves (fun k hk => oldB_new hk) hzl hED (fun k h1 h2 => ⟨oldB_new (by have := oldB_no h2; omega), by
            have h3 := oldB_no h2
            cases ho : ownB la k
            · rfl
            · have := (HRB.out k ho).2; omega⟩)
          have HOWN := Hid.mk hown9
          have HPUSH := Hid.mk hpush9
          have HNB : Hid (∀ (j : Nat) (u : Value), zs[j]? = some u → (W12.alloc (.cells zs.toArray 41)).cell? ((⟨W12.heap.size, 0, none⟩ : Addr).add j) = some u) := World.news_of_block (cs := zs.toArray) (t := 41) (fr := (0, 0)) (alloc_new W12 (.cells zs.toArray 41))
          have HFO : Hid (List.foldl (fun (cs : Array Value) (x : Value × Nat) => cs.setIfInBounds x.snd x.fst) #[.int .i64 0, .string { data := #[] }, .int .i64 0, .int .i64 0, .int .i64 0, .bool false, .string { data := #[] }, .slice none 0 0, .slice none 0 0, .int .i64 0, .int .i64 0, .bool false, .string { data := #[] }, .slice none 0 0, .slice none 0 0, .int .i64 0, .slice none 0 0] zs.zipIdx = zs.toArray) := fold_new _ _ (by rw [hzl]; rfl)
          have HZL : Hid (zs.length = 17) := hzl
          have hB9 : W0.heap.size ≤ (W12.alloc (.cells zs.toArray 41)).heap.size := by simp; omega
          have HPDN : Hid (PDs bs r1 (ds ++ [⟨2, nm, (lv : Int), t, tv, 0, []⟩]) r6 b6) := HPD.out.step (fun ys hy => by have := HNY.out ys hy; have := HDK.out; omega) (HHD.out.value hnm HQ11.out HSV.out)
          clear hzs hED hrw0 hown9 hpush9
          go_wp2_with (first | (refine wpList_store_mid rfl 38 _ _ rfl w4.heap.size 9 #[.int .i64 v0, .int .i64 v1, .bool v2, .string v3, .slice v4 v5 v6, .slice v7 v8 v9] rfl rfl HT12.out HS12.out HO12.out ?_; rw [HW12.out]) | rw [HFO.out] | (refine wpList_load_mid rfl 41 _ rfl w4.heap.size 0 rfl zs _ HRG.out Tryz.underlying41 rfl HSZ.out ?_) | (at_builtin; refine wpList_appD rfl _ _ rfl W0.heap.size (.slice la ds.length lc) ds.length xs9 zs W12.heap.size 1 rfl rfl HOWN.out HZL.out HNB.out HONZ.out (by have := HDK.out; omega) hB9 ?_; intro g9 c9 W9 hown9 hgr9 hat9; obtain ⟨hrow9, hk9⟩ := HPUSH.out g9 c9 W9 hown9 hgr9 hat9; have HROW9 := Hid.mk hrow9; have HK9 := Hid.mk hk9; clear hown9 hgr9 hat9 hrow9 hk9))
          have hsf9 := HK9.out.size
          have hob : ∀ j, j < W0.heap.size → ¬ ownB la j = true := fun j hj ho => by have := (HRB.out j ho).1; omega
          refine ⟨⟨k + 1, some ⟨g9, 0, none⟩, c9, ds ++ [⟨2, nm, (lv : Int), t, tv, 0, []⟩], r6, b6, q6, by omega, by go_num, by rw [List.length_append]; rfl, by rw [List.length_append, HDK.out]; rfl, HRF.out.move hsf9 (fun j hj => HK9.out.block j (by omega) (hob j hj)), ⟨HK9.out.os.trans (HKF.out.os.trans HKR.out.os), HK9.out.tape.trans (HKF.out.tape.trans HKR.out.tape), HK9.out.output.trans (HKF.out.output.trans HKR.out.output), by omega, fun j hj hn => (HK9.out.block j (by omega) (hob j hj)).trans ((HKF.out.block j (by omega) hn).trans (HKR.out.block j hj hn))⟩, HROW9.out, HPDN.out, fun h => absurd (h.symm.trans HB1F.out) (by decide)⟩, by simp [intOf]; omega⟩
      by_cases hk3 : K = 3
      · subst hk3
        cases b5 with
        | true =>
          have HXF := HX8
          have HKF := HK8
          have HRF := HR8

          obtain ⟨zs, hzs⟩ : ∃ zs : List Value, zs = [.int .i64 3, .string nm, .int .i64 (lv : Int), .int .i64 t0, .int .i64 t1, .bool t2, .string t3, .slice t4 t5 t6, .slice t7 t8 t9, .int .i64 0, .int .i64 0, .bool false, .string { data := #[] }, .slice none 0 0, .slice none 0 0, .int .i64 0, .slice none 0 0] := ⟨_, rfl⟩
          have hzl : zs.length = 17 := by rw [hzs]; rfl
          have HONZ : Hid (∀ v ∈ zs, v.oneCell' = true) := by unfold Hid; rw [hzs]; simp [Value.oneCell']
          have HRG : Hid (W8.rangeAt w4.heap.size 0 zs) := by unfold Hid; rw [hzs]; exact range_of (pre := []) (post := []) HXF.out (List.append_nil _).symm rfl
          have HSZ : Hid ((Tryz.prog.info? 41).map (·.size) = some zs.length) := by unfold Hid; rw [hzl]; kernel_rfl
          have hED : ED0 W8 (oldB WO) zs ⟨3, nm, (lv : Int), t, .mk 0 0 false { data := #[] } [] [], 0, []⟩ := ⟨hzl, HONZ.out, ⟨by rw [hzs]; exact ⟨t0, t1, t2, t3, t4, t5, t6, t7, t8, t9, 0, 0, false, { data := #[] }, none, 0, 0, none, 0, 0, none, 0, rfl, (HTF.out.move (by omega) fun k h1 h2 => ⟨oldB_new (by have := oldB_no h2; omega), HM8.out k (by have := oldB_no h2; omega)⟩), TF.leaf 0 0 false { data := #[] }, Or.inl rfl⟩⟩⟩
          have hsf := HKF.out.size
          have hrw0 : RowX 41 17 ED0 W8 W0.heap.size (oldB W0) la lc ds := HROW.out.move ED0.moves (fun k hk => oldB_new hk) hsf fun k h1 h2 => HKF.out.block k h1 (by have := oldB_no h2; omega)
          obtain ⟨xs9, hown9, hpush9⟩ := hrw0.push ED0.moves (fun k hk => oldB_new hk) hzl hED (fun k h1 h2 => ⟨oldB_new (by have := oldB_no h2; omega), by
            have h3 := oldB_no h2
            cases ho : ownB la k
            · rfl
            · have := (HRB.out k ho).2; omega⟩)
          have HOWN := Hid.mk hown9
          have HPUSH := Hid.mk hpush9
          have HNB : Hid (∀ (j : Nat) (u : Value), zs[j]? = some u → (W8.alloc (.cells zs.toArray 41)).cell? ((⟨W8.heap.size, 0, none⟩ : Addr).add j) = some u) := World.news_of_block (cs := zs.toArray) (t := 41) (fr := (0, 0)) (alloc_new W8 (.cells zs.toArray 41))
          have HFO : Hid (List.foldl (fun (cs : Array Value) (x : Value × Nat) => cs.setIfInBounds x.snd x.fst) #[.int .i64 0, .string { data := #[] }, .int .i64 0, .int .i64 0, .int .i64 0, .bool false, .string { data := #[] }, .slice none 0 0, .slice none 0 0, .int .i64 0, .int .i64 0, .bool false, .string { data := #[] }, .slice none 0 0, .slice none 0 0, .int .i64 0, .slice none 0 0] zs.zipIdx = zs.toArray) := fold_new _ _ (by rw [hzl]; rfl)
          have HZL : Hid (zs.length = 17) := hzl
          have hB9 : W0.heap.size ≤ (W8.alloc (.cells zs.toArray 41)).heap.size := by simp; omega
          have HPDN : Hid (PDs bs r1 (ds ++ [⟨3, nm, (lv : Int), t, .mk 0 0 false { data := #[] } [] [], 0, []⟩]) r5 true) := HPD.out.step (fun ys hy => by have := HNY.out ys hy; have := HDK.out; omega) (HHD.out.plain hnm (Or.inl rfl))
          clear hzs hED hrw0 hown9 hpush9
          go_wp2_with (first | (refine wpList_store_mid rfl 38 _ _ rfl w4.heap.size 3 #[.int .i64 t0, .int .i64 t1, .bool t2, .string t3, .slice t4 t5 t6, .slice t7 t8 t9] rfl rfl HT8.out HS8.out HO8.out ?_; rw [HW8.out]) | rw [HFO.out] | (refine wpList_load_mid rfl 41 _ rfl w4.heap.size 0 rfl zs _ HRG.out Tryz.underlying41 rfl HSZ.out ?_) | (at_builtin; refine wpList_appD rfl _ _ rfl W0.heap.size (.slice la ds.length lc) ds.length xs9 zs W8.heap.size 1 rfl rfl HOWN.out HZL.out HNB.out HONZ.out (by have := HDK.out; omega) hB9 ?_; intro g9 c9 W9 hown9 hgr9 hat9; obtain ⟨hrow9, hk9⟩ := HPUSH.out g9 c9 W9 hown9 hgr9 hat9; have HROW9 := Hid.mk hrow9; have HK9 := Hid.mk hk9; clear hown9 hgr9 hat9 hrow9 hk9))
          have hsf9 := HK9.out.size
          have hob : ∀ j, j < W0.heap.size → ¬ ownB la j = true := fun j hj ho => by have := (HRB.out j ho).1; omega
          refine ⟨⟨k + 1, some ⟨g9, 0, none⟩, c9, ds ++ [⟨3, nm, (lv : Int), t, .mk 0 0 false { data := #[] } [] [], 0, []⟩], r5, true, q5, by omega, by go_num, by rw [List.length_append]; rfl, by rw [List.length_append, HDK.out]; rfl, HRF.out.move hsf9 (fun j hj => HK9.out.block j (by omega) (hob j hj)), ⟨HK9.out.os.trans (HKF.out.os.trans HKR.out.os), HK9.out.tape.trans (HKF.out.tape.trans HKR.out.tape), HK9.out.output.trans (HKF.out.output.trans HKR.out.output), by omega, fun j hj hn => (HK9.out.block j (by omega) (hob j hj)).trans ((HKF.out.block j (by omega) hn).trans (HKR.out.block j hj hn))⟩, HROW9.out, HPDN.out, fun h => absurd (h.symm.trans HB1F.out) (by decide)⟩, by simp [intOf]; omega⟩
        | false =>
          have HC5 := rrnum_b W0.heap.size w.heap.size a cap bs r5 false q5 W8 HR8.out
          go_wp2_with (first | (refine wpList_store_mid rfl 38 _ _ rfl w4.heap.size 3 #[.int .i64 t0, .int .i64 t1, .bool t2, .string t3, .slice t4 t5 t6, .slice t7 t8 t9] rfl rfl HT8.out HS8.out HO8.out ?_; rw [HW8.out]))
          refine HC5.mono ?_
          rintro e w9 ⟨pr, r6, b6, rfl, hR9, hk9, hq9⟩
          have HQ9 := Hid.mk hq9
          have hs9 := hk9.size
          have hX9 : w9.heap[w4.heap.size]? = some (.cells #[.int .i64 3, .string nm, .int .i64 (lv : Int), .int .i64 t0, .int .i64 t1, .bool t2, .string t3, .slice t4 t5 t6, .slice t7 t8 t9, .int .i64 0, .int .i64 0, .bool false, .string { data := #[] }, .slice none 0 0, .slice none 0 0, .int .i64 0, .slice none 0 0] 41 (0, 0)) := (hk9.block _ (by omega) (by omega)).trans HX8.out
          obtain ⟨W10, hW10⟩ : ∃ W10, w9.setCell ⟨w4.heap.size, 15, none⟩ (.int .i64 (pr : Int)) = W10 := ⟨_, rfl⟩
          have hX10 : (w9.setCells w4.heap.size 15 [.int .i64 (pr : Int)]).heap[w4.heap.size]? = some (.cells #[.int .i64 3, .string nm, .int .i64 (lv : Int), .int .i64 t0, .int .i64 t1, .bool t2, .string t3, .slice t4 t5 t6, .slice t7 t8 t9, .int .i64 0, .int .i64 0, .bool false, .string { data := #[] }, .slice none 0 0, .slice none 0 0, .int .i64 (pr : Int), .slice none 0 0] 41 (0, 0)) := sets_block _ 15 _ _ hX9
          have hR10 : RR (w9.setCells w4.heap.size 15 [.int .i64 (pr : Int)]) W0.heap.size w.heap.size a cap bs r6 b6 q5 := hR9.sets (by omega) _
          have hM10 := sets_heap w4.heap.size [.int .i64 (pr : Int)] 15 w9
          rw [show w9.setCells w4.heap.size 15 [.int .i64 (pr : Int)] = W10 from hW10] at hX10 hR10 hM10
          have hs10 := Nat.le_of_eq hM10.1
          have hsy10 := Nat.le_of_eq hM10.1.symm
          clear d0 d1 d2 d3 dl df f0 f1 f2 f3 f4 f5 f6 f7 f8 f9 f10 f11 f12 f13 f14 f15 f16 f17
          obtain ⟨f0, f1, f2, f3, f4, f5, f6, f7, f8, f9, f10, f11, f12, f13, f14, f15, f16, f17⟩ := cells17 hX9
          have fz9 := frz17 hX9
          have HC6 := rrnum_b W0.heap.size w.heap.size a cap bs r6 b6 q5 W10 hR10
          have HK9 := Hid.mk hk9
          have HM10 := Hid.mk hM10
          have HX10 := Hid.mk hX10
          have HW10 := Hid.mk hW10
          clear hq9 hk9 hR9 HC5 hX10 hR10 hM10 hW10 hX9
          go_wp2_with (rw [HW10.out])
          refine HC6.mono ?_
          rintro e w11 ⟨m, r7, b7, rfl, hR11, hk11, hq11⟩
          have HQ11 := Hid.mk hq11
          have hs11 := hk11.size
          have HR11 := Hid.mk hR11
          have HX11 : Hid (w11.heap[w4.heap.size]? = some (.cells #[.int .i64 3, .string nm, .int .i64 (lv : Int), .int .i64 t0, .int .i64 t1, .bool t2, .string t3, .slice t4 t5 t6, .slice t7 t8 t9, .int .i64 0, .int .i64 0, .bool false, .string { data := #[] }, .slice none 0 0, .slice none 0 0, .int .i64 (pr : Int), .slice none 0 0] 41 (0, 0))) := (hk11.block _ (by omega) (by omega)).trans HX10.out
          have HK11 : Hid (Kept (fun k => k = w.heap.size) WO w11) := by
            have h1 : Kept (fun k => k = w.heap.size) WO W10 := by
              rw [← HW10.out]
              exact (HK8.out.trans HK9.out).setNew (p := ⟨w4.heap.size, 15, none⟩) (by simp only; omega) _
            exact h1.trans hk11
          have HM11 : Hid (∀ k, W6.heap.size ≤ k → k < w7.heap.size → w11.heap[k]? = w7.heap[k]?) := fun k h1 h2 => (hk11.block k (by omega) (by omega)).trans ((HM10.out.2 k (by omega)).trans ((HK9.out.block k (by omega) (by omega)).trans (HM8.out k h1)))
          have hl7 := hR11.len
          clear hR11 hk11 hq11 HC6 f0 f1 f2 f3 f4 f5 f6 f7 f8 f9 f10 f11 f12 f13 f14 f15 f16 f17
          go_wp2
          go_loopw [10] (fun i wr => ∃ (j : Nat) (ca : Option Addr) (cc : Nat) (cs : List (ByteArray × Tm)) (r8 : List UInt8) (b8 : Bool) (q8 : Nat), i = .int .i64 j ∧ cs.length = j ∧ j ≤ m ∧ wr.heap[w4.heap.size]? = some (.cells #[.int .i64 3, .string nm, .int .i64 (lv : Int), .int .i64 t0, .int .i64 t1, .bool t2, .string t3, .slice t4 t5 t6, .slice t7 t8 t9, .int .i64 0, .int .i64 0, .bool false, .string { data := #[] }, .slice none 0 0, .slice none 0 0, .int .i64 (pr : Int), .slice ca cs.length cc] 41 (0, 0)) ∧ RR wr W0.heap.size w.heap.size a cap bs r8 b8 q8 ∧ Kept (fun k => k = w.heap.size ∨ k = w4.heap.size) w11 wr ∧ RowX 57 7 EC0 wr w11.heap.size (oldB w11) ca cc cs ∧ PCs m r7 b7 cs r8 b8) (fun i _ => m - (intOf i).toNat)
          case atStart => exact ⟨0, none, 0, [], r7, b7, q5, rfl, rfl, Nat.zero_le _, HX11.out, HR11.out, Kept.refl _ _, RowX.nil _ _ _ _ _ _, PCs.start m r7 b7⟩
          case round =>
            obtain ⟨j, ca, cc, cs, r8, b8, q8, rfl, hcj, hjm, hXi, hRi, hki, hrowi, hpci⟩ := hrel
            have HCJ := Hid.mk hcj
            have HXI := Hid.mk hXi
            have HRI := Hid.mk hRi
            have HKI := Hid.mk hki
            have HROWI := Hid.mk hrowi
            have HPCI := Hid.mk hpci
            have hsi := hki.size
            have HRBI : Hid (∀ j, ownB ca j = true → w11.heap.size ≤ j ∧ j < wr.heap.size) := fun j hj => by
              obtain ⟨ys, -, -, hown0, -⟩ := hrowi.go
              exact ownsX_lt hown0 hj
            obtain ⟨pi, -, hhi⟩ := hRi.2.2.2.2.2.2.2
            obtain ⟨d0, d1, d2, d3, dl, df⟩ := cellsR hhi
            obtain ⟨f0, f1, f2, f3, f4, f5, f6, f7, f8, f9, f10, f11, f12, f13, f14, f15, f16, f17⟩ := cells17 hXi
            clear hcj hXi hRi hki hrowi hpci hhi
            by_cases hjn : j < m
            rotate_left
            · have zj : ¬ (j : Int) < (m : Int) := by omega
              have HXF := HXI
              have HRF := HRI
              have HKF : Hid (Kept (fun k => k = w.heap.size) WO wr) := ⟨HKI.out.os.trans HK11.out.os, HKI.out.tape.trans HK11.out.tape, HKI.out.output.trans HK11.out.output, by have := HK11.out.size; omega, fun k hk hn => (HKI.out.block k (by have := HK11.out.size; omega) (by intro h; rcases h with h | h; exact hn h; omega)).trans (HK11.out.block k hk hn)⟩
              have HCK : Hid (CK (maskB (oldB WO) wr) ca cs) := (HROWI.out.ck0 (fun k hk => oldB_new hk)).subF (by rw [maskB_size, maskB_size]; exact Nat.le_refl _) (maskB_keeps fun k h1 h2 => ⟨oldB_new (by have := oldB_no h2; omega), rfl⟩)

              obtain ⟨zs, hzs⟩ : ∃ zs : List Value, zs = [.int .i64 3, .string nm, .int .i64 (lv : Int), .int .i64 t0, .int .i64 t1, .bool t2, .string t3, .slice t4 t5 t6, .slice t7 t8 t9, .int .i64 0, .int .i64 0, .bool false, .string { data := #[] }, .slice none 0 0, .slice none 0 0, .int .i64 (pr : Int), .slice ca cs.length cc] := ⟨_, rfl⟩
              have hzl : zs.length = 17 := by rw [hzs]; rfl
              have HONZ : Hid (∀ v ∈ zs, v.oneCell' = true) := by unfold Hid; rw [hzs]; simp [Value.oneCell']
              have HRG : Hid (wr.rangeAt w4.heap.size 0 zs) := by unfold Hid; rw [hzs]; exact range_of (pre := []) (post := []) HXF.out (List.append_nil _).symm rfl
              have HSZ : Hid ((Tryz.prog.info? 41).map (·.size) = some zs.length) := by unfold Hid; rw [hzl]; kernel_rfl
              have hED : ED0 wr (oldB WO) zs ⟨3, nm, (lv : Int), t, .mk 0 0 false { data := #[] } [] [], (pr : Int), cs⟩ := ⟨hzl, HONZ.out, ⟨by rw [hzs]; exact ⟨t0, t1, t2, t3, t4, t5, t6, t7, t8, t9, 0, 0, false, { data := #[] }, none, 0, 0, none, 0, 0, ca, cc, rfl, (HTF.out.move (by omega) fun k h1 h2 => ⟨oldB_new (by have := oldB_no h2; omega), (HKI.out.block k (by omega) (by have := oldB_no h2; omega)).trans (HM11.out k (by have := oldB_no h2; omega) h1)⟩), TF.leaf 0 0 false { data := #[] }, HCK.out⟩⟩⟩
              have hsf := HKF.out.size
              have hrw0 : RowX 41 17 ED0 wr W0.heap.size (oldB W0) la lc ds := HROW.out.move ED0.moves (fun k hk => oldB_new hk) hsf fun k h1 h2 => HKF.out.block k h1 (by have := oldB_no h2; omega)
              obtain ⟨xs9, hown9, hpush9⟩ := hrw0.push ED0.moves (fun k hk => oldB_new hk) hzl hED (fun k h1 h2 => ⟨oldB_new (by have := oldB_no h2; omega), by
                have h3 := oldB_no h2
                cases ho : ownB la k
                · rfl
                · have := (HRB.out k ho).2; omega⟩)
              have HOWN := Hid.mk hown9
              have HPUSH := Hid.mk hpush9
              have HNB : Hid (∀ (j : Nat) (u : Value), zs[j]? = some u → (wr.alloc (.cells zs.toArray 41)).cell? ((⟨wr.heap.size, 0, none⟩ : Addr).add j) = some u) := World.news_of_block (cs := zs.toArray) (t := 41) (fr := (0, 0)) (alloc_new wr (.cells zs.toArray 41))
              have HFO : Hid (List.foldl (fun (cs : Array Value) (x : Value × Nat) => cs.setIfInBounds x.snd x.fst) #[.int .i64 0, .string { data := #[] }, .int .i64 0, .int .i64 0, .int .i64 0, .bool false, .string { data := #[] }, .slice none 0 0, .slice none 0 0, .int .i64 0, .int .i64 0, .bool false, .string { data := #[] }, .slice none 0 0, .slice none 0 0, .int .i64 0, .slice none 0 0] zs.zipIdx = zs.toArray) := fold_new _ _ (by rw [hzl]; rfl)
              have HZL : Hid (zs.length = 17) := hzl
              have hB9 : W0.heap.size ≤ (wr.alloc (.cells zs.toArray 41)).heap.size := by simp; omega
              have HPDN : Hid (PDs bs r1 (ds ++ [⟨3, nm, (lv : Int), t, .mk 0 0 false { data := #[] } [] [], (pr : Int), cs⟩]) r8 b8) := HPD.out.step (fun ys hy => by have := HNY.out ys hy; have := HDK.out; omega) (HHD.out.family hnm hb5r HQ9.out HQ11.out HPCI.out (Or.inr (by have := HCJ.out; omega)))
              clear hzs hED hrw0 hown9 hpush9
              go_wp2_with (first | rw [HFO.out] | (refine wpList_load_mid rfl 41 _ rfl w4.heap.size 0 rfl zs _ HRG.out Tryz.underlying41 rfl HSZ.out ?_) | (at_builtin; refine wpList_appD rfl _ _ rfl W0.heap.size (.slice la ds.length lc) ds.length xs9 zs wr.heap.size 1 rfl rfl HOWN.out HZL.out HNB.out HONZ.out (by have := HDK.out; omega) hB9 ?_; intro g9 c9 W9 hown9 hgr9 hat9; obtain ⟨hrow9, hk9⟩ := HPUSH.out g9 c9 W9 hown9 hgr9 hat9; have HROW9 := Hid.mk hrow9; have HK9 := Hid.mk hk9; clear hown9 hgr9 hat9 hrow9 hk9))
              have hsf9 := HK9.out.size
              have hob : ∀ j, j < W0.heap.size → ¬ ownB la j = true := fun j hj ho => by have := (HRB.out j ho).1; omega
              refine ⟨⟨k + 1, some ⟨g9, 0, none⟩, c9, ds ++ [⟨3, nm, (lv : Int), t, .mk 0 0 false { data := #[] } [] [], (pr : Int), cs⟩], r8, b8, q8, by omega, by go_num, by rw [List.length_append]; rfl, by rw [List.length_append, HDK.out]; rfl, HRF.out.move hsf9 (fun j hj => HK9.out.block j (by omega) (hob j hj)), ⟨HK9.out.os.trans (HKF.out.os.trans HKR.out.os), HK9.out.tape.trans (HKF.out.tape.trans HKR.out.tape), HK9.out.output.trans (HKF.out.output.trans HKR.out.output), by omega, fun j hj hn => (HK9.out.block j (by omega) (hob j hj)).trans ((HKF.out.block j (by omega) hn).trans (HKR.out.block j hj hn))⟩, HROW9.out, HPDN.out, fun h => absurd (h.symm.trans HB1F.out) (by decide)⟩, by simp [intOf]; omega⟩
            have zj : (j : Int) < (m : Int) := by omega
            cases b8 with
            | true =>
              have HXF := HXI
              have HRF := HRI
              have HKF : Hid (Kept (fun k => k = w.heap.size) WO wr) := ⟨HKI.out.os.trans HK11.out.os, HKI.out.tape.trans HK11.out.tape, HKI.out.output.trans HK11.out.output, by have := HK11.out.size; omega, fun k hk hn => (HKI.out.block k (by have := HK11.out.size; omega) (by intro h; rcases h with h | h; exact hn h; omega)).trans (HK11.out.block k hk hn)⟩
              have HCK : Hid (CK (maskB (oldB WO) wr) ca cs) := (HROWI.out.ck0 (fun k hk => oldB_new hk)).subF (by rw [maskB_size, maskB_size]; exact Nat.le_refl _) (maskB_keeps fun k h1 h2 => ⟨oldB_new (by have := oldB_no h2; omega), rfl⟩)

              obtain ⟨zs, hzs⟩ : ∃ zs : List Value, zs = [.int .i64 3, .string nm, .int .i64 (lv : Int), .int .i64 t0, .int .i64 t1, .bool t2, .string t3, .slice t4 t5 t6, .slice t7 t8 t9, .int .i64 0, .int .i64 0, .bool false, .string { data := #[] }, .slice none 0 0, .slice none 0 0, .int .i64 (pr : Int), .slice ca cs.length cc] := ⟨_, rfl⟩
              have hzl : zs.length = 17 := by rw [hzs]; rfl
              have HONZ : Hid (∀ v ∈ zs, v.oneCell' = true) := by unfold Hid; rw [hzs]; simp [Value.oneCell']
              have HRG : Hid (wr.rangeAt w4.heap.size 0 zs) := by unfold Hid; rw [hzs]; exact range_of (pre := []) (post := []) HXF.out (List.append_nil _).symm rfl
              have HSZ : Hid ((Tryz.prog.info? 41).map (·.size) = some zs.length) := by unfold Hid; rw [hzl]; kernel_rfl
              have hED : ED0 wr (oldB WO) zs ⟨3, nm, (lv : Int), t, .mk 0 0 false { data := #[] } [] [], (pr : Int), cs⟩ := ⟨hzl, HONZ.out, ⟨by rw [hzs]; exact ⟨t0, t1, t2, t3, t4, t5, t6, t7, t8, t9, 0, 0, false, { data := #[] }, none, 0, 0, none, 0, 0, ca, cc, rfl, (HTF.out.move (by omega) fun k h1 h2 => ⟨oldB_new (by have := oldB_no h2; omega), (HKI.out.block k (by omega) (by have := oldB_no h2; omega)).trans (HM11.out k (by have := oldB_no h2; omega) h1)⟩), TF.leaf 0 0 false { data := #[] }, HCK.out⟩⟩⟩
              have hsf := HKF.out.size
              have hrw0 : RowX 41 17 ED0 wr W0.heap.size (oldB W0) la lc ds := HROW.out.move ED0.moves (fun k hk => oldB_new hk) hsf fun k h1 h2 => HKF.out.block k h1 (by have := oldB_no h2; omega)
              obtain ⟨xs9, hown9, hpush9⟩ := hrw0.push ED0.moves (fun k hk => oldB_new hk) hzl hED (fun k h1 h2 => ⟨oldB_new (by have := oldB_no h2; omega), by
                have h3 := oldB_no h2
                cases ho : ownB la k
                · rfl
                · have := (HRB.out k ho).2; omega⟩)
              have HOWN := Hid.mk hown9
              have HPUSH := Hid.mk hpush9
              have HNB : Hid (∀ (j : Nat) (u : Value), zs[j]? = some u → (wr.alloc (.cells zs.toArray 41)).cell? ((⟨wr.heap.size, 0, none⟩ : Addr).add j) = some u) := World.news_of_block (cs := zs.toArray) (t := 41) (fr := (0, 0)) (alloc_new wr (.cells zs.toArray 41))
              have HFO : Hid (List.foldl (fun (cs : Array Value) (x : Value × Nat) => cs.setIfInBounds x.snd x.fst) #[.int .i64 0, .string { data := #[] }, .int .i64 0, .int .i64 0, .int .i64 0, .bool false, .string { data := #[] }, .slice none 0 0, .slice none 0 0, .int .i64 0, .int .i64 0, .bool false, .string { data := #[] }, .slice none 0 0, .slice none 0 0, .int .i64 0, .slice none 0 0] zs.zipIdx = zs.toArray) := fold_new _ _ (by rw [hzl]; rfl)
              have HZL : Hid (zs.length = 17) := hzl
              have hB9 : W0.heap.size ≤ (wr.alloc (.cells zs.toArray 41)).heap.size := by simp; omega
              have HPDN : Hid (PDs bs r1 (ds ++ [⟨3, nm, (lv : Int), t, .mk 0 0 false { data := #[] } [] [], (pr : Int), cs⟩]) r8 true) := HPD.out.step (fun ys hy => by have := HNY.out ys hy; have := HDK.out; omega) (HHD.out.family hnm hb5r HQ9.out HQ11.out HPCI.out (Or.inl rfl))
              clear hzs hED hrw0 hown9 hpush9
              go_wp2_with (first | rw [HFO.out] | (refine wpList_load_mid rfl 41 _ rfl w4.heap.size 0 rfl zs _ HRG.out Tryz.underlying41 rfl HSZ.out ?_) | (at_builtin; refine wpList_appD rfl _ _ rfl W0.heap.size (.slice la ds.length lc) ds.length xs9 zs wr.heap.size 1 rfl rfl HOWN.out HZL.out HNB.out HONZ.out (by have := HDK.out; omega) hB9 ?_; intro g9 c9 W9 hown9 hgr9 hat9; obtain ⟨hrow9, hk9⟩ := HPUSH.out g9 c9 W9 hown9 hgr9 hat9; have HROW9 := Hid.mk hrow9; have HK9 := Hid.mk hk9; clear hown9 hgr9 hat9 hrow9 hk9))
              have hsf9 := HK9.out.size
              have hob : ∀ j, j < W0.heap.size → ¬ ownB la j = true := fun j hj ho => by have := (HRB.out j ho).1; omega
              refine ⟨⟨k + 1, some ⟨g9, 0, none⟩, c9, ds ++ [⟨3, nm, (lv : Int), t, .mk 0 0 false { data := #[] } [] [], (pr : Int), cs⟩], r8, true, q8, by omega, by go_num, by rw [List.length_append]; rfl, by rw [List.length_append, HDK.out]; rfl, HRF.out.move hsf9 (fun j hj => HK9.out.block j (by omega) (hob j hj)), ⟨HK9.out.os.trans (HKF.out.os.trans HKR.out.os), HK9.out.tape.trans (HKF.out.tape.trans HKR.out.tape), HK9.out.output.trans (HKF.out.output.trans HKR.out.output), by omega, fun j hj hn => (HK9.out.block j (by omega) (hob j hj)).trans ((HKF.out.block j (by omega) hn).trans (HKR.out.block j hj hn))⟩, HROW9.out, HPDN.out, fun h => absurd (h.symm.trans HB1F.out) (by decide)⟩, by simp [intOf]; omega⟩
            | false =>
              have hj9 : j ≤ 1000000 := by
                have h1 := (HPCI.out.1 rfl).2.2
                have h2 := flatC_len cs
                have h3 := HCJ.out
                omega
              have HC7 := rrtext_b W0.heap.size w.heap.size a cap bs r8 false q8 wr HRI.out
              go_wp2_with fail
              refine HC7.mono ?_
              rintro e w12 ⟨cn, r9, b9, rfl, hcn, hR12, hk12, hq12⟩
              have HQ12 := Hid.mk hq12
              have HK12 := Hid.mk hk12
              have hs12 := hk12.size
              obtain ⟨W13, hW13⟩ : ∃ W13, w12.alloc (.cells #[.string cn, .int .i64 0, .int .i64 0, .bool false, .string { data := #[] }, .slice none 0 0, .slice none 0 0] 57) = W13 := ⟨_, rfl⟩
              have hb13 : RowKit.Below w12.heap.size w12 W13 := by rw [← hW13]; exact (Below.refl _ _).alloc (Nat.le_refl _) _
              have HY13 : Hid (W13.heap[w12.heap.size]? = some (.cells #[.string cn, .int .i64 0, .int .i64 0, .bool false, .string { data := #[] }, .slice none 0 0, .slice none 0 0] 57 (0, 0))) := by unfold Hid; rw [← hW13]; exact alloc_new _ _
              have hR13 := hR12.on hb13
              obtain ⟨hR14, hk14⟩ := hR13.zero
              obtain ⟨p13, -, hh13⟩ := hR13.2.2.2.2.2.2.2
              clear d0 d1 d2 d3 dl df f0 f1 f2 f3 f4 f5 f6 f7 f8 f9 f10 f11 f12 f13 f14 f15 f16 f17
              obtain ⟨d0, d1, d2, d3, dl, df⟩ := cellsR hh13
              obtain ⟨W14, hW14⟩ : ∃ W14, W13.setCell ⟨w.heap.size, 3, none⟩ (.int .i64 0) = W14 := ⟨_, rfl⟩
              rw [hW14] at hR14 hk14
              have hs13 : w12.heap.size < W13.heap.size := heap_lt HY13.out
              have hs14 := hk14.size
              have HK14 : Hid (Kept (fun k => k = w.heap.size) wr W14) := (HK12.out.trans (Kept.of_below hb13)).trans hk14
              have HY14 : Hid (W14.heap[w12.heap.size]? = some (.cells #[.string cn, .int .i64 0, .int .i64 0, .bool false, .string { data := #[] }, .slice none 0 0, .slice none 0 0] 57 (0, 0))) := (hk14.block _ hs13 (by omega)).trans HY13.out
              have HC8 := rrterm_b W0.heap.size w.heap.size a cap bs r9 b9 W14 hR14
              have HW13 := Hid.mk hW13
              have HW14 := Hid.mk hW14
              clear hq12 hk12 hR12 HC7 hb13 hR13 hR14 hk14 hh13 hW13 hW14 HY13
              go_wp2_with (first | rw [HW13.out] | rw [HW14.out])
              refine HC8.mono ?_
              rintro e w15 ⟨vc, tc, r10, b10, q10, rfl, ⟨m0, m1, m2, m3, m4, m5, m6, m7, m8, m9, rfl⟩, htc, hsc, hR15, hk15, hq15⟩
              have hs15 := hk15.size
              have hY15 : w15.heap[w12.heap.size]? = some (.cells #[.string cn, .int .i64 0, .int .i64 0, .bool false, .string { data := #[] }, .slice none 0 0, .slice none 0 0] 57 (0, 0)) := (hk15.block _ (by omega) (by omega)).trans HY14.out
              obtain ⟨W16, hW16⟩ : ∃ W16, w15.setCells w12.heap.size 1 (#[.int .i64 m0, .int .i64 m1, .bool m2, .string m3, .slice m4 m5 m6, .slice m7 m8 m9] : Array Value).toList = W16 := ⟨_, rfl⟩
              have HT16 : Hid (w15.there w12.heap.size 1 (#[.int .i64 m0, .int .i64 m1, .bool m2, .string m3, .slice m4 m5 m6, .slice m7 m8 m9] : Array Value).size) := there_of (n := 7) hY15 rfl 1 6 (by decide)
              have HS16 : Hid ((Tryz.prog.info? 38).map (·.size) = some (#[.int .i64 m0, .int .i64 m1, .bool m2, .string m3, .slice m4 m5 m6, .slice m7 m8 m9] : Array Value).size) := by unfold Hid; kernel_rfl
              have HO16 : Hid (((#[.int .i64 m0, .int .i64 m1, .bool m2, .string m3, .slice m4 m5 m6, .slice m7 m8 m9] : Array Value)).all (·.oneCell') = true) := by unfold Hid; simp [Value.oneCell']
              have hY16 : W16.heap[w12.heap.size]? = some (.cells #[.string cn, .int .i64 m0, .int .i64 m1, .bool m2, .string m3, .slice m4 m5 m6, .slice m7 m8 m9] 57 (0, 0)) := by rw [← hW16]; exact sets_block _ 1 _ _ hY15
              have hw16 := sets_heap w12.heap.size (#[.int .i64 m0, .int .i64 m1, .bool m2, .string m3, .slice m4 m5 m6, .slice m7 m8 m9] : Array Value).toList 1 w15
              rw [hW16] at hw16
              have hsz16 := Nat.le_of_eq hw16.1
              have hsy16 := Nat.le_of_eq hw16.1.symm
              have HWS16 := Hid.mk hw16.2
              have HR16 : Hid (RR W16 W0.heap.size w.heap.size a cap bs r10 b10 q10) := by unfold Hid; rw [← hW16]; exact hR15.sets (by omega) _
              have HK16 : Hid (Kept (fun k => k = w.heap.size) wr W16) := by unfold Hid; rw [← hW16]; exact Kept.sets (by omega) _ _ _ (HK14.out.trans hk15)
              have HX16 : Hid (W16.heap[w4.heap.size]? = some (.cells #[.int .i64 3, .string nm, .int .i64 (lv : Int), .int .i64 t0, .int .i64 t1, .bool t2, .string t3, .slice t4 t5 t6, .slice t7 t8 t9, .int .i64 0, .int .i64 0, .bool false, .string { data := #[] }, .slice none 0 0, .slice none 0 0, .int .i64 (pr : Int), .slice ca cs.length cc] 41 (0, 0))) := (HK16.out.block _ (by omega) (by omega)).trans HXI.out
              obtain ⟨us, hus⟩ : ∃ us : List Value, us = [.string cn, .int .i64 m0, .int .i64 m1, .bool m2, .string m3, .slice m4 m5 m6, .slice m7 m8 m9] := ⟨_, rfl⟩
              have hul : us.length = 7 := by rw [hus]; rfl
              have HONU : Hid (∀ v ∈ us, v.oneCell' = true) := by unfold Hid; rw [hus]; simp [Value.oneCell']
              have HRGU : Hid (W16.rangeAt w12.heap.size 0 us) := by unfold Hid; rw [hus]; exact range_of (pre := []) (post := []) hY16 (List.append_nil _).symm rfl
              have HSZU : Hid ((Tryz.prog.info? 57).map (·.size) = some us.length) := by unfold Hid; rw [hul]; kernel_rfl
              have hEC : EC0 W16 (oldB W14) us (cn, tc) := ⟨m0, m1, m2, m3, m4, m5, m6, m7, m8, m9, hus, htc.move (by omega) fun k h1 h2 => ⟨h2, HWS16.out k (by have := oldB_no h2; omega)⟩⟩
              have hrwi : RowX 57 7 EC0 W16 w11.heap.size (oldB w11) ca cc cs := HROWI.out.move EC0.moves (fun k hk => oldB_new hk) HK16.out.size fun k h1 h2 => HK16.out.block k h1 (by have := oldB_no h2; omega)
              obtain ⟨xs8, hown8, hpush8⟩ := hrwi.push EC0.moves (fun k hk => oldB_new hk) hul hEC (fun k h1 h2 => ⟨oldB_new (by have := oldB_no h2; omega), by
                have h3 := oldB_no h2
                cases ho : ownB ca k
                · rfl
                · have := (HRBI.out k ho).2; omega⟩)
              have HOWNU := Hid.mk hown8
              have HPUSHU := Hid.mk hpush8
              have HNBU : Hid (∀ (j : Nat) (u : Value), us[j]? = some u → (W16.alloc (.cells us.toArray 57)).cell? ((⟨W16.heap.size, 0, none⟩ : Addr).add j) = some u) := World.news_of_block (cs := us.toArray) (t := 57) (fr := (0, 0)) (alloc_new W16 (.cells us.toArray 57))
              have HFOU : Hid (List.foldl (fun (cs : Array Value) (x : Value × Nat) => cs.setIfInBounds x.snd x.fst) #[.string { data := #[] }, .int .i64 0, .int .i64 0, .bool false, .string { data := #[] }, .slice none 0 0, .slice none 0 0] us.zipIdx = us.toArray) := fold_new _ _ (by rw [hul]; rfl)
              have HULL : Hid (us.length = 7) := hul
              have hB8 : w11.heap.size ≤ (W16.alloc (.cells us.toArray 57)).heap.size := by simp; omega
              have HPCN : Hid (PCs m r7 b7 (cs ++ [(cn, tc)]) r10 b10) := HPCI.out.step (by have := HCJ.out; omega) hcn HQ12.out hq15 hsc
              have HW16 := Hid.mk hW16
              clear d0 d1 d2 d3 dl df
              obtain ⟨f0, f1, f2, f3, f4, f5, f6, f7, f8, f9, f10, f11, f12, f13, f14, f15, f16, f17⟩ := cells17 HX16.out
              clear htc hsc hR15 hk15 hq15 HC8 hY15 hY16 hw16 hus hEC hrwi hown8 hpush8 hW16 HW13 HW14
              go_wp2_with (first | (refine wpList_store_mid rfl 38 _ _ rfl w12.heap.size 1 #[.int .i64 m0, .int .i64 m1, .bool m2, .string m3, .slice m4 m5 m6, .slice m7 m8 m9] rfl rfl HT16.out HS16.out HO16.out ?_; rw [HW16.out]) | rw [HFOU.out] | (refine wpList_load_mid rfl 57 _ rfl w12.heap.size 0 rfl us _ HRGU.out Tryz.underlying57 rfl HSZU.out ?_) | (at_builtin; refine wpList_appC rfl _ _ rfl w11.heap.size (.slice ca cs.length cc) cs.length xs8 us W16.heap.size 1 rfl rfl HOWNU.out HULL.out HNBU.out HONU.out (by have := HCJ.out; omega) hB8 ?_; intro g8 c8 W17 hown8 hgr8 hat8; obtain ⟨hrow8, hk8⟩ := HPUSHU.out g8 c8 W17 hown8 hgr8 hat8; have HROW8 := Hid.mk hrow8; have HK8' := Hid.mk hk8; have hX17 := (hk8.block w4.heap.size (by omega) (by intro h; have := (HRBI.out _ h).1; omega)).trans HX16.out; have HX17 := Hid.mk hX17; obtain ⟨-, -, -, -, -, -, -, -, -, -, -, -, -, -, -, -, x16, -⟩ := cells17 hX17; have xz := frz17 hX17; clear hown8 hgr8 hat8 hrow8 hk8 hX17))
              obtain ⟨W18, hW18⟩ : ∃ W18, W17.setCell ⟨w4.heap.size, 16, none⟩ (.slice (some ⟨g8, 0, none⟩) (cs.length + 1) c8) = W18 := ⟨_, rfl⟩
              rw [hW18]
              have hX18 : (W17.setCells w4.heap.size 16 [.slice (some ⟨g8, 0, none⟩) (cs.length + 1) c8]).heap[w4.heap.size]? = some (.cells #[.int .i64 3, .string nm, .int .i64 (lv : Int), .int .i64 t0, .int .i64 t1, .bool t2, .string t3, .slice t4 t5 t6, .slice t7 t8 t9, .int .i64 0, .int .i64 0, .bool false, .string { data := #[] }, .slice none 0 0, .slice none 0 0, .int .i64 (pr : Int), .slice (some ⟨g8, 0, none⟩) (cs.length + 1) c8] 41 (0, 0)) := sets_block _ 16 _ _ HX17.out
              have hw18 := sets_heap w4.heap.size [.slice (some ⟨g8, 0, none⟩) (cs.length + 1) c8] 16 W17
              rw [show W17.setCells w4.heap.size 16 [.slice (some ⟨g8, 0, none⟩) (cs.length + 1) c8] = W18 from hW18] at hX18 hw18
              have hs17 := HK8'.out.size
              have hobi : ∀ j, j < w11.heap.size → ¬ ownB ca j = true := fun j hj ho => by have := (HRBI.out j ho).1; omega
              have hos : W18.os = W17.os ∧ W18.tape = W17.tape ∧ W18.output = W17.output := by rw [← hW18]; exact ⟨rfl, rfl, rfl⟩
              refine ⟨⟨j + 1, some ⟨g8, 0, none⟩, c8, cs ++ [(cn, tc)], r10, b10, q10, by go_num, by rw [List.length_append, HCJ.out]; rfl, hjn, by rw [List.length_append]; exact hX18, HR16.out.move (by omega) (fun j hj => (hw18.2 j (by omega)).trans (HK8'.out.block j (by omega) (hobi j (by omega)))), ⟨hos.1.trans (HK8'.out.os.trans (HK16.out.os.trans HKI.out.os)), hos.2.1.trans (HK8'.out.tape.trans (HK16.out.tape.trans HKI.out.tape)), hos.2.2.trans (HK8'.out.output.trans (HK16.out.output.trans HKI.out.output)), by omega, fun j hj hn => (hw18.2 j (fun h => hn (Or.inr h))).trans ((HK8'.out.block j (by omega) (hobi j hj)).trans ((HK16.out.block j (by omega) (fun h => hn (Or.inl h))).trans (HKI.out.block j hj hn)))⟩, HROW8.out.move EC0.moves (fun k hk => oldB_new hk) (by omega) (fun k h1 h2 => hw18.2 k (by have := oldB_no h2; omega)), HPCN.out⟩, by simp [intOf]; omega⟩

      have g2 : (K == 2) = false := by simpa using hk2
      have g3 : (K == 3) = false := by simpa using hk3

      have HXF := HX8
      have HKF := HK8
      have HRF := HR8

      obtain ⟨zs, hzs⟩ : ∃ zs : List Value, zs = [.int .i64 K, .string nm, .int .i64 (lv : Int), .int .i64 t0, .int .i64 t1, .bool t2, .string t3, .slice t4 t5 t6, .slice t7 t8 t9, .int .i64 0, .int .i64 0, .bool false, .string { data := #[] }, .slice none 0 0, .slice none 0 0, .int .i64 0, .slice none 0 0] := ⟨_, rfl⟩
      have hzl : zs.length = 17 := by rw [hzs]; rfl
      have HONZ : Hid (∀ v ∈ zs, v.oneCell' = true) := by unfold Hid; rw [hzs]; simp [Value.oneCell']
      have HRG : Hid (W8.rangeAt w4.heap.size 0 zs) := by unfold Hid; rw [hzs]; exact range_of (pre := []) (post := []) HXF.out (List.append_nil _).symm rfl
      have HSZ : Hid ((Tryz.prog.info? 41).map (·.size) = some zs.length) := by unfold Hid; rw [hzl]; kernel_rfl
      have hED : ED0 W8 (oldB WO) zs ⟨K, nm, (lv : Int), t, .mk 0 0 false { data := #[] } [] [], 0, []⟩ := ⟨hzl, HONZ.out, ⟨by rw [hzs]; exact ⟨t0, t1, t2, t3, t4, t5, t6, t7, t8, t9, 0, 0, false, { data := #[] }, none, 0, 0, none, 0, 0, none, 0, rfl, (HTF.out.move (by omega) fun k h1 h2 => ⟨oldB_new (by have := oldB_no h2; omega), HM8.out k (by have := oldB_no h2; omega)⟩), TF.leaf 0 0 false { data := #[] }, Or.inl rfl⟩⟩⟩
      have hsf := HKF.out.size
      have hrw0 : RowX 41 17 ED0 W8 W0.heap.size (oldB W0) la lc ds := HROW.out.move ED0.moves (fun k hk => oldB_new hk) hsf fun k h1 h2 => HKF.out.block k h1 (by have := oldB_no h2; omega)
      obtain ⟨xs9, hown9, hpush9⟩ := hrw0.push ED0.moves (fun k hk => oldB_new hk) hzl hED (fun k h1 h2 => ⟨oldB_new (by have := oldB_no h2; omega), by
        have h3 := oldB_no h2
        cases ho : ownB la k
        · rfl
        · have := (HRB.out k ho).2; omega⟩)
      have HOWN := Hid.mk hown9
      have HPUSH := Hid.mk hpush9
      have HNB : Hid (∀ (j : Nat) (u : Value), zs[j]? = some u → (W8.alloc (.cells zs.toArray 41)).cell? ((⟨W8.heap.size, 0, none⟩ : Addr).add j) = some u) := World.news_of_block (cs := zs.toArray) (t := 41) (fr := (0, 0)) (alloc_new W8 (.cells zs.toArray 41))
      have HFO : Hid (List.foldl (fun (cs : Array Value) (x : Value × Nat) => cs.setIfInBounds x.snd x.fst) #[.int .i64 0, .string { data := #[] }, .int .i64 0, .int .i64 0, .int .i64 0, .bool false, .string { data := #[] }, .slice none 0 0, .slice none 0 0, .int .i64 0, .int .i64 0, .bool false, .string { data := #[] }, .slice none 0 0, .slice none 0 0, .int .i64 0, .slice none 0 0] zs.zipIdx = zs.toArray) := fold_new _ _ (by rw [hzl]; rfl)
      have HZL : Hid (zs.length = 17) := hzl
      have hB9 : W0.heap.size ≤ (W8.alloc (.cells zs.toArray 41)).heap.size := by simp; omega
      have HPDN : Hid (PDs bs r1 (ds ++ [⟨K, nm, (lv : Int), t, .mk 0 0 false { data := #[] } [] [], 0, []⟩]) r5 b5) := HPD.out.step (fun ys hy => by have := HNY.out ys hy; have := HDK.out; omega) (HHD.out.plain hnm (Or.inr ⟨hk2, hk3⟩))
      clear hzs hED hrw0 hown9 hpush9
      go_wp2_with (first | (refine wpList_store_mid rfl 38 _ _ rfl w4.heap.size 3 #[.int .i64 t0, .int .i64 t1, .bool t2, .string t3, .slice t4 t5 t6, .slice t7 t8 t9] rfl rfl HT8.out HS8.out HO8.out ?_; rw [HW8.out]) | rw [HFO.out] | (refine wpList_load_mid rfl 41 _ rfl w4.heap.size 0 rfl zs _ HRG.out Tryz.underlying41 rfl HSZ.out ?_) | (at_builtin; refine wpList_appD rfl _ _ rfl W0.heap.size (.slice la ds.length lc) ds.length xs9 zs W8.heap.size 1 rfl rfl HOWN.out HZL.out HNB.out HONZ.out (by have := HDK.out; omega) hB9 ?_; intro g9 c9 W9 hown9 hgr9 hat9; obtain ⟨hrow9, hk9⟩ := HPUSH.out g9 c9 W9 hown9 hgr9 hat9; have HROW9 := Hid.mk hrow9; have HK9 := Hid.mk hk9; clear hown9 hgr9 hat9 hrow9 hk9))
      have hsf9 := HK9.out.size
      have hob : ∀ j, j < W0.heap.size → ¬ ownB la j = true := fun j hj ho => by have := (HRB.out j ho).1; omega
      refine ⟨⟨k + 1, some ⟨g9, 0, none⟩, c9, ds ++ [⟨K, nm, (lv : Int), t, .mk 0 0 false { data := #[] } [] [], 0, []⟩], r5, b5, q5, by omega, by go_num, by rw [List.length_append]; rfl, by rw [List.length_append, HDK.out]; rfl, HRF.out.move hsf9 (fun j hj => HK9.out.block j (by omega) (hob j hj)), ⟨HK9.out.os.trans (HKF.out.os.trans HKR.out.os), HK9.out.tape.trans (HKF.out.tape.trans HKR.out.tape), HK9.out.output.trans (HKF.out.output.trans HKR.out.output), by omega, fun j hj hn => (HK9.out.block j (by omega) (hob j hj)).trans ((HKF.out.block j (by omega) hn).trans (HKR.out.block j hj hn))⟩, HROW9.out, HPDN.out, fun h => absurd (h.symm.trans HB1F.out) (by decide)⟩, by simp [intOf]; omega⟩
end Go.Proofs.YtndjdeiccmhelaaGreat
