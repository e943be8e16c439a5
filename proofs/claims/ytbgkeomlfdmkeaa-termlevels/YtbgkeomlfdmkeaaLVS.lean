/- telamonref1.PutLevels, whole. -/
import Derived.Test.YtbgkeomlfdmkeaaLVR
namespace Go.Proofs.Ytbgkeomlfdmkeaa
open Go.RowKit Go.Sort

set_option maxRecDepth 100000 in
set_option maxHeartbeats 8000000 in
theorem putL2 (args : List LvT) (aa : Option Addr) (acap : Nat) (w0 : World) (hA : LL w0 aa args) (hal : args.length ≤ 1000000) (hax : ∀ l ∈ args, l.2.length ≤ 1000000) (n : Int) (hd : Bool) (nm : ByteArray) (ls : List LvT) (ks : List Tm) : ∀ (P : Nat → Bool) (v : Value) (w : World), smT 1000000 (.mk 2 n hd nm ls ks) → formedB (.mk 2 n hd nm ls ks) = true → TF w P v (.mk 2 n hd nm ls ks) → (∀ k, w.heap.size ≤ k → P k = false) → RowKit.Below w0.heap.size w0 w → Calls Try.prog 56 #[v, .slice aa args.length acap] w fun e w' => PutOut P (rputT args (.mk 2 n hd nm ls ks)) e w' ∧ RowKit.Below w.heap.size w w' := by
  intro P v w hsm hfm hv hP hB0
  obtain ⟨-, s1, s2, s3, s4⟩ := (smT_mk _ _ _ _ _ _ _).1 hsm
  obtain ⟨hkl, hkf⟩ := formed_len hfm
  have hk0 : ks = [] := List.length_eq_zero_iff.1 (by unfold kidsR at hkl; rw [if_pos (by omega)] at hkl; omega)
  subst hk0
  have hv' : TV (maskB P w) v (.mk 2 n hd nm ls []) := hv
  cases hv' with
  | @mk _ _ _ _ _ _ la lc ka kc kb ko hl hln hlc hlm hkn hkc hkm hk kids =>
    have HL := Hid.mk hl
    have HP := Hid.mk hP
    have HB0 := Hid.mk hB0
    have HS2 := Hid.mk s2
    have HA := Hid.mk hA
    have HAX := Hid.mk hax
    have HRN : Hid (levL args ls = none → rputT args (.mk 2 n hd nm ls []) = none) := fun h => by rw [rputT, rputTs, if_pos (by omega), h]
    have HRS : Hid (∀ q, levL args ls = some q → rputT args (.mk 2 n hd nm ls []) = some (.mk 2 n hd nm q [])) := fun q h => by rw [rputT, rputTs, if_pos (by omega), h]
    generalize rputT args (.mk 2 n hd nm ls []) = R at *
    clear hk kids hl hln hkn s2 s4 hsm hkf hP hv hfm hkl hB0 hA hax
    obtain ⟨W0, hW0⟩ : ∃ W0, (w.alloc (.cells #[.int .i64 2, .int .i64 n, .bool hd, .string nm, .slice la ls.length lc, .slice ka 0 kc] 25)).alloc (.cells #[.int .i64 0, .int .i64 0, .bool false, .string { data := #[] }, .slice none 0 0, .slice none 0 0] 25) = W0 := ⟨_, rfl⟩
    have HG0 : Hid (Grew w W0) := by unfold Hid; rw [← hW0]; exact ((Grew.refl w).alloc _).alloc _
    have HX0 : Hid (W0.heap[w.heap.size]? = some (.cells #[.int .i64 2, .int .i64 n, .bool hd, .string nm, .slice la ls.length lc, .slice ka 0 kc] 25 (0, 0))) := by unfold Hid; rw [← hW0]; exact box_at
    have HY0 : Hid (W0.heap[w.heap.size + 1]? = some (.cells #[.int .i64 0, .int .i64 0, .bool false, .string { data := #[] }, .slice none 0 0, .slice none 0 0] 25 (0, 0))) := by unfold Hid; rw [← hW0]; exact box_at1
    have hsz0 : W0.heap.size = w.heap.size + 2 := by rw [← hW0]; simp
    have HNW : Hid (∀ k, w.heap.size + 2 ≤ k → andXY P w.heap.size k = false) := fun k hk => andXY_new HP.out k hk
    have HW0 := Hid.mk hW0
    clear hW0
    go_enter Try.func56, Try.ntmps56
    go_wp2
    rw [HW0.out]
    go_loopw [6, 7] (fun vl i wr => ∃ (j : Nat) (a : Option Addr) (cap : Nat) (d : List LvT), j ≤ ls.length ∧ i = .int .i64 j ∧ vl = .slice a j cap ∧ levL args (ls.take j) = some d ∧ RowL wr (w.heap.size + 2) (andXY P w.heap.size) a cap d ∧ RowKit.Below (w.heap.size + 2) W0 wr) (fun _ i _ => ls.length - (intOf i).toNat)
    case atStart => exact ⟨0, none, 0, [], Nat.zero_le _, rfl, rfl, rfl, RowL.nil W0 _ _, Below.refl _ _⟩
    case round =>
      obtain ⟨j, a, cap, d, hj, rfl, rfl, hd1, hrow, hbr⟩ := hrel
      have hdl := levL_len hd1
      rw [List.length_take, Nat.min_eq_left hj] at hdl
      have HDL := Hid.mk hdl
      have HD1 := Hid.mk hd1
      have HROW := Hid.mk hrow
      have HBR := Hid.mk hbr
      have hszr := hbr.size
      clear hrow hbr hd1 hdl
      have HX1 := Hid.mk ((HBR.out.block w.heap.size (by omega)).trans HX0.out)
      have HY1 := Hid.mk ((HBR.out.block (w.heap.size + 1) (by omega)).trans HY0.out)
      obtain ⟨x0, x1, x2, x3, x4, x5, x6⟩ := cells6 HX1.out
      obtain ⟨y0, y1, y2, y3, y4, y5, y6⟩ := cells6 HY1.out
      have fx := frz HX1.out
      have fy := frz HY1.out
      by_cases hlt : j < ls.length
      · obtain ⟨lb, lo, rfl, hlb, hlv⟩ : ∃ lb lo, la = some ⟨lb, lo, none⟩ ∧ lb < w.heap.size ∧ ∀ i n xs, ls[i]? = some (n, xs) → (maskB P w).cell? ⟨lb, lo + i * 2, none⟩ = some (.int .i64 n) ∧ ∃ a' cap', (maskB P w).cell? ⟨lb, lo + i * 2 + 1, none⟩ = some (.slice a' xs.length cap') ∧ SL (maskB P w) a' xs ∧ (a' = none → cap' = 0) := by
          rcases HL.out with h | ⟨b, off, h1, h2, h3⟩
          · rw [h] at hlt; simp at hlt
          · rw [maskB_size] at h2; exact ⟨b, off, h1, h2, h3⟩
        obtain ⟨ln, lvs, hlj⟩ : ∃ ln lvs, ls[j] = (ln, lvs) := ⟨_, _, rfl⟩
        have hkt : ls[j]? = some (ln, lvs) := by rw [List.getElem?_eq_getElem hlt, hlj]
        obtain ⟨c0, va, vc, c1, hsl, hvn⟩ := hlv j ln lvs hkt
        have hvl := HS2.out (ln, lvs) (List.mem_of_getElem? hkt)
        simp only at hvl
        have hold : RowKit.Below w.heap.size w wr := HG0.out.below.trans (HBR.out.mono (by omega))
        have c0 := (hold.cell (p := ⟨lb, lo + j * 2, none⟩) hlb).trans (maskB_cell c0).2
        have c1 := (hold.cell (p := ⟨lb, lo + j * 2 + 1, none⟩) hlb).trans (maskB_cell c1).2
        have hsl1 : SL w va lvs := hsl.subF (by rw [maskB_size]; exact Nat.le_refl _) (fun _ _ hc => (maskB_cell hc).2)
        have hsl2 : SL wr va lvs := hsl1.below hold
        have hkr : lb < wr.heap.size := by omega
        have hbw : RowKit.Below w0.heap.size w0 wr := HB0.out.trans (hold.mono HB0.out.size)
        have HCALL := rSubst_any ln lvs va vc args aa acap wr hsl2 (by omega) (HA.out.below hbw) (by omega) (fun l hl => by have := HAX.out l hl; omega)
        have HTAKE := Hid.mk (fun (h : (substR ln lvs args).2.2 = 0) => levL_take hkt HD1.out h)
        have HBAD := Hid.mk (fun (h : (substR ln lvs args).2.2 ≠ 0) => levL_bad hkt HD1.out h)
        obtain ⟨xs, hown, hkv⟩ := HROW.out.go
        rw [HDL.out] at hown
        have HRB : Hid (∀ k, ownB a k = true → w.heap.size + 2 ≤ k ∧ k < wr.heap.size) := fun k hk => rowG_block hown hk
        have HOWN := Hid.mk hown
        have HKV := Hid.mk hkv
        have HXL : Hid (xs.length = d.length * 2) := by unfold Hid; rw [HDL.out, hown.1]
        have zj : (j : Int) < (ls.length : Int) := by omega
        clear hkt hown hkv hlv hsl hlj hold hbw hsl1 hsl2 hvn
        generalize substR ln lvs args = C at *
        go_wp2_with fail
        refine HCALL.mono ?_
        rintro e w5 ⟨v5, rfl, hO5, hb5⟩
        obtain ⟨a5, c5, rfl, hS5, hn5⟩ := hO5.slF (P := fun k => decide (k < wr.heap.size)) (fun k hk => by simp; omega)
        have HS5 := Hid.mk hS5
        have HN5 := Hid.mk hn5
        have HB5 := Hid.mk hb5
        have hsz5 := hb5.size
        have HY5 := Hid.mk ((hb5.block (w.heap.size + 1) y6).trans HY1.out)
        clear hb5 hO5 hS5 hn5 HCALL c0 c1 x0 x1 x2 x3 x4 x5 y0 y1 y2 y3 y4 y5 y6 fx fy
        obtain ⟨y0, y1, y2, y3, y4, y5, y6⟩ := cells6 HY5.out
        have fy := frz HY5.out
        by_cases hC : C.2.2 = 0
        · have hCn : (C.2.2 != 0) = false := by simpa using hC
          have HOWN5 := Hid.mk (ownsG_block HOWN.out (fun g hg => HB5.out.block g (by subst hg; exact (World.ownsRow.lt HOWN.out g rfl).2)))
          have HOWN6 := Hid.mk ((HOWN5.out.alloc (.cells #[.int .i64 C.1, .slice a5 C.2.1.length c5] 43)).alloc (.cells #[.int .i64 C.1, .slice a5 C.2.1.length c5] 43))
          have HNEWS := Hid.mk (World.news_of_block (cs := #[.int .i64 C.1, .slice a5 C.2.1.length c5]) (t := 43) (fr := (0, 0)) (box_at1 (w := w5) (o := .cells #[.int .i64 C.1, .slice a5 C.2.1.length c5] 43) (p := .cells #[.int .i64 C.1, .slice a5 C.2.1.length c5] 43)))
          have hbase : w.heap.size + 2 ≤ ((w5.alloc (.cells #[.int .i64 C.1, .slice a5 C.2.1.length c5] 43)).alloc (.cells #[.int .i64 C.1, .slice a5 C.2.1.length c5] 43)).heap.size := by simp; omega
          go_wp2_with (at_builtin; refine wpList_appLv rfl _ _ rfl (w.heap.size + 2) (.slice a j cap) j xs [.int .i64 C.1, .slice a5 C.2.1.length c5] (w5.heap.size + 1) 1 rfl rfl HOWN6.out rfl HNEWS.out (by simp [Value.oneCell']) (by omega) hbase ?_; intro g7 c7 W7 hown7 hgr7 hat7; have HOWN7 := Hid.mk hown7; have HGR7 := Hid.mk hgr7; have HAT7 := Hid.mk hat7; clear hown7 hgr7 hat7)
          have hbb : RowKit.Below w5.heap.size w5 ((w5.alloc (.cells #[.int .i64 C.1, .slice a5 C.2.1.length c5] 43)).alloc (.cells #[.int .i64 C.1, .slice a5 C.2.1.length c5] 43)) := ((Below.refl _ _).alloc (Nat.le_refl _) _).alloc (by simp) _
          refine ⟨⟨j + 1, some ⟨g7, 0, none⟩, c7, d ++ [(C.1, C.2.1)], hlt, by go_num, rfl, HTAKE.out hC, ?_, ?_⟩, by simp [intOf]; omega⟩
          · refine RowL.snoc (w := (w5.alloc (.cells #[.int .i64 C.1, .slice a5 C.2.1.length c5] 43)).alloc (.cells #[.int .i64 C.1, .slice a5 C.2.1.length c5] 43)) (a := a) (cap := cap) (xs := xs) (fun j' n' vs' hj' => ?_) HXL.out (by rw [HDL.out]; exact HOWN7.out) (by rw [HDL.out]; exact HGR7.out) (by rw [HDL.out]; exact HAT7.out) HN5.out ?_
            · obtain ⟨d0, a', cap', d1, hn', hS'⟩ := HKV.out j' n' vs' hj'
              exact ⟨d0, a', cap', d1, hn', hS'.subF (by rw [maskB_size, maskB_size]; simp; omega) (maskB_keeps fun k h1 h2 => ⟨h2, (hbb.block k (by omega)).trans (HB5.out.block k h1)⟩)⟩
            · refine HS5.out.subF (by rw [maskB_size, maskB_size]; simp; omega) (maskB_keeps fun k h1 h2 => ⟨?_, hbb.block k h1⟩)
              have h3 : wr.heap.size ≤ k := by simpa using h2
              rw [HNW.out k (by omega), Bool.false_or]
              cases ho : ownB a k with
              | false => rfl
              | true => exact absurd (HRB.out k ho).2 (by omega)
          · refine HBR.out.trans ((HB5.out.mono (by omega)).trans ((hbb.mono (by omega)).grown HGR7.out (by simp; omega) (fun k e => ?_)))
            exact (World.ownsRow.lt HOWN.out k e).1
        · have hCn : (C.2.2 != 0) = true := by simpa using hC
          have HE : Hid (R = none) := HRN.out (HBAD.out hC)
          go_wp2
          refine bodyPost_ret (v := .tuple #[zeroV, .bool false]) (by simp [results, Try.results56, go_sem, zeroV, y0, y1, y2, y3, y4, y5, y6]) rfl ⟨by rw [HE.out]; rfl, ?_⟩
          have KF := (keep6 (P := fun k => k = w.heap.size + 1) (w := w5) (b := w.heap.size + 1) (a0 := .int .i64 0) (a1 := .int .i64 0) (a2 := .bool false) (a3 := .string { data := #[] }) (a4 := .slice none 0 0) (a5 := .slice none 0 0) rfl).alloc (.cells #[.int .i64 C.1, .slice a5 C.2.1.length c5] 43)
          exact HG0.out.below.trans ((HBR.out.mono (by omega)).trans ((HB5.out.mono (by omega)).trans (KF.below (by omega) (fun k hk => by omega))))
      · obtain rfl : j = ls.length := by omega
        rw [List.take_length] at HD1
        have HE := Hid.mk (HRS.out d HD1.out)
        go_wp2
        refine wp_loop_rounds 1 ?_
        rw [rounds_succ]
        go_wp2
        refine bodyPost_ret (v := .tuple #[.agg #[.int .i64 2, .int .i64 n, .bool hd, .string nm, .slice a ls.length cap, .slice none 0 0], .bool true]) (by simp [results, Try.results56, go_sem, y0, y1, y2, y3, y4, y5]) rfl ⟨?_, ?_⟩
        all_goals have KF := ((((((((Kept.refl (fun k => w.heap.size ≤ k ∧ k < w.heap.size + 2) wr).setCell (p := ⟨w.heap.size, 4, none⟩) (by simp) (.slice a ls.length cap)).setCell (p := ⟨w.heap.size, 5, none⟩) (by simp) (.slice none 0 0)).setCell (p := ⟨w.heap.size + 1, 0, none⟩) (by simp) (.int .i64 2)).setCell (p := ⟨w.heap.size + 1, 1, none⟩) (by simp) (.int .i64 n)).setCell (p := ⟨w.heap.size + 1, 2, none⟩) (by simp) (.bool hd)).setCell (p := ⟨w.heap.size + 1, 3, none⟩) (by simp) (.string nm)).setCell (p := ⟨w.heap.size + 1, 4, none⟩) (by simp) (.slice a ls.length cap)).setCell (p := ⟨w.heap.size + 1, 5, none⟩) (by simp) (.slice none 0 0)
        · rw [HE.out]
          refine ⟨_, rfl, ⟨_, _, _, _, _, _, _, _, _, _, rfl⟩, ?_⟩
          have hrow := HROW.out.move HNW.out KF.size (fun k h1 h2 => KF.block k h1 (fun h => by
            unfold andXY at h2
            simp at h2
            omega))
          obtain ⟨q1, q2, q3, q4⟩ := hrow.ln HNW.out
          have hd2 := (RowF.nil _ (w.heap.size + 2) (andXY P w.heap.size)).done HNW.out (f := 2) (n := n) (hd := hd) (nm := nm) q1 q2 q3 q4
          rw [HDL.out] at hd2
          exact hd2.sub (fun k hk => by unfold andXY at hk; rw [Bool.or_eq_false_iff] at hk; exact hk.1)
        · exact HG0.out.below.trans ((HBR.out.mono (by omega)).trans (KF.below (by omega) (fun k hk => hk.1)))

set_option maxRecDepth 100000 in
set_option maxHeartbeats 8000000 in
theorem putL10 (args : List LvT) (aa : Option Addr) (acap : Nat) (w0 : World) (hA : LL w0 aa args) (hal : args.length ≤ 1000000) (hax : ∀ l ∈ args, l.2.length ≤ 1000000) (n : Int) (hd : Bool) (nm : ByteArray) (ls : List LvT) (ks : List Tm) : ∀ (P : Nat → Bool) (v : Value) (w : World), smT 1000000 (.mk 10 n hd nm ls ks) → formedB (.mk 10 n hd nm ls ks) = true → TF w P v (.mk 10 n hd nm ls ks) → (∀ k, w.heap.size ≤ k → P k = false) → RowKit.Below w0.heap.size w0 w → Calls Try.prog 56 #[v, .slice aa args.length acap] w fun e w' => PutOut P (rputT args (.mk 10 n hd nm ls ks)) e w' ∧ RowKit.Below w.heap.size w w' := by
  intro P v w hsm hfm hv hP hB0
  obtain ⟨-, s1, s2, s3, s4⟩ := (smT_mk _ _ _ _ _ _ _).1 hsm
  obtain ⟨hkl, hkf⟩ := formed_len hfm
  have hk0 : ks = [] := List.length_eq_zero_iff.1 (by unfold kidsR at hkl; rw [if_pos (by omega)] at hkl; omega)
  subst hk0
  have hv' : TV (maskB P w) v (.mk 10 n hd nm ls []) := hv
  cases hv' with
  | @mk _ _ _ _ _ _ la lc ka kc kb ko hl hln hlc hlm hkn hkc hkm hk kids =>
    have HL := Hid.mk hl
    have HP := Hid.mk hP
    have HB0 := Hid.mk hB0
    have HS2 := Hid.mk s2
    have HA := Hid.mk hA
    have HAX := Hid.mk hax
    have HRN : Hid (levL args ls = none → rputT args (.mk 10 n hd nm ls []) = none) := fun h => by rw [rputT, rputTs, if_pos (by omega), h]
    have HRS : Hid (∀ q, levL args ls = some q → rputT args (.mk 10 n hd nm ls []) = some (.mk 10 n hd nm q [])) := fun q h => by rw [rputT, rputTs, if_pos (by omega), h]
    generalize rputT args (.mk 10 n hd nm ls []) = R at *
    clear hk kids hl hln hkn s2 s4 hsm hkf hP hv hfm hkl hB0 hA hax
    obtain ⟨W0, hW0⟩ : ∃ W0, (w.alloc (.cells #[.int .i64 10, .int .i64 n, .bool hd, .string nm, .slice la ls.length lc, .slice ka 0 kc] 25)).alloc (.cells #[.int .i64 0, .int .i64 0, .bool false, .string { data := #[] }, .slice none 0 0, .slice none 0 0] 25) = W0 := ⟨_, rfl⟩
    have HG0 : Hid (Grew w W0) := by unfold Hid; rw [← hW0]; exact ((Grew.refl w).alloc _).alloc _
    have HX0 : Hid (W0.heap[w.heap.size]? = some (.cells #[.int .i64 10, .int .i64 n, .bool hd, .string nm, .slice la ls.length lc, .slice ka 0 kc] 25 (0, 0))) := by unfold Hid; rw [← hW0]; exact box_at
    have HY0 : Hid (W0.heap[w.heap.size + 1]? = some (.cells #[.int .i64 0, .int .i64 0, .bool false, .string { data := #[] }, .slice none 0 0, .slice none 0 0] 25 (0, 0))) := by unfold Hid; rw [← hW0]; exact box_at1
    have hsz0 : W0.heap.size = w.heap.size + 2 := by rw [← hW0]; simp
    have HNW : Hid (∀ k, w.heap.size + 2 ≤ k → andXY P w.heap.size k = false) := fun k hk => andXY_new HP.out k hk
    have HW0 := Hid.mk hW0
    clear hW0
    go_enter Try.func56, Try.ntmps56
    go_wp2
    rw [HW0.out]
    go_loopw [6, 7] (fun vl i wr => ∃ (j : Nat) (a : Option Addr) (cap : Nat) (d : List LvT), j ≤ ls.length ∧ i = .int .i64 j ∧ vl = .slice a j cap ∧ levL args (ls.take j) = some d ∧ RowL wr (w.heap.size + 2) (andXY P w.heap.size) a cap d ∧ RowKit.Below (w.heap.size + 2) W0 wr) (fun _ i _ => ls.length - (intOf i).toNat)
    case atStart => exact ⟨0, none, 0, [], Nat.zero_le _, rfl, rfl, rfl, RowL.nil W0 _ _, Below.refl _ _⟩
    case round =>
      obtain ⟨j, a, cap, d, hj, rfl, rfl, hd1, hrow, hbr⟩ := hrel
      have hdl := levL_len hd1
      rw [List.length_take, Nat.min_eq_left hj] at hdl
      have HDL := Hid.mk hdl
      have HD1 := Hid.mk hd1
      have HROW := Hid.mk hrow
      have HBR := Hid.mk hbr
      have hszr := hbr.size
      clear hrow hbr hd1 hdl
      have HX1 := Hid.mk ((HBR.out.block w.heap.size (by omega)).trans HX0.out)
      have HY1 := Hid.mk ((HBR.out.block (w.heap.size + 1) (by omega)).trans HY0.out)
      obtain ⟨x0, x1, x2, x3, x4, x5, x6⟩ := cells6 HX1.out
      obtain ⟨y0, y1, y2, y3, y4, y5, y6⟩ := cells6 HY1.out
      have fx := frz HX1.out
      have fy := frz HY1.out
      by_cases hlt : j < ls.length
      · obtain ⟨lb, lo, rfl, hlb, hlv⟩ : ∃ lb lo, la = some ⟨lb, lo, none⟩ ∧ lb < w.heap.size ∧ ∀ i n xs, ls[i]? = some (n, xs) → (maskB P w).cell? ⟨lb, lo + i * 2, none⟩ = some (.int .i64 n) ∧ ∃ a' cap', (maskB P w).cell? ⟨lb, lo + i * 2 + 1, none⟩ = some (.slice a' xs.length cap') ∧ SL (maskB P w) a' xs ∧ (a' = none → cap' = 0) := by
          rcases HL.out with h | ⟨b, off, h1, h2, h3⟩
          · rw [h] at hlt; simp at hlt
          · rw [maskB_size] at h2; exact ⟨b, off, h1, h2, h3⟩
        obtain ⟨ln, lvs, hlj⟩ : ∃ ln lvs, ls[j] = (ln, lvs) := ⟨_, _, rfl⟩
        have hkt : ls[j]? = some (ln, lvs) := by rw [List.getElem?_eq_getElem hlt, hlj]
        obtain ⟨c0, va, vc, c1, hsl, hvn⟩ := hlv j ln lvs hkt
        have hvl := HS2.out (ln, lvs) (List.mem_of_getElem? hkt)
        simp only at hvl
        have hold : RowKit.Below w.heap.size w wr := HG0.out.below.trans (HBR.out.mono (by omega))
        have c0 := (hold.cell (p := ⟨lb, lo + j * 2, none⟩) hlb).trans (maskB_cell c0).2
        have c1 := (hold.cell (p := ⟨lb, lo + j * 2 + 1, none⟩) hlb).trans (maskB_cell c1).2
        have hsl1 : SL w va lvs := hsl.subF (by rw [maskB_size]; exact Nat.le_refl _) (fun _ _ hc => (maskB_cell hc).2)
        have hsl2 : SL wr va lvs := hsl1.below hold
        have hkr : lb < wr.heap.size := by omega
        have hbw : RowKit.Below w0.heap.size w0 wr := HB0.out.trans (hold.mono HB0.out.size)
        have HCALL := rSubst_any ln lvs va vc args aa acap wr hsl2 (by omega) (HA.out.below hbw) (by omega) (fun l hl => by have := HAX.out l hl; omega)
        have HTAKE := Hid.mk (fun (h : (substR ln lvs args).2.2 = 0) => levL_take hkt HD1.out h)
        have HBAD := Hid.mk (fun (h : (substR ln lvs args).2.2 ≠ 0) => levL_bad hkt HD1.out h)
        obtain ⟨xs, hown, hkv⟩ := HROW.out.go
        rw [HDL.out] at hown
        have HRB : Hid (∀ k, ownB a k = true → w.heap.size + 2 ≤ k ∧ k < wr.heap.size) := fun k hk => rowG_block hown hk
        have HOWN := Hid.mk hown
        have HKV := Hid.mk hkv
        have HXL : Hid (xs.length = d.length * 2) := by unfold Hid; rw [HDL.out, hown.1]
        have zj : (j : Int) < (ls.length : Int) := by omega
        clear hkt hown hkv hlv hsl hlj hold hbw hsl1 hsl2 hvn
        generalize substR ln lvs args = C at *
        go_wp2_with fail
        refine HCALL.mono ?_
        rintro e w5 ⟨v5, rfl, hO5, hb5⟩
        obtain ⟨a5, c5, rfl, hS5, hn5⟩ := hO5.slF (P := fun k => decide (k < wr.heap.size)) (fun k hk => by simp; omega)
        have HS5 := Hid.mk hS5
        have HN5 := Hid.mk hn5
        have HB5 := Hid.mk hb5
        have hsz5 := hb5.size
        have HY5 := Hid.mk ((hb5.block (w.heap.size + 1) y6).trans HY1.out)
        clear hb5 hO5 hS5 hn5 HCALL c0 c1 x0 x1 x2 x3 x4 x5 y0 y1 y2 y3 y4 y5 y6 fx fy
        obtain ⟨y0, y1, y2, y3, y4, y5, y6⟩ := cells6 HY5.out
        have fy := frz HY5.out
        by_cases hC : C.2.2 = 0
        · have hCn : (C.2.2 != 0) = false := by simpa using hC
          have HOWN5 := Hid.mk (ownsG_block HOWN.out (fun g hg => HB5.out.block g (by subst hg; exact (World.ownsRow.lt HOWN.out g rfl).2)))
          have HOWN6 := Hid.mk ((HOWN5.out.alloc (.cells #[.int .i64 C.1, .slice a5 C.2.1.length c5] 43)).alloc (.cells #[.int .i64 C.1, .slice a5 C.2.1.length c5] 43))
          have HNEWS := Hid.mk (World.news_of_block (cs := #[.int .i64 C.1, .slice a5 C.2.1.length c5]) (t := 43) (fr := (0, 0)) (box_at1 (w := w5) (o := .cells #[.int .i64 C.1, .slice a5 C.2.1.length c5] 43) (p := .cells #[.int .i64 C.1, .slice a5 C.2.1.length c5] 43)))
          have hbase : w.heap.size + 2 ≤ ((w5.alloc (.cells #[.int .i64 C.1, .slice a5 C.2.1.length c5] 43)).alloc (.cells #[.int .i64 C.1, .slice a5 C.2.1.length c5] 43)).heap.size := by simp; omega
          go_wp2_with (at_builtin; refine wpList_appLv rfl _ _ rfl (w.heap.size + 2) (.slice a j cap) j xs [.int .i64 C.1, .slice a5 C.2.1.length c5] (w5.heap.size + 1) 1 rfl rfl HOWN6.out rfl HNEWS.out (by simp [Value.oneCell']) (by omega) hbase ?_; intro g7 c7 W7 hown7 hgr7 hat7; have HOWN7 := Hid.mk hown7; have HGR7 := Hid.mk hgr7; have HAT7 := Hid.mk hat7; clear hown7 hgr7 hat7)
          have hbb : RowKit.Below w5.heap.size w5 ((w5.alloc (.cells #[.int .i64 C.1, .slice a5 C.2.1.length c5] 43)).alloc (.cells #[.int .i64 C.1, .slice a5 C.2.1.length c5] 43)) := ((Below.refl _ _).alloc (Nat.le_refl _) _).alloc (by simp) _
          refine ⟨⟨j + 1, some ⟨g7, 0, none⟩, c7, d ++ [(C.1, C.2.1)], hlt, by go_num, rfl, HTAKE.out hC, ?_, ?_⟩, by simp [intOf]; omega⟩
          · refine RowL.snoc (w := (w5.alloc (.cells #[.int .i64 C.1, .slice a5 C.2.1.length c5] 43)).alloc (.cells #[.int .i64 C.1, .slice a5 C.2.1.length c5] 43)) (a := a) (cap := cap) (xs := xs) (fun j' n' vs' hj' => ?_) HXL.out (by rw [HDL.out]; exact HOWN7.out) (by rw [HDL.out]; exact HGR7.out) (by rw [HDL.out]; exact HAT7.out) HN5.out ?_
            · obtain ⟨d0, a', cap', d1, hn', hS'⟩ := HKV.out j' n' vs' hj'
              exact ⟨d0, a', cap', d1, hn', hS'.subF (by rw [maskB_size, maskB_size]; simp; omega) (maskB_keeps fun k h1 h2 => ⟨h2, (hbb.block k (by omega)).trans (HB5.out.block k h1)⟩)⟩
            · refine HS5.out.subF (by rw [maskB_size, maskB_size]; simp; omega) (maskB_keeps fun k h1 h2 => ⟨?_, hbb.block k h1⟩)
              have h3 : wr.heap.size ≤ k := by simpa using h2
              rw [HNW.out k (by omega), Bool.false_or]
              cases ho : ownB a k with
              | false => rfl
              | true => exact absurd (HRB.out k ho).2 (by omega)
          · refine HBR.out.trans ((HB5.out.mono (by omega)).trans ((hbb.mono (by omega)).grown HGR7.out (by simp; omega) (fun k e => ?_)))
            exact (World.ownsRow.lt HOWN.out k e).1
        · have hCn : (C.2.2 != 0) = true := by simpa using hC
          have HE : Hid (R = none) := HRN.out (HBAD.out hC)
          go_wp2
          refine bodyPost_ret (v := .tuple #[zeroV, .bool false]) (by simp [results, Try.results56, go_sem, zeroV, y0, y1, y2, y3, y4, y5, y6]) rfl ⟨by rw [HE.out]; rfl, ?_⟩
          have KF := (keep6 (P := fun k => k = w.heap.size + 1) (w := w5) (b := w.heap.size + 1) (a0 := .int .i64 0) (a1 := .int .i64 0) (a2 := .bool false) (a3 := .string { data := #[] }) (a4 := .slice none 0 0) (a5 := .slice none 0 0) rfl).alloc (.cells #[.int .i64 C.1, .slice a5 C.2.1.length c5] 43)
          exact HG0.out.below.trans ((HBR.out.mono (by omega)).trans ((HB5.out.mono (by omega)).trans (KF.below (by omega) (fun k hk => by omega))))
      · obtain rfl : j = ls.length := by omega
        rw [List.take_length] at HD1
        have HE := Hid.mk (HRS.out d HD1.out)
        go_wp2
        refine wp_loop_rounds 1 ?_
        rw [rounds_succ]
        go_wp2
        refine bodyPost_ret (v := .tuple #[.agg #[.int .i64 10, .int .i64 n, .bool hd, .string nm, .slice a ls.length cap, .slice none 0 0], .bool true]) (by simp [results, Try.results56, go_sem, y0, y1, y2, y3, y4, y5]) rfl ⟨?_, ?_⟩
        all_goals have KF := ((((((((Kept.refl (fun k => w.heap.size ≤ k ∧ k < w.heap.size + 2) wr).setCell (p := ⟨w.heap.size, 4, none⟩) (by simp) (.slice a ls.length cap)).setCell (p := ⟨w.heap.size, 5, none⟩) (by simp) (.slice none 0 0)).setCell (p := ⟨w.heap.size + 1, 0, none⟩) (by simp) (.int .i64 10)).setCell (p := ⟨w.heap.size + 1, 1, none⟩) (by simp) (.int .i64 n)).setCell (p := ⟨w.heap.size + 1, 2, none⟩) (by simp) (.bool hd)).setCell (p := ⟨w.heap.size + 1, 3, none⟩) (by simp) (.string nm)).setCell (p := ⟨w.heap.size + 1, 4, none⟩) (by simp) (.slice a ls.length cap)).setCell (p := ⟨w.heap.size + 1, 5, none⟩) (by simp) (.slice none 0 0)
        · rw [HE.out]
          refine ⟨_, rfl, ⟨_, _, _, _, _, _, _, _, _, _, rfl⟩, ?_⟩
          have hrow := HROW.out.move HNW.out KF.size (fun k h1 h2 => KF.block k h1 (fun h => by
            unfold andXY at h2
            simp at h2
            omega))
          obtain ⟨q1, q2, q3, q4⟩ := hrow.ln HNW.out
          have hd2 := (RowF.nil _ (w.heap.size + 2) (andXY P w.heap.size)).done HNW.out (f := 10) (n := n) (hd := hd) (nm := nm) q1 q2 q3 q4
          rw [HDL.out] at hd2
          exact hd2.sub (fun k hk => by unfold andXY at hk; rw [Bool.or_eq_false_iff] at hk; exact hk.1)
        · exact HG0.out.below.trans ((HBR.out.mono (by omega)).trans (KF.below (by omega) (fun k hk => hk.1)))

theorem rput_any (args : List LvT) (aa : Option Addr) (acap : Nat) (w0 : World) (hA : LL w0 aa args) (hal : args.length ≤ 1000000) (hax : ∀ l ∈ args, l.2.length ≤ 1000000) (t : Tm) : ∀ (P : Nat → Bool) (v : Value) (w : World), smT 1000000 t → formedB t = true → TF w P v t → (∀ k, w.heap.size ≤ k → P k = false) → RowKit.Below w0.heap.size w0 w → Calls Try.prog 56 #[v, .slice aa args.length acap] w fun e w' => PutOut P (rputT args t) e w' ∧ RowKit.Below w.heap.size w w' := by
  refine Tm.ind (P := fun t => ∀ (P : Nat → Bool) (v : Value) (w : World), smT 1000000 t → formedB t = true → TF w P v t → (∀ k, w.heap.size ≤ k → P k = false) → RowKit.Below w0.heap.size w0 w → Calls Try.prog 56 #[v, .slice aa args.length acap] w fun e w' => PutOut P (rputT args t) e w' ∧ RowKit.Below w.heap.size w w') ?_ t
  intro f n hd nm ls ks ih
  by_cases h2 : f = 2
  · subst h2; exact putL2 args aa acap w0 hA hal hax n hd nm ls ks
  · by_cases h10 : f = 10
    · subst h10; exact putL10 args aa acap w0 hA hal hax n hd nm ls ks
    · exact putN args aa acap w0 f n hd nm ls ks (by omega) ih
end Go.Proofs.Ytbgkeomlfdmkeaa
