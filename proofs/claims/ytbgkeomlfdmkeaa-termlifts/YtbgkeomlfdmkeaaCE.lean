/- The contract of telamonlaw2.Lent: the term that it answers is lent. -/
import Derived.Test.YtbgkeomlfdmkeaaCD
import Derived.Test.YtbgkeomlfdmkeaaOC
namespace Go.Proofs.Ytbgkeomlfdmkeaa
open Go.RowKit Go.Sort

theorem grown_kept {w w' : World} {r : Option Nat} (h : w.grownBy w' r) : Kept (fun k => r = some k) w w' := ⟨h.os, h.tape, h.output, h.size, fun k hk hn => h.block k hk (fun e => hn e.symm)⟩

/-- what the loop of Lent holds: the kids ahead of i are lent, the others are as they came -/
structure Lending (w0 : World) (B M n i : Nat) (a : Option Addr) (cap : Nat) (ks : List Tm) (kv : Nat → Value) (w : World) : Prop where
  go : ∃ (xs : List Value) (kvs : Nat → Value), w.ownsRow B 25 6 (.slice a n cap) n xs ∧ (∀ j, j < n → SixAt xs (j * 6) (kvs j)) ∧ (∀ j, i ≤ j → kvs j = kv j) ∧ ∀ j t, j < i → ks[j]? = some t → LT w0 M w (kvs j) t

theorem Lending.next {w0 w w5 : World} {B M n i g cap : Nat} {ks : List Tm} {kv : Nat → Value} {t : Tm} {v0 v1 : Int} {v2 : Bool} {v3 : ByteArray} {l1 : Option Addr} {l2 l3 : Nat} {k1 : Option Addr} {k2 k3 : Nat} (h : Lending w0 B M n i (some ⟨g, 0, none⟩) cap ks kv w) (hi : i < n) (ht : ks[i]? = some t) (hgM : g < M) (hM : M ≤ w.heap.size) (hb : RowKit.Below w.heap.size w w5) (hl : LT w0 M w5 (.agg #[.int .i64 v0, .int .i64 v1, .bool v2, .string v3, .slice l1 l2 l3, .slice k1 k2 k3]) t) :
    Lending w0 B M n (i + 1) (some ⟨g, 0, none⟩) cap ks kv ((((((w5.setCell ⟨g, i * 6, none⟩ (.int .i64 v0)).setCell ⟨g, i * 6 + 1, none⟩ (.int .i64 v1)).setCell ⟨g, i * 6 + 2, none⟩ (.bool v2)).setCell ⟨g, i * 6 + 3, none⟩ (.string v3)).setCell ⟨g, i * 6 + 4, none⟩ (.slice l1 l2 l3)).setCell ⟨g, i * 6 + 5, none⟩ (.slice k1 k2 k3)) := by
  obtain ⟨xs, kvs, hown, hsix, hrest, hdone⟩ := h.go
  have hK := kept_setx6 (g := g) w5 (i * 6) (.int .i64 v0) (.int .i64 v1) (.bool v2) (.string v3) (.slice l1 l2 l3) (.slice k1 k2 k3)
  have hown5 : w5.ownsRow B 25 6 (.slice (some ⟨g, 0, none⟩) n cap) n xs := owns_block hown (fun g' hg' => by
    simp at hg'
    subst hg'
    exact hb.block _ (Nat.lt_of_lt_of_le hgM hM))
  have hO := owns_setx6 hown5 (i * 6) (.int .i64 v0) (.int .i64 v1) (.bool v2) (.string v3) (.slice l1 l2 l3) (.slice k1 k2 k3)
  refine ⟨_, fun j => if j = i then (.agg #[.int .i64 v0, .int .i64 v1, .bool v2, .string v3, .slice l1 l2 l3, .slice k1 k2 k3]) else kvs j, hO, fun j hj => ?_, fun j hj => ?_, fun j t' hj ht' => ?_⟩
  · by_cases e : j = i
    · subst e
      simp only [if_true]
      exact SixAt.set (by rw [hown.1]; omega) _ _ _ _ _ _ _ _ _ _
    · simp only [e, if_false]
      exact (hsix j hj).other (by omega) _ _ _ _ _ _
  · show (if j = i then _ else kvs j) = kv j
    rw [if_neg (by omega)]; exact hrest j (by omega)
  · have hkeep : ∀ k, M ≤ k → k < w5.heap.size → (((((((w5.setCell ⟨g, i * 6, none⟩ (.int .i64 v0)).setCell ⟨g, i * 6 + 1, none⟩ (.int .i64 v1)).setCell ⟨g, i * 6 + 2, none⟩ (.bool v2)).setCell ⟨g, i * 6 + 3, none⟩ (.string v3)).setCell ⟨g, i * 6 + 4, none⟩ (.slice l1 l2 l3)).setCell ⟨g, i * 6 + 5, none⟩ (.slice k1 k2 k3))).heap[k]? = w5.heap[k]? := fun k h1 h2 => hK.block k h2 (by omega)
    by_cases e : j = i
    · subst e
      rw [ht] at ht'
      obtain rfl : t = t' := by simpa using ht'
      simp only [if_true]
      exact hl.keep hK.size hkeep
    · simp only [e, if_false]
      exact ((hdone j t' (by omega) ht').on hb).keep hK.size hkeep

theorem LT.shapeE {w0 w : World} {B : Nat} {v : Value} {t : Tm} (h : LT w0 B w v t) : ∃ (v0 v1 : Int) (v2 : Bool) (v3 : ByteArray) (l1 : Option Addr) (l2 l3 : Nat) (k1 : Option Addr) (k2 k3 : Nat), v = .agg #[.int .i64 v0, .int .i64 v1, .bool v2, .string v3, .slice l1 l2 l3, .slice k1 k2 k3] := by
  cases h with
  | mk => exact ⟨_, _, _, _, _, _, _, _, _, _, rfl⟩

theorem CellsAt.tv {w : World} {g o : Nat} {v : Value} {t : Tm} (h : CellsAt w g o v) (ht : TC w g o t) : TV w v t := by
  obtain ⟨v0, v1, v2, v3, l1, l2, l3, k1, k2, k3, rfl, c0, c1, c2, c3, c4, c5⟩ := h
  obtain ⟨u0, u1, u2, u3, u4, u5, d0, d1, d2, d3, d4, d5, hv⟩ := ht.val
  rw [c0] at d0
  rw [c1] at d1
  rw [c2] at d2
  rw [c3] at d3
  rw [c4] at d4
  rw [c5] at d5
  simp only [Option.some.injEq] at d0 d1 d2 d3 d4 d5
  rw [d0, d1, d2, d3, d4, d5]; exact hv

set_option maxRecDepth 100000 in
set_option maxHeartbeats 4000000 in
theorem tLent_any (w0 : World) (t : Tm) : ∀ (v : Value) (w : World), smT 1000000 t → TV w0 v t → RowKit.Below w0.heap.size w0 w → Calls Try.prog 11 #[v] w fun e w' => ∃ v', e = .returned v' ∧ LT w0 w.heap.size w' v' t ∧ RowKit.Below w.heap.size w w' := by
  refine Tm.ind (P := fun t => ∀ (v : Value) (w : World), smT 1000000 t → TV w0 v t → RowKit.Below w0.heap.size w0 w → Calls Try.prog 11 #[v] w fun e w' => ∃ v', e = .returned v' ∧ LT w0 w.heap.size w' v' t ∧ RowKit.Below w.heap.size w w') ?_ t
  intro f n hd nm ls ks ih v w hsm hv hb0
  obtain ⟨-, s1, s2, s3, s4⟩ := (smT_mk _ _ _ _ _ _ _).1 hsm
  cases hv with
  | @mk _ _ _ _ _ _ la lc ka kc kb ko hl hln hlc hlm hkn hkc hkm hk kids =>
    obtain ⟨news, hnl, hn1, hnews, kv, hkv⟩ := tc_six (w := w0) (kb := kb) (ko := ko) (n := ks.length) (fun i hi => ⟨ks[i], kids i _ (List.getElem?_eq_getElem hi)⟩)
    have HL := Hid.mk hl
    have HLN := Hid.mk hln
    have HKN := Hid.mk hkn
    have HK := Hid.mk hk
    have HKIDS := Hid.mk kids
    have HIH := Hid.mk ih
    have HS4 := Hid.mk s4
    have HB0 := Hid.mk hb0
    have HNL := Hid.mk hnl
    have HN1 := Hid.mk hn1
    have HNEWS := Hid.mk hnews
    have HKV := Hid.mk hkv
    clear hk kids ih hl hln hkn s2 s4 hsm hb0 hnl hn1 hnews hkv
    obtain ⟨W0, hW0⟩ : ∃ W0, (w.alloc (.cells #[.int .i64 f, .int .i64 n, .bool hd, .string nm, .slice la ls.length lc, .slice ka ks.length kc] 25)).alloc (.cells #[.int .i64 0, .int .i64 0, .bool false, .string { data := #[] }, .slice none 0 0, .slice none 0 0] 25) = W0 := ⟨_, rfl⟩
    have HG0 : Hid (Grew w W0) := by unfold Hid; rw [← hW0]; exact ((Grew.refl w).alloc _).alloc _
    have HX0 : Hid (W0.heap[w.heap.size]? = some (.cells #[.int .i64 f, .int .i64 n, .bool hd, .string nm, .slice la ls.length lc, .slice ka ks.length kc] 25 (0, 0))) := by unfold Hid; rw [← hW0]; exact box_at
    have HY0 : Hid (W0.heap[w.heap.size + 1]? = some (.cells #[.int .i64 0, .int .i64 0, .bool false, .string { data := #[] }, .slice none 0 0, .slice none 0 0] 25 (0, 0))) := by unfold Hid; rw [← hW0]; exact box_at1
    have hsz0 : W0.heap.size = w.heap.size + 2 := by rw [← hW0]; simp
    obtain ⟨x0, x1, x2, x3, x4, x5, x6⟩ := cells6 HX0.out
    have HW0 := Hid.mk hW0
    clear hW0
    have HSZ0 := Hid.mk hsz0
    clear hsz0
    have HWB : Hid (RowKit.Below w0.heap.size w0 W0) := HB0.out.trans (HG0.out.below.mono HB0.out.size)
    have HNW : Hid (∀ ad, ka = some ad → ∀ j u, news[j]? = some u → W0.cell? (ad.add j) = some u) := by
      intro ad had j u hu
      have hne : ks ≠ [] := by
        intro e
        have hl0 := HNL.out
        rw [e] at hl0
        have : news = [] := List.length_eq_zero_iff.1 (by simpa using hl0)
        rw [this] at hu; simp at hu
      obtain ⟨e1, e2⟩ := HK.out hne
      rw [e1] at had
      obtain rfl : (⟨kb, ko, none⟩ : Addr) = ad := by simpa using had
      rw [show (⟨kb, ko, none⟩ : Addr).add j = ⟨kb, ko + j, none⟩ by unfold Addr.add; split <;> simp_all]
      exact (HWB.out.cell (p := ⟨kb, ko + j, none⟩) e2).trans (HNEWS.out j u hu)
    have HNN : Hid (ka = none → ks.length = 0 ∧ kc = 0) := fun e => ⟨by have := HKN.out e; omega, HKN.out e⟩
    have hlen0 : 0 + ks.length ≤ 1500000000000 := by omega
    go_enter Try.func11, Try.ntmps11
    go_wp2_with (at_builtin; rw [HW0.out]; refine wpList_appT rfl _ _ rfl W0.heap.size (.slice none 0 0) 0 ks.length [] news ka kc rfl rfl (World.ownsRow_nil _ _ _ _) HNL.out HNW.out HN1.out HNN.out hlen0 (Nat.le_refl _) ?_; intro v3 W1 hown hgr; have HOWN := Hid.mk hown; have HGR := Hid.mk hgr; obtain ⟨a3, c3, rfl, hc3, hm3, hn3, hg3⟩ := owns_shape hown; have HN3 := Hid.mk hn3; have HG3 := Hid.mk hg3; clear hown hgr hn3 hg3)
    have hsz0 := HSZ0.out
    have HB1 : Hid (RowKit.Below W0.heap.size W0 W1) := (Below.refl _ _).grown HGR.out (Nat.le_refl _) (fun k e => by simp [Value.ownBlock] at e)
    have HLD : Hid (Lending w0 W0.heap.size W1.heap.size ks.length 0 a3 c3 ks kv W1) := by
      have hown := HOWN.out
      rw [Nat.zero_add, List.nil_append] at hown
      exact ⟨news, kv, hown, fun j hj => (HKV.out j _ hj (HKIDS.out j _ (List.getElem?_eq_getElem hj))).1, fun _ _ => rfl, fun j t hj => absurd hj (Nat.not_lt_zero _)⟩
    have hM1 := HB1.out.size
    clear HNW HN1 HNL HNEWS HNN HOWN HGR x0 x1 x2 x3 x4 x5
    go_loopw [4] (fun i wr => ∃ j : Nat, j ≤ ks.length ∧ i = .int .i64 j ∧ RowKit.Below W0.heap.size W1 wr ∧ Lending w0 W0.heap.size W1.heap.size ks.length j a3 c3 ks kv wr) (fun i _ => ks.length - (intOf i).toNat)
    case atStart => exact ⟨0, Nat.zero_le _, rfl, Below.refl _ _, HLD.out⟩
    case round =>
      obtain ⟨j, hj, rfl, hbr, hld⟩ := hrel
      have HBR := Hid.mk hbr
      have HLD2 := Hid.mk hld
      have hMr := hbr.size
      clear hbr hld
      by_cases hlt : j < ks.length
      · obtain ⟨ad, rfl⟩ : ∃ ad, a3 = some ad := by
          cases a3 with
          | none => have := (HN3.out rfl).1; omega
          | some ad => exact ⟨ad, rfl⟩
        obtain ⟨g, rfl, hg1, hg2⟩ := HG3.out ad rfl
        obtain ⟨xs, kvs, hown, hsix, hrest, hdone⟩ := HLD2.out.go
        have hkt : ks[j]? = some ks[j] := List.getElem?_eq_getElem hlt
        have hmem : ks[j] ∈ ks := List.getElem_mem hlt
        have hca := (hsix j hlt).cells hown (by omega)
        rw [hrest j (Nat.le_refl _)] at hca
        have htv := (HKV.out j _ hlt (HKIDS.out j _ hkt)).2.tv (HKIDS.out j _ hkt)
        have HBW : Hid (RowKit.Below w0.heap.size w0 wr) := HWB.out.trans ((HB1.out.trans HBR.out).mono HWB.out.size)
        have HCALL := HIH.out ks[j] hmem (kv j) wr (HS4.out _ hmem) htv HBW.out
        obtain ⟨v0, v1, v2, v3, p1, p2, p3, q1, q2, q3, hkv, c0, c1, c2, c3', c4, c5⟩ := hca
        rw [hkv] at HCALL
        have HKT := Hid.mk hkt
        have HFZ := Hid.mk (fun o => World.ownsRow.frozenAt hown o)
        have zj : (j : Int) < (ks.length : Int) := by omega
        have hgr : g < wr.heap.size := Nat.lt_of_lt_of_le hg2 hMr
        clear hown hsix hrest hdone htv hkv hkt hmem
        generalize ks[j] = tk at *
        go_wp2_with fail
        refine HCALL.mono ?_
        rintro e w5 ⟨v', rfl, hlt5, hb5⟩
        have HLT5 := Hid.mk (hlt5.mono (show W1.heap.size ≤ wr.heap.size from hMr))
        obtain ⟨u0, u1, u2, u3, r1, r2, r3, s1', s2', s3', rfl⟩ := hlt5.shapeE
        have HB5 := Hid.mk hb5
        have hfz : ∀ o, w5.frozen? ⟨g, o, none⟩ = false := fun o => (hb5.frozen (p := ⟨g, o, none⟩) hgr).trans (HFZ.out o)
        have d0 := (hb5.cell (p := ⟨g, j * 6, none⟩) hgr).trans c0
        have d1 := (hb5.cell (p := ⟨g, j * 6 + 1, none⟩) hgr).trans c1
        have d2 := (hb5.cell (p := ⟨g, j * 6 + 2, none⟩) hgr).trans c2
        have d3 := (hb5.cell (p := ⟨g, j * 6 + 3, none⟩) hgr).trans c3'
        have d4 := (hb5.cell (p := ⟨g, j * 6 + 4, none⟩) hgr).trans c4
        have d5 := (hb5.cell (p := ⟨g, j * 6 + 5, none⟩) hgr).trans c5
        clear HCALL hlt5 hb5 c0 c1 c2 c3' c4 c5
        go_wp2
        refine ⟨⟨j + 1, hlt, by go_num, HBR.out.trans ?_, HLD2.out.next hlt HKT.out hg2 hMr HB5.out HLT5.out⟩, by simp [intOf]; omega⟩
        exact (HB5.out.mono (by omega)).trans (Kept.below (kept_setx6 (g := g) w5 (j * 6) _ _ _ _ _ _) (by have := HB5.out.size; omega) (fun k hk => by omega))
      · obtain rfl : j = ks.length := by omega
        obtain ⟨xs, kvs, hown, hsix, -, hdone⟩ := HLD2.out.go
        have HOWN := Hid.mk hown
        have HSIX := Hid.mk hsix
        have HDONE := Hid.mk hdone
        have HNW := Hid.mk (World.news_of_block (cs := #[.int .i64 (-71), .int .i64 0, .bool false, .string { data := #[] }, .slice none 0 0, .slice none 0 0]) (t := 25) (fr := (0, 0)) (alloc_new wr (.cells #[.int .i64 (-71), .int .i64 0, .bool false, .string { data := #[] }, .slice none 0 0, .slice none 0 0] 25)))
        have hbz : RowKit.Below W0.heap.size W0 wr := HB1.out.trans HBR.out
        have HX1 := Hid.mk ((hbz.block w.heap.size (by omega)).trans HX0.out)
        have HY1 := Hid.mk ((hbz.block (w.heap.size + 1) (by omega)).trans HY0.out)
        have HBZ := Hid.mk hbz
        have hlen1 : ks.length + 1 ≤ 1500000000000 := by omega
        have hbase1 : W0.heap.size ≤ (wr.alloc (.cells #[.int .i64 (-71), .int .i64 0, .bool false, .string { data := #[] }, .slice none 0 0, .slice none 0 0] 25)).heap.size := by simp; omega
        have HNX : Hid (∀ k, (Value.slice a3 ks.length c3).ownBlock = some k → W0.heap.size ≤ k) := fun k e => (World.ownsRow.lt hown k e).1
        have hx9 : w.heap.size < wr.heap.size + 1 := by omega
        have hx8 : w.heap.size + 1 < wr.heap.size + 1 := by omega
        clear hown hsix hdone hbz
        go_wp2_with (at_builtin; refine wpList_appT rfl _ _ rfl W0.heap.size (.slice a3 ks.length c3) ks.length 1 xs [.int .i64 (-71), .int .i64 0, .bool false, .string { data := #[] }, .slice none 0 0, .slice none 0 0] (some ⟨wr.heap.size, 0, none⟩) 1 rfl rfl (World.ownsRow.alloc HOWN.out _) rfl (fun ad e => by obtain rfl : (⟨wr.heap.size, 0, none⟩ : Addr) = ad := (by simpa using e); exact HNW.out) (by simp [Value.oneCell']) (fun e => by cases e) hlen1 hbase1 ?_; intro v7 W7 hown hgr; have HOWN7 := Hid.mk hown; have HGR7 := Hid.mk hgr; obtain ⟨a7, c7, rfl, hc7, hm7, hn7, hg7⟩ := owns_shape hown; clear hown hgr; obtain ⟨ad7, rfl⟩ : ∃ ad, a7 = some ad := (by cases a7 with | none => exact absurd (hn7 rfl).1 (by omega) | some ad => exact ⟨ad, rfl⟩); obtain ⟨g7, rfl, hg7a, hg7b⟩ := hg7 ad7 rfl; clear hn7 hg7; have hx := (HGR7.out.block w.heap.size (by simpa using hx9) (fun e => absurd (HNX.out _ e.symm) (by omega))).trans (alloc_old HX1.out _); have hy := (HGR7.out.block (w.heap.size + 1) (by simpa using hx8) (fun e => absurd (HNX.out _ e.symm) (by omega))).trans (alloc_old HY1.out _); have HX7 := Hid.mk hx; have HY7 := Hid.mk hy; obtain ⟨x0, x1, x2, x3, x4, x5, x7⟩ := cells6 hx; obtain ⟨y0, y1, y2, y3, y4, y5, y7⟩ := cells6 hy; have fx := frz hx; have fy := frz hy; clear hx hy)
        refine bodyPost_ret (v := .agg #[.int .i64 f, .int .i64 n, .bool hd, .string nm, .slice la ls.length lc, .slice (some ⟨g7, 0, none⟩) ks.length c7]) (by simp [results, Try.results11, go_sem, y0, y1, y2, y3, y4, y5]) rfl ⟨_, rfl, ?_, ?_⟩
        all_goals have KF := (((((((Kept.refl (fun k => w.heap.size ≤ k ∧ k < W0.heap.size) W7).setCell (p := ⟨w.heap.size, 5, none⟩) (by simp; omega) (.slice (some ⟨g7, 0, none⟩) ks.length c7)).setCell (p := ⟨w.heap.size + 1, 0, none⟩) (by simp; omega) (.int .i64 f)).setCell (p := ⟨w.heap.size + 1, 1, none⟩) (by simp; omega) (.int .i64 n)).setCell (p := ⟨w.heap.size + 1, 2, none⟩) (by simp; omega) (.bool hd)).setCell (p := ⟨w.heap.size + 1, 3, none⟩) (by simp; omega) (.string nm)).setCell (p := ⟨w.heap.size + 1, 4, none⟩) (by simp; omega) (.slice la ls.length lc)).setCell (p := ⟨w.heap.size + 1, 5, none⟩) (by simp; omega) (.slice (some ⟨g7, 0, none⟩) ks.length c7)
        all_goals have KA : Kept (fun k => W0.heap.size ≤ k ∧ k < W1.heap.size) wr W7 := ((Kept.refl _ wr).alloc _).trans ⟨HGR7.out.os, HGR7.out.tape, HGR7.out.output, HGR7.out.size, fun k hk hn => HGR7.out.block k hk (fun e => hn (by
          obtain ⟨g', e1, e2, e3⟩ := HG3.out ⟨k, 0, none⟩ (by
            cases a3 with
            | none => simp [Value.ownBlock] at e
            | some ad =>
              obtain ⟨g', rfl, -, -⟩ := HG3.out ad rfl
              simp [Value.ownBlock] at e
              subst e
              rfl)
          obtain rfl : k = g' := congrArg Addr.block e1
          exact ⟨e2, e3⟩))⟩
        · have hxl := HOWN.out.1
          have hag : Agree W0.heap.size W7.heap.size W7 _ := Agree.of_kept KF (Nat.le_refl _) (fun k h1 _ h3 => by omega)
          refine LT.mk HL.out HLN.out hlc hlm (by omega) (lt_of_agree (hag g7 hg7a hg7b) hg7b) hc7 hm7 (kvs := kvs) (fun i hi => ?_) ?_ (fun i t hi => ?_)
          · exact CellsAt.on (((HSIX.out i hi).left (by rw [hxl]; omega)).cells HOWN7.out (by omega)) hag hg7a hg7b
          · refine (hag.cell (p := ⟨g7, ks.length * 6, none⟩) hg7a hg7b).trans ((World.ownsRow.cellAt HOWN7.out (ks.length * 6) (by omega)).trans ?_)
            rw [List.getElem?_append_right (by omega), hxl, Nat.sub_self]; rfl
          · have hi' : i < ks.length := (List.getElem?_eq_some_iff.1 hi).1
            refine (((HDONE.out i t hi' hi).keep KA.size (fun k h1 h2 => KA.block k h2 (by omega))).keep KF.size (fun k h1 h2 => KF.block k h2 (by omega))).mono (by omega)
        · refine HG0.out.below.trans ((HBZ.out.mono (by omega)).trans (Below.trans (KA.below (by omega) (fun k hk => by omega)) (KF.below (by have := KA.size; omega) (fun k hk => by omega))))
end Go.Proofs.Ytbgkeomlfdmkeaa
