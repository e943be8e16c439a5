/- The contract of term.replaced. -/
import Derived.Test.YtbgkeomlfdmkeaaOJ
import Derived.Deep.AppendLies
namespace Go.Proofs.Ytbgkeomlfdmkeaa
open Go.RowKit Go.Sort

/-- the cells of a list of numbers -/
def flatI (xs : List Int) : List Value := xs.map fun x => .int .i64 x

/-- The slice value v holds the numbers xs, in a block of its own from B on. -/
def OI (B : Nat) (w : World) (v : Value) (xs : List Int) : Prop := w.ownsRow B 3 1 v xs.length (flatI xs)

theorem OI.below {B : Nat} {w w' : World} {v : Value} {xs : List Int} (h : OI B w v xs) (hb : RowKit.Below w.heap.size w w') : OI B w' v xs := by
  obtain ⟨h1, h2⟩ := h
  refine ⟨h1, ?_⟩
  rcases h2 with h2 | ⟨g, cap, cur, hv, hg, hh, r⟩
  · exact Or.inl h2
  · exact Or.inr ⟨g, cap, cur, hv, hg, (hb.block g (Array.getElem?_eq_some_iff.1 hh).1).trans hh, r⟩

theorem OI.on {B : Nat} {w w' : World} {v : Value} {xs : List Int} (h : OI B w v xs) (hag : ∀ k, B ≤ k → w'.heap[k]? = w.heap[k]?) : OI B w' v xs := by
  obtain ⟨h1, h2⟩ := h
  refine ⟨h1, ?_⟩
  rcases h2 with h2 | ⟨g, cap, cur, hv, hg, hh, r⟩
  · exact Or.inl h2
  · exact Or.inr ⟨g, cap, cur, hv, hg, (hag g hg).trans hh, r⟩

theorem OI.shapeG {B D : Nat} {w : World} {v : Value} {xs : List Int} (h : OI B w v xs) (hD : D < w.heap.size) : ∃ sb sa sc, v = .slice sa xs.length sc ∧ (xs ≠ [] → sa = some ⟨sb, 0, none⟩) ∧ (∀ i x, xs[i]? = some x → w.cell? ⟨sb, 0 + i, none⟩ = some (.int .i64 x)) ∧ (sb = D ∨ B ≤ sb) ∧ sb < w.heap.size := by
  rcases h.2 with ⟨hv, hn⟩ | ⟨g, cap, cur, hv, hg, hh, hc, hm, hs, ht⟩
  · have : xs = [] := List.length_eq_zero_iff.1 hn
    subst this
    exact ⟨D, none, 0, hv, fun h => absurd rfl h, fun i x hi => by simp at hi, Or.inl rfl, hD⟩
  · refine ⟨g, _, cap, hv, fun _ => rfl, fun i x hi => ?_, Or.inr hg, (Array.getElem?_eq_some_iff.1 hh).1⟩
    subst hv
    obtain ⟨hil, he⟩ := List.getElem?_eq_some_iff.1 hi
    have := World.ownsRow.cellAt h i (by omega)
    rw [Nat.zero_add, this]
    simp [flatI, hil, he]

theorem OI.sh {B : Nat} {w : World} {v : Value} {xs : List Int} (h : OI B w v xs) : ∃ a cap, v = .slice a xs.length cap := by
  rcases h.2 with ⟨hv, hn⟩ | ⟨g, cap, cur, hv, -⟩
  · exact ⟨none, 0, by rw [hn]; exact hv⟩
  · exact ⟨_, cap, hv⟩

theorem infoInt : (Try.prog.info? 3).map (fun i => (i.zero, i.size, i.bytes)) = some (some (.int .i64 0), 1, 8) := by kernel_rfl

theorem set42 {w : World} {b : Nat} {v0 v1 v2 v3 x : Value} {t : TypeId} (h : w.heap[b]? = some (.cells #[v0, v1, v2, v3] t (0, 0))) : (w.setCell ⟨b, 2, none⟩ x).heap[b]? = some (.cells #[v0, v1, x, v3] t (0, 0)) := by
  rw [setCell_eq]; show (w.heap.modify b _)[b]? = _
  rw [Array.getElem?_modify, if_pos rfl, h]; rfl

/-- the sizes of terms -/
def szs (L : List Tm) : List Int := L.map fun s => (sizeT s : Int)

theorem szs_take {L : List Tm} {j : Nat} {s : Tm} (h : L[j]? = some s) : szs (L.take (j + 1)) = szs (L.take j) ++ [(sizeT s : Int)] := by
  obtain ⟨hj, rfl⟩ := List.getElem?_eq_some_iff.1 h
  unfold szs
  rw [List.take_succ_eq_append_getElem hj, List.map_append]; rfl

set_option maxRecDepth 100000 in
set_option maxHeartbeats 4000000 in
theorem replaced_any (t : Tm) (v : Value) (at_ : Int) (L : List Tm) (ba : Option Addr) (bc yb yo : Nat) (w : World) (hat : 0 ≤ at_) (hat2 : at_ ≤ 9223372036854775807) (hv : TV w v t) (hba : L ≠ [] → ba = some ⟨yb, yo, none⟩) (hL : L.length ≤ 100000) (hS : ∀ i s, L[i]? = some s → TC w yb (yo + i * 6) s) (hGT : GT t) (hG : ∀ s ∈ L, GT s) (hHt : heightT t ≤ 500) (hH : ∀ s ∈ L, heightT s ≤ 500 ∧ sizeT s ≤ 20000) :
    Calls Try.prog 59 #[v, .int .i64 at_, .slice ba L.length bc] w fun e w' => OutT (fun _ _ => True) w.heap.size (walkF (repL at_ L) Tm.add t 20000 0 0) e w' ∧ RowKit.Below w.heap.size w w' := by
  have HV := Hid.mk hv
  have HS := Hid.mk hS
  have HG := Hid.mk hG
  have HH := Hid.mk hH
  have HBA := Hid.mk hba
  obtain ⟨la, lc, ka, kc, rfl⟩ := hv.shape
  clear hv hS hG hH hba
  generalize t.form = f at *
  generalize t.n = n at *
  generalize t.hid = hd at *
  generalize t.name = nm at *
  generalize t.levels.length = l1 at *
  generalize t.kids.length = k1 at *
  go_enter Try.func59, Try.ntmps59
  go_wp2
  obtain ⟨W0, hW0⟩ : ∃ W0, ((w.alloc (.cells #[.int .i64 f, .int .i64 n, .bool hd, .string nm, .slice la l1 lc, .slice ka k1 kc] 25)).alloc (.cells #[.int .i64 0, .int .i64 0, .bool false, .string { data := #[] }, .slice none 0 0, .slice none 0 0] 25)).alloc (.cells #[.int .i64 at_, .slice ba L.length bc, .slice none 0 0, .int .i64 20000] 98) = W0 := ⟨_, rfl⟩
  have HT0 : Hid (W0.heap[w.heap.size]? = some (.cells #[.int .i64 f, .int .i64 n, .bool hd, .string nm, .slice la l1 lc, .slice ka k1 kc] 25 (0, 0))) := by unfold Hid; rw [← hW0]; exact alloc_old box_at _
  have HZ0 : Hid (W0.heap[w.heap.size + 1]? = some (.cells #[.int .i64 0, .int .i64 0, .bool false, .string { data := #[] }, .slice none 0 0, .slice none 0 0] 25 (0, 0))) := by unfold Hid; rw [← hW0]; exact on1
  have HX0 : Hid (W0.heap[w.heap.size + 1 + 1]? = some (.cells #[.int .i64 at_, .slice ba L.length bc, .slice none 0 0, .int .i64 20000] 98 (0, 0))) := by unfold Hid; rw [← hW0]; exact on2
  have HB0 : Hid (RowKit.Below w.heap.size w W0) := by unfold Hid; rw [← hW0]; exact ((((Grew.refl w).alloc _).alloc _).alloc _).below
  have HSZ0 : Hid (W0.heap.size = w.heap.size + 3) := by unfold Hid; rw [← hW0]; simp
  rw [hW0]
  clear hW0
  obtain ⟨i0, hi0, iz0, iz1, iz2⟩ := info_parts infoInt
  go_loopw [18] (fun i wr => ∃ (j : Nat) (sa : Option Addr) (sc : Nat), j ≤ L.length ∧ i = .int .i64 j ∧ wr.heap[w.heap.size]? = some (.cells #[.int .i64 f, .int .i64 n, .bool hd, .string nm, .slice la l1 lc, .slice ka k1 kc] 25 (0, 0)) ∧ wr.heap[w.heap.size + 1]? = some (.cells #[.int .i64 0, .int .i64 0, .bool false, .string { data := #[] }, .slice none 0 0, .slice none 0 0] 25 (0, 0)) ∧ wr.heap[w.heap.size + 1 + 1]? = some (.cells #[.int .i64 at_, .slice ba L.length bc, .slice sa j sc, .int .i64 20000] 98 (0, 0)) ∧ OI (w.heap.size + 3) wr (.slice sa j sc) (szs (L.take j)) ∧ RowKit.Below w.heap.size w wr ∧ w.heap.size + 3 ≤ wr.heap.size) (fun i _ => L.length - (intOf i).toNat)
  case atStart => exact ⟨0, none, 0, Nat.zero_le _, rfl, HT0.out, HZ0.out, HX0.out, World.ownsRow_nil _ _ _ _, HB0.out, by rw [HSZ0.out]; exact Nat.le_refl _⟩
  case round =>
    obtain ⟨j, sa, sc, hj, rfl, ht, hz, hx, ho, hb, hsz⟩ := hrel
    have HT := Hid.mk ht
    have HZ := Hid.mk hz
    have HX := Hid.mk hx
    have HO := Hid.mk ho
    have HB := Hid.mk hb
    clear ht hz hx ho hb
    by_cases hlt : j < L.length
    · have hkt : L[j]? = some L[j] := List.getElem?_eq_getElem hlt
      obtain rfl := HBA.out (by intro e; rw [e] at hlt; simp at hlt)
      have htc := (HS.out j _ hkt).on HB.out
      obtain ⟨v0, v1, v2, v3, g1, g2, g3, h1, h2, h3, c0, c1, c2, c3, c4, c5, hvk⟩ := htc.valE
      have HCN := fun (W : World) (h : RowKit.Below wr.heap.size wr W) => count_any 20000 500 (by omega) (by omega) (by omega) L[j] _ W (hvk.on h)
      obtain ⟨hh1, hh2⟩ := HH.out L[j] (List.getElem_mem hlt)
      have HTK := Hid.mk (szs_take hkt)
      have zj : (j : Int) < (L.length : Int) := by omega
      clear htc hvk hkt
      generalize L[j] = k at *
      obtain ⟨z, hz⟩ : ∃ z, (sizeT k : Int) = z := ⟨_, rfl⟩
      rw [hz] at HTK
      go_wp2_with fail
      refine (HCN _ ((Below.refl _ _).alloc (Nat.le_refl _) _)).mono ?_
      rintro e w2 ⟨⟨r1, e1, rfl, hq, -⟩, hb2⟩
      obtain ⟨hr1, rfl⟩ := hq ⟨by omega, by omega⟩
      have hrz : r1 = z := by rw [hr1]; exact hz
      subst hrz
      have HB2 : Hid (RowKit.Below wr.heap.size wr w2) := ((Below.refl _ _).alloc (Nat.le_refl _) _).trans (hb2.mono (by simp))
      have HO2 : Hid (OI (w.heap.size + 3) w2 (.slice sa j sc) (szs (L.take j))) := HO.out.below HB2.out
      have HX2 := Hid.mk ((HB2.out.block (w.heap.size + 1 + 1) (heap_lt HX.out)).trans HX.out)
      obtain ⟨q0, q1, q2, q3, q4⟩ := cells4 HX2.out
      have fq := frz HX2.out
      have hz2 := HB2.out.size
      have HLN : Hid ((szs (L.take j)).length = j) := by unfold Hid szs; simp; omega
      clear hq hr1 hz hb2 HCN c0 c1 c2 c3 c4 c5 hh1 hh2
      go_wp2_with (first | (at_builtin; refine wpList_append_own _ rfl _ _ 96 rfl (w.heap.size + 3) 3 i0 _ 1 8 Try.underlying96 hi0 iz0 iz1 iz2 rfl (by decide) _ (szs (L.take j)).length (flatI (szs (L.take j))) rfl (World.ownsRow.alloc HO2.out _) ⟨w2.heap.size, 0, none⟩ 1 1 [.int .i64 r1] rfl rfl (World.news_of_block (cs := #[.int .i64 r1]) (t := 3) (fr := (0, 0)) (alloc_new _ _)) (by simp [Value.oneCell']) (by rw [HLN.out]; simp [maxLen]; omega) (by rw [HLN.out]; omega) (by simp; omega) ?_; intro v' w6 hown' hgrow _; have HO6 : Hid (OI (w.heap.size + 3) w6 v' (szs (L.take j) ++ [r1])) := (by unfold Hid OI; rw [List.length_append]; simpa [flatI] using hown'); have HB6 : Hid (RowKit.Below (w.heap.size + 3) w2 w6) := ((Below.refl (w.heap.size + 3) w2).alloc (by omega) _).grown hgrow (by simp; omega) (fun k e => (World.ownsRow.lt HO2.out k e).1); obtain ⟨a6, cap6, hv6⟩ := HO6.out.sh; rw [List.length_append, HLN.out] at hv6; subst hv6; have HX6 := Hid.mk ((HB6.out.block (w.heap.size + 1 + 1) (by omega)).trans HX2.out); clear q0 q1 q2 q3 q4 fq; obtain ⟨q0, q1, q2, q3, q4⟩ := cells4 HX6.out; have fq := frz HX6.out; clear hown' hgrow))
      have hz6 := HB6.out.size
      have hag : ∀ k, k ≠ w.heap.size + 1 + 1 → (w6.setCell ⟨w.heap.size + 1 + 1, 2, none⟩ (.slice a6 (j + 1) cap6)).heap[k]? = w6.heap[k]? := fun k hk => Below.heap_setCell w6 ⟨w.heap.size + 1 + 1, 2, none⟩ _ _ hk
      refine ⟨⟨j + 1, a6, cap6, hlt, by go_num, ?_, ?_, set42 HX6.out, ?_, ?_, ?_⟩, by simp [intOf]; omega⟩
      · exact (hag _ (by omega)).trans ((HB6.out.block _ (by omega)).trans ((HB2.out.block _ (heap_lt HT.out)).trans HT.out))
      · exact (hag _ (by omega)).trans ((HB6.out.block _ (by omega)).trans ((HB2.out.block _ (heap_lt HZ.out)).trans HZ.out))
      · rw [HTK.out]; exact HO6.out.on (fun k hk => hag k (by omega))
      · exact (HB.out.trans (HB2.out.mono HB.out.size)).trans ((HB6.out.mono (by omega)).trans ⟨rfl, rfl, rfl, by simp [World.setCell], fun k hk => hag k (by have := hk; omega)⟩)
      · have : (w6.setCell ⟨w.heap.size + 1 + 1, 2, none⟩ (.slice a6 (j + 1) cap6)).heap.size = w6.heap.size := by simp [World.setCell]
        omega
    · have hj' : j = L.length := by omega
      subst hj'
      rw [List.take_length] at HO
      obtain ⟨sb, sa', sc', hv', h1, h2, h3, h4⟩ := HO.out.shapeG (D := w.heap.size) (by omega)
      injection hv' with e1 e2 e3
      subst e1 e3
      have hne : L ≠ [] → szs L ≠ [] := fun h h' => h (by simpa [szs] using h')
      have hIW : repI (w.heap.size + 1 + 1) sb 0 at_ L ba sa bc sc 20000 wr := ⟨HX.out, fun i s hi => h2 i _ (by simp [szs, hi]), h4, by omega, by omega, by omega⟩
      have HW := walkT_any (w0 := w) (P := fun k => k = w.heap.size + 1 + 1 ∨ k = sb) (I := repI (w.heap.size + 1 + 1) sb 0 at_ L ba sa bc sc) (bs := #[.pointer (some ⟨w.heap.size + 1 + 1, 0, none⟩)]) GT_kid (fun k hk => by omega) (fun s w' k hI hk => by rcases hk with rfl | rfl; exact heap_lt hI.1; exact hI.2.2.1) (fun s a b M h1 h2 h3 h4 => repI_grow (w0 := w) s a b M h1 h2 h3 h4) cf_replacing (replacing_visits (w.heap.size + 1 + 1) sb 0 yb yo at_ L ba sa bc sc w hat hat2 (by omega) (by omega) HBA.out (fun h => h1 (hne h)) (by omega) HS.out HG.out HH.out) t 20000 _ 0 0 wr hGT hIW HV.out HB.out (by omega) (by omega) (by omega) (Or.inr (by omega))
      have HSB : Hid (sb = w.heap.size ∨ w.heap.size + 3 ≤ sb) := h3
      clear hIW h1 h2 h3 h4 hne HG HH
      obtain ⟨x0, x1, x2, x3, x4, x5, x6⟩ := cells6 HT.out
      rcases (show (∃ c, walkF (repL at_ L) Tm.add t 20000 0 0 = .error c) ∨ (∃ room r, walkF (repL at_ L) Tm.add t 20000 0 0 = .ok (room, r)) from by
        generalize walkF (repL at_ L) Tm.add t 20000 0 0 = R
        cases R with
        | error c => exact Or.inl ⟨c, rfl⟩
        | ok q => exact Or.inr ⟨q.1, q.2, rfl⟩) with ⟨c, hcR⟩ | ⟨room, r, hcR⟩
      · have HCR := Hid.mk hcR
        rw [hcR] at HW
        clear hcR
        go_wp2_with fail
        refine HW.mono ?_
        rintro e w5 ⟨hk5, hc5, v5, ⟨a0, a1, a2, a3, b1, b2, b3, d1, d2, d3, rfl⟩, rfl⟩
        have HB5 : Hid (RowKit.Below w.heap.size w w5) := HB.out.trans (hk5.below HB.out.size (fun k hk => by have := HSB.out; omega))
        have hr5 := (hk5.block (w.heap.size + 1) (heap_lt HZ.out) (by have := HSB.out; omega)).trans HZ.out
        obtain ⟨y0, y1, y2, y3, y4, y5, y6⟩ := cells6 hr5
        have fr := frz hr5
        clear hr5 hk5 HW
        go_wp2
        refine bodyPost_ret (v := .tuple #[.agg #[.int .i64 a0, .int .i64 a1, .bool a2, .string a3, .slice b1 b2 b3, .slice d1 d2 d3], .int .i64 c]) (by simp [results, Try.results59, go_sem, y0, y1, y2, y3, y4, y5]) rfl ⟨?_, ?_⟩
        · rw [HCR.out]
          exact ⟨hc5, _, ⟨_, _, _, _, _, _, _, _, _, _, rfl⟩, rfl⟩
        · exact HB5.out.trans ((keep6 (P := fun k => k = w.heap.size + 1) rfl).below HB5.out.size (fun k hk => by omega))
      · have HCR := Hid.mk hcR
        rw [hcR] at HW
        clear hcR
        go_wp2_with fail
        refine HW.mono ?_
        rintro e w5 ⟨hk5, ⟨v5, rfl, hto⟩, -⟩
        have HB5 : Hid (RowKit.Below w.heap.size w w5) := HB.out.trans (hk5.below HB.out.size (fun k hk => by have := HSB.out; omega))
        have hr5 := (hk5.block (w.heap.size + 1) (heap_lt HZ.out) (by have := HSB.out; omega)).trans HZ.out
        obtain ⟨y0, y1, y2, y3, y4, y5, y6⟩ := cells6 hr5
        have fr := frz hr5
        have HTO := Hid.mk hto
        obtain ⟨a0, a1, a2, a3, b1, b2, b3, d1, d2, d3, rfl⟩ := hto.shapeE
        clear hr5 hk5 HW hto
        go_wp2
        refine bodyPost_ret (v := .tuple #[.agg #[.int .i64 a0, .int .i64 a1, .bool a2, .string a3, .slice b1 b2 b3, .slice d1 d2 d3], .int .i64 0]) (by simp [results, Try.results59, go_sem, y0, y1, y2, y3, y4, y5]) rfl ⟨?_, ?_⟩
        · rw [HCR.out]
          refine ⟨⟨_, rfl, ?_⟩, trivial⟩
          rw [size6]
          exact (HTO.out.on (fun k h1 h2 => (keep6 (P := fun k => k = w.heap.size + 1) rfl).block k h2 (by omega))).mono (by omega) (Nat.le_refl _)
        · exact HB5.out.trans ((keep6 (P := fun k => k = w.heap.size + 1) rfl).below HB5.out.size (fun k hk => by omega))
end Go.Proofs.Ytbgkeomlfdmkeaa
