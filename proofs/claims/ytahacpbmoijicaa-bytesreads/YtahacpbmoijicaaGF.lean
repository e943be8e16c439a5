/- The reference's ReadTerm. -/
import Derived.Test.YtahacpbmoijicaaGA
import Derived.Test.YtahacpbmoijicaaGB
import Derived.Test.YtahacpbmoijicaaTB
import Derived.ChangeSlices
import Derived.Laws.AppendOwnNone
namespace Go.Proofs.Ytahacpbmoijicaa
open Go.RowKit Go.Sort Go.Lib

/-- the term that has these bytes, if there is one -/
def HasB (bs : List UInt8) (t : Tm) : Prop := smT 1000000 t ∧ checkT t = 0 ∧ encT t = bs

/-- what ReadTerm answers: the term that has these bytes, or ErrByte -/
def RdAns (w : World) (bs : List UInt8) (e : Ending) (w' : World) : Prop := (∃ t v, HasB bs t ∧ e = .returned (.tuple #[v, .int .i64 0]) ∧ ShapeT v ∧ TF w' (oldB w) v (cleanT t)) ∨ ((∀ t, ¬ HasB bs t) ∧ e = .returned (.tuple #[zeroT, .int .i64 30]))

theorem toList_loop (b : ByteArray) : ∀ (k i : Nat) (r : List UInt8), b.size - i = k → ByteArray.toList.loop b i r = r.reverse ++ b.data.toList.drop i
  | 0, i, r, h => by
    rw [ByteArray.toList.loop, if_neg (by omega), List.drop_eq_nil_of_le (by rw [Array.length_toList]; show b.size ≤ i; omega), List.append_nil]
  | k + 1, i, r, h => by
    have hi : i < b.size := by omega
    have hi' : i < b.data.toList.length := by rw [Array.length_toList]; exact hi
    rw [ByteArray.toList.loop, if_pos hi, toList_loop b k (i + 1) _ (by omega), List.reverse_cons, List.append_assoc, List.drop_eq_getElem_cons hi']
    have e : b.get! i = b.data.toList[i] := by
      cases b with
      | mk d => simp only [ByteArray.get!]; rw [Array.getElem_toList]; exact getElem!_pos d i hi
    rw [e]
    rfl

theorem toList_data (b : ByteArray) : b.toList = b.data.toList := by
  rw [ByteArray.toList, toList_loop b _ 0 [] rfl]
  rfl
theorem bytes_ne {xs ys : List UInt8} (h : xs ≠ ys) : ((⟨xs.toArray⟩ : ByteArray).toList == (⟨ys.toArray⟩ : ByteArray).toList) = false := by
  rw [toList_data, toList_data]
  simpa using h

set_option maxRecDepth 100000 in
set_option maxHeartbeats 8000000 in
theorem rReadTerm_any (bs : List UInt8) (a : Option Addr) (cap : Nat) (w : World) (hB : BL w a bs) (hlt : ∀ ad, a = some ad → ad.block < w.heap.size) (hnn : a = none → cap = 0) (hcap : bs.length ≤ cap) (hcm : cap ≤ 9223372036854775807) (hl : bs.length ≤ 1000000) : Calls Try.prog 16 #[.slice a bs.length cap] w fun e w' => RdAns w bs e w' ∧ RowKit.Below w.heap.size w w' := by
  obtain ⟨W0, hW0⟩ : ∃ W0, (w.alloc (.cells #[.int .i64 0, .int .i64 0, .bool false, .string { data := #[] }, .slice none 0 0, .slice none 0 0] 25)).alloc (.cells #[.slice a bs.length cap, .int .i64 0, .bool false, .int .i64 0] 69) = W0 := ⟨_, rfl⟩
  have hb : RowKit.Below w.heap.size w W0 := by rw [← hW0]; exact ((Below.refl _ _).alloc (Nat.le_refl _) _).alloc (by simp) _
  have HX0 : Hid (W0.heap[w.heap.size]? = some (.cells #[.int .i64 0, .int .i64 0, .bool false, .string { data := #[] }, .slice none 0 0, .slice none 0 0] 25 (0, 0))) := by unfold Hid; rw [← hW0]; exact box_at
  have hr0 : W0.heap[w.heap.size + 1]? = some (.cells #[.slice a bs.length cap, .int .i64 0, .bool false, .int .i64 0] 69 (0, 0)) := by rw [← hW0]; exact box_at1
  have hs0 : W0.heap.size = w.heap.size + 1 + 1 := by rw [← hW0]; simp
  have hR : RR W0 W0.heap.size (w.heap.size + 1) a cap bs bs false 0 := ⟨heap_lt hr0, Nat.le_refl _, hB.below hb, hcap, hcm, hl, fun ad e => by
    have := hlt ad e
    omega, [], rfl, hr0⟩
  have HC := rrterm_all W0.heap.size (w.heap.size + 1) a cap bs 500 (Nat.le_refl _) bs 0 1 W0 hR (by omega) (by omega)
  have HB0 := Hid.mk hb
  have HBL := Hid.mk hB
  have HNN := Hid.mk hnn
  have HLT := Hid.mk hlt
  have HW0 := Hid.mk hW0
  have HSZ := Hid.mk hs0
  clear hB hb hW0 hr0 hR hlt hnn
  go_enter Try.func16, Try.ntmps16
  go_wp2_with fail
  rw [HW0.out]
  refine HC.mono ?_
  rintro e w1 ⟨v1, t1, r1, bad1, n1, rfl, ⟨u0, u1, u2, u3, q1, q2, q3, s1', s2', s3', rfl⟩, htf1, hR1, hk1, hq1⟩
  obtain ⟨W2, hW2⟩ : ∃ W2, w1.alloc (.cells #[.int .i64 u0, .int .i64 u1, .bool u2, .string u3, .slice q1 q2 q3, .slice s1' s2' s3'] 25) = W2 := ⟨_, rfl⟩
  have hb2 : RowKit.Below w1.heap.size w1 W2 := by rw [← hW2]; exact (Below.refl _ _).alloc (Nat.le_refl _) _
  have HT2 : Hid (W2.heap[w1.heap.size]? = some (.cells #[.int .i64 u0, .int .i64 u1, .bool u2, .string u3, .slice q1 q2 q3, .slice s1' s2' s3'] 25 (0, 0))) := by unfold Hid; rw [← hW2]; exact alloc_new _ _
  have hs1 := hk1.size
  have hX1 := box6 HX0.out hk1 (by omega)
  have HX2 : Hid (W2.heap[w.heap.size]? = some (.cells #[.int .i64 0, .int .i64 0, .bool false, .string { data := #[] }, .slice none 0 0, .slice none 0 0] 25 (0, 0))) := (hb2.block _ (heap_lt hX1)).trans hX1
  have HB1 : Hid (RowKit.Below w.heap.size w w1) := HB0.out.trans (hk1.below HB0.out.size fun k hk => by omega)
  have HB12 := Hid.mk hb2
  have HB2 : Hid (RowKit.Below w.heap.size w W2) := HB1.out.trans (hb2.mono HB1.out.size)
  have HTF := Hid.mk htf1
  obtain ⟨p1, hp1, hh1⟩ := (hR1.on hb2).2.2.2.2.2.2.2
  obtain ⟨c0, c1, c2, c3, cl, cf⟩ := cellsR hh1
  have HP1 := Hid.mk hp1
  have HW2 := Hid.mk hW2
  have HQ := Hid.mk hq1
  have hs2 := hb2.size
  have hl1 : w1.heap.size < W2.heap.size := heap_lt HT2.out
  obtain ⟨t0, t1', t2, t3, t4, t5, t6⟩ := cells6 HT2.out
  obtain ⟨y0, y1, y2, y3, y4, y5, y6⟩ := cells6 HX2.out
  have yf := frz6 HX2.out
  clear hk1 hX1 HC hR1 hh1 hp1 hW2 hb2 htf1 hq1
  by_cases hyes : ∃ t, HasB bs t
  · obtain ⟨t, hsm, hck, hen⟩ := hyes
    obtain ⟨z1, z2, z3⟩ := check_ok hck
    have hpt := pterm_enc t 500 0 [] hsm z3 z2 (by omega)
    rw [List.append_nil, hen] at hpt
    have hq := HQ.out
    rw [hpt] at hq
    obtain ⟨rfl, he, hsm1, -⟩ : bad1 = false ∧ some (cleanT t, [], 0 + sizeT t) = some (t1, r1, n1) ∧ smT 1000000 t1 ∧ n1 ≤ 20000 := by
      rcases hq with h | ⟨-, h⟩
      · exact h
      · cases h
    simp only [Option.some.injEq, Prod.mk.injEq] at he
    obtain ⟨rfl, rfl, rfl⟩ := he
    have hpb : p1 = bs := by have := HP1.out; rw [List.append_nil] at this; exact this.symm
    subst hpb
    have HC2 := rTerm_any (cleanT t) _ W2 (HTF.out.tv.on HB12.out) hsm1
    have hres : termRes (cleanT t) = .ok p1 := by rw [res_clean]; unfold termRes; rw [if_neg (by rw [hck]; decide), hen, if_neg (by omega)]
    rw [hres] at HC2
    have HHAS : Hid (HasB p1 t) := ⟨hsm, hck, hen⟩
    clear hq hpt hsm hck z1 z2 z3 hres hen HQ
    go_wp2_with (first | rw [HW2.out] | fail)
    refine HC2.mono ?_
    rintro e w3 ⟨⟨vb, rfl, hO3⟩, hb3⟩
    obtain ⟨a3, c3', rfl, hbl3, -, -, hn3, -⟩ := hO3.shape
    have hconv1 : Sem.run Try.prog (convert 28 9 (.slice a3 p1.length c3')) w3 = _ := string_of hbl3 hn3
    have HB3 : Hid (RowKit.Below w.heap.size w w3) := HB2.out.trans (hb3.mono HB2.out.size)
    have hconv2 : Sem.run Try.prog (convert 28 9 (.slice a p1.length cap)) w3 = _ := string_of (HBL.out.below HB3.out) HNN.out
    have hX3 := (hb3.block _ (heap_lt HX2.out)).trans HX2.out
    have hT3 := (hb3.block _ (heap_lt HT2.out)).trans HT2.out
    have HB23 := Hid.mk hb3
    have hs3 := hb3.size
    clear t0 t1' t2 t3 t4 t5 t6 y0 y1 y2 y3 y4 y5 y6 yf c0 c1 c2 c3 cl cf HC2 hO3 hbl3 hn3 hb3
    obtain ⟨t0, t1', t2, t3, t4, t5, t6⟩ := cells6 hT3
    obtain ⟨y0, y1, y2, y3, y4, y5, y6⟩ := cells6 hX3
    have yf := frz6 hX3
    have hne : w1.heap.size ≠ w.heap.size := by have := HSZ.out; omega
    clear hX3 hT3
    go_wp2
    refine bodyPost_ret (v := .tuple #[.agg #[.int .i64 u0, .int .i64 u1, .bool u2, .string u3, .slice q1 q2 q3, .slice s1' s2' s3'], .int .i64 0]) (by simp [results, Try.results16, go_sem, y0, y1, y2, y3, y4, y5]) rfl ⟨Or.inl ⟨t, _, HHAS.out, rfl, ⟨_, _, _, _, _, _, _, _, _, _, rfl⟩, ?_⟩, ?_⟩
    · have hz := HSZ.out
      refine HTF.out.move (by rw [size6]; omega) fun k h1 h2 => ?_
      have h3 := oldB_no h2
      exact ⟨oldB_new (by omega), ((keep6 (P := fun k => k = w.heap.size) rfl).block k (by omega) (by omega)).trans ((HB23.out.block k (by omega)).trans (HB12.out.block k h1))⟩
    · exact HB3.out.trans ((keep6 (P := fun k => k = w.heap.size) rfl).below HB3.out.size (fun k hk => by omega))
  · have HNO : Hid (∀ t, ¬ HasB bs t) := fun t h => hyes ⟨t, h⟩
    clear hyes
    rcases HQ.out with ⟨rfl, -, hsm1, -⟩ | ⟨rfl, -⟩
    · by_cases hr : r1 = []
      · subst hr
        have hpb : p1 = bs := by have := HP1.out; rw [List.append_nil] at this; exact this.symm
        subst hpb
        have HC2 := rTerm_any t1 _ W2 (HTF.out.tv.on HB12.out) hsm1
        have HTR : Hid ((∃ x, x ≠ 0 ∧ termRes t1 = .error x) ∨ (termRes t1 = .ok (encT t1) ∧ encT t1 ≠ p1 ∧ (encT t1).length ≤ 1000000)) := by
          unfold Hid termRes
          by_cases h1 : checkT t1 ≠ 0
          · exact Or.inl ⟨_, h1, by rw [if_pos h1]⟩
          · rw [if_neg h1]
            by_cases h2 : 1000000 < (encT t1).length
            · exact Or.inl ⟨2, by decide, by rw [if_pos h2]⟩
            · rw [if_neg h2]
              exact Or.inr ⟨rfl, fun e => HNO.out t1 ⟨hsm1, by omega, e⟩, by omega⟩
        clear HQ
        go_wp2_with (first | rw [HW2.out] | fail)
        refine HC2.mono ?_
        rintro e w3 ⟨hans, hb3⟩
        have HB3 : Hid (RowKit.Below w.heap.size w w3) := HB2.out.trans (hb3.mono HB2.out.size)
        have hX3 := (hb3.block _ (heap_lt HX2.out)).trans HX2.out
        have hs3 := hb3.size
        clear t0 t1' t2 t3 t4 t5 t6 y0 y1 y2 y3 y4 y5 y6 yf c0 c1 c2 c3 cl cf HC2
        obtain ⟨y0, y1, y2, y3, y4, y5, y6⟩ := cells6 hX3
        have yf := frz6 hX3
        clear hX3
        rcases HTR.out with ⟨x, hx, hr⟩ | ⟨hr, hneq, hlen⟩
        · rw [hr] at hans
          obtain ⟨-, rfl⟩ := hans
          have hx1 : (x != 0) = true := by simpa using hx
          clear hb3 hr HTR
          go_wp2
          refine bodyPost_ret (v := .tuple #[zeroT, .int .i64 30]) (by simp [zeroT, results, Try.results16, go_sem, y0, y1, y2, y3, y4, y5]) rfl ⟨Or.inr ⟨HNO.out, rfl⟩, ?_⟩
          exact HB3.out.trans ((keep6 (P := fun k => k = w.heap.size) rfl).below HB3.out.size (fun k hk => by omega))
        · rw [hr] at hans
          obtain ⟨vb, rfl, hO3⟩ := hans
          obtain ⟨a3, c3', rfl, hbl3, -, -, hn3, -⟩ := hO3.shape
          have hconv1 : Sem.run Try.prog (convert 28 9 (.slice a3 (encT t1).length c3')) w3 = _ := string_of hbl3 hn3
          have hconv2 : Sem.run Try.prog (convert 28 9 (.slice a p1.length cap)) w3 = _ := string_of (HBL.out.below HB3.out) HNN.out
          have hsne := bytes_ne hneq
          clear hO3 hbl3 hb3 hr HTR hneq hn3
          generalize (⟨(encT t1).toArray⟩ : ByteArray) = sa at *
          generalize (⟨p1.toArray⟩ : ByteArray) = sb at *
          generalize (encT t1).length = el at *
          go_wp2
          refine bodyPost_ret (v := .tuple #[zeroT, .int .i64 30]) (by simp [zeroT, results, Try.results16, go_sem, y0, y1, y2, y3, y4, y5]) rfl ⟨Or.inr ⟨HNO.out, rfl⟩, ?_⟩
          exact HB3.out.trans ((keep6 (P := fun k => k = w.heap.size) rfl).below HB3.out.size (fun k hk => by omega))
      · have hlen : p1.length + r1.length = bs.length := by have := congrArg List.length HP1.out; rw [List.length_append] at this; omega
        have hrl : 0 < r1.length := List.length_pos_iff.2 hr
        have hne2 : ((p1.length : Int) != (bs.length : Int)) = true := by simp; omega
        clear hr HQ
        go_wp2_with (first | rw [HW2.out] | fail)
        refine bodyPost_ret (v := .tuple #[zeroT, .int .i64 30]) (by simp [zeroT, results, Try.results16, go_sem, y0, y1, y2, y3, y4, y5]) rfl ⟨Or.inr ⟨HNO.out, rfl⟩, ?_⟩
        exact HB2.out.trans ((keep6 (P := fun k => k = w.heap.size) rfl).below HB2.out.size (fun k hk => by omega))
    · clear HQ
      go_wp2_with (first | rw [HW2.out] | fail)
      refine bodyPost_ret (v := .tuple #[zeroT, .int .i64 30]) (by simp [zeroT, results, Try.results16, go_sem, y0, y1, y2, y3, y4, y5]) rfl ⟨Or.inr ⟨HNO.out, rfl⟩, ?_⟩
      exact HB2.out.trans ((keep6 (P := fun k => k = w.heap.size) rfl).below HB2.out.size (fun k hk => by omega))
end Go.Proofs.Ytahacpbmoijicaa

/- ReadTerm of package bytes, whatever it reads. -/
namespace Go.Proofs.Ytahacpbmoijicaa
open Go.RowKit Go.Sort Go.Lib

set_option maxRecDepth 100000 in
set_option maxHeartbeats 4000000 in
theorem ReadTerm_yesF (t : Tm) (a : Option Addr) (cap : Nat) (w : World) (hB : BL w a (encT t)) (hcap : (encT t).length ≤ cap) (hcm : cap ≤ 9223372036854775807) (hc : checkT t = 0) (hl : (encT t).length ≤ 1000000) (hsm : smT 1000000 t) : Calls Try.prog 12 #[.slice a (encT t).length cap] w fun e w' => ∃ v', e = .returned (.tuple #[v', .int .i64 0]) ∧ ShapeT v' ∧ TFW w' (oldB w) v' (cleanT t) ∧ RowKit.Below w.heap.size w w' := by
  have hnn : encT t ≠ [] := by
    cases t with
    | mk f n h nm ls ks => rw [encT_mk]; intro e; exact numB_ne _ (List.append_eq_nil_iff.1 e).1
  obtain ⟨b, off, rfl, hbw, -⟩ := hB.resolve_left hnn
  obtain ⟨W0, hW0⟩ : ∃ W0, (w.alloc (.cells #[.int .i64 0, .int .i64 0, .bool false, .string { data := #[] }, .slice none 0 0, .slice none 0 0] 25)).alloc (.cells #[.slice (some ⟨b, off, none⟩) (encT t).length cap, .int .i64 0] 60) = W0 := ⟨_, rfl⟩
  have hb : RowKit.Below w.heap.size w W0 := by rw [← hW0]; exact ((Below.refl _ _).alloc (Nat.le_refl _) _).alloc (by simp) _
  have HX0 : Hid (W0.heap[w.heap.size]? = some (.cells #[.int .i64 0, .int .i64 0, .bool false, .string { data := #[] }, .slice none 0 0, .slice none 0 0] 25 (0, 0))) := by unfold Hid; rw [← hW0]; exact box_at
  have hr0 : W0.heap[w.heap.size + 1]? = some (.cells #[.slice (some ⟨b, off, none⟩) (encT t).length cap, .int .i64 0] 60 (0, 0)) := by rw [← hW0]; exact box_at1
  have hR : RD W0 W0.heap.size (w.heap.size + 1) (encT t) 0 := ⟨heap_lt hr0, Nat.le_refl _, _, _, hr0, hB.below hb, hcap, hcm, fun ad e => by
    simp only [Option.some.injEq] at e
    subst e
    have := hb.size
    simp only
    omega, fun e => by cases e⟩
  have HC := read_yes (w.heap.size + 1) W0.heap.size t (some ⟨b, off, none⟩) cap W0 hR (hB.below hb) (fun ad e => by simp only [Option.some.injEq] at e; subst e; simp only; omega) hc hl hsm
  have HB0 := Hid.mk hb
  have HW0 := Hid.mk hW0
  clear hB hb hW0 hr0 hR
  go_enter Try.func12, Try.ntmps12
  go_wp2_with fail
  rw [HW0.out]
  refine HC.mono ?_
  rintro e w1 ⟨v1, rfl, ⟨u0, u1, u2, u3, r1, r2, r3, s1', s2', s3', rfl⟩, htf1, hk1⟩
  have hX1 := box6 HX0.out hk1 (by omega)
  have HB1 : Hid (RowKit.Below w.heap.size w w1) := HB0.out.trans (hk1.below HB0.out.size fun k hk => by omega)
  have HTF := Hid.mk htf1
  have hs1 := hk1.size
  have hs0 : w.heap.size < W0.heap.size := heap_lt HX0.out
  obtain ⟨y0, y1, y2, y3, y4, y5, y6⟩ := cells6 hX1
  have yf := frz6 hX1
  clear htf1 hk1 HC hX1
  go_wp2
  refine bodyPost_ret (v := .tuple #[.agg #[.int .i64 u0, .int .i64 u1, .bool u2, .string u3, .slice r1 r2 r3, .slice s1' s2' s3'], .int .i64 0]) (by simp [results, Try.results12, go_sem, y0, y1, y2, y3, y4, y5]) rfl ⟨_, rfl, ⟨_, _, _, _, _, _, _, _, _, _, rfl⟩, ?_, ?_⟩
  · refine HTF.out.move (by rw [size6]; exact Nat.le_refl _) fun k h1 h2 => ?_
    have h3 := oldB_no h2
    exact ⟨oldB_new (by omega), (keep6 (P := fun k => k = w.heap.size) rfl).block k h1 (by omega)⟩
  · exact HB1.out.trans ((keep6 (P := fun k => k = w.heap.size) rfl).below HB1.out.size (fun k hk => by omega))

theorem BReadTerm_any (bs : List UInt8) (a : Option Addr) (cap : Nat) (w : World) (hB : BL w a bs) (hlt : ∀ ad, a = some ad → ad.block < w.heap.size) (hnn : a = none → cap = 0) (hcap : bs.length ≤ cap) (hcm : cap ≤ 9223372036854775807) (hl : bs.length ≤ 1000000) : Calls Try.prog 12 #[.slice a bs.length cap] w fun e w' => RdAns w bs e w' ∧ RowKit.Below w.heap.size w w' := by
  by_cases h : ∃ t, HasB bs t
  · obtain ⟨t, h1, h2, h3⟩ := h
    subst h3
    refine (ReadTerm_yesF t a cap w hB hcap hcm h2 hl h1).mono ?_
    rintro e w' ⟨v, he, hs, hv, hb⟩
    exact ⟨Or.inl ⟨t, v, ⟨h1, h2, rfl⟩, he, hs, hv.1⟩, hb⟩
  · have hno : ∀ t, ¬ HasB bs t := fun t ht => h ⟨t, ht⟩
    refine (ReadTerm_no bs a cap w hB hlt (fun e => by have := hnn e; exact List.length_eq_zero_iff.1 (by omega)) hcap hcm hl (fun t h1 h2 h3 => hno t ⟨h1, h2, h3⟩)).mono ?_
    rintro e w' ⟨he, hb⟩
    exact ⟨Or.inr ⟨hno, he⟩, hb⟩

/-- where what is answered is a term, it may be written over -/
theorem BReadTerm_wk (bs : List UInt8) (a : Option Addr) (cap : Nat) (w : World) (hB : BL w a bs) (hlt : ∀ ad, a = some ad → ad.block < w.heap.size) (hnn : a = none → cap = 0) (hcap : bs.length ≤ cap) (hcm : cap ≤ 9223372036854775807) (hl : bs.length ≤ 1000000) : Calls Try.prog 12 #[.slice a bs.length cap] w fun e w' => ∃ v x, e = .returned (.tuple #[v, .int .i64 x]) ∧ ShapeT v ∧ (∃ d, WK (oldB w) d w' v) ∧ RowKit.Below w.heap.size w w' := by
  by_cases h : ∃ t, HasB bs t
  · obtain ⟨t, h1, h2, h3⟩ := h
    subst h3
    refine (ReadTerm_yesF t a cap w hB hcap hcm h2 hl h1).mono ?_
    rintro e w' ⟨v, he, hs, hv, hb⟩
    exact ⟨v, 0, he, hs, hv.2, hb⟩
  · have hno : ∀ t, ¬ HasB bs t := fun t ht => h ⟨t, ht⟩
    refine (ReadTerm_no bs a cap w hB hlt (fun e => by have := hnn e; exact List.length_eq_zero_iff.1 (by omega)) hcap hcm hl (fun t h1 h2 h3 => hno t ⟨h1, h2, h3⟩)).mono ?_
    rintro e w' ⟨he, hb⟩
    exact ⟨zeroT, 30, he, ⟨_, _, _, _, _, _, _, _, _, _, rfl⟩, ⟨1, WK.leaf 0 _ _ _ _⟩, hb⟩

/-- bytes are those of one term at most, but for the fields that its form does not have -/
theorem HasB.one {bs : List UInt8} {t t' : Tm} (h : HasB bs t) (h' : HasB bs t') : cleanT t = cleanT t' := by
  obtain ⟨h1, h2, h3⟩ := h
  obtain ⟨g1, g2, g3⟩ := h'
  obtain ⟨a1, a2, a3⟩ := check_ok h2
  obtain ⟨b1, b2, b3⟩ := check_ok g2
  have e1 := pterm_enc t 500 0 [] h1 a3 a2 (by omega)
  have e2 := pterm_enc t' 500 0 [] g1 b3 b2 (by omega)
  rw [h3] at e1
  rw [g3, e1] at e2
  simp only [Option.some.injEq, Prod.mk.injEq] at e2
  exact e2.1
end Go.Proofs.Ytahacpbmoijicaa

/- How arguments of type []byte are read; append(nil, b...) of bytes; what ReadTerm answers, in one form. -/
namespace Go.Proofs.Ytahacpbmoijicaa
open Go.ChangeShapes Go.WideShapes Go.ChangeAt Go.RowKit Go.Sort Go.Joins

theorem cellsU8 : Try.prog.cellsOf 5 = 1 := by kernel_rfl

set_option maxRecDepth 100000 in
theorem okWide_sliceB {W : World} {r : Reach} {b0 : Nat} {a : Option Addr} {n cap : Nat} (hv : Value.okWide Try.prog W r b0 28 (.slice a n cap)) : (a = none → n = 0 ∧ cap = 0) ∧ n ≤ cap ∧ cap ≤ 9223372036854775807 ∧ ∀ ad, a = some ad → ad.block < W.heap.size := by
  simp only [Value.okWide, Try.underlying28, Cell.okWide] at hv
  cases a with
  | none =>
    unfold Cell.ok at hv
    simp only [Try.underlying28] at hv
    split at hv <;> simp_all
  | some ad =>
    unfold Cell.ok at hv
    simp only [Try.underlying28] at hv
    obtain ⟨h1, h2, -, -, row, cells, h3, -⟩ := hv
    have hmx : IntKind.i64.max = 9223372036854775807 := by decide
    refine ⟨fun h => (by cases h), h1, by omega, fun ad' e => ?_⟩
    simp only [Option.some.injEq] at e
    subst e
    by_cases hlt : ad.block < W.heap.size
    · exact hlt
    · exfalso
      simp only [World.shape?] at h3
      rw [Array.getElem?_eq_none (by omega)] at h3
      simp at h3

set_option maxRecDepth 100000 in
theorem open_bytes1 {H : Type} {enc : TypeId × Value → H} {W : World} {r : Reach} {b0 : Nat} {v : Value} {d : DataW H} {p : List MemPlace} (hv : Value.okWide Try.prog W r b0 28 v) (h : DataW.Trod enc Try.prog W 0 (fun _ => true) true 28 v d p) :
    ∃ (bs : List UInt8) (a : Option Addr) (cap : Nat), v = .slice a bs.length cap ∧ BL W a bs ∧ (∀ ad, a = some ad → ad.block < W.heap.size) ∧ (a = none → cap = 0) ∧ bs.length ≤ cap ∧ cap ≤ 9223372036854775807 := by
  obtain ⟨a0, len0, cap0, rfl⟩ := okWide_slice Try.underlying28 hv
  obtain ⟨k1, k2, k3, k4⟩ := okWide_sliceB hv
  obtain ⟨fuel, hf⟩ := h
  rcases open_ints Try.underlying28 Try.underlying5 cellsU8 hf with ⟨e1, -⟩ | ⟨a, len, cap, zs, e1, -, hl, -, hm, -, hc, hw⟩
  · simp [Value.cells] at e1
    obtain ⟨rfl, rfl, rfl⟩ := e1
    exact ⟨[], none, 0, rfl, Or.inl rfl, k4, fun _ => rfl, Nat.le_refl _, by omega⟩
  · simp [Value.cells] at e1 hm
    obtain ⟨rfl, rfl, rfl⟩ := e1
    have htl : ((zs.take len0).map fun n => UInt8.ofNat n.toNat).length = len0 := by simp; omega
    refine ⟨(zs.take len0).map fun n => UInt8.ofNat n.toNat, some a, cap0, by rw [htl], ?_, k4, fun h => (by cases h), by rw [htl]; exact k2, k3⟩
    rcases Nat.eq_zero_or_pos len0 with hz | hp
    · left; rw [hz]; simp
    · right
      obtain ⟨b, off, spot⟩ := a
      have h0 := hc 0 (by omega)
      have hspot : spot = none := by simpa [Addr.add] using World.cell?_spot h0
      subst hspot
      refine ⟨b, off, rfl, World.block_lt_of_cell? W _ (by simpa [Addr.add] using h0), fun i hi => ?_⟩
      rw [htl] at hi
      have := hc i (by omega)
      rw [add_plain] at this
      rw [this]
      have hb := range_u8 hw i
      have e : zs.getD i 0 = zs[i]'(by omega) := by simp [List.getD, List.getElem?_eq_getElem (show i < zs.length by omega)]
      rw [← List.getD_eq_getElem?_getD, e] at hb
      rw [e]
      simp only [List.getElem_map, List.getElem_take, UInt8.toNat_ofNat']
      congr 2
      omega

/-- append([]byte(nil), x...) -/
theorem wpList_appB0 {w : World} {ops : Array Oper} {rest : List Oper} {o : Oper} {a : Act} {Q : Exit → Act → World → Prop} (hgd : o.guard = none) (s x : Operand) (ho : o.op = .call { callee := .builtin .append, args := #[s, x], argTypes := #[28, 28] })
    (B : Nat) (bs : List UInt8) (a1 : Option Addr) (c1 : Nat) (hs : a.eval s = .slice none 0 0) (hx : a.eval x = .slice a1 bs.length c1) (hS : BL w a1 bs) (hn : a1 = none → c1 = 0) (hl : bs.length ≤ 70368744177664) (hB : B ≤ w.heap.size)
    (h : ∀ v' w', OY B w' v' bs → w.grownBy w' none → wpList Try.prog ops Q rest (a.put o.dst v') w') : wpList Try.prog ops Q (o :: rest) a w := by
  obtain ⟨i0, hi, hz0, hz1, hz2⟩ := info_parts8 infoU8
  have hO : OY B w (.slice none 0 0) [] := OY.nil _ _
  cases a1 with
  | none =>
    have hxe : bs = [] := by
      rcases hS with h | ⟨b, off, ha, _⟩
      · exact h
      · cases ha
    subst hxe
    rw [hn rfl] at hx
    exact wpList_append_own_none hgd s x 28 ho B 5 i0 1 Try.underlying28 hi (.slice none 0 0) 0 [] hs hO hx (h _ w hO ⟨rfl, rfl, rfl, Nat.le_refl _, fun _ _ _ => rfl⟩)
  | some ad =>
    refine wpList_append_own _ hgd s x 28 ho B 5 i0 _ 1 1 Try.underlying28 hi hz0 hz1 hz2 rfl (by decide) (.slice none 0 0) 0 [] hs hO ad bs.length c1 (flatB bs) hx (by rw [flatB_length]; omega) hS.flat (flatB_one bs) (by unfold maxLen; omega) (by omega) hB ?_
    intro v' w' hown hgr _
    exact h v' w' (by unfold OY; simpa using hown) hgr

/-- what bytes are as a term: the term and the error -/
def RdIs (bs : List UInt8) (t : Tm) (x : Int) : Prop := (∃ t0, HasB bs t0 ∧ t = cleanT t0 ∧ x = 0) ∨ ((∀ t0, ¬ HasB bs t0) ∧ t = .mk 0 0 false { data := #[] } [] [] ∧ x = 30)

theorem RdIs.one {bs : List UInt8} {t t' : Tm} {x x' : Int} (h : RdIs bs t x) (h' : RdIs bs t' x') : t = t' ∧ x = x' := by
  rcases h with ⟨t0, h1, rfl, rfl⟩ | ⟨h1, rfl, rfl⟩ <;> rcases h' with ⟨t1, h2, rfl, rfl⟩ | ⟨h2, rfl, rfl⟩
  · exact ⟨h1.one h2, rfl⟩
  · exact absurd h1 (h2 _)
  · exact absurd h2 (h1 _)
  · exact ⟨rfl, rfl⟩

theorem RdIs.sm {bs : List UInt8} {t : Tm} {x : Int} (h : RdIs bs t x) : smT 1000000 t := by
  rcases h with ⟨t0, h1, rfl, rfl⟩ | ⟨h1, rfl, rfl⟩
  · exact smT_clean 1000000 t0 h1.1
  · exact (smT_mk _ _ _ _ _ _ _).2 ⟨by decide, by simp, by simp, by simp, by simp⟩

theorem RdAns.is {w w' : World} {bs : List UInt8} {e : Ending} (h : RdAns w bs e w') : ∃ v t x, e = .returned (.tuple #[v, .int .i64 x]) ∧ ShapeT v ∧ TF w' (oldB w) v t ∧ RdIs bs t x := by
  rcases h with ⟨t, v, h1, h2, h3, h4⟩ | ⟨h1, h2⟩
  · exact ⟨v, cleanT t, 0, h2, h3, h4, Or.inl ⟨t, h1, rfl, rfl⟩⟩
  · exact ⟨zeroT, .mk 0 0 false { data := #[] } [] [], 30, h2, ⟨_, _, _, _, _, _, _, _, _, _, rfl⟩, TF.leaf _ _ _ _, Or.inr ⟨h1, rfl, rfl⟩⟩
end Go.Proofs.Ytahacpbmoijicaa
