/- The contracts of caught, read and ReadTerm of package bytes, where what is read was written. -/
import Derived.Test.YtahacpbmoijicaaEN
import Derived.Recover
import Derived.Defers
namespace Go.Proofs.Ytahacpbmoijicaa
open Go.RowKit Go.Sort Go.Lib

theorem catch_idle (p : Addr) (w : World) : CallsD Try.prog 85 #[.pointer (some p)] .returning w fun e u' w' => e = .returned (.tuple #[]) ∧ u' = .returning ∧ w' = w := by
  refine callsD_of_wpS Try.func85 rfl fun c₀ cs hu => ?_
  apply wpS_seq
  apply wpS_region
  simp [wpOpsS, go_sem, recoverD, hu, Try.ntmps85, Exit.thenS]
  refine wpS_cond (t := false) (by simp [Act.eval, Array.replicate]) ?_
  simp only [Bool.false_eq_true, if_false]
  refine wpS_of_wp (wp_skip ?_)
  cases c₀
  simp_all [bodyPostS, results, Try.results85]

set_option maxRecDepth 100000 in
set_option maxHeartbeats 4000000 in
theorem caught_yes (rb : Nat) (t : Tm) (w : World) (hrb : rb < w.heap.size) (HS : ∀ W, RowKit.Below w.heap.size w W → Calls Try.prog 33 #[.pointer (some ⟨rb, 0, none⟩)] W fun e w' => ∃ v', e = .returned v' ∧ ShapeT v' ∧ TFW w' (oldB W) v' t ∧ Kept (fun k => k = rb) W w') : Calls Try.prog 57 #[.func (.func 33) #[.pointer (some ⟨rb, 0, none⟩)] #[]] w fun e w' => ∃ v', e = .returned (.tuple #[v', .int .i64 0]) ∧ ShapeT v' ∧ TFW w' (oldB w) v' t ∧ Kept (fun k => k = rb) w w' := by
  have hmf : ∀ (fn : Fn) (first cap : Array Value) (w : World), (Instr.makeFunc fn first cap).run Try.prog w = .ok (.func fn first cap) w := fun _ _ _ _ => rfl
  obtain ⟨W0, hW0⟩ : ∃ W0, (w.alloc (.cells #[.int .i64 0, .int .i64 0, .bool false, .string { data := #[] }, .slice none 0 0, .slice none 0 0] 25)).alloc (.cells #[.int .i64 0] 29) = W0 := ⟨_, rfl⟩
  have hb : RowKit.Below w.heap.size w W0 := by rw [← hW0]; exact ((Below.refl _ _).alloc (Nat.le_refl _) _).alloc (by simp) _
  have HX0 : Hid (W0.heap[w.heap.size]? = some (.cells #[.int .i64 0, .int .i64 0, .bool false, .string { data := #[] }, .slice none 0 0, .slice none 0 0] 25 (0, 0))) := by unfold Hid; rw [← hW0]; exact box_at
  have HE0 : Hid (W0.heap[w.heap.size + 1]? = some (.cells #[.int .i64 0] 29 (0, 0))) := by unfold Hid; rw [← hW0]; exact box_at1
  have HC := HS W0 hb
  have HK0 : Hid (Kept (fun k => k = rb) w W0) := Kept.of_below hb
  have HW0 := Hid.mk hW0
  have hs0 : W0.heap.size = w.heap.size + 1 + 1 := by rw [← hW0]; simp
  have HSZ := Hid.mk hs0
  clear hb hW0 HS hs0
  go_enter_defers Try.func57, Try.ntmps57
  go_wp2_with fail
  rw [HW0.out]
  refine HC.mono ?_
  rintro e w1 ⟨v1, rfl, ⟨u0, u1, u2, u3, r1, r2, r3, s1', s2', s3', rfl⟩, htf1, hk1⟩
  have HTF := Hid.mk htf1
  have HK1 : Hid (Kept (fun k => k = rb) w w1) := HK0.out.trans hk1
  have hX1 := box6 HX0.out hk1 (by omega)
  have hE1 := box6 HE0.out hk1 (by omega)
  obtain ⟨y0, y1, y2, y3, y4, y5, y6⟩ := cells6 hX1
  have yf := frz6 hX1
  have e0 : w1.cell? ⟨w.heap.size + 1, 0, none⟩ = some (.int .i64 0) := by rw [cell_of_row _ _ 0 _ _ _ hE1]; rfl
  have ef : w1.frozen? ⟨w.heap.size + 1, 0, none⟩ = false := by simp [World.frozen?, hE1]
  have el := heap_lt hE1
  have hs1 := hk1.size
  clear htf1 hk1 HC hX1 hE1
  go_wp2
  refine leaves_cons (f := 85) (args := #[.pointer (some ⟨w.heap.size + 1, 0, none⟩)]) (by simp) (by simp [go_sem]) ?_
  refine (catch_idle ⟨w.heap.size + 1, 0, none⟩ _).mono ?_
  rintro e u' w'' ⟨rfl, rfl, rfl⟩
  dsimp only [settle, Leaves]
  refine ⟨.tuple #[.agg #[.int .i64 u0, .int .i64 u1, .bool u2, .string u3, .slice r1 r2 r3, .slice s1' s2' s3'], .int .i64 0], by simp [results, Try.results57, go_sem, y0, y1, y2, y3, y4, y5, e0], _, rfl, ⟨_, _, _, _, _, _, _, _, _, _, rfl⟩, ?_, ?_⟩
  · have hz := HSZ.out
    refine HTF.out.move (by simp [World.setCell]) fun k _ h2 => ?_
    have h3 := oldB_no h2
    have st : ∀ (w : World) (b o : Nat) (x : Value), k ≠ b → (w.setCell ⟨b, o, none⟩ x).heap[k]? = w.heap[k]? := fun w b o x h => Below.heap_setCell _ _ _ _ h
    refine ⟨oldB_new (by omega), ?_⟩
    rw [st _ _ 0 _ (by omega), st _ _ 5 _ (by omega), st _ _ 4 _ (by omega), st _ _ 3 _ (by omega), st _ _ 2 _ (by omega), st _ _ 1 _ (by omega), st _ _ 0 _ (by omega)]
  · exact ((((((HK1.out.setNew (p := ⟨w.heap.size, 0, none⟩) (Nat.le_refl _) _).setNew (p := ⟨w.heap.size, 1, none⟩) (Nat.le_refl _) _).setNew (p := ⟨w.heap.size, 2, none⟩) (Nat.le_refl _) _).setNew (p := ⟨w.heap.size, 3, none⟩) (Nat.le_refl _) _).setNew (p := ⟨w.heap.size, 4, none⟩) (Nat.le_refl _) _).setNew (p := ⟨w.heap.size, 5, none⟩) (Nat.le_refl _) _).setNew (p := ⟨w.heap.size + 1, 0, none⟩) (by simp only; omega) _

theorem BL.at {w : World} {a : Option Addr} {bs : List UInt8} (h : BL w a bs) {k : Nat} (hk : k < bs.length) : ∃ b off, a = some ⟨b, off, none⟩ ∧ b < w.heap.size ∧ w.cell? ⟨b, off + k, none⟩ = some (.int .u8 (bs[k].toNat : Int)) := by
  rcases h with h | ⟨b, off, ha, hlt, hc⟩
  · subst h; simp at hk
  · exact ⟨b, off, ha, hlt, hc k hk⟩

theorem take_eqB {xs ys : List UInt8} {k : Nat} (h1 : k < xs.length) (h2 : k < ys.length) (h : xs.take k = ys.take k) (he : xs[k] = ys[k]) : xs.take (k + 1) = ys.take (k + 1) := by
  rw [List.take_succ_eq_append_getElem h1, List.take_succ_eq_append_getElem h2, h, he]

set_option maxRecDepth 100000 in
set_option maxHeartbeats 4000000 in
theorem EqualB_any (xs ys : List UInt8) (aa ab : Option Addr) (ca cb : Nat) (w : World) (hSa : BL w aa xs) (hSb : BL w ab ys) (hxn : xs.length ≤ 4398046511104) :
    Calls Try.prog 58 #[.slice aa xs.length ca, .slice ab ys.length cb] w fun e w' => e = .returned (.bool (decide (xs = ys))) ∧ Grew w w' := by
  have HSa := Hid.mk hSa
  have HSb := Hid.mk hSb
  have mx := mixed
  clear hSa hSb
  by_cases hL : xs.length = ys.length
  · have hL' : ((xs.length : Int) != (ys.length : Int)) = false := by simp [hL]
    have HL := Hid.mk hL
    clear hL
    go_enter Try.func58, Try.ntmps58
    go_wp2
    go_loopw [13] (fun i wr => ∃ k : Nat, k ≤ xs.length ∧ i = .int .i64 k ∧ Grew w wr ∧ xs.take k = ys.take k) (fun i _ => xs.length - (intOf i).toNat)
    case atStart => exact ⟨0, Nat.zero_le _, rfl, Grew.refl _, rfl⟩
    case round =>
      obtain ⟨k, hk, rfl, hb, htk⟩ := hrel
      have HT := Hid.mk htk
      clear htk
      by_cases hlt : k < xs.length
      · have hlt2 : k < ys.length := by have := HL.out; omega
        obtain ⟨b, off, rfl, hbl, hc0⟩ := (HSa.out.below hb.below).at hlt
        obtain ⟨b', off', rfl, hbl', hc0'⟩ := (HSb.out.below hb.below).at hlt2
        have z1 : (k : Int) < (xs.length : Int) := by omega
        have z2 : (k : Int) < (ys.length : Int) := by omega
        by_cases he : xs[k] = ys[k]
        · have HE := Hid.mk (take_eqB hlt hlt2 HT.out he)
          rw [he] at hc0
          generalize ys[k] = y at *
          clear he
          go_wp2_with fail
          go_quiet (fail)
          go_wp2
          refine ⟨⟨k + 1, hlt, by go_num, hb.drewN _, HE.out⟩, by simp [intOf]; omega⟩
        · have HE : Hid (decide (xs = ys) = false) := by
            unfold Hid; rw [decide_eq_false_iff_not]; intro e; subst e; exact he rfl
          have hne : (((xs[k].toNat : Nat) : Int) != ((ys[k].toNat : Nat) : Int)) = true := by
            rw [bne_iff_ne]; intro e; exact he (UInt8.toNat_inj.1 (by omega))
          generalize xs[k] = x at *
          generalize ys[k] = y at *
          clear he
          go_wp2_with fail
          go_quiet (fail)
          go_wp2
          go_ret
          exact ⟨by rw [HE.out]; rfl, hb.drewN _⟩
      · have HE : Hid (decide (xs = ys) = true) := by
          have h1 : xs.take k = xs := List.take_of_length_le (by omega)
          have h2 : ys.take k = ys := List.take_of_length_le (by have := HL.out; omega)
          have h3 := HT.out
          rw [h1, h2] at h3
          unfold Hid; simp [h3]
        go_wp2
        go_ret
        exact ⟨by rw [HE.out]; rfl, hb⟩
  · have hL' : ((xs.length : Int) != (ys.length : Int)) = true := by simp; omega
    have HE : Hid (decide (xs = ys) = false) := by
      unfold Hid; rw [decide_eq_false_iff_not]; intro e; subst e; exact hL rfl
    clear hL
    go_enter Try.func58, Try.ntmps58
    go_wp2
    go_ret
    exact ⟨by rw [HE.out]; rfl, Grew.refl _⟩

theorem fieldB_clean (f n : Int) (h : Bool) (nm : ByteArray) (ls : List LvT) : fieldB f (if f = 1 ∨ f = 11 then n else 0) (if f = 3 ∨ f = 4 ∨ f = 5 then h else false) (if f = 10 then nm else ByteArray.empty) (if f = 2 ∨ f = 10 then ls else []) = fieldB f n h nm ls := by
  unfold fieldB
  split
  · rfl
  · split
    · rfl
    · split
      · rename_i h3; rw [if_pos (Or.inr h3)]
      · split
        · rename_i h4; rw [if_pos (Or.inl h4)]
        · rfl

theorem enc_clean (t : Tm) : encT (cleanT t) = encT t := by
  refine Tm.ind (P := fun t => encT (cleanT t) = encT t) ?_ t
  intro f n hd nm ls ks ih
  rw [clean_mk, encT_mk, encT_mk, fieldB_clean, List.flatMap_map]
  have h : ∀ l : List Tm, (∀ k ∈ l, encT (cleanT k) = encT k) → l.flatMap (fun x => encT (cleanT x)) = l.flatMap encT := by
    intro l
    induction l with
    | nil => intro _; rfl
    | cons k l ihl => intro h; rw [List.flatMap_cons, List.flatMap_cons, h k (by simp), ihl fun x hx => h x (by simp [hx])]
  rw [h ks ih]

theorem res_clean (t : Tm) : termRes (cleanT t) = termRes t := by
  unfold termRes
  rw [clean_check, enc_clean]

set_option maxRecDepth 100000 in
set_option maxHeartbeats 4000000 in
theorem read_yes (rb N : Nat) (t : Tm) (a : Option Addr) (cap : Nat) (w : World) (hR : RD w N rb (encT t) 0) (hB : BL w a (encT t)) (hne : ∀ ad, a = some ad → ad.block ≠ rb) (hc : checkT t = 0) (hl : (encT t).length ≤ 1000000) (hsm : smT 1000000 t) : Calls Try.prog 32 #[.slice a (encT t).length cap, .func (.func 33) #[.pointer (some ⟨rb, 0, none⟩)] #[], .func (.func 9) #[] #[]] w fun e w' => ∃ v', e = .returned (.tuple #[v', .int .i64 0]) ∧ ShapeT v' ∧ TFW w' (oldB w) v' (cleanT t) ∧ Kept (fun k => k = rb) w w' := by
  obtain ⟨hsz1, hsz2, hfo⟩ := check_ok hc
  have hrbs := hR.lt
  obtain ⟨W0, hW0⟩ : ∃ W0, (w.alloc (.cells #[.int .i64 0, .int .i64 0, .bool false, .string { data := #[] }, .slice none 0 0, .slice none 0 0] 25)).alloc (.cells #[.int .i64 0, .int .i64 0, .bool false, .string { data := #[] }, .slice none 0 0, .slice none 0 0] 25) = W0 := ⟨_, rfl⟩
  have hb : RowKit.Below w.heap.size w W0 := by rw [← hW0]; exact ((Below.refl _ _).alloc (Nat.le_refl _) _).alloc (by simp) _
  have HX0 : Hid (W0.heap[w.heap.size]? = some (.cells #[.int .i64 0, .int .i64 0, .bool false, .string { data := #[] }, .slice none 0 0, .slice none 0 0] 25 (0, 0))) := by unfold Hid; rw [← hW0]; exact box_at
  have hs0 : W0.heap.size = w.heap.size + 1 + 1 := by rw [← hW0]; simp
  have HC := caught_yes rb (cleanT t) W0 (by omega) fun W hbW => (rdterm_any N rb t hsm hfo [] 0 W (by rw [List.append_nil]; exact (hR.on hb).on hbW) (by omega) (by omega)).mono fun e w' ⟨v', h1, h2, h3, _, h5⟩ => ⟨v', h1, h2, h3, h5⟩
  have HB0 : Hid (BL W0 a (encT t)) := hB.below hb
  have HK0 : Hid (Kept (fun k => k = rb) w W0) := Kept.of_below hb
  have HNE := Hid.mk hne
  have HW0 := Hid.mk hW0
  have HSZ := Hid.mk hs0
  have HRES : Hid (termRes (cleanT t) = .ok (encT t)) := by unfold Hid; rw [res_clean]; unfold termRes; rw [if_neg (by rw [hc]; decide), if_neg (by omega)]
  have HSMC := Hid.mk (smT_clean 1000000 t hsm)
  clear hR hB hne hb hW0 hs0 hc hsm
  generalize encT t = bs at *
  go_enter Try.func32, Try.ntmps32
  go_wp2_with fail
  rw [HW0.out]
  refine HC.mono ?_
  rintro e w1 ⟨v1, rfl, ⟨u0, u1, u2, u3, r1, r2, r3, s1', s2', s3', rfl⟩, htf1, hk1⟩
  have HTF := Hid.mk htf1
  have HK1 : Hid (Kept (fun k => k = rb) w w1) := HK0.out.trans hk1
  have hX1 := box6 HX0.out hk1 (by omega)
  have hs1 := hk1.size
  have HB1 : Hid (BL w1 a bs) := HB0.out.move hs1 fun b off e hb' => hk1.block b hb' (HNE.out _ e)
  obtain ⟨W2, hW2⟩ : ∃ W2, w1.alloc (.cells #[.int .i64 u0, .int .i64 u1, .bool u2, .string u3, .slice r1 r2 r3, .slice s1' s2' s3'] 25) = W2 := ⟨_, rfl⟩
  have hb2 : RowKit.Below w1.heap.size w1 W2 := by rw [← hW2]; exact (Below.refl _ _).alloc (Nat.le_refl _) _
  have HO2 : Hid (W2.heap[w1.heap.size]? = some (.cells #[.int .i64 u0, .int .i64 u1, .bool u2, .string u3, .slice r1 r2 r3, .slice s1' s2' s3'] 25 (0, 0))) := by unfold Hid; rw [← hW2]; exact alloc_new _ _
  have HX2 : Hid (W2.heap[w.heap.size]? = some (.cells #[.int .i64 0, .int .i64 0, .bool false, .string { data := #[] }, .slice none 0 0, .slice none 0 0] 25 (0, 0))) := (hb2.block _ (heap_lt hX1)).trans hX1
  have HC2 := BTerm_any (cleanT t) _ W2 (htf1.tv.on hb2) HSMC.out
  rw [HRES.out] at HC2
  have HB12 := Hid.mk hb2
  obtain ⟨o0, o1, o2, o3, o4, o5, o6⟩ := cells6 HO2.out
  have HW2 := Hid.mk hW2
  clear htf1 hk1 HC hX1 hb2 hW2
  go_wp2_with fail
  rw [HW2.out]
  refine HC2.mono ?_
  rintro e w3 ⟨⟨vb, rfl, hO3⟩, hb3⟩
  obtain ⟨a3, c3, rfl, hbl3, -, -, -, -⟩ := hO3.shape
  have HB13 : Hid (RowKit.Below w1.heap.size w1 w3) := HB12.out.trans (hb3.mono HB12.out.size)
  have HC3 := EqualB_any bs bs a3 a c3 cap w3 hbl3 (HB1.out.below HB13.out) (by omega)
  rw [decide_eq_true rfl] at HC3
  have HO3 : Hid (w3.heap[w1.heap.size]? = some (.cells #[.int .i64 u0, .int .i64 u1, .bool u2, .string u3, .slice r1 r2 r3, .slice s1' s2' s3'] 25 (0, 0))) := (hb3.block _ (heap_lt HO2.out)).trans HO2.out
  have HX3 : Hid (w3.heap[w.heap.size]? = some (.cells #[.int .i64 0, .int .i64 0, .bool false, .string { data := #[] }, .slice none 0 0, .slice none 0 0] 25 (0, 0))) := (hb3.block _ (heap_lt HX2.out)).trans HX2.out
  clear hO3 hbl3 hb3 HC2 o0 o1 o2 o3 o4 o5 o6
  go_wp2_with fail
  refine HC3.mono ?_
  rintro e w4 ⟨rfl, hg4⟩
  have hb4 := hg4.below
  have HB14 : Hid (RowKit.Below w1.heap.size w1 w4) := HB13.out.trans (hb4.mono HB13.out.size)
  have hO4 := (hb4.block _ (heap_lt HO3.out)).trans HO3.out
  have hX4 := (hb4.block _ (heap_lt HX3.out)).trans HX3.out
  obtain ⟨o0, o1, o2, o3, o4, o5, o6⟩ := cells6 hO4
  obtain ⟨y0, y1, y2, y3, y4, y5, y6⟩ := cells6 hX4
  have yf := frz6 hX4
  have hne14 : w1.heap.size ≠ w.heap.size := by have := HSZ.out; omega
  clear hg4 hb4 hO4 hX4 HC3
  go_wp2
  refine bodyPost_ret (v := .tuple #[.agg #[.int .i64 u0, .int .i64 u1, .bool u2, .string u3, .slice r1 r2 r3, .slice s1' s2' s3'], .int .i64 0]) (by simp [results, Try.results32, go_sem, y0, y1, y2, y3, y4, y5]) rfl ⟨_, rfl, ⟨_, _, _, _, _, _, _, _, _, _, rfl⟩, ?_, ?_⟩
  · have hz := HSZ.out
    refine HTF.out.move (by have := HB14.out.size; rw [size6]; exact this) fun k h1 h2 => ?_
    have h3 := oldB_no h2
    exact ⟨oldB_new (by omega), ((keep6 (P := fun k => k = w.heap.size) rfl).block k (by have := HB14.out.size; omega) (by omega)).trans (HB14.out.block k h1)⟩
  · have hk4 : Kept (fun k => k = rb) w w4 := HK1.out.trans (Kept.of_below HB14.out)
    exact (((((hk4.setNew (p := ⟨w.heap.size, 0, none⟩) (Nat.le_refl _) _).setNew (p := ⟨w.heap.size, 1, none⟩) (Nat.le_refl _) _).setNew (p := ⟨w.heap.size, 2, none⟩) (Nat.le_refl _) _).setNew (p := ⟨w.heap.size, 3, none⟩) (Nat.le_refl _) _).setNew (p := ⟨w.heap.size, 4, none⟩) (Nat.le_refl _) _).setNew (p := ⟨w.heap.size, 5, none⟩) (Nat.le_refl _) _

set_option maxRecDepth 100000 in
set_option maxHeartbeats 4000000 in
theorem ReadTerm_yes (t : Tm) (a : Option Addr) (cap : Nat) (w : World) (hB : BL w a (encT t)) (hcap : (encT t).length ≤ cap) (hcm : cap ≤ 9223372036854775807) (hc : checkT t = 0) (hl : (encT t).length ≤ 1000000) (hsm : smT 1000000 t) : Calls Try.prog 12 #[.slice a (encT t).length cap] w fun e w' => ∃ v', e = .returned (.tuple #[v', .int .i64 0]) ∧ ShapeT v' ∧ TV w' v' (cleanT t) ∧ RowKit.Below w.heap.size w w' := by
  have hnn : encT t ≠ [] := by
    cases t with
    | mk f n h nm ls ks => rw [encT_mk]; intro e; exact numB_ne _ (List.append_eq_nil_iff.1 e).1
  obtain ⟨b, off, rfl, hbw, -⟩ := hB.resolve_left hnn
  obtain ⟨W0, hW0⟩ : ∃ W0, (w.alloc (.cells #[.int .i64 0, .int .i64 0, .bool false, .string { data := #[] }, .slice none 0 0, .slice none 0 0] 25)).alloc (.cells #[.slice (some ⟨b, off, none⟩) (encT t).length cap, .int .i64 0] 60) = W0 := ⟨_, rfl⟩
  have hb : RowKit.Below w.heap.size w W0 := by rw [← hW0]; exact ((Below.refl _ _).alloc (Nat.le_refl _) _).alloc (by simp) _
  have HX0 : Hid (W0.heap[w.heap.size]? = some (.cells #[.int .i64 0, .int .i64 0, .bool false, .string { data := #[] }, .slice none 0 0, .slice none 0 0] 25 (0, 0))) := by unfold Hid; rw [← hW0]; exact box_at
  have hr0 : W0.heap[w.heap.size + 1]? = some (.cells #[.slice (some ⟨b, off, none⟩) (encT t).length cap, .int .i64 0] 60 (0, 0)) := by rw [← hW0]; exact box_at1
  have hR : RD W0 W0.heap.size (w.heap.size + 1) (encT t) 0 := ⟨heap_lt hr0, Nat.le_refl _, _, _, hr0, hB.below hb, hcap, hcm, fun ad e => by
    simp only [Option.some.injEq] at e
    subst e
    have := hb.size
    simp only
    omega, fun e => by cases e⟩
  have HC := read_yes (w.heap.size + 1) W0.heap.size t (some ⟨b, off, none⟩) cap W0 hR (hB.below hb) (fun ad e => by simp only [Option.some.injEq] at e; subst e; simp only; omega) hc hl hsm
  have HB0 := Hid.mk hb
  have HW0 := Hid.mk hW0
  clear hB hb hW0 hr0 hR
  go_enter Try.func12, Try.ntmps12
  go_wp2_with fail
  rw [HW0.out]
  refine HC.mono ?_
  rintro e w1 ⟨v1, rfl, ⟨u0, u1, u2, u3, r1, r2, r3, s1', s2', s3', rfl⟩, htf1, hk1⟩
  have hX1 := box6 HX0.out hk1 (by omega)
  have HB1 : Hid (RowKit.Below w.heap.size w w1) := HB0.out.trans (hk1.below HB0.out.size fun k hk => by omega)
  have HTF := Hid.mk htf1
  have hs1 := hk1.size
  have hs0 : w.heap.size < W0.heap.size := heap_lt HX0.out
  obtain ⟨y0, y1, y2, y3, y4, y5, y6⟩ := cells6 hX1
  have yf := frz6 hX1
  clear htf1 hk1 HC hX1
  go_wp2
  refine bodyPost_ret (v := .tuple #[.agg #[.int .i64 u0, .int .i64 u1, .bool u2, .string u3, .slice r1 r2 r3, .slice s1' s2' s3'], .int .i64 0]) (by simp [results, Try.results12, go_sem, y0, y1, y2, y3, y4, y5]) rfl ⟨_, rfl, ⟨_, _, _, _, _, _, _, _, _, _, rfl⟩, ?_, ?_⟩
  · refine (HTF.out.move (Q := fun _ => false) (by rw [size6]; exact Nat.le_refl _) fun k h1 h2 => ?_).tv
    have h3 := oldB_no h2
    exact ⟨rfl, (keep6 (P := fun k => k = w.heap.size) rfl).block k h1 (by omega)⟩
  · exact HB1.out.trans ((keep6 (P := fun k => k = w.heap.size) rfl).below HB1.out.size (fun k hk => by omega))
end Go.Proofs.Ytahacpbmoijicaa
