/- The contracts of caught, read and ReadTerm of package bytes, where what is read was written. -/
import Derived.Test.YtndjdeiccmhelaaGreatEN
import Derived.Recover
import Derived.Defers
import Derived.Test.YtndjdeiccmhelaaGreatOL
import Derived.Test.YtndjdeiccmhelaaGreatTH
namespace Go.Proofs.YtndjdeiccmhelaaGreat
open Go.RowKit Go.Sort Go.Lib

theorem BL.at {w : World} {a : Option Addr} {bs : List UInt8} (h : BL w a bs) {k : Nat} (hk : k < bs.length) : ∃ b off, a = some ⟨b, off, none⟩ ∧ b < w.heap.size ∧ w.cell? ⟨b, off + k, none⟩ = some (.int .u8 (bs[k].toNat : Int)) := by
  rcases h with h | ⟨b, off, ha, hlt, hc⟩
  · subst h; simp at hk
  · exact ⟨b, off, ha, hlt, hc k hk⟩

theorem take_eqB {xs ys : List UInt8} {k : Nat} (h1 : k < xs.length) (h2 : k < ys.length) (h : xs.take k = ys.take k) (he : xs[k] = ys[k]) : xs.take (k + 1) = ys.take (k + 1) := by
  rw [List.take_succ_eq_append_getElem h1, List.take_succ_eq_append_getElem h2, h, he]

set_option maxRecDepth 100000 in
set_option maxHeartbeats 4000000 in
theorem EqualB_any (xs ys : List UInt8) (aa ab : Option Addr) (ca cb : Nat) (w : World) (hSa : BL w aa xs) (hSb : BL w ab ys) (hxn : xs.length ≤ 4398046511104) :
    Calls Tryz.prog 67 #[.slice aa xs.length ca, .slice ab ys.length cb] w fun e w' => e = .returned (.bool (decide (xs = ys))) ∧ Grew w w' := by
  have HSa := Hid.mk hSa
  have HSb := Hid.mk hSb
  have mx := mixed
  clear hSa hSb
  by_cases hL : xs.length = ys.length
  · have hL' : ((xs.length : Int) != (ys.length : Int)) = false := by simp [hL]
    have HL := Hid.mk hL
    clear hL
    go_enter Tryz.func67, Tryz.ntmps67
    go_wp2
    go_loopw [13] (fun i wr => ∃ k : Nat, k ≤ xs.length ∧ i = .int .i64 k ∧ Grew w wr ∧ xs.take k = ys.take k) (fun i _ => xs.length - (intOf i).toNat)
    case atStart => exact ⟨0, Nat.zero_le _, rfl, Grew.refl _, rfl⟩
    case round =>
      obtain ⟨k, hk, rfl, hb, htk⟩ := hrel
      have HT := Hid.mk htk
      clear htk
      by_cases hlt : k < xs.length
      · have hlt2 : k < ys.length := by have := HL.out; omega
        obtain ⟨b, off, rfl, hbl, hc0⟩ := (HSa.out.below hb.below).at hlt
        obtain ⟨b', off', rfl, hbl', hc0'⟩ := (HSb.out.below hb.below).at hlt2
        have z1 : (k : Int) < (xs.length : Int) := by omega
        have z2 : (k : Int) < (ys.length : Int) := by omega
        by_cases he : xs[k] = ys[k]
        · have HE := Hid.mk (take_eqB hlt hlt2 HT.out he)
          rw [he] at hc0
          generalize ys[k] = y at *
          clear he
          go_wp2_with fail
          go_quiet (fail)
          go_wp2
          refine ⟨⟨k + 1, hlt, by go_num, hb.drewN _, HE.out⟩, by simp [intOf]; omega⟩
        · have HE : Hid (decide (xs = ys) = false) := by
            unfold Hid; rw [decide_eq_false_iff_not]; intro e; subst e; exact he rfl
          have hne : (((xs[k].toNat : Nat) : Int) != ((ys[k].toNat : Nat) : Int)) = true := by
            rw [bne_iff_ne]; intro e; exact he (UInt8.toNat_inj.1 (by omega))
          generalize xs[k] = x at *
          generalize ys[k] = y at *
          clear he
          go_wp2_with fail
          go_quiet (fail)
          go_wp2
          go_ret
          exact ⟨by rw [HE.out]; rfl, hb.drewN _⟩
      · have HE : Hid (decide (xs = ys) = true) := by
          have h1 : xs.take k = xs := List.take_of_length_le (by omega)
          have h2 : ys.take k = ys := List.take_of_length_le (by have := HL.out; omega)
          have h3 := HT.out
          rw [h1, h2] at h3
          unfold Hid; simp [h3]
        go_wp2
        go_ret
        exact ⟨by rw [HE.out]; rfl, hb⟩
  · have hL' : ((xs.length : Int) != (ys.length : Int)) = true := by simp; omega
    have HE : Hid (decide (xs = ys) = false) := by
      unfold Hid; rw [decide_eq_false_iff_not]; intro e; subst e; exact hL rfl
    clear hL
    go_enter Tryz.func67, Tryz.ntmps67
    go_wp2
    go_ret
    exact ⟨by rw [HE.out]; rfl, Grew.refl _⟩

theorem fieldB_clean (f n : Int) (h : Bool) (nm : ByteArray) (ls : List LvT) : fieldB f (if f = 1 ∨ f = 11 then n else 0) (if f = 3 ∨ f = 4 ∨ f = 5 then h else false) (if f = 10 then nm else ByteArray.empty) (if f = 2 ∨ f = 10 then ls else []) = fieldB f n h nm ls := by
  unfold fieldB
  split
  · rfl
  · split
    · rfl
    · split
      · rename_i h3; rw [if_pos (Or.inr h3)]
      · split
        · rename_i h4; rw [if_pos (Or.inl h4)]
        · rfl

theorem enc_clean (t : Tm) : encT (cleanT t) = encT t := by
  refine Tm.ind (P := fun t => encT (cleanT t) = encT t) ?_ t
  intro f n hd nm ls ks ih
  rw [clean_mk, encT_mk, encT_mk, fieldB_clean, List.flatMap_map]
  have h : ∀ l : List Tm, (∀ k ∈ l, encT (cleanT k) = encT k) → l.flatMap (fun x => encT (cleanT x)) = l.flatMap encT := by
    intro l
    induction l with
    | nil => intro _; rfl
    | cons k l ihl => intro h; rw [List.flatMap_cons, List.flatMap_cons, h k (by simp), ihl fun x hx => h x (by simp [hx])]
  rw [h ks ih]

end Go.Proofs.YtndjdeiccmhelaaGreat

/- The document's examples of terms, as plain data. -/
namespace Go.Proofs.YtndjdeiccmhelaaGreat
open Go.RowKit Go.Sort

def tVar (n : Int) : Tm := .mk 1 n false { data := #[] } [] []
def tSet (n : Int) : Tm := .mk 2 0 false { data := #[] } [(n, [])] []
def tLam (x y : Tm) : Tm := .mk 4 0 false { data := #[] } [] [x, y]
theorem norm00 : normR 0 [] = (0, [], 0) := by
  simp [normR, rightB, inR, canonR, tidyL_nil, nOf]

theorem canon00 : canonB (0, []) = true := by
  simp [canonB, norm00, exactB]

theorem check_mk {t : Tm} (h1 : sizeT t ≤ 20000) (h2 : heightT t ≤ 500) (h3 : formedB t = true) : checkT t = 0 := by
  unfold checkT; rw [if_pos ⟨h1, h2⟩, if_pos h3]

theorem formed_var (n : Int) (h0 : 0 ≤ n) (h1 : n ≤ 1073741824) : formedB (tVar n) = true := by
  simp [tVar, formedB_mk, judB, kidsR, fieldsB, Tm.kids, Tm.form, h0, h1]
theorem formed_set : formedB (tSet 0) = true := by
  simp [tSet, formedB_mk, judB, kidsR, fieldsB, Tm.kids, Tm.form, canon00]
theorem formed_lam {x y : Tm} (hx : formedB x = true) (hy : formedB y = true) : formedB (tLam x y) = true := by
  simp [tLam, formedB_mk, judB, kidsR, fieldsB, Tm.kids, Tm.form, hx, hy]
theorem size_leaf (f n : Int) (h : Bool) (nm : ByteArray) (ls : List LvT) : sizeT (.mk f n h nm ls []) = 1 := by simp [sizeT_mk]
theorem high_leaf (f n : Int) (h : Bool) (nm : ByteArray) (ls : List LvT) : heightT (.mk f n h nm ls []) = 1 := by simp [heightT_mk]
theorem size_two (f n : Int) (h : Bool) (nm : ByteArray) (ls : List LvT) (x y : Tm) : sizeT (.mk f n h nm ls [x, y]) = 1 + sizeT x + sizeT y := by simp [sizeT_mk]; omega
theorem high_two (f n : Int) (h : Bool) (nm : ByteArray) (ls : List LvT) (x y : Tm) : heightT (.mk f n h nm ls [x, y]) = 1 + max (heightT x) (heightT y) := by simp [heightT_mk]

theorem sm_leaf (f n : Int) (h : Bool) (nm : ByteArray) (ls : List LvT) (h1 : nm.size ≤ 1000000) (h2 : ls.length ≤ 1000000) (h3 : ∀ l ∈ ls, l.2.length ≤ 1000000) : smT 1000000 (.mk f n h nm ls []) := by
  rw [smT_mk]; exact ⟨h1, h2, h3, by simp, by simp⟩
theorem sm_two (f n : Int) (h : Bool) (x y : Tm) (hx : smT 1000000 x) (hy : smT 1000000 y) : smT 1000000 (.mk f n h { data := #[] } [] [x, y]) := by
  rw [smT_mk]; exact ⟨by decide, by simp, by simp, by simp, by simp [hx, hy]⟩

end Go.Proofs.YtndjdeiccmhelaaGreat

/- The contract of telamonlaw2.alive. -/
namespace Go.Proofs.YtndjdeiccmhelaaGreat
open Go.RowKit Go.Sort

theorem sm_set : smT 1000000 (tSet 0) := sm_leaf _ _ _ _ _ (by decide) (by simp) (by simp)
theorem sm_var (n : Int) : smT 1000000 (tVar n) := sm_leaf _ _ _ _ _ (by decide) (by simp) (by simp)

theorem Exactly_exa (va vb : Value) (t : Tm) (w : World) (hs : smT 1000000 t) (ha : TV w va t) (hb : TV w vb t) : Calls Tryz.prog 39 #[va, vb] w fun e w' => e = .returned (.bool true) ∧ RowKit.Below w.heap.size w w' :=
  (Exactly_same t va vb w (smT_lv _ _ hs) ha hb).mono fun _ _ ⟨h1, h2⟩ => ⟨h1, h2.below⟩

end Go.Proofs.YtndjdeiccmhelaaGreat

/- The document's example of chapter 3: alive. -/
namespace Go.Proofs.YtndjdeiccmhelaaGreat
open Go.RowKit Go.Sort Go.Lib

theorem enc_ex : encT (tLam (tSet 0) (tVar 0)) = [4, 0, 2, 0, 0, 1, 0] := by
  unfold tLam tSet tVar
  rw [encT_mk]
  simp only [List.flatMap_cons, List.flatMap_nil, encT_mk]
  unfold fieldB levB
  simp [numB_small]

theorem res_ex : termRes (tLam (tSet 0) (tVar 0)) = .ok [4, 0, 2, 0, 0, 1, 0] := by
  have hc : checkT (tLam (tSet 0) (tVar 0)) = 0 := by
    refine check_mk ?_ ?_ (formed_lam formed_set (formed_var 0 (by omega) (by omega)))
    · unfold tLam tSet tVar; rw [size_two, size_leaf, size_leaf]; omega
    · unfold tLam tSet tVar; rw [high_two, high_leaf, high_leaf]; simp
  unfold termRes
  rw [hc, enc_ex]
  rfl

theorem num3_any (k : Int) (w : World) : Calls Tryz.prog 10 #[.int .i64 k] w fun e w' => e = .returned (.int .i64 k) ∧ w' = w := by
  go_enter Tryz.func10, Tryz.ntmps10
  go_wp2
  go_ret
  exact ⟨rfl, rfl⟩

/-- string(b) of bytes in memory -/
theorem string_of {w : World} {a : Option Addr} {cap : Nat} {bs : List UInt8} (h : BL w a bs) (hn : a = none → cap = 0) : Sem.run Tryz.prog (convert 25 9 (.slice a bs.length cap)) w = .ok (.string ⟨bs.toArray⟩) w := by
  cases a with
  | none =>
    have hb : bs = [] := by
      rcases h with h | ⟨b, off, e, -⟩
      · exact h
      · cases e
    subst hb
    rw [hn rfl]
    show Sem.run Tryz.prog (convert 25 9 (.slice none 0 0)) w = _
    rw [run_convert_bytes_string w 25 9 5 none 0 0 Tryz.underlying25 Tryz.underlying5 Tryz.underlying9]
    rfl
  | some ad => exact run_convert_bytes_back (P := Tryz.prog) w 25 9 5 ad cap bs Tryz.underlying25 Tryz.underlying5 Tryz.underlying9 (fun j hj => h.flat j _ (by simp [flatB, hj]))

set_option maxRecDepth 100000 in
set_option maxHeartbeats 4000000 in
theorem alive3_any (w : World) : Calls Tryz.prog 6 #[] w fun e w' => e = .returned (.bool true) ∧ RowKit.Below w.heap.size w w' := by
  have HS := Set_any 0 w
  go_enter Tryz.func6, Tryz.ntmps6
  go_wp2_with fail
  refine HS.mono ?_
  rintro e w1 ⟨v1, rfl, ht1, hb1⟩
  have HV := Var_any 0 w1
  have HT1 := Hid.mk ht1
  have HB1 := Hid.mk hb1
  clear ht1 hb1 HS
  go_wp2_with fail
  refine HV.mono ?_
  rintro e w2 ⟨v2, rfl, ht2, hb2⟩
  have HL := Lam_any v1 v2 _ _ w2 (HT1.out.on hb2) ht2
  have HB2 : Hid (RowKit.Below w.heap.size w w2) := HB1.out.trans (hb2.mono HB1.out.size)
  clear ht2 hb2 HV
  go_wp2_with fail
  refine HL.mono ?_
  rintro e w3 ⟨v3, rfl, ht3, hb3⟩
  have HC := BTerm_any (tLam (tSet 0) (tVar 0)) v3 w3 ht3 (sm_two _ _ _ _ _ sm_set (sm_var 0))
  rw [res_ex] at HC
  have HB3 : Hid (RowKit.Below w.heap.size w w3) := HB2.out.trans (hb3.mono HB2.out.size)
  clear ht3 hb3 HL
  go_wp2_with fail
  refine HC.mono ?_
  rintro e w4 ⟨⟨v4, rfl, hO4⟩, hb4⟩
  obtain ⟨a4, c4, rfl, hbl, -, -, hn4, -⟩ := hO4.shape
  have hconv : Sem.run Tryz.prog (convert 25 9 (.slice a4 7 c4)) w4 = _ := string_of hbl hn4
  have HB4 : Hid (RowKit.Below w.heap.size w w4) := HB3.out.trans (hb4.mono HB3.out.size)
  clear hO4 hb4 hbl hn4 HC
  go_wp2_with (go_at_call 10; refine (num3_any _ _).mono ?_; rintro e w' ⟨rfl, rfl⟩)
  go_ret
  exact ⟨rfl, HB4.out⟩
end Go.Proofs.YtndjdeiccmhelaaGreat
