/- The contracts of the reference's Check, Size, Free, Has. -/
import Derived.Test.YtndjdeiccmhelaaGreatRT
import Derived.Test.YtndjdeiccmhelaaGreatRS
import Derived.Test.YtndjdeiccmhelaaGreatFA
import Derived.Test.YtndjdeiccmhelaaGreatWG
import Derived.Test.YtndjdeiccmhelaaGreatRA
import Derived.Test.YtndjdeiccmhelaaGreatWD
import Derived.Deep.AppendLies
namespace Go.Proofs.YtndjdeiccmhelaaGreat
open Go.RowKit Go.Sort

set_option maxRecDepth 100000 in
set_option maxHeartbeats 2000000 in
theorem rCheck_any (t : Tm) (v : Value) (w : World) (hv : TV w v t) (hsm : smT 1000000 t) : Calls Tryz.prog 64 #[v] w fun e w' => e = .returned (.int .i64 (checkT t)) ∧ RowKit.Below w.heap.size w w' := by
  have HC : Hid (checkT t = if sizeT t ≤ 20000 ∧ heightT t ≤ 500 then (if formedB t then 0 else 10) else 2) := rfl
  have HP := fun (W : World) (h : RowKit.Below w.heap.size w W) => parts_any t 20000 500 v W (by decide) (by decide) (hv.on h)
  have HF := fun (W : World) (h : RowKit.Below w.heap.size w W) => formed_any t v W hsm (hv.on h)
  have HPR : Hid (partsR t 20000 500 = if (sizeT t : Int) ≤ 20000 ∧ (heightT t : Int) ≤ 500 then ((sizeT t : Int), (heightT t : Int)) else (1073741824, 1073741824)) := rfl
  generalize partsR t 20000 500 = P at HP HPR
  generalize checkT t = R at HC ⊢
  obtain ⟨la, lc, ka, kc, rfl⟩ := hv.shape
  clear hv hsm
  generalize formedB t = F at *
  generalize sizeT t = S at *
  generalize heightT t = H at *
  generalize t.form = f at *
  generalize t.n = n at *
  generalize t.hid = hd at *
  generalize t.name = nm at *
  generalize t.levels.length = l1 at *
  generalize t.kids.length = k1 at *
  have HG := fun (a : Obj) => (Below.refl w.heap.size w).alloc (Nat.le_refl _) a
  by_cases hc : S ≤ 20000 ∧ H ≤ 500
  · have hP : P = ((S : Int), (H : Int)) := by rw [HPR.out, if_pos (by omega)]
    subst hP
    have HC2 : Hid (R = if F then 0 else 10) := by unfold Hid; rw [HC.out, if_pos hc]
    obtain ⟨hc1, hc2⟩ := hc
    have g1 : ¬ (S : Int) > 20000 := by omega
    have g2 : ¬ (H : Int) > 500 := by omega
    clear HC HPR
    go_enter Tryz.func64, Tryz.ntmps64
    go_wp2_with fail
    refine (HP _ (HG _)).mono ?_
    rintro e w1 ⟨rfl, hg1⟩
    have hb1 := hg1.below
    obtain ⟨x0, x1, x2, x3, x4, x5, x6⟩ := cells6 ((hb1.block w.heap.size (by simp)).trans (alloc_new _ _))
    have HB1 : Hid (RowKit.Below w.heap.size w w1) := (HG _).trans (hb1.mono (by simp))
    clear hg1 hb1
    go_wp2_with fail
    refine (HF _ HB1.out).mono ?_
    rintro e w2 ⟨rfl, hb2⟩
    cases F
    all_goals
      go_wp2
      go_ret
      exact ⟨by rw [HC2.out]; rfl, HB1.out.trans (hb2.mono HB1.out.size)⟩
  · have hP : P = (1073741824, 1073741824) := by rw [HPR.out, if_neg (by omega)]
    subst hP
    have HC2 : Hid (R = 2) := by unfold Hid; rw [HC.out, if_neg hc]
    clear HC HPR hc
    go_enter Tryz.func64, Tryz.ntmps64
    go_wp2_with fail
    refine (HP _ (HG _)).mono ?_
    rintro e w1 ⟨rfl, hg1⟩
    go_wp2
    go_ret
    exact ⟨by rw [HC2.out]; rfl, (HG _).trans (hg1.below.mono (by simp))⟩

end Go.Proofs.YtndjdeiccmhelaaGreat

/- The contract of term.walk at terms, for every visit. -/
namespace Go.Proofs.YtndjdeiccmhelaaGreat
open Go.RowKit Go.Sort

/-- a value that looks like a term -/
def ShapeT (v : Value) : Prop := ∃ (v0 v1 : Int) (v2 : Bool) (v3 : ByteArray) (l1 : Option Addr) (l2 l3 : Nat) (k1 : Option Addr) (k2 k3 : Nat), v = .agg #[.int .i64 v0, .int .i64 v1, .bool v2, .string v3, .slice l1 l2 l3, .slice k1 k2 k3]

theorem keep6 {P : Nat → Prop} {w : World} {b : Nat} {a0 a1 a2 a3 a4 a5 : Value} (hb : P b) : Kept P w ((((((w.setCell ⟨b, 0, none⟩ a0).setCell ⟨b, 1, none⟩ a1).setCell ⟨b, 2, none⟩ a2).setCell ⟨b, 3, none⟩ a3).setCell ⟨b, 4, none⟩ a4).setCell ⟨b, 5, none⟩ a5) :=
  ((((((Kept.refl P w).setCell (p := ⟨b, 0, none⟩) hb _).setCell (p := ⟨b, 1, none⟩) hb _).setCell (p := ⟨b, 2, none⟩) hb _).setCell (p := ⟨b, 3, none⟩) hb _).setCell (p := ⟨b, 4, none⟩) hb _).setCell (p := ⟨b, 5, none⟩) hb _

end Go.Proofs.YtndjdeiccmhelaaGreat

/- The contract of telamonref1.lift. -/
namespace Go.Proofs.YtndjdeiccmhelaaGreat
open Go.RowKit Go.Sort

theorem TF.sub {w : World} {P Q : Nat → Bool} {v : Value} {t : Tm} (h : TF w P v t) (hPQ : ∀ k, P k = false → Q k = false) : TF w Q v t := h.move (Nat.le_refl _) fun k _ hp => ⟨hPQ k hp, rfl⟩

theorem row_block {w : World} {B cap n : Nat} {a : Option Addr} {xs : List Value} (h : w.ownsRow B 38 6 (.slice a n cap) n xs) {k : Nat} (hk : ownB a k = true) : B ≤ k ∧ k < w.heap.size := by
  cases a with
  | none => simp [ownB] at hk
  | some ad =>
    obtain ⟨_, _, e, -, -, -, hg⟩ := owns_shape h
    simp only [Value.slice.injEq, true_and] at e
    obtain ⟨rfl, rfl⟩ := e
    obtain ⟨g, rfl, h1, h2⟩ := hg ad rfl
    simp [ownB] at hk
    omega

end Go.Proofs.YtndjdeiccmhelaaGreat

/- The reference's lift and Clean as plain data: what they make is what the code makes. -/
namespace Go.Proofs.YtndjdeiccmhelaaGreat
open Go.RowKit Go.Sort

mutual
/-- a term with zero in each field that its form does not have -/
def cleanT : Tm → Tm
  | .mk f n h nm ls ks => .mk f (if f = 1 ∨ f = 11 then n else 0) (if f = 3 ∨ f = 4 ∨ f = 5 then h else false) (if f = 10 then nm else ByteArray.empty) (if f = 2 ∨ f = 10 then ls else []) (cleanTs ks)
def cleanTs : List Tm → List Tm
  | [] => []
  | k :: ks => cleanT k :: cleanTs ks
end
theorem cleanTs_map : ∀ ks : List Tm, cleanTs ks = ks.map cleanT
  | [] => by rw [cleanTs]; rfl
  | k :: ks => by rw [cleanTs, cleanTs_map ks]; rfl

theorem clean_mk (f n : Int) (h : Bool) (nm : ByteArray) (ls : List LvT) (ks : List Tm) : cleanT (.mk f n h nm ls ks) = .mk f (if f = 1 ∨ f = 11 then n else 0) (if f = 3 ∨ f = 4 ∨ f = 5 then h else false) (if f = 10 then nm else ByteArray.empty) (if f = 2 ∨ f = 10 then ls else []) (ks.map cleanT) := by rw [cleanT, cleanTs_map]

theorem clean_form (t : Tm) : (cleanT t).form = t.form := by cases t; rw [clean_mk]; rfl

theorem clean_size (t : Tm) : sizeT (cleanT t) = sizeT t := by
  refine Tm.ind (P := fun t => sizeT (cleanT t) = sizeT t) ?_ t
  intro f n hd nm ls ks ih
  rw [clean_mk, sizeT_mk, sizeT_mk, List.map_map]
  congr 2
  exact List.map_congr_left fun k hk => ih k hk

theorem clean_high (t : Tm) : heightT (cleanT t) = heightT t := by
  refine Tm.ind (P := fun t => heightT (cleanT t) = heightT t) ?_ t
  intro f n hd nm ls ks ih
  rw [clean_mk, heightT_mk, heightT_mk, List.map_map]
  congr 2
  exact List.map_congr_left fun k hk => ih k hk

theorem clean_fields (t : Tm) : fieldsB (cleanT t) = fieldsB t := by
  cases t with
  | mk f n h nm ls ks =>
    rw [clean_mk]
    unfold fieldsB
    by_cases h1 : f = 1 ∨ f = 11
    · simp only [h1, if_true]
    · by_cases h7 : f = 7
      · subst h7
        simp only [h1, if_false, if_true]
        cases ks with
        | nil => rfl
        | cons k ks => simp only [List.map_cons]; rw [clean_form]
      · by_cases h2 : f = 2
        · subst h2; simp
        · by_cases h10 : f = 10
          · subst h10; simp
          · simp only [h1, h7, h2, h10, if_false, or_self]

theorem clean_formed (t : Tm) : formedB (cleanT t) = formedB t := by
  refine Tm.ind (P := fun t => formedB (cleanT t) = formedB t) ?_ t
  intro f n hd nm ls ks ih
  have hf := clean_fields (.mk f n hd nm ls ks)
  rw [clean_mk] at hf ⊢
  rw [formedB_mk, formedB_mk]
  unfold judB
  rw [hf]
  congr 1
  · simp only [Tm.kids, Tm.form, List.length_map]
    first | rfl | congr
  · rw [List.all_map]
    clear hf
    induction ks with
    | nil => rfl
    | cons k ks ihk => simp only [List.all_cons, Function.comp]; rw [ih k (by simp), ihk (fun k' hk' => ih k' (by simp [hk']))]

theorem clean_check (t : Tm) : checkT (cleanT t) = checkT t := by
  unfold checkT; rw [clean_size, clean_high, clean_formed]

theorem smT_clean (m : Nat) (t : Tm) : smT m t → smT m (cleanT t) := by
  refine Tm.ind (P := fun t => smT m t → smT m (cleanT t)) ?_ t
  intro f n hd nm ls ks ih h
  obtain ⟨h1, h2, h3, h4, h5⟩ := (smT_mk _ _ _ _ _ _ _).1 h
  rw [clean_mk, smT_mk]
  refine ⟨?_, ?_, ?_, by simpa using h4, fun k hk => ?_⟩
  · split
    · exact h1
    · exact Nat.zero_le _
  · split
    · exact h2
    · exact Nat.zero_le _
  · intro l hl
    split at hl
    · exact h3 l hl
    · simp at hl
  · obtain ⟨k', hk', rfl⟩ := List.mem_map.1 hk
    exact ih k' hk' (h5 k' hk')

end Go.Proofs.YtndjdeiccmhelaaGreat

/- The contracts of the small terms of the laws: Var, Set, Const, Lam, App. -/
namespace Go.Proofs.YtndjdeiccmhelaaGreat
open Go.RowKit Go.Sort

theorem TV.leaf {w : World} (f n : Int) (h : Bool) (nm : ByteArray) : TV w (.agg #[.int .i64 f, .int .i64 n, .bool h, .string nm, .slice none 0 0, .slice none 0 0]) (.mk f n h nm [] []) :=
  TV.mk (kb := 0) (ko := 0) (ls := []) (ks := []) (Or.inl rfl) (fun _ => rfl) (Nat.le_refl _) (by omega) (fun _ => rfl) (Nat.le_refl _) (by omega) (fun h => absurd rfl h) (fun i t hi => by simp at hi)

theorem TV.two {w : World} {b : Nat} {f : Int} {va vb : Value} {x y : Tm} {a0 a1 a2 a3 a4 a5 b0 b1 b2 b3 b4 b5 : Value} (hva : va = .agg #[a0, a1, a2, a3, a4, a5]) (hvb : vb = .agg #[b0, b1, b2, b3, b4, b5]) (hx : TV w va x) (hy : TV w vb y) (hb : w.heap[b]? = some (.cells #[a0, a1, a2, a3, a4, a5, b0, b1, b2, b3, b4, b5] 38 (0, 0))) : TV w (.agg #[.int .i64 f, .int .i64 0, .bool false, .string { data := #[] }, .slice none 0 0, .slice (some ⟨b, 0, none⟩) 2 2]) (.mk f 0 false { data := #[] } [] [x, y]) := by
  subst hva hvb
  refine TV.mk (kb := b) (ko := 0) (ls := []) (ks := [x, y]) (Or.inl rfl) (fun _ => rfl) (Nat.le_refl _) (by omega) (fun e => by cases e) (Nat.le_refl _) (by omega) (fun _ => ⟨rfl, heap_lt hb⟩) (fun i t hi => ?_)
  have hc : ∀ o v, #[a0, a1, a2, a3, a4, a5, b0, b1, b2, b3, b4, b5][o]? = some v → w.cell? ⟨b, o, none⟩ = some v := fun o v h => by rw [cell_of_row _ b o _ _ _ hb]; exact h
  match i with
  | 0 =>
    simp at hi
    subst hi
    cases hx with
    | mk hl hln hlc hlm hkn hkc hkm hk kids => exact TC.mk (hc 0 _ rfl) (hc 1 _ rfl) (hc 2 _ rfl) (hc 3 _ rfl) (hc 4 _ rfl) (hc 5 _ rfl) hl hln hlc hlm hkn hkc hkm hk kids
  | 1 =>
    simp at hi
    subst hi
    cases hy with
    | mk hl hln hlc hlm hkn hkc hkm hk kids => exact TC.mk (hc 6 _ rfl) (hc 7 _ rfl) (hc 8 _ rfl) (hc 9 _ rfl) (hc 10 _ rfl) (hc 11 _ rfl) hl hln hlc hlm hkn hkc hkm hk kids
  | i + 2 => simp at hi

theorem TV.shapeT {w : World} {v : Value} {t : Tm} (h : TV w v t) : ShapeT v := by
  cases h with
  | mk => exact ⟨_, _, _, _, _, _, _, _, _, _, rfl⟩

set_option maxRecDepth 100000 in
set_option maxHeartbeats 1000000 in
theorem Var_any (n : Int) (w : World) : Calls Tryz.prog 28 #[.int .i64 n] w fun e w' => ∃ v, e = .returned v ∧ TV w' v (.mk 1 n false { data := #[] } [] []) ∧ RowKit.Below w.heap.size w w' := by
  go_enter Tryz.func28, Tryz.ntmps28
  go_wp2
  exact bodyPost_ret (v := .agg #[.int .i64 1, .int .i64 n, .bool false, .string { data := #[] }, .slice none 0 0, .slice none 0 0]) (by simp [results, Tryz.results28, go_sem]) rfl ⟨_, rfl, TV.leaf _ _ _ _, (Below.refl _ _).alloc (Nat.le_refl _) _⟩

set_option maxRecDepth 100000 in
set_option maxHeartbeats 1000000 in
theorem Set_any (n : Int) (w : World) : Calls Tryz.prog 27 #[.int .i64 n] w fun e w' => ∃ v, e = .returned v ∧ TV w' v (.mk 2 0 false { data := #[] } [(n, [])] []) ∧ RowKit.Below w.heap.size w w' := by
  go_enter Tryz.func27, Tryz.ntmps27
  go_wp2
  refine bodyPost_ret (v := .agg #[.int .i64 2, .int .i64 0, .bool false, .string { data := #[] }, .slice (some ⟨w.heap.size + 1, 0, none⟩) 1 1, .slice none 0 0]) (by simp [results, Tryz.results27, go_sem]) rfl ⟨_, rfl, ?_, ?_⟩
  · refine TV.mk (kb := 0) (ko := 0) (ls := [(n, [])]) (ks := []) (Or.inr ⟨w.heap.size + 1, 0, rfl, by simp, fun i m xs hi => ?_⟩) (fun e => by cases e) (Nat.le_refl _) (by simp) (fun _ => rfl) (Nat.le_refl _) (by omega) (fun h => absurd rfl h) (fun i t hi => by simp at hi)
    match i with
    | 0 =>
      simp at hi
      obtain ⟨rfl, rfl⟩ := hi
      obtain ⟨c0, c1, -⟩ := cells2 (box_at1 (w := w) (o := _) (p := .cells #[.int .i64 n, .slice none 0 0] 105))
      exact ⟨c0, none, 0, c1, Or.inl rfl, fun _ => rfl⟩
    | i + 1 => simp at hi
  · exact ((Below.refl w.heap.size w).alloc (Nat.le_refl _) _).alloc (by simp) _

set_option maxRecDepth 100000 in
set_option maxHeartbeats 1000000 in
theorem Lam_any (va vb : Value) (x y : Tm) (w : World) (hx : TV w va x) (hy : TV w vb y) : Calls Tryz.prog 26 #[va, vb] w fun e w' => ∃ v, e = .returned v ∧ TV w' v (.mk 4 0 false { data := #[] } [] [x, y]) ∧ RowKit.Below w.heap.size w w' := by
  have HX := Hid.mk hx
  have HY := Hid.mk hy
  obtain ⟨a0, a1, a2, a3, a4, a5, a6, a7, a8, a9, rfl⟩ := hx.shapeT
  obtain ⟨b0, b1, b2, b3, b4, b5, b6, b7, b8, b9, rfl⟩ := hy.shapeT
  clear hx hy
  go_enter Tryz.func26, Tryz.ntmps26
  go_wp2
  have HB := fun (a b c d : Obj) => ((((Below.refl w.heap.size w).alloc (Nat.le_refl _) a).alloc (by simp) b).alloc (by simp; omega) c).alloc (by simp; omega) d
  refine bodyPost_ret (v := .agg #[.int .i64 4, .int .i64 0, .bool false, .string { data := #[] }, .slice none 0 0, .slice (some ⟨w.heap.size + 1 + 1 + 1, 0, none⟩) 2 2]) (by simp [results, Tryz.results26, go_sem]) rfl ⟨_, rfl, TV.two rfl rfl (HX.out.on (HB _ _ _ _)) (HY.out.on (HB _ _ _ _)) new3, HB _ _ _ _⟩

end Go.Proofs.YtndjdeiccmhelaaGreat
