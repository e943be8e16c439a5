/- The contract of telamonref1.lift. -/
import Derived.Test.YtbgkeomlfdmkeaaFA
import Derived.Test.YtbgkeomlfdmkeaaCA
namespace Go.Proofs.Ytbgkeomlfdmkeaa
open Go.RowKit Go.Sort

mutual
/-- the reference's lift, as plain data -/
def rliftT (by_ : Int) : Tm → Int → Tm
  | .mk f n h nm ls ks, fr => if f = 1 ∧ fr ≤ n then .mk f (n + by_) h nm ls ks else .mk f n h nm ls (rliftTs by_ f ks 0 fr)
def rliftTs (by_ f : Int) : List Tm → Nat → Int → List Tm
  | [], _, _ => []
  | k :: ks, i, fr => rliftT by_ k (deepR f fr i) :: rliftTs by_ f ks (i + 1) fr
end

theorem rliftTs_len (by_ f : Int) : ∀ (ks : List Tm) (i : Nat) (fr : Int), (rliftTs by_ f ks i fr).length = ks.length
  | [], _, _ => by rw [rliftTs]
  | k :: ks, i, fr => by rw [rliftTs, List.length_cons, rliftTs_len by_ f ks, List.length_cons]

theorem rliftTs_append (by_ f : Int) : ∀ (xs ys : List Tm) (i : Nat) (fr : Int), rliftTs by_ f (xs ++ ys) i fr = rliftTs by_ f xs i fr ++ rliftTs by_ f ys (i + xs.length) fr
  | [], ys, i, fr => by simp [rliftTs]
  | x :: xs, ys, i, fr => by
    rw [List.cons_append, rliftTs, rliftTs, rliftTs_append by_ f xs ys (i + 1) fr, List.length_cons, show i + 1 + xs.length = i + (xs.length + 1) by omega]; rfl

theorem rliftTs_take {by_ f : Int} {ks : List Tm} {j : Nat} {k : Tm} {fr : Int} (h : ks[j]? = some k) : rliftTs by_ f (ks.take (j + 1)) 0 fr = rliftTs by_ f (ks.take j) 0 fr ++ [rliftT by_ k (deepR f fr j)] := by
  obtain ⟨hj, rfl⟩ := List.getElem?_eq_some_iff.1 h
  rw [List.take_succ_eq_append_getElem hj, rliftTs_append, List.length_take, Nat.min_eq_left (Nat.le_of_lt hj), Nat.zero_add, rliftTs, rliftTs]

/-- the blocks that a call writes itself, besides those of P -/
def andXY (P : Nat → Bool) (X : Nat) (k : Nat) : Bool := P k || (k == X || k == X + 1)

theorem andXY_old {P : Nat → Bool} {X k : Nat} (h : P k = false) (hk : k < X) : andXY P X k = false := by
  unfold andXY; rw [h]; simp; omega
theorem andXY_new {P : Nat → Bool} {X : Nat} (hP : ∀ k, X ≤ k → P k = false) (k : Nat) (hk : X + 2 ≤ k) : andXY P X k = false := by
  unfold andXY; rw [hP k (by omega)]; simp; omega

theorem TF.sub {w : World} {P Q : Nat → Bool} {v : Value} {t : Tm} (h : TF w P v t) (hPQ : ∀ k, P k = false → Q k = false) : TF w Q v t := h.move (Nat.le_refl _) fun k _ hp => ⟨hPQ k hp, rfl⟩

/-- a kid of a term with a footprint, in a later world -/
theorem kid_tf {w w' : World} {P Q : Nat → Bool} {kb o : Nat} {t : Tm} (h : TC (maskB P w) kb o t) (hs : w.heap.size ≤ w'.heap.size) (hk : ∀ k, k < w.heap.size → P k = false → Q k = false ∧ w'.heap[k]? = w.heap[k]?) : ∃ (v0 v1 : Int) (v2 : Bool) (v3 : ByteArray) (l1 : Option Addr) (l2 l3 : Nat) (k1 : Option Addr) (k2 k3 : Nat), w'.cell? ⟨kb, o, none⟩ = some (.int .i64 v0) ∧ w'.cell? ⟨kb, o + 1, none⟩ = some (.int .i64 v1) ∧ w'.cell? ⟨kb, o + 2, none⟩ = some (.bool v2) ∧ w'.cell? ⟨kb, o + 3, none⟩ = some (.string v3) ∧ w'.cell? ⟨kb, o + 4, none⟩ = some (.slice l1 l2 l3) ∧ w'.cell? ⟨kb, o + 5, none⟩ = some (.slice k1 k2 k3) ∧ TF w' Q (.agg #[.int .i64 v0, .int .i64 v1, .bool v2, .string v3, .slice l1 l2 l3, .slice k1 k2 k3]) t := by
  have h' : TC (maskB Q w') kb o t := h.subF (by rw [maskB_size, maskB_size]; exact hs) (maskB_keeps hk)
  obtain ⟨v0, v1, v2, v3, l1, l2, l3, k1, k2, k3, c0, c1, c2, c3, c4, c5, hv⟩ := h'.valE
  exact ⟨v0, v1, v2, v3, l1, l2, l3, k1, k2, k3, (maskB_cell c0).2, (maskB_cell c1).2, (maskB_cell c2).2, (maskB_cell c3).2, (maskB_cell c4).2, (maskB_cell c5).2, hv⟩

theorem TF.setN {w : World} {P : Nat → Bool} {f n n' : Int} {h : Bool} {nm : ByteArray} {lv kv : Value} {ls : List LvT} {ks : List Tm} (hT : TF w P (.agg #[.int .i64 f, .int .i64 n, .bool h, .string nm, lv, kv]) (.mk f n h nm ls ks)) : TF w P (.agg #[.int .i64 f, .int .i64 n', .bool h, .string nm, lv, kv]) (.mk f n' h nm ls ks) := by
  cases hT with
  | mk hl hln hlc hlm hkn hkc hkm hk kids => exact TV.mk hl hln hlc hlm hkn hkc hkm hk kids

theorem row_block {w : World} {B cap n : Nat} {a : Option Addr} {xs : List Value} (h : w.ownsRow B 25 6 (.slice a n cap) n xs) {k : Nat} (hk : ownB a k = true) : B ≤ k ∧ k < w.heap.size := by
  cases a with
  | none => simp [ownB] at hk
  | some ad =>
    obtain ⟨_, _, e, -, -, -, hg⟩ := owns_shape h
    simp only [Value.slice.injEq, true_and] at e
    obtain ⟨rfl, rfl⟩ := e
    obtain ⟨g, rfl, h1, h2⟩ := hg ad rfl
    simp [ownB] at hk
    omega

set_option maxRecDepth 100000 in
set_option maxHeartbeats 8000000 in
theorem rlift_any (by_ : Int) (hy0 : 0 ≤ by_) (hy1 : by_ ≤ 1048576) (t : Tm) : ∀ (P : Nat → Bool) (fr : Int) (v : Value) (w : World), 0 ≤ fr → fr + heightT t ≤ 4000000 → smT 1000000 t → formedB t = true → TF w P v t → (∀ k, w.heap.size ≤ k → P k = false) → Calls Try.prog 53 #[v, .int .i64 fr, .int .i64 by_] w fun e w' => ∃ v', e = .returned v' ∧ ShapeT v' ∧ TF w' P v' (rliftT by_ t fr) ∧ RowKit.Below w.heap.size w w' := by
  refine Tm.ind (P := fun t => ∀ (P : Nat → Bool) (fr : Int) (v : Value) (w : World), 0 ≤ fr → fr + heightT t ≤ 4000000 → smT 1000000 t → formedB t = true → TF w P v t → (∀ k, w.heap.size ≤ k → P k = false) → Calls Try.prog 53 #[v, .int .i64 fr, .int .i64 by_] w fun e w' => ∃ v', e = .returned v' ∧ ShapeT v' ∧ TF w' P v' (rliftT by_ t fr) ∧ RowKit.Below w.heap.size w w') ?_ t
  intro f n hd nm ls ks ih P fr v w hf0 hf1 hsm hfm hv hP
  obtain ⟨-, s1, s2, s3, s4⟩ := (smT_mk _ _ _ _ _ _ _).1 hsm
  obtain ⟨hkl, hkf⟩ := formed_len hfm
  have hvar : f = 1 → 0 ≤ n ∧ n ≤ 1073741824 := fun e => by
    have := formed_vars _ hfm
    rw [varsB_mk, Bool.and_eq_true] at this
    simpa [e] using this.1
  rw [heightT_mk] at hf1
  have HV := Hid.mk hv
  have hv' : TV (maskB P w) v (.mk f n hd nm ls ks) := hv
  cases hv' with
  | @mk _ _ _ _ _ _ la lc ka kc kb ko hl hln hlc hlm hkn hkc hkm hk kids =>
    have HL := Hid.mk hl
    have HLN := Hid.mk hln
    have HK := Hid.mk hk
    have HKIDS := Hid.mk kids
    have HIH := Hid.mk ih
    have HS4 := Hid.mk s4
    have HKF := Hid.mk hkf
    have HP := Hid.mk hP
    have HHK : Hid (∀ k ∈ ks, fr + 1 + heightT k ≤ 4000000) := fun k hk => by have := high_kid hk; omega
    have hfb : fr ≤ 4000000 := by omega
    clear hk kids ih hl hln hkn s2 s4 hsm hv hkf hfm hP hf1
    obtain ⟨W0, hW0⟩ : ∃ W0, (w.alloc (.cells #[.int .i64 f, .int .i64 n, .bool hd, .string nm, .slice la ls.length lc, .slice ka ks.length kc] 25)).alloc (.cells #[.int .i64 0, .int .i64 0, .bool false, .string { data := #[] }, .slice none 0 0, .slice none 0 0] 25) = W0 := ⟨_, rfl⟩
    have HG0 : Hid (Grew w W0) := by unfold Hid; rw [← hW0]; exact ((Grew.refl w).alloc _).alloc _
    have HX0 : Hid (W0.heap[w.heap.size]? = some (.cells #[.int .i64 f, .int .i64 n, .bool hd, .string nm, .slice la ls.length lc, .slice ka ks.length kc] 25 (0, 0))) := by unfold Hid; rw [← hW0]; exact box_at
    have HY0 : Hid (W0.heap[w.heap.size + 1]? = some (.cells #[.int .i64 0, .int .i64 0, .bool false, .string { data := #[] }, .slice none 0 0, .slice none 0 0] 25 (0, 0))) := by unfold Hid; rw [← hW0]; exact box_at1
    have hsz0 : W0.heap.size = w.heap.size + 2 := by rw [← hW0]; simp
    have HW0 := Hid.mk hW0
    clear hW0
    -- what is written into the two boxes alone
    have HFIN : Hid (∀ (W : World) (u : Value) (t' : Tm), Kept (fun k => w.heap.size ≤ k) w W → TF w P u t' → TF W P u t') := fun W u t' hK hu => hu.move hK.size fun k h1 h2 => ⟨h2, hK.block k h1 (by omega)⟩
    by_cases hA : f = 1 ∧ fr ≤ n
    · obtain ⟨rfl, hfn⟩ := hA
      obtain ⟨hn0, hn1⟩ := hvar rfl
      have HR : Hid (rliftT by_ (.mk 1 n hd nm ls ks) fr = .mk 1 (n + by_) hd nm ls ks) := by unfold Hid; rw [rliftT, if_pos ⟨rfl, hfn⟩]
      generalize rliftT by_ (.mk 1 n hd nm ls ks) fr = R at HR ⊢
      obtain ⟨x0, x1, x2, x3, x4, x5, x6⟩ := cells6 HX0.out
      obtain ⟨y0, y1, y2, y3, y4, y5, y6⟩ := cells6 HY0.out
      have fx := frz HX0.out
      have fy := frz HY0.out
      clear HK HKIDS HIH hvar
      go_enter Try.func53, Try.ntmps53
      go_wp2
      refine bodyPost_ret (v := .agg #[.int .i64 1, .int .i64 (n + by_), .bool hd, .string nm, .slice la ls.length lc, .slice ka ks.length kc]) (by simp [results, Try.results53, go_sem]) rfl ⟨_, rfl, ⟨_, _, _, _, _, _, _, _, _, _, rfl⟩, ?_, (((Grew.refl w).alloc _).alloc _).below⟩
      rw [HR.out]
      exact HFIN.out _ _ _ (((Kept.refl _ w).alloc _).alloc _) HV.out.setN
    · by_cases hk0 : ks = []
      · subst hk0
        have HR : Hid (rliftT by_ (.mk f n hd nm ls []) fr = .mk f n hd nm ls []) := by unfold Hid; rw [rliftT, if_neg hA, rliftTs]
        generalize rliftT by_ (.mk f n hd nm ls []) fr = R at HR ⊢
        clear HK HKIDS HIH
        by_cases hf : f = 1
        · subst hf
          have hnf : n < fr := by omega
          clear hA hvar
          go_enter Try.func53, Try.ntmps53
          go_wp2
          refine bodyPost_ret (v := .agg #[.int .i64 1, .int .i64 n, .bool hd, .string nm, .slice la ls.length lc, .slice ka 0 kc]) (by simp [results, Try.results53, go_sem]) rfl ⟨_, rfl, ⟨_, _, _, _, _, _, _, _, _, _, rfl⟩, ?_, (((Grew.refl w).alloc _).alloc _).below⟩
          rw [HR.out]
          exact HFIN.out _ _ _ (((Kept.refl _ w).alloc _).alloc _) HV.out
        · have hf' : (f == 1) = false := by simp [hf]
          clear hA hvar hf
          go_enter Try.func53, Try.ntmps53
          go_wp2
          refine bodyPost_ret (v := .agg #[.int .i64 f, .int .i64 n, .bool hd, .string nm, .slice la ls.length lc, .slice ka 0 kc]) (by simp [results, Try.results53, go_sem]) rfl ⟨_, rfl, ⟨_, _, _, _, _, _, _, _, _, _, rfl⟩, ?_, (((Grew.refl w).alloc _).alloc _).below⟩
          rw [HR.out]
          exact HFIN.out _ _ _ (((Kept.refl _ w).alloc _).alloc _) HV.out
      · have hf : f ≠ 1 := fun e => by
          subst e
          unfold kidsR at hkl
          rw [if_pos (by omega)] at hkl
          exact hk0 (List.length_eq_zero_iff.1 (by omega))
        have hf' : (f == 1) = false := by simp [hf]
        have HR : Hid (rliftT by_ (.mk f n hd nm ls ks) fr = .mk f n hd nm ls (rliftTs by_ f ks 0 fr)) := by unfold Hid; rw [rliftT, if_neg hA]
        generalize rliftT by_ (.mk f n hd nm ls ks) fr = R at HR ⊢
        have hkn : (ks.length == 0) = false := by simp [hk0]
        have hkn' : ((ks.length : Int) == 0) = false := by simp [hk0]
        have HBI := fun (W : World) => Binds_any f W
        have HDR : Hid (∀ j, deepR f fr j = if j = 1 ∧ bindsB f = true then fr + 1 else fr) := fun j => rfl
        have HTK := Hid.mk (fun j k (h : ks[j]? = some k) => rliftTs_take (by_ := by_) (f := f) (fr := fr) h)
        have HTL : Hid (∀ j, j ≤ ks.length → (rliftTs by_ f (ks.take j) 0 fr).length = j) := fun j hj => by rw [rliftTs_len, List.length_take]; omega
        obtain ⟨bf, hbf⟩ : ∃ bf, bindsB f = bf := ⟨_, rfl⟩
        simp only [hbf] at HBI HDR
        have HNW : Hid (∀ k, w.heap.size + 2 ≤ k → andXY P w.heap.size k = false) := fun k hk => andXY_new HP.out k hk
        clear hbf hA hvar hk0 hf hkl
        go_enter Try.func53, Try.ntmps53
        go_wp2
        rw [HW0.out]
        go_loopw [7, 8] (fun vl i wr => ∃ (j : Nat) (a : Option Addr) (cap : Nat), j ≤ ks.length ∧ i = .int .i64 j ∧ vl = .slice a j cap ∧ RowF wr (w.heap.size + 2) (andXY P w.heap.size) a cap (rliftTs by_ f (ks.take j) 0 fr) ∧ RowKit.Below (w.heap.size + 2) W0 wr) (fun _ i _ => ks.length - (intOf i).toNat)
        case atStart => exact ⟨0, none, 0, Nat.zero_le _, rfl, rfl, by simpa [rliftTs] using RowF.nil W0 _ _, Below.refl _ _⟩
        case round =>
          obtain ⟨j, a, cap, hj, rfl, rfl, hrow, hbr⟩ := hrel
          have HROW := Hid.mk hrow
          have HBR := Hid.mk hbr
          have hszr := hbr.size
          clear hrow hbr
          have hbx := (HBR.out.block w.heap.size (by omega)).trans HX0.out
          have HX1 := Hid.mk hbx
          obtain ⟨x0, x1, x2, x3, x4, x5, x6⟩ := cells6 hbx
          clear hbx
          by_cases hlt : j < ks.length
          · obtain ⟨rfl, hkb0⟩ := HK.out (by intro e; rw [e] at hlt; simp at hlt)
            have hkt : ks[j]? = some ks[j] := List.getElem?_eq_getElem hlt
            have hmem : ks[j] ∈ ks := List.getElem_mem hlt
            obtain ⟨xs, kvs, hown, hkv⟩ := HROW.out.go
            rw [HTL.out j hj] at hown
            have HRB : Hid (∀ k, ownB a k = true → w.heap.size + 2 ≤ k ∧ k < wr.heap.size) := fun k hk => row_block hown hk
            obtain ⟨v0, v1, v2, v3, l1, l2, l3, q1, q2, q3, c0, c1, c2, c3, c4, c5, htf⟩ := kid_tf (w' := wr) (Q := fun k => andXY P w.heap.size k || ownB a k) (HKIDS.out j _ hkt) (by omega) (fun k h1 h2 => ⟨by
                rw [andXY_old h2 h1, Bool.false_or]
                cases ho : ownB a k
                · rfl
                · have := (HRB.out k ho).1; omega, (HBR.out.block k (by omega)).trans (HG0.out.below.block k h1)⟩)
            have hPr : ∀ k, wr.heap.size ≤ k → (andXY P w.heap.size k || ownB a k) = false := fun k hk => by
              rw [HNW.out k (by omega), Bool.false_or]
              cases ho : ownB a k
              · rfl
              · have := (HRB.out k ho).2; omega
            have hkr : kb < wr.heap.size := World.block_lt_of_cell? wr _ c0
            have HCALL := fun (d : Int) (h1 : 0 ≤ d) (h2 : d ≤ fr + 1) => HIH.out ks[j] hmem (fun k => andXY P w.heap.size k || ownB a k) d _ wr h1 (by have := HHK.out _ hmem; omega) (HS4.out _ hmem) (HKF.out _ hmem) htf hPr
            have HTKJ := Hid.mk (HTK.out j _ hkt)
            rw [HDR.out] at HTKJ
            have HOWN := Hid.mk hown
            have HKV := Hid.mk hkv
            have HXL : Hid (xs.length = (rliftTs by_ f (ks.take j) 0 fr).length * 6) := by unfold Hid; rw [HTL.out j hj, hown.1]
            have HLJ := Hid.mk (HTL.out j hj)
            have zj : (j : Int) < (ks.length : Int) := by omega
            clear htf hPr hkt hmem hown hkv
            generalize rliftTs by_ f (ks.take j) 0 fr = TS at *
            generalize ks[j] = tk at *
            rcases (show (j = 1 ∧ bf = true) ∨ (j = 1 ∧ bf = false) ∨ j ≠ 1 by
              by_cases h : j = 1
              · cases bf
                · exact .inr (.inl ⟨h, rfl⟩)
                · exact .inl ⟨h, rfl⟩
              · exact .inr (.inr h)) with ⟨hj1, hb⟩ | ⟨hj1, hb⟩ | hj1
            · have hj1' : ((j : Int) == 1) = true := by simp [hj1]
              have hT := HTKJ.out
              rw [if_pos ⟨hj1, hb⟩] at hT
              have HT := Hid.mk hT
              subst hb
              have HJ := Hid.mk hj1
              clear hj1
              have HC := HCALL (fr + 1) (by omega) (by omega)
              generalize rliftT by_ tk (fr + 1) = RK at HC HT
              clear hT HTKJ HCALL
              go_wp2_with fail
              refine (HBI _).mono ?_
              rintro e w9 ⟨rfl, hw9⟩
              have hw9' := hw9.symm
              subst hw9'
              go_wp2_with fail
              refine HC.mono ?_
              rintro e w5 ⟨v', rfl, ⟨u0, u1, u2, u3, r1, r2, r3, s1', s2', s3', rfl⟩, htf5, hb5⟩
              have HTF5 := Hid.mk htf5
              have HB5 := Hid.mk hb5
              have hsz5 := hb5.size
              have HOWN6 := Hid.mk ((owns_block HOWN.out (fun g hg => hb5.block g (by subst hg; exact (World.ownsRow.lt HOWN.out g rfl).2))).alloc (.cells #[.int .i64 u0, .int .i64 u1, .bool u2, .string u3, .slice r1 r2 r3, .slice s1' s2' s3'] 25))
              have HNEWS := Hid.mk (World.news_of_block (cs := #[.int .i64 u0, .int .i64 u1, .bool u2, .string u3, .slice r1 r2 r3, .slice s1' s2' s3']) (t := 25) (fr := (0, 0)) (alloc_new w5 (.cells #[.int .i64 u0, .int .i64 u1, .bool u2, .string u3, .slice r1 r2 r3, .slice s1' s2' s3'] 25)))
              have hbase : w.heap.size + 2 ≤ (w5.alloc (.cells #[.int .i64 u0, .int .i64 u1, .bool u2, .string u3, .slice r1 r2 r3, .slice s1' s2' s3'] 25)).heap.size := by simp; omega
              clear htf5 hb5 HC c0 c1 c2 c3 c4 c5 x0 x1 x2 x3 x4 x5
              go_wp2_with (at_builtin; refine wpList_appF rfl _ _ rfl (w.heap.size + 2) (.slice a j cap) j xs [.int .i64 u0, .int .i64 u1, .bool u2, .string u3, .slice r1 r2 r3, .slice s1' s2' s3'] w5.heap.size 1 rfl rfl HOWN6.out rfl HNEWS.out (by simp [Value.oneCell']) (by omega) hbase ?_; intro g7 c7 W7 hown7 hgr7 hat7; have HOWN7 := Hid.mk hown7; have HGR7 := Hid.mk hgr7; have HAT7 := Hid.mk hat7; clear hown7 hgr7 hat7)
              refine ⟨⟨j + 1, some ⟨g7, 0, none⟩, c7, hlt, by go_num, rfl, ?_, ?_⟩, by simp [intOf]; omega⟩
              · rw [HT.out]
                refine RowF.snoc (w := w5.alloc (.cells #[.int .i64 u0, .int .i64 u1, .bool u2, .string u3, .slice r1 r2 r3, .slice s1' s2' s3'] 25)) (a := a) (cap := cap) (xs := xs) (kvs := kvs) (fun j' t' hj' => ⟨(HKV.out j' t' hj').1, ((HKV.out j' t' hj').2.on HB5.out).on ((Below.refl _ _).alloc (Nat.le_refl _) _)⟩) HXL.out (by rw [HLJ.out]; exact HOWN7.out) (by rw [HLJ.out]; exact HGR7.out) (by rw [HLJ.out]; exact HAT7.out) (HTF5.out.on ((Below.refl _ _).alloc (Nat.le_refl _) _))
              · refine HBR.out.trans ((HB5.out.mono (by omega)).trans (((Below.refl _ _).alloc (by omega) _).grown HGR7.out (by simp; omega) (fun k e => ?_)))
                exact (World.ownsRow.lt HOWN.out k e).1
            · have hj1' : ((j : Int) == 1) = true := by simp [hj1]
              have hT := HTKJ.out
              rw [if_neg (by rw [hb]; simp)] at hT
              have HT := Hid.mk hT
              subst hb
              have HJ := Hid.mk hj1
              clear hj1
              have HC := HCALL (fr) (by omega) (by omega)
              generalize rliftT by_ tk (fr) = RK at HC HT
              clear hT HTKJ HCALL
              go_wp2_with fail
              refine (HBI _).mono ?_
              rintro e w9 ⟨rfl, hw9⟩
              have hw9' := hw9.symm
              subst hw9'
              go_wp2_with fail
              refine HC.mono ?_
              rintro e w5 ⟨v', rfl, ⟨u0, u1, u2, u3, r1, r2, r3, s1', s2', s3', rfl⟩, htf5, hb5⟩
              have HTF5 := Hid.mk htf5
              have HB5 := Hid.mk hb5
              have hsz5 := hb5.size
              have HOWN6 := Hid.mk ((owns_block HOWN.out (fun g hg => hb5.block g (by subst hg; exact (World.ownsRow.lt HOWN.out g rfl).2))).alloc (.cells #[.int .i64 u0, .int .i64 u1, .bool u2, .string u3, .slice r1 r2 r3, .slice s1' s2' s3'] 25))
              have HNEWS := Hid.mk (World.news_of_block (cs := #[.int .i64 u0, .int .i64 u1, .bool u2, .string u3, .slice r1 r2 r3, .slice s1' s2' s3']) (t := 25) (fr := (0, 0)) (alloc_new w5 (.cells #[.int .i64 u0, .int .i64 u1, .bool u2, .string u3, .slice r1 r2 r3, .slice s1' s2' s3'] 25)))
              have hbase : w.heap.size + 2 ≤ (w5.alloc (.cells #[.int .i64 u0, .int .i64 u1, .bool u2, .string u3, .slice r1 r2 r3, .slice s1' s2' s3'] 25)).heap.size := by simp; omega
              clear htf5 hb5 HC c0 c1 c2 c3 c4 c5 x0 x1 x2 x3 x4 x5
              go_wp2_with (at_builtin; refine wpList_appF rfl _ _ rfl (w.heap.size + 2) (.slice a j cap) j xs [.int .i64 u0, .int .i64 u1, .bool u2, .string u3, .slice r1 r2 r3, .slice s1' s2' s3'] w5.heap.size 1 rfl rfl HOWN6.out rfl HNEWS.out (by simp [Value.oneCell']) (by omega) hbase ?_; intro g7 c7 W7 hown7 hgr7 hat7; have HOWN7 := Hid.mk hown7; have HGR7 := Hid.mk hgr7; have HAT7 := Hid.mk hat7; clear hown7 hgr7 hat7)
              refine ⟨⟨j + 1, some ⟨g7, 0, none⟩, c7, hlt, by go_num, rfl, ?_, ?_⟩, by simp [intOf]; omega⟩
              · rw [HT.out]
                refine RowF.snoc (w := w5.alloc (.cells #[.int .i64 u0, .int .i64 u1, .bool u2, .string u3, .slice r1 r2 r3, .slice s1' s2' s3'] 25)) (a := a) (cap := cap) (xs := xs) (kvs := kvs) (fun j' t' hj' => ⟨(HKV.out j' t' hj').1, ((HKV.out j' t' hj').2.on HB5.out).on ((Below.refl _ _).alloc (Nat.le_refl _) _)⟩) HXL.out (by rw [HLJ.out]; exact HOWN7.out) (by rw [HLJ.out]; exact HGR7.out) (by rw [HLJ.out]; exact HAT7.out) (HTF5.out.on ((Below.refl _ _).alloc (Nat.le_refl _) _))
              · refine HBR.out.trans ((HB5.out.mono (by omega)).trans (((Below.refl _ _).alloc (by omega) _).grown HGR7.out (by simp; omega) (fun k e => ?_)))
                exact (World.ownsRow.lt HOWN.out k e).1
            · have hj1' : ((j : Int) == 1) = false := by simp; omega
              have hT := HTKJ.out
              rw [if_neg (by omega)] at hT
              have HT := Hid.mk hT
              clear hj1
              have HC := HCALL (fr) (by omega) (by omega)
              generalize rliftT by_ tk (fr) = RK at HC HT
              clear hT HTKJ HCALL
              go_wp2_with fail
              refine HC.mono ?_
              rintro e w5 ⟨v', rfl, ⟨u0, u1, u2, u3, r1, r2, r3, s1', s2', s3', rfl⟩, htf5, hb5⟩
              have HTF5 := Hid.mk htf5
              have HB5 := Hid.mk hb5
              have hsz5 := hb5.size
              have HOWN6 := Hid.mk ((owns_block HOWN.out (fun g hg => hb5.block g (by subst hg; exact (World.ownsRow.lt HOWN.out g rfl).2))).alloc (.cells #[.int .i64 u0, .int .i64 u1, .bool u2, .string u3, .slice r1 r2 r3, .slice s1' s2' s3'] 25))
              have HNEWS := Hid.mk (World.news_of_block (cs := #[.int .i64 u0, .int .i64 u1, .bool u2, .string u3, .slice r1 r2 r3, .slice s1' s2' s3']) (t := 25) (fr := (0, 0)) (alloc_new w5 (.cells #[.int .i64 u0, .int .i64 u1, .bool u2, .string u3, .slice r1 r2 r3, .slice s1' s2' s3'] 25)))
              have hbase : w.heap.size + 2 ≤ (w5.alloc (.cells #[.int .i64 u0, .int .i64 u1, .bool u2, .string u3, .slice r1 r2 r3, .slice s1' s2' s3'] 25)).heap.size := by simp; omega
              clear htf5 hb5 HC c0 c1 c2 c3 c4 c5 x0 x1 x2 x3 x4 x5
              go_wp2_with (at_builtin; refine wpList_appF rfl _ _ rfl (w.heap.size + 2) (.slice a j cap) j xs [.int .i64 u0, .int .i64 u1, .bool u2, .string u3, .slice r1 r2 r3, .slice s1' s2' s3'] w5.heap.size 1 rfl rfl HOWN6.out rfl HNEWS.out (by simp [Value.oneCell']) (by omega) hbase ?_; intro g7 c7 W7 hown7 hgr7 hat7; have HOWN7 := Hid.mk hown7; have HGR7 := Hid.mk hgr7; have HAT7 := Hid.mk hat7; clear hown7 hgr7 hat7)
              refine ⟨⟨j + 1, some ⟨g7, 0, none⟩, c7, hlt, by go_num, rfl, ?_, ?_⟩, by simp [intOf]; omega⟩
              · rw [HT.out]
                refine RowF.snoc (w := w5.alloc (.cells #[.int .i64 u0, .int .i64 u1, .bool u2, .string u3, .slice r1 r2 r3, .slice s1' s2' s3'] 25)) (a := a) (cap := cap) (xs := xs) (kvs := kvs) (fun j' t' hj' => ⟨(HKV.out j' t' hj').1, ((HKV.out j' t' hj').2.on HB5.out).on ((Below.refl _ _).alloc (Nat.le_refl _) _)⟩) HXL.out (by rw [HLJ.out]; exact HOWN7.out) (by rw [HLJ.out]; exact HGR7.out) (by rw [HLJ.out]; exact HAT7.out) (HTF5.out.on ((Below.refl _ _).alloc (Nat.le_refl _) _))
              · refine HBR.out.trans ((HB5.out.mono (by omega)).trans (((Below.refl _ _).alloc (by omega) _).grown HGR7.out (by simp; omega) (fun k e => ?_)))
                exact (World.ownsRow.lt HOWN.out k e).1
          · obtain rfl : j = ks.length := by omega
            have hby := (HBR.out.block (w.heap.size + 1) (by omega)).trans HY0.out
            obtain ⟨y0, y1, y2, y3, y4, y5, y6⟩ := cells6 hby
            have fx := frz HX1.out
            have fy := frz hby
            clear hby
            have HT : Hid (R = .mk f n hd nm ls (rliftTs by_ f (ks.take ks.length) 0 fr)) := by unfold Hid; rw [HR.out, List.take_length]
            have HLJ := Hid.mk (HTL.out ks.length (Nat.le_refl _))
            generalize rliftTs by_ f (ks.take ks.length) 0 fr = TS at *
            go_wp2
            refine bodyPost_ret (v := .agg #[.int .i64 f, .int .i64 n, .bool hd, .string nm, .slice la ls.length lc, .slice a ks.length cap]) (by simp [results, Try.results53, go_sem, y0, y1, y2, y3, y4, y5]) rfl ⟨_, rfl, ⟨_, _, _, _, _, _, _, _, _, _, rfl⟩, ?_, ?_⟩
            all_goals have KF := (((((((Kept.refl (fun k => w.heap.size ≤ k ∧ k < w.heap.size + 2) wr).setCell (p := ⟨w.heap.size, 5, none⟩) (by simp) (.slice a ks.length cap)).setCell (p := ⟨w.heap.size + 1, 0, none⟩) (by simp) (.int .i64 f)).setCell (p := ⟨w.heap.size + 1, 1, none⟩) (by simp) (.int .i64 n)).setCell (p := ⟨w.heap.size + 1, 2, none⟩) (by simp) (.bool hd)).setCell (p := ⟨w.heap.size + 1, 3, none⟩) (by simp) (.string nm)).setCell (p := ⟨w.heap.size + 1, 4, none⟩) (by simp) (.slice la ls.length lc)).setCell (p := ⟨w.heap.size + 1, 5, none⟩) (by simp) (.slice a ks.length cap)
            · rw [HT.out]
              have hrow := HROW.out.move HNW.out KF.size (fun k h1 h2 => KF.block k h1 (fun h => by
                unfold andXY at h2
                simp at h2
                omega))
              have hln : LN (maskB (andXY P w.heap.size) _) la ls := LN.subF (by rw [maskB_size, maskB_size]; have := KF.size; omega) (maskB_keeps (w := w) (P := P) (Q := andXY P w.heap.size) fun k h1 h2 => ⟨andXY_old h2 h1, (KF.block k (by omega) (by omega)).trans ((HBR.out.block k (by omega)).trans (HG0.out.below.block k h1))⟩) HL.out
              have hd := hrow.done HNW.out (f := f) (n := n) (hd := hd) (nm := nm) hln HLN.out hlc hlm
              rw [HLJ.out] at hd
              exact hd.sub (fun k hk => by unfold andXY at hk; rw [Bool.or_eq_false_iff] at hk; exact hk.1)
            · exact HG0.out.below.trans ((HBR.out.mono (by omega)).trans (KF.below (by omega) (fun k hk => hk.1)))
end Go.Proofs.Ytbgkeomlfdmkeaa
