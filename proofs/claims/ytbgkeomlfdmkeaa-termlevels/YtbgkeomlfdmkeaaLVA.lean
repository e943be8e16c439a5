/- The contract of term's leveling.level. -/
import Derived.Test.YtbgkeomlfdmkeaaP
import Derived.Test.YtbgkeomlfdmkeaaOG
namespace Go.Proofs.Ytbgkeomlfdmkeaa
open Go.RowKit Go.Sort

theorem boundL_ge {xs : List (Int × Int)} {p : Int × Int} (h : p ∈ xs) : p.1 + 1 ≤ boundL xs := by
  have gen : ∀ (ys : List (Int × Int)) (m : Int), m ≤ ys.foldl (fun m p => max m (p.1 + 1)) m ∧ ∀ q ∈ ys, q.1 + 1 ≤ ys.foldl (fun m p => max m (p.1 + 1)) m := by
    intro ys
    induction ys with
    | nil => intro m; simp
    | cons y ys ih =>
      intro m
      simp only [List.foldl_cons]
      obtain ⟨h1, h2⟩ := ih (max m (y.1 + 1))
      refine ⟨by omega, fun q hq => ?_⟩
      rcases List.mem_cons.1 hq with rfl | hq
      · omega
      · exact h2 q hq
  exact (gen xs 0).2 p h

theorem boundL_nonneg (xs : List (Int × Int)) : 0 ≤ boundL xs := by
  have gen : ∀ (ys : List (Int × Int)) (m : Int), m ≤ ys.foldl (fun m p => max m (p.1 + 1)) m := by
    intro ys
    induction ys with
    | nil => intro m; simp
    | cons y ys ih => intro m; simp only [List.foldl_cons]; have := ih (max m (y.1 + 1)); omega
  exact gen xs 0

theorem sFold_same {ls ls' : List LvT} {n : Int} : ∀ {xs : List (Int × Int)}, (∀ p ∈ xs, ls'[p.1.toNat]? = ls[p.1.toNat]?) → sFold ls' n xs = sFold ls n xs := by
  have gen : ∀ (xs : List (Int × Int)) (acc : Int × List (Int × Int)), (∀ p ∈ xs, ls'[p.1.toNat]? = ls[p.1.toNat]?) → xs.foldl (sStep ls') acc = xs.foldl (sStep ls) acc := by
    intro xs
    induction xs with
    | nil => intro acc _; rfl
    | cons x xs ih =>
      intro acc h
      simp only [List.foldl_cons]
      have h1 := h x (by simp)
      have : sStep ls' acc x = sStep ls acc x := by unfold sStep; rw [h1]
      rw [this]
      exact ih _ (fun p hp => h p (by simp [hp]))
  intro xs h
  exact gen xs _ h

/-- of right arguments those beyond the bound are not looked at -/
theorem substR_take (n : Int) (xs : List (Int × Int)) (ls : List LvT) (m : Nat) (hw : ls.any wrongL = false) (hm : (m : Int) = min (ls.length : Int) (if rightB n xs then boundL xs else 0)) : substR n xs (ls.take m) = substR n xs ls := by
  have hw' : (ls.take m).any wrongL = false := by
    rw [List.any_eq_false] at hw ⊢
    exact fun x hx => hw x (List.mem_of_mem_take hx)
  unfold substR
  cases hr : rightB n xs with
  | false => rw [if_neg (by simp), if_neg (by simp)]
  | true =>
    rw [hr] at hm
    simp only [if_true] at hm
    have hb := boundL_nonneg xs
    by_cases h : boundL xs ≤ ls.length
    · have hm' : (m : Int) = boundL xs := by omega
      have hl : (ls.take m).length = m := by rw [List.length_take]; omega
      rw [if_pos ⟨rfl, by rw [hl]; omega, hw'⟩, if_pos ⟨rfl, h, hw⟩]
      have : sFold (ls.take m) n xs = sFold ls n xs := sFold_same fun p hp => by
        have h1 := boundL_ge hp
        by_cases hp0 : 0 ≤ p.1
        · rw [List.getElem?_take_of_lt (by omega)]
        · have e : p.1.toNat = 0 := by omega
          have hpr := List.all_eq_true.1 (show xs.all (fun p => inR p.1 && inR p.2) = true by
            unfold rightB at hr; simp only [Bool.and_eq_true] at hr; exact hr.2) p hp
          simp [inR] at hpr
          omega
      rw [this]
    · have hm' : m = ls.length := by omega
      rw [hm', List.take_length]

theorem substR_err (n : Int) (xs : List (Int × Int)) (ls : List LvT) : (substR n xs ls).2.2 = 0 ∨ substR n xs ls = (0, [], 13) := by
  unfold substR
  split
  · unfold canonR
    split
    · exact Or.inl rfl
    · exact Or.inr rfl
  · exact Or.inr rfl

theorem substR_right {n : Int} {xs : List (Int × Int)} {ls : List LvT} (h : (substR n xs ls).2.2 = 0) : ls.any wrongL = false := by
  unfold substR at h
  split at h
  · rename_i hc; exact hc.2.2
  · simp at h

theorem LL.take {w : World} {a : Option Addr} {ls : List LvT} (h : LL w a ls) (m : Nat) : LL w a (ls.take m) := by
  rcases h with h | ⟨b, off, ha, hlt, hc⟩
  · exact Or.inl (by rw [h]; simp)
  · refine Or.inr ⟨b, off, ha, hlt, fun i n xs hi => hc i n xs ?_⟩
    rw [List.getElem?_take] at hi
    split at hi
    · exact hi
    · simp at hi

theorem set1_two {w : World} {b : Nat} {u v x : Value} {t : TypeId} (h : w.heap[b]? = some (.cells #[u, v] t (0, 0))) : (w.setCell ⟨b, 1, none⟩ x).heap[b]? = some (.cells #[u, x] t (0, 0)) := by
  rw [setCell_eq]; show (w.heap.modify b _)[b]? = _
  rw [Array.getElem?_modify, if_pos rfl, h]; rfl

set_option maxRecDepth 100000 in
set_option maxHeartbeats 4000000 in
theorem level_any (L : Nat) (args : List LvT) (aa : Option Addr) (acap : Nat) (known : Bool) (n : Int) (xs : List (Int × Int)) (a : Option Addr) (cap : Nat) (w : World) (hL : w.heap[L]? = some (.cells #[.slice aa args.length acap, .bool known] 75 (0, 0))) (hA : LL w aa args) (hS : SL w a xs) (hx : xs.length ≤ 1000000) (hal : args.length ≤ 1000000) (hac : args.length ≤ acap) (hax : ∀ l ∈ args, l.2.length ≤ 1000000) (hk : known = true → args.any wrongL = false) :
    Calls Try.prog 69 #[.pointer (some ⟨L, 0, none⟩), .agg #[.int .i64 n, .slice a xs.length cap]] w fun e w' => ∃ v, e = .returned (.tuple #[.agg #[.int .i64 (substR n xs args).1, v], .int .i64 (substR n xs args).2.2]) ∧ OR w.heap.size w' v (substR n xs args).2.1 ∧ Kept (· = L) w w' ∧ w'.heap[L]? = some (.cells #[.slice aa args.length acap, .bool ((substR n xs args).2.2 == 0)] 75 (0, 0)) := by
  obtain ⟨W0, hW0⟩ : ∃ W0, (w.alloc (.cells #[.int .i64 n, .slice a xs.length cap] 43)).alloc (.cells #[.int .i64 0, .slice none 0 0] 43) = W0 := ⟨_, rfl⟩
  have HG0 : Hid (Grew w W0) := by unfold Hid; rw [← hW0]; exact ((Grew.refl w).alloc _).alloc _
  have HX0 : Hid (W0.heap[w.heap.size]? = some (.cells #[.int .i64 n, .slice a xs.length cap] 43 (0, 0))) := by unfold Hid; rw [← hW0]; exact box_at
  have HY0 : Hid (W0.heap[w.heap.size + 1]? = some (.cells #[.int .i64 0, .slice none 0 0] 43 (0, 0))) := by unfold Hid; rw [← hW0]; exact box_at1
  have hsz0 : W0.heap.size = w.heap.size + 2 := by rw [← hW0]; simp
  have hLl := heap_lt hL
  have hLl1 : L < w.heap.size + 1 := by omega
  obtain ⟨k0, k1, -, -, -⟩ := cells2 hL
  have HL0 : Hid (W0.heap[L]? = some (.cells #[.slice aa args.length acap, .bool known] 75 (0, 0))) := (HG0.out.below.block L hLl).trans hL
  have HSB := fun (W : World) (h : RowKit.Below w.heap.size w W) (m : Nat) => Subst_any n xs a cap (args.take m) aa acap W (hS.below h) (by omega) ((hA.below h).take m) (by rw [List.length_take]; omega) (fun l hl => by have := hax l (List.mem_of_mem_take hl); omega)
  have HBO := fun (W : World) (h : RowKit.Below w.heap.size w W) => Bound_any n xs a cap W (hS.below h) (by omega)
  have HTK := Hid.mk (fun (hw : args.any wrongL = false) (m : Nat) => substR_take n xs args m hw)
  have HBN : Hid (0 ≤ (if rightB n xs then boundL xs else 0)) := by unfold Hid; split; exact boundL_nonneg xs; exact Int.le_refl _
  obtain ⟨l0, l1, -, -, l4⟩ := cells2 HL0.out
  obtain ⟨x0, x1, -, -, x4⟩ := cells2 HX0.out
  have fl := frz HL0.out
  have HW0 := Hid.mk hW0
  clear hW0
  obtain ⟨bb, hbb⟩ : ∃ bb, (if rightB n xs then boundL xs else 0) = bb := ⟨_, rfl⟩
  rw [hbb] at HBO HTK HBN
  clear hbb hL hA hS hax
  cases known with
  | false =>
    have HS1 := HSB _ HG0.out.below args.length
    rw [List.take_length] at HS1
    clear HSB HBO HTK HBN hk
    generalize substR n xs args = C at *
    obtain ⟨WB, hWB⟩ : ∃ WB, W0 = WB := ⟨_, rfl⟩
    have HLQ : Hid (WB.heap[L]? = some (.cells #[.slice aa args.length acap, .bool false] 75 (0, 0))) := by rw [← hWB]; exact HL0.out
    have HYQ : Hid (WB.heap[w.heap.size + 1]? = some (.cells #[.int .i64 0, .slice none 0 0] 43 (0, 0))) := by rw [← hWB]; exact HY0.out
    have HBQ : Hid (RowKit.Below w.heap.size w WB) := by rw [← hWB]; exact HG0.out.below
    have hszq : w.heap.size + 2 ≤ WB.heap.size := by rw [← hWB]; omega
    rw [hWB] at HW0 HS1
    clear hWB
    go_enter Try.func69, Try.ntmps69
    go_wp2_with fail
    rw [HW0.out]
    refine HS1.mono ?_
    rintro e w1 ⟨v1, rfl, hO1, hb1⟩
    obtain ⟨a', cap', rfl, -, -⟩ := hO1.shape
    have HO1 := Hid.mk hO1
    have HB1 := Hid.mk hb1
    have hs1 := hb1.size
    have HL1 := Hid.mk ((hb1.block L (by omega)).trans HLQ.out)
    have hby := (hb1.block (w.heap.size + 1) (by omega)).trans HYQ.out
    obtain ⟨m0, m1, -, -, m4⟩ := cells2 HL1.out
    obtain ⟨y0, y1, -, -, y4⟩ := cells2 hby
    have fm := frz HL1.out
    have fy := frz hby
    have hLY : L ≠ w.heap.size + 1 := by omega
    clear hO1 hb1 hby l0 l1 l4 x0 x1 x4 fl k0 k1
    go_wp2
    refine bodyPost_ret (v := .tuple #[.agg #[.int .i64 C.1, .slice a' C.2.1.length cap'], .int .i64 C.2.2]) (by simp [results, Try.results69, go_sem, y0, y1, y4]) rfl ⟨_, rfl, ?_, ?_, ?_⟩
    · refine OR.mono (B := WB.heap.size) ?_ (by omega)
      exact World.ownsRow.alloc (OR.setBelow (a := ⟨w.heap.size + 1, 1, none⟩) (OR.setBelow (a := ⟨w.heap.size + 1, 0, none⟩) (OR.setBelow (a := ⟨L, 1, none⟩) HO1.out (by dsimp only; omega) _) (by dsimp only; omega) _) (by dsimp only; omega) _) _
    · refine Kept.imp (P := fun k => k = L ∨ w.heap.size ≤ k) ?_ (fun k hk h => by omega)
      exact ((((Kept.of_below (HBQ.out.trans (HB1.out.mono (by omega)))).setCell (p := ⟨L, 1, none⟩) (Or.inl rfl) _).setCell (p := ⟨w.heap.size + 1, 0, none⟩) (Or.inr (by dsimp only; omega)) _).setCell (p := ⟨w.heap.size + 1, 1, none⟩) (Or.inr (by dsimp only; omega)) _).alloc _
    · exact alloc_old ((Below.heap_setCell _ _ _ _ hLY).trans ((Below.heap_setCell _ _ _ _ hLY).trans (set1_two HL1.out))) _
  | true =>
    have hw := hk rfl
    have HB0 := HBO _ HG0.out.below
    obtain ⟨m, hm, hm1, hm2⟩ : ∃ m : Nat, (m : Int) = min (args.length : Int) bb ∧ m ≤ args.length ∧ (m : Int) ≤ bb := ⟨(min (args.length : Int) bb).toNat, by have := HBN.out; omega, by have := HBN.out; omega, by have := HBN.out; omega⟩
    have HSM := fun (W : World) (h : RowKit.Below w.heap.size w W) => HSB W h m
    rw [HTK.out hw m hm] at HSM
    have HLM : Hid ((args.take m).length = m) := by unfold Hid; rw [List.length_take]; omega
    rw [HLM.out] at HSM
    have hmc : (m : Int) ≤ (acap : Int) := by omega
    clear HSB HBO HTK hk
    generalize substR n xs args = C at *
    by_cases hle : (args.length : Int) ≤ bb
    · obtain rfl : m = args.length := by omega
      have HMN : Hid ((min (args.length : Int) bb).toNat = args.length) := by unfold Hid; omega
      clear hm hm1 hm2 HLM
      go_enter Try.func69, Try.ntmps69
      go_wp2_with fail
      rw [HW0.out]
      refine HB0.mono ?_
      rintro e WB ⟨rfl, hgB⟩
      have HBQ : Hid (RowKit.Below w.heap.size w WB) := HG0.out.below.trans (hgB.below.mono HG0.out.below.size)
      have HLQ := Hid.mk ((hgB.below.block L l4).trans HL0.out)
      have HYQ := Hid.mk ((hgB.below.block (w.heap.size + 1) (heap_lt HY0.out)).trans HY0.out)
      have hXQ := (hgB.below.block w.heap.size x4).trans HX0.out
      have hszq : w.heap.size + 2 ≤ WB.heap.size := by have := hgB.below.size; omega
      have HS1 := HSM WB HBQ.out
      clear hgB HB0 HSM
      obtain ⟨p0, p1, -, -, p4⟩ := cells2 hXQ
      clear hXQ
      go_wp2_with fail
      rw [HMN.out]
      refine HS1.mono ?_
      rintro e w1 ⟨v1, rfl, hO1, hb1⟩
      obtain ⟨a', cap', rfl, -, -⟩ := hO1.shape
      have HO1 := Hid.mk hO1
      have HB1 := Hid.mk hb1
      have hs1 := hb1.size
      have HL1 := Hid.mk ((hb1.block L (by omega)).trans HLQ.out)
      have hby := (hb1.block (w.heap.size + 1) (by omega)).trans HYQ.out
      obtain ⟨m0, m1, -, -, m4⟩ := cells2 HL1.out
      obtain ⟨y0, y1, -, -, y4⟩ := cells2 hby
      have fm := frz HL1.out
      have fy := frz hby
      have hLY : L ≠ w.heap.size + 1 := by omega
      clear hO1 hb1 hby l0 l1 l4 x0 x1 x4 fl k0 k1
      go_wp2
      refine bodyPost_ret (v := .tuple #[.agg #[.int .i64 C.1, .slice a' C.2.1.length cap'], .int .i64 C.2.2]) (by simp [results, Try.results69, go_sem, y0, y1, y4]) rfl ⟨_, rfl, ?_, ?_, ?_⟩
      · refine OR.mono (B := WB.heap.size) ?_ (by omega)
        exact World.ownsRow.alloc (OR.setBelow (a := ⟨w.heap.size + 1, 1, none⟩) (OR.setBelow (a := ⟨w.heap.size + 1, 0, none⟩) (OR.setBelow (a := ⟨L, 1, none⟩) HO1.out (by dsimp only; omega) _) (by dsimp only; omega) _) (by dsimp only; omega) _) _
      · refine Kept.imp (P := fun k => k = L ∨ w.heap.size ≤ k) ?_ (fun k hk h => by omega)
        exact ((((Kept.of_below (HBQ.out.trans (HB1.out.mono (by omega)))).setCell (p := ⟨L, 1, none⟩) (Or.inl rfl) _).setCell (p := ⟨w.heap.size + 1, 0, none⟩) (Or.inr (by dsimp only; omega)) _).setCell (p := ⟨w.heap.size + 1, 1, none⟩) (Or.inr (by dsimp only; omega)) _).alloc _
      · exact alloc_old ((Below.heap_setCell _ _ _ _ hLY).trans ((Below.heap_setCell _ _ _ _ hLY).trans (set1_two HL1.out))) _
    · obtain rfl : bb = (m : Int) := by omega
      have HMN : Hid ((min (args.length : Int) (m : Int)).toNat = m) := by unfold Hid; omega
      clear hm hm1 hm2 HLM
      go_enter Try.func69, Try.ntmps69
      go_wp2_with fail
      rw [HW0.out]
      refine HB0.mono ?_
      rintro e WB ⟨rfl, hgB⟩
      have HBQ : Hid (RowKit.Below w.heap.size w WB) := HG0.out.below.trans (hgB.below.mono HG0.out.below.size)
      have HLQ := Hid.mk ((hgB.below.block L l4).trans HL0.out)
      have HYQ := Hid.mk ((hgB.below.block (w.heap.size + 1) (heap_lt HY0.out)).trans HY0.out)
      have hXQ := (hgB.below.block w.heap.size x4).trans HX0.out
      have hszq : w.heap.size + 2 ≤ WB.heap.size := by have := hgB.below.size; omega
      have HS1 := HSM WB HBQ.out
      clear hgB HB0 HSM
      obtain ⟨p0, p1, -, -, p4⟩ := cells2 hXQ
      clear hXQ
      go_wp2_with fail
      rw [HMN.out]
      refine HS1.mono ?_
      rintro e w1 ⟨v1, rfl, hO1, hb1⟩
      obtain ⟨a', cap', rfl, -, -⟩ := hO1.shape
      have HO1 := Hid.mk hO1
      have HB1 := Hid.mk hb1
      have hs1 := hb1.size
      have HL1 := Hid.mk ((hb1.block L (by omega)).trans HLQ.out)
      have hby := (hb1.block (w.heap.size + 1) (by omega)).trans HYQ.out
      obtain ⟨m0, m1, -, -, m4⟩ := cells2 HL1.out
      obtain ⟨y0, y1, -, -, y4⟩ := cells2 hby
      have fm := frz HL1.out
      have fy := frz hby
      have hLY : L ≠ w.heap.size + 1 := by omega
      clear hO1 hb1 hby l0 l1 l4 x0 x1 x4 fl k0 k1
      go_wp2
      refine bodyPost_ret (v := .tuple #[.agg #[.int .i64 C.1, .slice a' C.2.1.length cap'], .int .i64 C.2.2]) (by simp [results, Try.results69, go_sem, y0, y1, y4]) rfl ⟨_, rfl, ?_, ?_, ?_⟩
      · refine OR.mono (B := WB.heap.size) ?_ (by omega)
        exact World.ownsRow.alloc (OR.setBelow (a := ⟨w.heap.size + 1, 1, none⟩) (OR.setBelow (a := ⟨w.heap.size + 1, 0, none⟩) (OR.setBelow (a := ⟨L, 1, none⟩) HO1.out (by dsimp only; omega) _) (by dsimp only; omega) _) (by dsimp only; omega) _) _
      · refine Kept.imp (P := fun k => k = L ∨ w.heap.size ≤ k) ?_ (fun k hk h => by omega)
        exact ((((Kept.of_below (HBQ.out.trans (HB1.out.mono (by omega)))).setCell (p := ⟨L, 1, none⟩) (Or.inl rfl) _).setCell (p := ⟨w.heap.size + 1, 0, none⟩) (Or.inr (by dsimp only; omega)) _).setCell (p := ⟨w.heap.size + 1, 1, none⟩) (Or.inr (by dsimp only; omega)) _).alloc _
      · exact alloc_old ((Below.heap_setCell _ _ _ _ hLY).trans ((Below.heap_setCell _ _ _ _ hLY).trans (set1_two HL1.out))) _
end Go.Proofs.Ytbgkeomlfdmkeaa
