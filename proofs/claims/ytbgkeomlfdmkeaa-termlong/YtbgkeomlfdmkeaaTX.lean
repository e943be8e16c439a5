/- Terms that do not look into a box; towers of projections. -/
import Derived.Test.YtbgkeomlfdmkeaaON
import Derived.Test.YtbgkeomlfdmkeaaRU
namespace Go.Proofs.Ytbgkeomlfdmkeaa
open Go.RowKit Go.Sort

theorem SL.sub {w w' : World} {a : Option Addr} {xs : List (Int × Int)} (hs : w.heap.size ≤ w'.heap.size) (hc : ∀ p v, w.cell? p = some v → w'.cell? p = some v) (h : SL w a xs) : SL w' a xs := by
  rcases h with h | ⟨b, off, ha, hlt, h⟩
  · exact Or.inl h
  · exact Or.inr ⟨b, off, ha, by omega, fun i hi => ⟨hc _ _ (h i hi).1, hc _ _ (h i hi).2⟩⟩

theorem LN.sub {w w' : World} {a : Option Addr} {ls : List LvT} (hs : w.heap.size ≤ w'.heap.size) (hc : ∀ p v, w.cell? p = some v → w'.cell? p = some v) (h : LN w a ls) : LN w' a ls := by
  rcases h with h | ⟨b, off, ha, hlt, h⟩
  · exact Or.inl h
  · refine Or.inr ⟨b, off, ha, by omega, fun i n xs hi => ?_⟩
    obtain ⟨c0, a', cap', c1, hS, hn⟩ := h i n xs hi
    exact ⟨hc _ _ c0, a', cap', hc _ _ c1, hS.sub hs hc, hn⟩

theorem TC.sub {w w' : World} (hs : w.heap.size ≤ w'.heap.size) (hc : ∀ p v, w.cell? p = some v → w'.cell? p = some v) {b o : Nat} {t : Tm} (h : TC w b o t) : TC w' b o t := by
  induction h with
  | mk c0 c1 c2 c3 c4 c5 hl hln hlc hlm hkn hkc hkm hk kids ih => exact TC.mk (hc _ _ c0) (hc _ _ c1) (hc _ _ c2) (hc _ _ c3) (hc _ _ c4) (hc _ _ c5) (hl.sub hs hc) hln hlc hlm hkn hkc hkm (fun h => ⟨(hk h).1, Nat.lt_of_lt_of_le (hk h).2 hs⟩) ih

theorem TV.sub {w w' : World} (hs : w.heap.size ≤ w'.heap.size) (hc : ∀ p v, w.cell? p = some v → w'.cell? p = some v) {v : Value} {t : Tm} (h : TV w v t) : TV w' v t := by
  cases h with
  | mk hl hln hlc hlm hkn hkc hkm hk kids => exact TV.mk (hl.sub hs hc) hln hlc hlm hkn hkc hkm (fun h => ⟨(hk h).1, Nat.lt_of_lt_of_le (hk h).2 hs⟩) (fun i t hi => (kids i t hi).sub hs hc)

/-- the world with nothing in block X -/
def mask (X : Nat) (w : World) : World := { w with heap := w.heap.setIfInBounds X (.cells #[] 0 (0, 0)) }

theorem mask_size (X : Nat) (w : World) : (mask X w).heap.size = w.heap.size := by simp [mask]
theorem mask_ne {X k : Nat} (w : World) (h : k ≠ X) : (mask X w).heap[k]? = w.heap[k]? := by
  simp only [mask]
  rw [Array.getElem?_setIfInBounds_ne (Ne.symm h)]
theorem mask_eq {X : Nat} (w : World) (h : X < w.heap.size) : (mask X w).heap[X]? = some (.cells #[] 0 (0, 0)) := by
  simp [mask, h]

theorem mask_cell {X : Nat} {w : World} {p : Addr} {v : Value} (h : (mask X w).cell? p = some v) : w.cell? p = some v := by
  have hsp := World.cell?_spot h
  obtain ⟨b, o, sp⟩ := p
  simp only at hsp
  subst hsp
  by_cases hb : b = X
  · subst hb
    exfalso
    have hlt : b < (mask b w).heap.size := World.block_lt_of_cell? _ _ h
    rw [mask_size] at hlt
    rw [cell_of_row _ b o _ _ _ (mask_eq w hlt)] at h
    simp at h
  · rw [← h]
    exact (World.cell?_of_block (a := ⟨b, o, none⟩) (mask_ne w hb)).symm

theorem TV.unmask {X : Nat} {w : World} {v : Value} {t : Tm} (h : TV (mask X w) v t) : TV w v t := h.sub (by rw [mask_size]; exact Nat.le_refl _) (fun p v hp => mask_cell hp)

theorem mask_below {X : Nat} {a b : World} (h : Kept (· = X) a b) (hX : X < a.heap.size) : RowKit.Below a.heap.size (mask X a) (mask X b) :=
  ⟨h.os, h.tape, h.output, by rw [mask_size, mask_size]; exact h.size, fun k hk => by
    by_cases e : k = X
    · subst e; rw [mask_eq a hX, mask_eq b (Nat.lt_of_lt_of_le hX h.size)]
    · rw [mask_ne a e, mask_ne b e]; exact h.block k hk e⟩

theorem TV.keep {X : Nat} {a b : World} {v : Value} {t : Tm} (hv : TV (mask X a) v t) (h : Kept (· = X) a b) (hX : X < a.heap.size) : TV (mask X b) v t := TV.on hv (by rw [mask_size]; exact mask_below h hX)

/-- what lies ahead of a new box does not look into it -/
theorem TV.fresh {X : Nat} {a b : World} {v : Value} {t : Tm} (hv : TV a v t) (h : RowKit.Below a.heap.size a b) (hX : a.heap.size ≤ X) : TV (mask X b) v t :=
  TV.on hv ⟨h.os, h.tape, h.output, by rw [mask_size]; exact h.size, fun k hk => by rw [mask_ne b (by omega)]; exact h.block k hk⟩

theorem TV.one {w : World} {b : Nat} {f : Int} {x : Tm} {a0 a1 a2 a3 a4 a5 : Value} (hx : TV w (.agg #[a0, a1, a2, a3, a4, a5]) x) (hb : w.heap[b]? = some (.cells #[a0, a1, a2, a3, a4, a5] 25 (0, 0))) : TV w (.agg #[.int .i64 f, .int .i64 0, .bool false, .string { data := #[] }, .slice none 0 0, .slice (some ⟨b, 0, none⟩) 1 1]) (.mk f 0 false { data := #[] } [] [x]) := by
  refine TV.mk (kb := b) (ko := 0) (ls := []) (ks := [x]) (Or.inl rfl) (fun _ => rfl) (Nat.le_refl _) (by omega) (fun e => by cases e) (Nat.le_refl _) (by omega) (fun _ => ⟨rfl, heap_lt hb⟩) (fun i t hi => ?_)
  obtain ⟨c0, c1, c2, c3, c4, c5, -⟩ := cells6 hb
  match i with
  | 0 =>
    simp at hi
    subst hi
    cases hx with
    | mk hl hln hlc hlm hkn hkc hkm hk kids => exact TC.mk c0 c1 c2 c3 c4 c5 hl hln hlc hlm hkn hkc hkm hk kids
  | i + 1 => simp at hi

/-- n projections around a universe -/
def fstN : Nat → Tm
  | 0 => tSet 0
  | k + 1 => .mk 8 0 false { data := #[] } [] [fstN k]

theorem fstN_size : ∀ k, sizeT (fstN k) = k + 1
  | 0 => size_leaf _ _ _ _ _
  | k + 1 => by rw [fstN, sizeT_mk]; simp [fstN_size k]; omega
theorem fstN_high : ∀ k, heightT (fstN k) = k + 1
  | 0 => high_leaf _ _ _ _ _
  | k + 1 => by rw [fstN, heightT_mk]; simp [fstN_high k]; omega
theorem fstN_formed : ∀ k, formedB (fstN k) = true
  | 0 => formed_set
  | k + 1 => by rw [fstN, formedB_mk]; simp [judB, kidsR, fieldsB, Tm.kids, Tm.form, fstN_formed k]
theorem fstN_sm : ∀ k, smT 1000000 (fstN k)
  | 0 => sm_set
  | k + 1 => by rw [fstN, smT_mk]; exact ⟨by decide, by simp, by simp, by simp, by simp [fstN_sm k]⟩

theorem fstN_check (k : Nat) (hk : k < 600) : checkT (fstN k) = if k + 1 ≤ 500 then 0 else 2 := by
  unfold checkT
  rw [fstN_size, fstN_high, fstN_formed]
  by_cases h : k + 1 ≤ 500
  · rw [if_pos ⟨by omega, h⟩, if_pos h, if_pos rfl]
  · rw [if_neg (by omega), if_neg h]

theorem check_formed {t : Tm} (h : formedB t = true) : checkT t = 0 ∨ checkT t = 2 := by
  unfold checkT
  rw [h]
  split
  · left; rfl
  · right; rfl

set_option maxRecDepth 100000 in
set_option maxHeartbeats 1000000 in
theorem App_row (a0 a1 : Int) (a2 : Bool) (a3 : ByteArray) (a4 : Option Addr) (a5 a6 : Nat) (a7 : Option Addr) (a8 a9 : Nat) (b0 b1 : Int) (b2 : Bool) (b3 : ByteArray) (b4 : Option Addr) (b5 b6 : Nat) (b7 : Option Addr) (b8 b9 : Nat) (w : World) : Calls Try.prog 32 #[.agg #[.int .i64 a0, .int .i64 a1, .bool a2, .string a3, .slice a4 a5 a6, .slice a7 a8 a9], .agg #[.int .i64 b0, .int .i64 b1, .bool b2, .string b3, .slice b4 b5 b6, .slice b7 b8 b9]] w fun e w' => ∃ b, e = .returned (.agg #[.int .i64 5, .int .i64 0, .bool false, .string { data := #[] }, .slice none 0 0, .slice (some ⟨b, 0, none⟩) 2 2]) ∧ w'.heap[b]? = some (.cells #[.int .i64 a0, .int .i64 a1, .bool a2, .string a3, .slice a4 a5 a6, .slice a7 a8 a9, .int .i64 b0, .int .i64 b1, .bool b2, .string b3, .slice b4 b5 b6, .slice b7 b8 b9] 25 (0, 0)) ∧ w.heap.size ≤ b ∧ RowKit.Below w.heap.size w w' := by
  go_enter Try.func32, Try.ntmps32
  go_wp2
  have HB := fun (a b c d : Obj) => ((((Below.refl w.heap.size w).alloc (Nat.le_refl _) a).alloc (by simp) b).alloc (by simp; omega) c).alloc (by simp; omega) d
  refine bodyPost_ret (v := .agg #[.int .i64 5, .int .i64 0, .bool false, .string { data := #[] }, .slice none 0 0, .slice (some ⟨w.heap.size + 1 + 1 + 1, 0, none⟩) 2 2]) (by simp [results, Try.results32, go_sem]) rfl ⟨_, rfl, new3, by omega, HB _ _ _ _⟩
end Go.Proofs.Ytbgkeomlfdmkeaa
