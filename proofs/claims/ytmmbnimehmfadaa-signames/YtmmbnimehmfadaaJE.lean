/- Lists of terms and of Hids that are handed in; telamonlaw4.big. -/
import Derived.Test.YtmmbnimehmfadaaWF
import Derived.Test.YtmmbnimehmfadaaRows
import Derived.Test.YtmmbnimehmfadaaTA
import Derived.ProofKit
import Derived.OpenShut
import Derived.Below
import Derived.Lib.SmallJoins
import Derived.Deep.SlicePairs
import Derived.SizedLaws
import Derived.Deep.Grids
import Derived.Test.YtmmbnimehmfadaaCA
import Derived.Test.YtmmbnimehmfadaaWE
import Derived.Test.YtmmbnimehmfadaaHA
import Derived.Test.YtmmbnimehmfadaaRL
import Derived.Test.YtmmbnimehmfadaaKP
import Derived.RangeFuncNested
import Derived.OrdersIn
import Derived.Test.YtmmbnimehmfadaaOA
import Derived.Test.YtmmbnimehmfadaaOG
import Derived.RangeFuncBound
import Derived.RangeFuncCalls
import Derived.RangeFuncLeaves
import Derived.RangeFuncFrom
import Derived.Shelf.Abstract
import Derived.Shelf.RegionOpen
import Derived.OwnWalkIn
import Derived.TacticsInMore
import Derived.LoopNIn
import Derived.LoopIn
import Derived.Sort.CutIn
import Derived.Test.YtmmbnimehmfadaaRMC
import Derived.Test.YtmmbnimehmfadaaWH
import Derived.Laws.EntriesVeiled
import Derived.Test.YtmmbnimehmfadaaOD
import Derived.Test.YtmmbnimehmfadaaTH
namespace Go.Proofs.Ytmmbnimehmfadaa
open Go.RowKit Go.Sort Go.ChangeShapes Go.WideShapes Go.ChangeAt

/-- a slice at address a, wherever it begins, holds the terms ts -/
def TK (w : World) (a : Option Addr) (ts : List Tm) : Prop := ts = [] ∨ ∃ b o, a = some ⟨b, o, none⟩ ∧ b < w.heap.size ∧ ∀ i t, ts[i]? = some t → TC w b (o + i * 6) t

theorem TK.on {w w' : World} {a : Option Addr} {ts : List Tm} (h : TK w a ts) (hb : RowKit.Below w.heap.size w w') : TK w' a ts := by
  rcases h with h | ⟨b, o, ha, hlt, h⟩
  · exact Or.inl h
  · exact Or.inr ⟨b, o, ha, Nat.lt_of_lt_of_le hlt hb.size, fun i t hi => (h i t hi).on hb⟩

end Go.Proofs.Ytmmbnimehmfadaa

/- Is one of the terms of a list open? The contracts of sig.open and of slices.ContainsFunc with it. -/
namespace Go.Proofs.Ytmmbnimehmfadaa
open Go.RowKit Go.Sort

theorem cf_open (xs : Array Value) (w : World) : Sem.run Try.prog (callFunc 24 xs) w = .ok (.enter 24 xs) w := by simp [callFunc, go_sem, Try.func24]; rfl

/-- has a term a free variable? -/
def openT (t : Tm) : Bool := decide (0 < tfreeR t)

set_option maxRecDepth 100000 in
set_option maxHeartbeats 2000000 in
theorem sopen_any (t : Tm) (v : Value) (w : World) (hv : TV w v t) (hsm : smT 1000000 t) : Calls Try.prog 24 #[v] w fun e w' => e = .returned (.bool (openT t)) ∧ RowKit.Below w.heap.size w w' := by
  obtain ⟨la, lc, ka, kc, rfl⟩ := hv.shape
  have hb0 : RowKit.Below w.heap.size w (w.alloc (.cells #[.int .i64 t.form, .int .i64 t.n, .bool t.hid, .string t.name, .slice la t.levels.length lc, .slice ka t.kids.length kc] 26)) := (Below.refl _ _).alloc (Nat.le_refl _) _
  have HC := Free_any t _ _ (hv.on hb0) hsm
  have HB0 := Hid.mk hb0
  clear hv hsm hb0
  unfold openT
  generalize tfreeR t = r at *
  generalize t.form = f at *
  generalize t.n = n at *
  generalize t.hid = hd at *
  generalize t.name = nm at *
  generalize t.levels.length = l1 at *
  generalize t.kids.length = k1 at *
  go_enter Try.func24, Try.ntmps24
  go_wp2_with fail
  refine HC.mono ?_
  rintro e w1 ⟨rfl, hb1⟩
  have HB1 : Hid (RowKit.Below w.heap.size w w1) := HB0.out.trans (hb1.mono HB0.out.size)
  clear hb1 HC
  go_wp2
  go_ret
  exact ⟨rfl, HB1.out⟩

set_option maxRecDepth 100000 in
set_option maxHeartbeats 2000000 in
theorem IndexOpen_any (ts : List Tm) (a : Option Addr) (cap : Nat) (w : World) (hS : TK w a ts) (hn : ts.length ≤ 1000000) (hsm : ∀ t ∈ ts, smT 1000000 t) :
    Calls Try.prog 32 #[.slice a ts.length cap, .func (.func 24) #[] #[]] w fun e w' => (∃ r : Int, e = .returned (.int .i64 r) ∧ decide (0 ≤ r) = ts.any openT) ∧ RowKit.Below w.heap.size w w' := by
  have HS := Hid.mk hS
  have HX := Hid.mk hsm
  have hcf := cf_open
  clear hS hsm
  go_enter Try.func32, Try.ntmps32
  go_wp2
  go_loopw [8] (fun i wr => ∃ k : Nat, k ≤ ts.length ∧ i = .int .i64 k ∧ RowKit.Below w.heap.size w wr ∧ (ts.take k).any openT = false) (fun i _ => ts.length - (intOf i).toNat)
  case atStart => exact ⟨0, Nat.zero_le _, rfl, Below.refl _ _, by simp⟩
  case round =>
    obtain ⟨k, hk, rfl, hb, hall⟩ := hrel
    have HA := Hid.mk hall
    clear hall
    by_cases hlt : k < ts.length
    · obtain ⟨b, off, rfl, hbl, hcs⟩ := (HS.out.on hb).resolve_left (by intro e; rw [e] at hlt; simp at hlt)
      have hl := Hid.mk (List.getElem?_eq_getElem hlt)
      obtain ⟨v0, v1, v2, v3, v4, v5, c0, c1, c2, c3, c4, c5, htv⟩ := (hcs k _ hl.out).val
      have HW := sopen_any ts[k] _ wr htv (HX.out _ (List.getElem_mem hlt))
      have hbb := hb.size
      have zk : (k : Int) < (ts.length : Int) := by omega
      clear hcs htv
      generalize ts[k] = tk at *
      cases h0 : openT tk
      · rw [h0] at HW
        have H0 := Hid.mk h0
        clear h0
        go_wp2_with (go_at_call 24; refine HW.mono ?_; rintro e w1 ⟨rfl, hg⟩)
        refine ⟨⟨k + 1, hlt, by go_num, hb.trans (hg.mono hbb), ?_⟩, by simp [intOf]; omega⟩
        rw [take_any (p := openT) hl.out, HA.out, H0.out]; rfl
      · rw [h0] at HW
        have H0 := Hid.mk h0
        clear h0
        go_wp2_with (go_at_call 24; refine HW.mono ?_; rintro e w1 ⟨rfl, hg⟩)
        go_ret
        exact ⟨⟨_, rfl, by rw [any_yes (p := openT) hl.out H0.out]; simp⟩, hb.trans (hg.mono hbb)⟩
    · have HB := Hid.mk hb
      go_wp2
      go_ret
      refine ⟨⟨_, rfl, ?_⟩, HB.out⟩
      have := HA.out
      rw [List.take_of_length_le (by omega)] at this
      rw [this]
      rfl

set_option maxHeartbeats 1000000 in
theorem HasOpen_any (ts : List Tm) (a : Option Addr) (cap : Nat) (w : World) (hS : TK w a ts) (hn : ts.length ≤ 1000000) (hsm : ∀ t ∈ ts, smT 1000000 t) :
    Calls Try.prog 22 #[.slice a ts.length cap, .func (.func 24) #[] #[]] w fun e w' => e = .returned (.bool (ts.any openT)) ∧ RowKit.Below w.heap.size w w' := by
  have HC := IndexOpen_any ts a cap w hS hn hsm
  clear hS hsm
  generalize ts.any openT = q at *
  go_enter Try.func22, Try.ntmps22
  go_wp2_with fail
  refine HC.mono ?_
  rintro e w1 ⟨⟨r, rfl, hr⟩, hb⟩
  have HR := Hid.mk hr
  clear hr HC
  go_wp2
  go_ret
  exact ⟨by rw [← HR.out]; rfl, hb⟩
end Go.Proofs.Ytmmbnimehmfadaa

/- telamonlaw4.same, where both lists are one. -/
namespace Go.Proofs.Ytmmbnimehmfadaa
open Go.RowKit Go.Sort

/-- a slice at address a holds the terms ts -/
def TL (w : World) (a : Option Addr) (ts : List Tm) : Prop := ts = [] ∨ ∃ b, a = some ⟨b, 0, none⟩ ∧ b < w.heap.size ∧ ∀ i t, ts[i]? = some t → TC w b (i * 6) t

theorem RowF.tl {w : World} {B cap : Nat} {P : Nat → Bool} {a : Option Addr} {ts : List Tm} (h : RowF w B P a cap ts) : TL w a ts := by
  obtain ⟨xs, kvs, hown, hkv⟩ := h.go
  rcases hown.2 with ⟨-, hn⟩ | ⟨g, cap', cur, hv, hg, hh, hc, hm, hs, ht⟩
  · exact Or.inl (List.length_eq_zero_iff.1 hn)
  · simp only [Value.slice.injEq, true_and] at hv
    obtain ⟨rfl, rfl⟩ := hv
    refine Or.inr ⟨g, rfl, heap_lt hh, fun i t hi => ?_⟩
    have hlt := (List.getElem?_eq_some_iff.1 hi).1
    exact ((hkv i t hi).1.cells hown (by omega)).tc (hkv i t hi).2.tv

end Go.Proofs.Ytmmbnimehmfadaa

/- tele.told, tele.fault, tele.answered, whatever is handed in; telamonlaw4.same, wherever the lists begin. -/
namespace Go.Proofs.Ytmmbnimehmfadaa
open Go.RowKit Go.Sort

theorem TL.tk {w : World} {a : Option Addr} {ts : List Tm} (h : TL w a ts) : TK w a ts := by
  rcases h with h | ⟨b, ha, hb, h⟩
  · exact Or.inl h
  · exact Or.inr ⟨b, 0, ha, hb, fun i t hi => by rw [Nat.zero_add]; exact h i t hi⟩

end Go.Proofs.Ytmmbnimehmfadaa

/- Plain facts: what is put around a term is split off again; what a function is applied to is its row. -/
namespace Go.Proofs.Ytmmbnimehmfadaa
open Go.RowKit Go.Sort

theorem clean_clean (t : Tm) : cleanT (cleanT t) = cleanT t := by
  induction t using Tm.ind with
  | h f n h nm ls ks ih =>
    rw [clean_mk, clean_mk]
    have e : (ks.map cleanT).map cleanT = ks.map cleanT := by
      rw [List.map_map]
      exact List.map_congr_left ih
    rw [e]
    congr 1
    · split <;> rfl
    · split <;> rfl
    · split <;> rfl
    · split <;> rfl

end Go.Proofs.Ytmmbnimehmfadaa
