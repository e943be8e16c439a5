/- The contract of telamonref1.Exactly at two values that are one term. -/
import Derived.Test.YtndjdeiccmhelaaGreatTE
import Derived.Test.YtndjdeiccmhelaaGreatRA
import Derived.Deep.RegionHeld3
namespace Go.Proofs.YtndjdeiccmhelaaGreat
open Go.RowKit Go.Sort

/-- the levels' lists are no longer than m, in every part -/
def lvB (m : Nat) : Tm → Bool
  | .mk _ _ _ _ ls ks => (ls.all fun l => decide (l.2.length ≤ m)) && ks.attach.all fun k => lvB m k.1
termination_by t => SizeOf.sizeOf t
decreasing_by
  have := List.sizeOf_lt_of_mem k.2
  simp only [Tm.mk.sizeOf_spec]; omega

theorem lvB_mk (m : Nat) (f n : Int) (hd : Bool) (nm : ByteArray) (ls : List LvT) (ks : List Tm) : lvB m (.mk f n hd nm ls ks) = ((ls.all fun l => decide (l.2.length ≤ m)) && ks.all (lvB m)) := by
  rw [lvB]
  congr 1
  rw [Bool.eq_iff_iff, List.all_eq_true, List.all_eq_true]
  exact ⟨fun h x hx => h ⟨x, hx⟩ (List.mem_attach _ _), fun h x _ => h x.1 x.2⟩

theorem LN.at {w : World} {a : Option Addr} {ls : List LvT} (h : LN w a ls) {k : Nat} (hk : k < ls.length) :
    ∃ b off a' cap', a = some ⟨b, off, none⟩ ∧ b < w.heap.size ∧ w.cell? ⟨b, off + k * 2, none⟩ = some (.int .i64 ls[k].1) ∧ w.cell? ⟨b, off + k * 2 + 1, none⟩ = some (.slice a' ls[k].2.length cap') ∧ SL w a' ls[k].2 := by
  rcases h with h | ⟨b, off, ha, hlt, hc⟩
  · subst h; simp at hk
  · obtain ⟨c0, a', cap', c1, hs, -⟩ := hc k ls[k].1 ls[k].2 (by simp [hk])
    exact ⟨b, off, a', cap', ha, hlt, c0, c1, hs⟩

set_option maxRecDepth 100000 in
set_option maxHeartbeats 4000000 in
theorem Exactly_same (t : Tm) : ∀ (va vb : Value) (w : World), lvB 1000000 t = true → TV w va t → TV w vb t → Calls Tryz.prog 39 #[va, vb] w fun e w' => e = .returned (.bool true) ∧ Grew w w' := by
  refine Tm.ind (P := fun t => ∀ (va vb : Value) (w : World), lvB 1000000 t = true → TV w va t → TV w vb t → Calls Tryz.prog 39 #[va, vb] w fun e w' => e = .returned (.bool true) ∧ Grew w w') ?_ t
  intro f n hd nm ls ks ih va vb w hlv hva hvb
  rw [lvB_mk, Bool.and_eq_true] at hlv
  obtain ⟨hlv1, hlv2⟩ := hlv
  have mx := mixed
  cases hva with
  | @mk _ _ _ _ _ _ la lc ka kc kb ko hl hln hlc hlm hkn hkc hkm hk kids =>
  cases hvb with
  | @mk _ _ _ _ _ _ la' lc' ka' kc' kb' ko' hl' hln' hlc' hlm' hkn' hkc' hkm' hk' kids' =>
    have HL := Hid.mk hl
    have HL' := Hid.mk hl'
    have HK := Hid.mk hk
    have HK' := Hid.mk hk'
    have HKIDS := Hid.mk kids
    have HKIDS' := Hid.mk kids'
    have HIH := Hid.mk ih
    have HLV : Hid (∀ l ∈ ls, l.2.length ≤ 1000000) := fun l hl => by have := List.all_eq_true.1 hlv1 l hl; simpa using this
    have HLK : Hid (∀ k ∈ ks, lvB 1000000 k = true) := List.all_eq_true.1 hlv2
    clear hk kids ih hl hk' kids' hl' hlv1 hlv2
    obtain ⟨W0, hW0⟩ : ∃ W0, (w.alloc (.cells #[.int .i64 f, .int .i64 n, .bool hd, .string nm, .slice la ls.length lc, .slice ka ks.length kc] 38)).alloc (.cells #[.int .i64 f, .int .i64 n, .bool hd, .string nm, .slice la' ls.length lc', .slice ka' ks.length kc'] 38) = W0 := ⟨_, rfl⟩
    have HG0 : Hid (Grew w W0) := by unfold Hid; rw [← hW0]; exact ((Grew.refl w).alloc _).alloc _
    have HX0 : Hid (W0.heap[w.heap.size]? = some (.cells #[.int .i64 f, .int .i64 n, .bool hd, .string nm, .slice la ls.length lc, .slice ka ks.length kc] 38 (0, 0))) := by unfold Hid; rw [← hW0]; exact box_at
    have HY0 : Hid (W0.heap[w.heap.size + 1]? = some (.cells #[.int .i64 f, .int .i64 n, .bool hd, .string nm, .slice la' ls.length lc', .slice ka' ks.length kc'] 38 (0, 0))) := by unfold Hid; rw [← hW0]; exact box_at1
    obtain ⟨x0, x1, x2, x3, x4, x5, x6⟩ := cells6 HX0.out
    obtain ⟨y0, y1, y2, y3, y4, y5, y6⟩ := cells6 HY0.out
    have HW0 := Hid.mk hW0
    clear hW0
    go_enter Tryz.func39, Tryz.ntmps39
    go_wp2_with fail
    rw [HW0.out]
    clear x0 x1 x2 x3 x4 x5 y0 y1 y2 y3 y4 y5
    go_loopw [5] (fun i wr => ∃ j : Nat, j ≤ ls.length ∧ i = .int .i64 j ∧ Grew W0 wr) (fun i _ => ls.length - (intOf i).toNat)
    case atStart => exact ⟨0, Nat.zero_le _, rfl, Grew.refl _⟩
    case round =>
      obtain ⟨j, hj, rfl, hg⟩ := hrel
      have HG := Hid.mk hg
      clear hg
      obtain ⟨x0, x1, x2, x3, x4, x5, x6'⟩ := cells6 ((HG.out.below.block w.heap.size x6).trans HX0.out)
      obtain ⟨y0, y1, y2, y3, y4, y5, y6'⟩ := cells6 ((HG.out.below.block (w.heap.size + 1) y6).trans HY0.out)
      by_cases hlt : j < ls.length
      · obtain ⟨b, off, a1, cap1, rfl, hbl, c0, c1, hs1⟩ := (HL.out.below (HG0.out.trans HG.out).below).at hlt
        obtain ⟨b', off', a2, cap2, rfl, hbl', d0, d1, hs2⟩ := (HL'.out.below (HG0.out.trans HG.out).below).at hlt
        have hlen := HLV.out ls[j] (List.getElem_mem hlt)
        have EX := Exact_any ls[j].1 ls[j].1 ls[j].2 ls[j].2 a1 a2 cap1 cap2 wr.drew (hs1.below (Below.refl _ _).drew) (hs2.below (Below.refl _ _).drew) (by omega) (by omega)
        rw [show exactB ls[j].1 ls[j].2 ls[j].1 ls[j].2 = true by simp [exactB]] at EX
        have zj : (j : Int) < (ls.length : Int) := by omega
        clear hs1 hs2 hlen
        generalize ls[j] = l at *
        have HCEL : Hid (∀ W : World, RowKit.Below wr.heap.size wr W → W.cell? ⟨w.heap.size, 4, none⟩ = some (.slice (some ⟨b, off, none⟩) ls.length lc) ∧ W.cell? ⟨w.heap.size + 1, 4, none⟩ = some (.slice (some ⟨b', off', none⟩) ls.length lc') ∧ W.cell? ⟨b, off + j * 2, none⟩ = some (.int .i64 l.1) ∧ W.cell? ⟨b, off + j * 2 + 1, none⟩ = some (.slice a1 l.2.length cap1) ∧ W.cell? ⟨b', off' + j * 2, none⟩ = some (.int .i64 l.1) ∧ W.cell? ⟨b', off' + j * 2 + 1, none⟩ = some (.slice a2 l.2.length cap2)) := fun W h => ⟨(h.cell (p := ⟨w.heap.size, 4, none⟩) x6').trans x4, (h.cell (p := ⟨w.heap.size + 1, 4, none⟩) y6').trans y4, (h.cell (p := ⟨b, off + j * 2, none⟩) hbl).trans c0, (h.cell (p := ⟨b, off + j * 2 + 1, none⟩) hbl).trans c1, (h.cell (p := ⟨b', off' + j * 2, none⟩) hbl').trans d0, (h.cell (p := ⟨b', off' + j * 2 + 1, none⟩) hbl').trans d1⟩
        go_wp2_with fail
        go_region_held3 (fun w' => w'.cell? ⟨w.heap.size, 4, none⟩ = some (.slice (some ⟨b, off, none⟩) ls.length lc) ∧ w'.cell? ⟨w.heap.size + 1, 4, none⟩ = some (.slice (some ⟨b', off', none⟩) ls.length lc') ∧ w'.cell? ⟨b, off + j * 2, none⟩ = some (.int .i64 l.1) ∧ w'.cell? ⟨b, off + j * 2 + 1, none⟩ = some (.slice a1 l.2.length cap1) ∧ w'.cell? ⟨b', off' + j * 2, none⟩ = some (.int .i64 l.1) ∧ w'.cell? ⟨b', off' + j * 2 + 1, none⟩ = some (.slice a2 l.2.length cap2)) (first | exact HCEL.out _ (Below.refl _ _).drew | exact HCEL.out _ hb5)
          (first | (go_at_call 71; refine EX.mono ?_; rintro e w5 ⟨rfl, hg5⟩; have hb5 : RowKit.Below wr.heap.size wr w5 := (Below.refl _ _).drew.trans hg5.below; have HG5 : Hid (Grew wr w5) := ((Grew.refl wr).drew).trans hg5; clear hg5))
        go_wp2
        refine ⟨⟨j + 1, hlt, by go_num, HG.out.trans HG5.out⟩, by simp [intOf]; omega⟩
      · obtain ⟨W1, rfl⟩ : ∃ W, W = wr := ⟨_, rfl⟩
        have HG1 : Hid (Grew w W1) := HG0.out.trans HG.out
        have HX1 := Hid.mk ((HG.out.below.block w.heap.size x6).trans HX0.out)
        have HY1 := Hid.mk ((HG.out.below.block (w.heap.size + 1) y6).trans HY0.out)
        go_wp2
        clear x0 x1 x2 x3 x4 x5 y0 y1 y2 y3 y4 y5
        go_loopw [7] (fun i wr => ∃ j : Nat, j ≤ ks.length ∧ i = .int .i64 j ∧ Grew W1 wr) (fun i _ => ks.length - (intOf i).toNat)
        case atStart => exact ⟨0, Nat.zero_le _, rfl, Grew.refl _⟩
        case round =>
          obtain ⟨k, hk, rfl, hg⟩ := hrel
          have HG2 := Hid.mk hg
          clear hg
          obtain ⟨x0, x1, x2, x3, x4, x5, x7⟩ := cells6 ((HG2.out.below.block w.heap.size x6').trans HX1.out)
          obtain ⟨y0, y1, y2, y3, y4, y5, y7⟩ := cells6 ((HG2.out.below.block (w.heap.size + 1) y6').trans HY1.out)
          by_cases hlk : k < ks.length
          · obtain ⟨rfl, hkb⟩ := HK.out (by intro e; rw [e] at hlk; simp at hlk)
            obtain ⟨rfl, hkb'⟩ := HK'.out (by intro e; rw [e] at hlk; simp at hlk)
            have hkt : ks[k]? = some ks[k] := by simp [hlk]
            have hmem : ks[k] ∈ ks := List.getElem_mem hlk
            have htc := (HKIDS.out k _ hkt).on (HG1.out.trans HG2.out).below
            have htc' := (HKIDS'.out k _ hkt).on (HG1.out.trans HG2.out).below
            obtain ⟨v0, v1, v2, v3, v4, v5, c0, c1, c2, c3, c4, c5, hv⟩ := htc.val
            obtain ⟨u0, u1, u2, u3, u4, u5, d0, d1, d2, d3, d4, d5, hu⟩ := htc'.val
            have HCALL := HIH.out ks[k] hmem _ _ wr.drew (HLK.out _ hmem) (hv.on (Below.refl _ _).drew) (hu.on (Below.refl _ _).drew)
            have zk : (k : Int) < (ks.length : Int) := by omega
            have hkr := htc.lt
            have hkr' := htc'.lt
            clear hkt hmem htc htc' hv hu
            have HCEL : Hid (∀ W : World, RowKit.Below wr.heap.size wr W → W.cell? ⟨w.heap.size, 5, none⟩ = some (.slice (some ⟨kb, ko, none⟩) ks.length kc) ∧ W.cell? ⟨w.heap.size + 1, 5, none⟩ = some (.slice (some ⟨kb', ko', none⟩) ks.length kc') ∧ W.cell? ⟨kb, ko + k * 6, none⟩ = some (v0) ∧ W.cell? ⟨kb, ko + k * 6 + 1, none⟩ = some (v1) ∧ W.cell? ⟨kb, ko + k * 6 + 2, none⟩ = some (v2) ∧ W.cell? ⟨kb, ko + k * 6 + 3, none⟩ = some (v3) ∧ W.cell? ⟨kb, ko + k * 6 + 4, none⟩ = some (v4) ∧ W.cell? ⟨kb, ko + k * 6 + 5, none⟩ = some (v5) ∧ W.cell? ⟨kb', ko' + k * 6, none⟩ = some (u0) ∧ W.cell? ⟨kb', ko' + k * 6 + 1, none⟩ = some (u1) ∧ W.cell? ⟨kb', ko' + k * 6 + 2, none⟩ = some (u2) ∧ W.cell? ⟨kb', ko' + k * 6 + 3, none⟩ = some (u3) ∧ W.cell? ⟨kb', ko' + k * 6 + 4, none⟩ = some (u4) ∧ W.cell? ⟨kb', ko' + k * 6 + 5, none⟩ = some (u5)) := fun W h => ⟨(h.cell (p := ⟨w.heap.size, 5, none⟩) x7).trans x5, (h.cell (p := ⟨w.heap.size + 1, 5, none⟩) y7).trans y5, (h.cell (p := ⟨kb, ko + k * 6, none⟩) hkr).trans c0, (h.cell (p := ⟨kb, ko + k * 6 + 1, none⟩) hkr).trans c1, (h.cell (p := ⟨kb, ko + k * 6 + 2, none⟩) hkr).trans c2, (h.cell (p := ⟨kb, ko + k * 6 + 3, none⟩) hkr).trans c3, (h.cell (p := ⟨kb, ko + k * 6 + 4, none⟩) hkr).trans c4, (h.cell (p := ⟨kb, ko + k * 6 + 5, none⟩) hkr).trans c5, (h.cell (p := ⟨kb', ko' + k * 6, none⟩) hkr').trans d0, (h.cell (p := ⟨kb', ko' + k * 6 + 1, none⟩) hkr').trans d1, (h.cell (p := ⟨kb', ko' + k * 6 + 2, none⟩) hkr').trans d2, (h.cell (p := ⟨kb', ko' + k * 6 + 3, none⟩) hkr').trans d3, (h.cell (p := ⟨kb', ko' + k * 6 + 4, none⟩) hkr').trans d4, (h.cell (p := ⟨kb', ko' + k * 6 + 5, none⟩) hkr').trans d5⟩
            go_wp2_with fail
            go_region_held3 (fun w' => w'.cell? ⟨w.heap.size, 5, none⟩ = some (.slice (some ⟨kb, ko, none⟩) ks.length kc) ∧ w'.cell? ⟨w.heap.size + 1, 5, none⟩ = some (.slice (some ⟨kb', ko', none⟩) ks.length kc') ∧ w'.cell? ⟨kb, ko + k * 6, none⟩ = some (v0) ∧ w'.cell? ⟨kb, ko + k * 6 + 1, none⟩ = some (v1) ∧ w'.cell? ⟨kb, ko + k * 6 + 2, none⟩ = some (v2) ∧ w'.cell? ⟨kb, ko + k * 6 + 3, none⟩ = some (v3) ∧ w'.cell? ⟨kb, ko + k * 6 + 4, none⟩ = some (v4) ∧ w'.cell? ⟨kb, ko + k * 6 + 5, none⟩ = some (v5) ∧ w'.cell? ⟨kb', ko' + k * 6, none⟩ = some (u0) ∧ w'.cell? ⟨kb', ko' + k * 6 + 1, none⟩ = some (u1) ∧ w'.cell? ⟨kb', ko' + k * 6 + 2, none⟩ = some (u2) ∧ w'.cell? ⟨kb', ko' + k * 6 + 3, none⟩ = some (u3) ∧ w'.cell? ⟨kb', ko' + k * 6 + 4, none⟩ = some (u4) ∧ w'.cell? ⟨kb', ko' + k * 6 + 5, none⟩ = some (u5)) (first | exact HCEL.out _ (Below.refl _ _).drew | exact HCEL.out _ hb5)
              (first | (go_at_call 39; refine HCALL.mono ?_; rintro e w5 ⟨rfl, hg5⟩; have hb5 : RowKit.Below wr.heap.size wr w5 := (Below.refl _ _).drew.trans hg5.below; have HG5 : Hid (Grew wr w5) := ((Grew.refl wr).drew).trans hg5; clear hg5))
            go_wp2
            refine ⟨⟨k + 1, hlk, by go_num, HG2.out.trans HG5.out⟩, by simp [intOf]; omega⟩
          · go_wp2
            go_ret
            exact ⟨rfl, HG1.out.trans HG2.out⟩
end Go.Proofs.YtndjdeiccmhelaaGreat
