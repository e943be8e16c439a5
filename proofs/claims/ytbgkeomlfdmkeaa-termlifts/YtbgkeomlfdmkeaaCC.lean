/- A lent term: a copy with one kid more behind each list; the contract of telamonlaw2.Stay. -/
import Derived.Test.YtbgkeomlfdmkeaaOA
import Derived.Test.YtbgkeomlfdmkeaaSA
import Derived.Deep.RegionHeld3
namespace Go.Proofs.Ytbgkeomlfdmkeaa
open Go.RowKit Go.Sort

/-- The value v is t, lent: its rows lie in blocks from B on, each with one part more behind it; its levels lie in w0. -/
inductive LT (w0 : World) (B : Nat) (w : World) : Value → Tm → Prop where
  | mk {f n : Int} {h : Bool} {nm : ByteArray} {ls : List LvT} {ks : List Tm} {la : Option Addr} {lc g kc : Nat} {kvs : Nat → Value} (hl : LN w0 la ls) (hln : la = none → lc = 0) (hlc : ls.length ≤ lc) (hlm : lc ≤ 9223372036854775807) (hg : B ≤ g) (hgw : g < w.heap.size) (hkc : ks.length + 1 ≤ kc) (hkm : kc ≤ 9223372036854775807)
      (cells : ∀ i, i < ks.length → CellsAt w g (i * 6) (kvs i)) (last : w.cell? ⟨g, ks.length * 6, none⟩ = some (.int .i64 (-71))) (kids : ∀ i t, ks[i]? = some t → LT w0 B w (kvs i) t) : LT w0 B w (.agg #[.int .i64 f, .int .i64 n, .bool h, .string nm, .slice la ls.length lc, .slice (some ⟨g, 0, none⟩) ks.length kc]) (.mk f n h nm ls ks)

theorem LT.tv {w0 w : World} {B : Nat} {v : Value} {t : Tm} (h : LT w0 B w v t) (hb : RowKit.Below w0.heap.size w0 w) : TV w v t := by
  induction h with
  | @mk f n h nm ls ks la lc g kc kvs hl hln hlc hlm hg hgw hkc hkm cells last kids ih =>
    refine TV.mk (kb := g) (ko := 0) (hl.below hb) hln hlc hlm (fun e => by cases e) (by omega) hkm (fun _ => ⟨rfl, hgw⟩) (fun i t hi => ?_)
    have hi' : i < ks.length := (List.getElem?_eq_some_iff.1 hi).1
    have := (cells i hi').tc (ih i t hi)
    rwa [Nat.zero_add]

/-- a lent term stays where its rows stay -/
theorem LT.keep {w0 w w' : World} {B : Nat} {v : Value} {t : Tm} (h : LT w0 B w v t) (hs : w.heap.size ≤ w'.heap.size) (hk : ∀ k, B ≤ k → k < w.heap.size → w'.heap[k]? = w.heap[k]?) : LT w0 B w' v t := by
  induction h with
  | @mk f n h nm ls ks la lc g kc kvs hl hln hlc hlm hg hgw hkc hkm cells last kids ih =>
    have hc : ∀ o, w'.cell? ⟨g, o, none⟩ = w.cell? ⟨g, o, none⟩ := fun o => World.cell?_of_block (w := w) (hk g hg hgw)
    refine LT.mk hl hln hlc hlm hg (Nat.lt_of_lt_of_le hgw hs) hkc hkm (fun i hi => ?_) ((hc _).trans last) ih
    obtain ⟨v0, v1, v2, v3, l1, l2, l3, k1, k2, k3, hv, c0, c1, c2, c3, c4, c5⟩ := cells i hi
    exact ⟨v0, v1, v2, v3, l1, l2, l3, k1, k2, k3, hv, (hc _).trans c0, (hc _).trans c1, (hc _).trans c2, (hc _).trans c3, (hc _).trans c4, (hc _).trans c5⟩

theorem LT.mono {w0 w : World} {B B' : Nat} {v : Value} {t : Tm} (h : LT w0 B w v t) (hB : B' ≤ B) : LT w0 B' w v t := by
  induction h with
  | mk hl hln hlc hlm hg hgw hkc hkm cells last kids ih => exact LT.mk hl hln hlc hlm (by omega) hgw hkc hkm cells last ih

theorem LT.on {w0 w w' : World} {B : Nat} {v : Value} {t : Tm} (h : LT w0 B w v t) (hb : RowKit.Below w.heap.size w w') : LT w0 B w' v t := h.keep hb.size (fun k _ hk => hb.block k hk)

set_option maxRecDepth 100000 in
set_option maxHeartbeats 4000000 in
theorem Stay_any (w0 : World) (B : Nat) (t : Tm) : ∀ (va vb : Value) (w : World), smT 1000000 t → LT w0 B w va t → TV w vb t → Calls Try.prog 13 #[va, vb] w fun e w' => e = .returned (.bool true) ∧ Grew w w' := by
  refine Tm.ind (P := fun t => ∀ (va vb : Value) (w : World), smT 1000000 t → LT w0 B w va t → TV w vb t → Calls Try.prog 13 #[va, vb] w fun e w' => e = .returned (.bool true) ∧ Grew w w') ?_ t
  intro f n hd nm ls ks ih va vb w hsm hva hvb
  obtain ⟨-, s1, s2, s3, s4⟩ := (smT_mk _ _ _ _ _ _ _).1 hsm
  have mx := mixed
  cases hva with
  | @mk _ _ _ _ _ _ la lc g kc kvs hl hln hlc hlm hg hgw hkc hkm cells last kids =>
  cases hvb with
  | @mk _ _ _ _ _ _ la' lc' ka' kc' kb' ko' hl' hln' hlc' hlm' hkn' hkc' hkm' hk' kids' =>
    have HCS := Hid.mk cells
    have HLAST := Hid.mk last
    have HK' := Hid.mk hk'
    have HKIDS := Hid.mk kids
    have HKIDS' := Hid.mk kids'
    have HIH := Hid.mk ih
    have HS4 := Hid.mk s4
    clear cells last kids ih hl hk' kids' hl' s2 s4 hsm
    obtain ⟨W0, hW0⟩ : ∃ W0, (w.alloc (.cells #[.int .i64 f, .int .i64 n, .bool hd, .string nm, .slice la ls.length lc, .slice (some ⟨g, 0, none⟩) ks.length kc] 25)).alloc (.cells #[.int .i64 f, .int .i64 n, .bool hd, .string nm, .slice la' ls.length lc', .slice ka' ks.length kc'] 25) = W0 := ⟨_, rfl⟩
    have HG0 : Hid (Grew w W0) := by unfold Hid; rw [← hW0]; exact ((Grew.refl w).alloc _).alloc _
    have HX0 : Hid (W0.heap[w.heap.size]? = some (.cells #[.int .i64 f, .int .i64 n, .bool hd, .string nm, .slice la ls.length lc, .slice (some ⟨g, 0, none⟩) ks.length kc] 25 (0, 0))) := by unfold Hid; rw [← hW0]; exact box_at
    have HY0 : Hid (W0.heap[w.heap.size + 1]? = some (.cells #[.int .i64 f, .int .i64 n, .bool hd, .string nm, .slice la' ls.length lc', .slice ka' ks.length kc'] 25 (0, 0))) := by unfold Hid; rw [← hW0]; exact box_at1
    obtain ⟨x0, x1, x2, x3, x4, x5, x6⟩ := cells6 HX0.out
    obtain ⟨y0, y1, y2, y3, y4, y5, y6⟩ := cells6 HY0.out
    have HW0 := Hid.mk hW0
    clear hW0
    have hl1 := HLAST.out
    have hgw1 : g < w.heap.size + 1 := by omega
    have hgw0 : g < W0.heap.size := Nat.lt_of_lt_of_le hgw HG0.out.below.size
    have hb1 : (ks.length : Int) + 1 ≤ (kc : Int) := by omega
    have hb2 : (ks.length : Int) < (ks.length : Int) + 1 := by omega
    go_enter Try.func13, Try.ntmps13
    go_wp2_with fail
    rw [HW0.out]
    clear x0 x1 x2 x3 x4 x5 y0 y1 y2 y3 y4 y5 hl1
    go_loopw [6] (fun i wr => ∃ j : Nat, j ≤ ks.length ∧ i = .int .i64 j ∧ Grew W0 wr) (fun i _ => ks.length - (intOf i).toNat)
    case atStart => exact ⟨0, Nat.zero_le _, rfl, Grew.refl _⟩
    case round =>
      obtain ⟨k, hk, rfl, hgr0⟩ := hrel
      have HG2 := Hid.mk hgr0
      clear hgr0
      obtain ⟨x0, x1, x2, x3, x4, x5, x7⟩ := cells6 ((HG2.out.below.block w.heap.size x6).trans HX0.out)
      obtain ⟨y0, y1, y2, y3, y4, y5, y7⟩ := cells6 ((HG2.out.below.block (w.heap.size + 1) y6).trans HY0.out)
      by_cases hlk : k < ks.length
      · obtain ⟨rfl, hkb'⟩ := HK'.out (by intro e; rw [e] at hlk; simp at hlk)
        have hkt : ks[k]? = some ks[k] := by simp [hlk]
        have hmem : ks[k] ∈ ks := List.getElem_mem hlk
        have htc' := (HKIDS'.out k _ hkt).on (HG0.out.trans HG2.out).below
        have hlt := (HKIDS.out k _ hkt).on (HG0.out.trans HG2.out).below
        obtain ⟨v0, v1, v2, v3, p1, p2, p3, q1, q2, q3, hkv, c0, c1, c2, c3, c4, c5⟩ := HCS.out k hlk
        rw [hkv] at hlt
        have hbw := (HG0.out.trans HG2.out).below
        have c0 := (hbw.cell (p := ⟨g, k * 6, none⟩) hgw).trans c0
        have c1 := (hbw.cell (p := ⟨g, k * 6 + 1, none⟩) hgw).trans c1
        have c2 := (hbw.cell (p := ⟨g, k * 6 + 2, none⟩) hgw).trans c2
        have c3 := (hbw.cell (p := ⟨g, k * 6 + 3, none⟩) hgw).trans c3
        have c4 := (hbw.cell (p := ⟨g, k * 6 + 4, none⟩) hgw).trans c4
        have c5 := (hbw.cell (p := ⟨g, k * 6 + 5, none⟩) hgw).trans c5
        obtain ⟨u0, u1, u2, u3, u4, u5, d0, d1, d2, d3, d4, d5, hu⟩ := htc'.val
        have HCALL := HIH.out ks[k] hmem _ _ wr.drew (HS4.out _ hmem) (hlt.on (Below.refl _ _).drew) (hu.on (Below.refl _ _).drew)
        have zk : (k : Int) < (ks.length : Int) := by omega
        have hgr : g < wr.heap.size := Nat.lt_of_lt_of_le hgw hbw.size
        have hkr' := htc'.lt
        clear hkt hmem htc' hlt hu hkv hbw
        have HCEL : Hid (∀ W : World, RowKit.Below wr.heap.size wr W → W.cell? ⟨w.heap.size, 5, none⟩ = some (.slice (some ⟨g, 0, none⟩) ks.length kc) ∧ W.cell? ⟨w.heap.size + 1, 5, none⟩ = some (.slice (some ⟨kb', ko', none⟩) ks.length kc') ∧ W.cell? ⟨g, k * 6, none⟩ = some (.int .i64 v0) ∧ W.cell? ⟨g, k * 6 + 1, none⟩ = some (.int .i64 v1) ∧ W.cell? ⟨g, k * 6 + 2, none⟩ = some (.bool v2) ∧ W.cell? ⟨g, k * 6 + 3, none⟩ = some (.string v3) ∧ W.cell? ⟨g, k * 6 + 4, none⟩ = some (.slice p1 p2 p3) ∧ W.cell? ⟨g, k * 6 + 5, none⟩ = some (.slice q1 q2 q3) ∧ W.cell? ⟨kb', ko' + k * 6, none⟩ = some (u0) ∧ W.cell? ⟨kb', ko' + k * 6 + 1, none⟩ = some (u1) ∧ W.cell? ⟨kb', ko' + k * 6 + 2, none⟩ = some (u2) ∧ W.cell? ⟨kb', ko' + k * 6 + 3, none⟩ = some (u3) ∧ W.cell? ⟨kb', ko' + k * 6 + 4, none⟩ = some (u4) ∧ W.cell? ⟨kb', ko' + k * 6 + 5, none⟩ = some (u5)) := fun W h => ⟨(h.cell (p := ⟨w.heap.size, 5, none⟩) x7).trans x5, (h.cell (p := ⟨w.heap.size + 1, 5, none⟩) y7).trans y5, (h.cell (p := ⟨g, k * 6, none⟩) hgr).trans c0, (h.cell (p := ⟨g, k * 6 + 1, none⟩) hgr).trans c1, (h.cell (p := ⟨g, k * 6 + 2, none⟩) hgr).trans c2, (h.cell (p := ⟨g, k * 6 + 3, none⟩) hgr).trans c3, (h.cell (p := ⟨g, k * 6 + 4, none⟩) hgr).trans c4, (h.cell (p := ⟨g, k * 6 + 5, none⟩) hgr).trans c5, (h.cell (p := ⟨kb', ko' + k * 6, none⟩) hkr').trans d0, (h.cell (p := ⟨kb', ko' + k * 6 + 1, none⟩) hkr').trans d1, (h.cell (p := ⟨kb', ko' + k * 6 + 2, none⟩) hkr').trans d2, (h.cell (p := ⟨kb', ko' + k * 6 + 3, none⟩) hkr').trans d3, (h.cell (p := ⟨kb', ko' + k * 6 + 4, none⟩) hkr').trans d4, (h.cell (p := ⟨kb', ko' + k * 6 + 5, none⟩) hkr').trans d5⟩
        go_wp2_with fail
        go_region_held3 (fun w' => w'.cell? ⟨w.heap.size, 5, none⟩ = some (.slice (some ⟨g, 0, none⟩) ks.length kc) ∧ w'.cell? ⟨w.heap.size + 1, 5, none⟩ = some (.slice (some ⟨kb', ko', none⟩) ks.length kc') ∧ w'.cell? ⟨g, k * 6, none⟩ = some (.int .i64 v0) ∧ w'.cell? ⟨g, k * 6 + 1, none⟩ = some (.int .i64 v1) ∧ w'.cell? ⟨g, k * 6 + 2, none⟩ = some (.bool v2) ∧ w'.cell? ⟨g, k * 6 + 3, none⟩ = some (.string v3) ∧ w'.cell? ⟨g, k * 6 + 4, none⟩ = some (.slice p1 p2 p3) ∧ w'.cell? ⟨g, k * 6 + 5, none⟩ = some (.slice q1 q2 q3) ∧ w'.cell? ⟨kb', ko' + k * 6, none⟩ = some (u0) ∧ w'.cell? ⟨kb', ko' + k * 6 + 1, none⟩ = some (u1) ∧ w'.cell? ⟨kb', ko' + k * 6 + 2, none⟩ = some (u2) ∧ w'.cell? ⟨kb', ko' + k * 6 + 3, none⟩ = some (u3) ∧ w'.cell? ⟨kb', ko' + k * 6 + 4, none⟩ = some (u4) ∧ w'.cell? ⟨kb', ko' + k * 6 + 5, none⟩ = some (u5)) (first | exact HCEL.out _ (Below.refl _ _).drew | exact HCEL.out _ hb5)
          (first | (go_at_call 13; refine HCALL.mono ?_; rintro e w5 ⟨rfl, hg5⟩; have hb5 : RowKit.Below wr.heap.size wr w5 := (Below.refl _ _).drew.trans hg5.below; have HG5 : Hid (Grew wr w5) := ((Grew.refl wr).drew).trans hg5; clear hg5))
        go_wp2
        refine ⟨⟨k + 1, hlk, by go_num, HG2.out.trans HG5.out⟩, by simp [intOf]; omega⟩
      · go_wp2
        go_ret
        exact ⟨rfl, HG0.out.trans HG2.out⟩
end Go.Proofs.Ytbgkeomlfdmkeaa
