/- The contracts of the writer of package bytes: put, number, flag, name. -/
import Derived.Test.YtmmbnimehmfadaaEA
namespace Go.Proofs.Ytmmbnimehmfadaa
open Go.RowKit Go.Sort

theorem Kept.wider {P Q : Nat → Prop} {a b : World} (h : Kept P a b) (hPQ : ∀ k, P k → Q k) : Kept Q a b := ⟨h.os, h.tape, h.output, h.size, fun k hk hq => h.block k hk (fun hp => hq (hPQ k hp))⟩

/-- what a step of the writer does -/
def WrPost (B wb : Nat) (tot news : List UInt8) (w : World) (e : Ending) (w' : World) : Prop := e = .returned (.tuple #[]) ∧ WR w' B wb (tot ++ news) ∧ Wrote wb w w'

theorem set_at1 {w : World} {b : Nat} {u v x : Value} {t : TypeId} (h : w.heap[b]? = some (.cells #[u, v] t (0, 0))) : (w.setCell ⟨b, 1, none⟩ x).heap[b]? = some (.cells #[u, x] t (0, 0)) := by
  rw [setCell_eq]; show (w.heap.modify b _)[b]? = _
  rw [Array.getElem?_modify, if_pos rfl, h]; rfl

theorem frz2 {w : World} {b : Nat} {u v : Value} {t : TypeId} (h : w.heap[b]? = some (.cells #[u, v] t (0, 0))) : w.frozen? ⟨b, 0, none⟩ = false ∧ w.frozen? ⟨b, 1, none⟩ = false := by
  constructor <;> simp [World.frozen?, h]

/-- the writer's two cells -/
theorem writer_cells {w : World} {wb : Nat} {out tm out' tm' : Value} (h : w.heap[wb]? = some (.cells #[out, tm] 78 (0, 0))) (h' : w.heap[wb]? = some (.cells #[out', tm'] 78 (0, 0))) : out = out' ∧ tm = tm' := by
  rw [h] at h'
  simp at h'
  exact h'

/-- the mark alone is set -/
theorem marked {B wb : Nat} {tot news bs : List UInt8} {w : World} {out tm : Value} (hBw : B ≤ wb) (hh : w.heap[wb]? = some (.cells #[out, tm] 78 (0, 0))) (hO : OY B w out bs) (hnb : out.ownBlock ≠ some wb) (hbs : bs.length ≤ 1000000) (hl : 1000000 < (tot ++ news).length) : WrPost B wb tot news w (.returned (.tuple #[])) (w.setCell ⟨wb, 1, none⟩ (.bool true)) := by
  have hk : Kept (fun k => k = wb) w (w.setCell ⟨wb, 1, none⟩ (.bool true)) := (Kept.refl (fun k => k = wb) w).setCell (p := ⟨wb, 1, none⟩) rfl _
  have hh1 := set_at1 (x := .bool true) hh
  refine ⟨rfl, ⟨hBw, out, true, bs, hh1, hO.move fun k hk' => hk.block k (hO.lt hk').2 (fun e => hnb (by rw [← e]; exact hk')), hnb, Or.inr ⟨rfl, hl, hbs⟩⟩, ⟨hk.wider fun k h => Or.inl h, fun k hr => ?_⟩⟩
  obtain ⟨out', tm', h1, h2⟩ := hr
  obtain ⟨rfl, -⟩ := writer_cells hh1 h1
  exact Or.inl ⟨out, tm, hh, h2⟩

set_option maxRecDepth 100000 in
set_option maxHeartbeats 4000000 in
theorem put_any (B wb : Nat) (tot news : List UInt8) (ad : Addr) (c1 : Nat) (w : World) (hW : WR w B wb tot) (hB : B ≤ w.heap.size) (hS : BL w (some ad) news) (hne : news ≠ []) (hnl : news.length ≤ 1000000000) (had : ad.block ≠ wb) : Calls Try.prog 49 #[.pointer (some ⟨wb, 0, none⟩), .slice (some ad) news.length c1] w (WrPost B wb tot news w) := by
  obtain ⟨hBw, out, tm, bs, hh, hO, hnb, hst⟩ := hW
  obtain ⟨x0, x1, -, -, x4⟩ := cells2 hh
  obtain ⟨f0, f1⟩ := frz2 hh
  obtain ⟨oa, oc, rfl, hbl, hoc, hom, hon, hog⟩ := hO.shape
  have HH := Hid.mk hh
  have HO := Hid.mk hO
  have HS := Hid.mk hS
  have HNB := Hid.mk hnb
  clear hh hO hS hnb hog hbl
  have hbs : bs.length ≤ 1000000 := by rcases hst with ⟨-, rfl, h⟩ | ⟨-, -, h⟩ <;> exact h
  rcases hst with ⟨rfl, rfl, hl⟩ | ⟨rfl, hl, -⟩
  · by_cases hfit : bs.length + news.length ≤ 1000000
    · have hf : (1000000 < (bs.length : Int) + (news.length : Int)) = False := by simp; omega
      obtain ⟨W1, hW1⟩ : ∃ W1, w.setCell ⟨wb, 1, none⟩ (.bool false) = W1 := ⟨_, rfl⟩
      have HK1 : Hid (Kept (fun k => k = wb) w W1) := by unfold Hid; rw [← hW1]; exact (Kept.refl (fun k => k = wb) w).setCell (p := ⟨wb, 1, none⟩) rfl _
      have HH1 : Hid (W1.heap[wb]? = some (.cells #[.slice oa bs.length oc, .bool false] 78 (0, 0))) := by unfold Hid; rw [← hW1]; exact set_at1 HH.out
      have hs1 : W1.heap.size = w.heap.size := by rw [← hW1]; simp [World.setCell]
      have HO1 : Hid (OY B W1 (.slice oa bs.length oc) bs) := HO.out.move fun k hk => HK1.out.block k (HO.out.lt hk).2 (fun e => HNB.out (by rw [← e]; exact hk))
      have HS1 : Hid (BL W1 (some ad) news) := HS.out.move (by omega) fun b off e hb => HK1.out.block b hb (fun e2 => had (by simp only [Option.some.injEq] at e; rw [e]; exact e2))
      have HW1 := Hid.mk hW1
      have hB1 : B ≤ W1.heap.size := by omega
      obtain ⟨y0, y1, -, -, y4⟩ := cells2 HH1.out
      obtain ⟨g0, g1⟩ := frz2 HH1.out
      clear hW1
      go_enter Try.func49, Try.ntmps49
      go_wp2_with (at_builtin; rw [HW1.out]; refine wpList_appB rfl _ _ rfl B (.slice oa bs.length oc) bs news ad c1 news.length rfl rfl rfl HO1.out HS1.out hne (by omega) hB1 ?_; intro g7 c7 W7 hown7 hgr7 hat7; have HOWN7 := Hid.mk hown7; have HGR7 := Hid.mk hgr7; have HAT7 := Hid.mk hat7; have z := (hgr7.block wb y4 HNB.out.symm).trans HH1.out; have HZ := Hid.mk z; have z0 := (cells2 z).1; have z4 := (cells2 z).2.2.2.2; have zf := (frz2 z).1; clear z hown7 hgr7 hat7 x0 x1 f0 f1 y0 y1 g0 g1)
      go_end0
      have hk8 : Kept (fun k => k = wb) W7 (W7.setCell ⟨wb, 0, none⟩ (.slice (some ⟨g7, 0, none⟩) (bs.length + news.length) c7)) := (Kept.refl (fun k => k = wb) W7).setCell (p := ⟨wb, 0, none⟩) rfl _
      have hh8 := heap_set0 (x := .slice (some ⟨g7, 0, none⟩) (bs.length + news.length) c7) HZ.out
      have hg7 : g7 ≠ wb := by
        rcases HAT7.out with h | h
        · intro e; exact HNB.out (by rw [h, e])
        · omega
      have hO8 := HOWN7.out.move (w' := W7.setCell ⟨wb, 0, none⟩ (.slice (some ⟨g7, 0, none⟩) (bs.length + news.length) c7)) fun k hk => hk8.block k (HOWN7.out.lt hk).2 (by simp [Value.ownBlock] at hk; omega)
      rw [List.length_append] at hO8
      refine ⟨rfl, ⟨hBw, _, false, bs ++ news, hh8, hO8, by simp [Value.ownBlock]; exact hg7, Or.inl ⟨rfl, rfl, by simp; omega⟩⟩, ⟨⟨hk8.os.trans (HGR7.out.os.trans HK1.out.os), hk8.tape.trans (HGR7.out.tape.trans HK1.out.tape), hk8.output.trans (HGR7.out.output.trans HK1.out.output), by have := hk8.size; have := HGR7.out.size; omega, fun k hk hp => ?_⟩, fun k hr => ?_⟩⟩
      · have hkw : k ≠ wb := fun e => hp (Or.inl e)
        have hkr : ¬ (Value.slice oa bs.length oc).ownBlock = some k := fun e => hp (Or.inr ⟨_, _, HH.out, e⟩)
        have h7 := HGR7.out.block k (by omega) (fun e => hkr e.symm)
        exact (hk8.block k (by have := HGR7.out.size; omega) hkw).trans (h7.trans (HK1.out.block k hk hkw))
      · obtain ⟨out', tm', h1, h2⟩ := hr
        obtain ⟨rfl, -⟩ := writer_cells hh8 h1
        simp only [Value.ownBlock, Option.some.injEq] at h2
        subst h2
        rcases HAT7.out with h | h
        · exact Or.inl ⟨_, _, HH.out, h⟩
        · exact Or.inr (by omega)
    · have hf : (1000000 < (bs.length : Int) + (news.length : Int)) = True := by simp; omega
      go_enter Try.func49, Try.ntmps49
      go_wp2
      go_end0
      exact marked hBw HH.out HO.out HNB.out hbs (by simp; omega)
  · go_enter Try.func49, Try.ntmps49
    go_wp2
    go_end0
    exact marked hBw HH.out HO.out HNB.out hbs (by simp; omega)

theorem or128 (x : Nat) (h : x < 256) : bits .or .u8 (x : Int) 128 = ((x % 128 + 128 : Nat) : Int) := by
  have key : ∀ y : Fin 256, bits .or .u8 ((y.val : Nat) : Int) 128 = ((y.val % 128 + 128 : Nat) : Int) := by decide +kernel
  exact key ⟨x, h⟩

theorem or_byte (m : Nat) : bits .or .u8 ((m : Int) % 256) 128 = ((UInt8.ofNat (m % 128 + 128)).toNat : Int) := by
  have h1 : ((m : Int) % 256) = ((m % 256 : Nat) : Int) := by omega
  rw [h1, or128 _ (by omega), UInt8.toNat_ofNat_of_lt' (by show m % 128 + 128 < 256; omega)]
  omega

theorem small_byte {m : Nat} (h : m < 128) : ((m : Int) % 256) = ((UInt8.ofNat m).toNat : Int) := by
  rw [UInt8.toNat_ofNat_of_lt' (by show m < 256; omega)]
  omega

theorem news1 {w : World} (b : UInt8) : BL (w.alloc (.cells #[.int .u8 (b.toNat : Int)] 5)) (some ⟨w.heap.size, 0, none⟩) [b] :=
  BL.of_block (alloc_new w _) fun i hi => by
    have : i = 0 := by simpa using hi
    subst this; rfl

set_option maxRecDepth 100000 in
set_option maxHeartbeats 4000000 in
theorem number_any (B wb : Nat) (tot : List UInt8) (n : Nat) (w : World) (hW : WR w B wb tot) (hB : B ≤ w.heap.size) (hn : n < 9223372036854775808) : Calls Try.prog 37 #[.pointer (some ⟨wb, 0, none⟩), .int .i64 (n : Int)] w (WrPost B wb tot (numB n) w) := by
  go_enter Try.func37, Try.ntmps37
  go_wp2_with fail
  go_loopw [4] (fun u wr => ∃ (m : Nat) (done : List UInt8), u = .int .u64 m ∧ m ≤ n ∧ numB n = done ++ numB m ∧ WR wr B wb (tot ++ done) ∧ Wrote wb w wr) (fun u _ => (intOf u).toNat)
  case atStart => exact ⟨n, [], rfl, Nat.le_refl _, rfl, by simpa using hW, Wrote.refl _ _⟩
  case round =>
    obtain ⟨m, done, rfl, hm, hd, hWr, hwr⟩ := hrel
    have HD := Hid.mk hd
    have HWR := Hid.mk hWr
    have HWT := Hid.mk hwr
    clear hd hWr hwr
    by_cases hbig : 128 ≤ m
    · have hb1 : (127 : Int) < (m : Int) := by omega
      have HOR := Hid.mk (or_byte m)
      have hlw := HWR.out.lt
      have HCP := put_any B wb (tot ++ done) [UInt8.ofNat (m % 128 + 128)] ⟨wr.heap.size, 0, none⟩ 1 _ (HWR.out.on ((Below.refl _ _).alloc (Nat.le_refl _) (.cells #[.int .u8 ((UInt8.ofNat (m % 128 + 128)).toNat : Int)] 5))) (by simp; have := HWT.out.kept.size; omega) (news1 _) (by simp) (by simp) (by simp; omega)
      have HWA : Hid (Wrote wb wr (wr.alloc (.cells #[.int .u8 ((UInt8.ofNat (m % 128 + 128)).toNat : Int)] 5))) := Wrote.below ((Below.refl _ _).alloc (Nat.le_refl _) _) hlw
      go_wp2_with fail
      rw [HOR.out]
      refine HCP.mono ?_
      rintro e w5 ⟨rfl, hW5, hw5⟩
      have HW5 := Hid.mk hW5
      have HWT5 := Hid.mk (HWT.out.trans (HWA.out.trans hw5))
      clear hW5 hw5 HCP HWA
      go_wp2
      refine ⟨⟨m / 128, done ++ [UInt8.ofNat (m % 128 + 128)], by rw [Int.natCast_ediv]; rfl, by omega, ?_, by rw [← List.append_assoc]; exact HW5.out, HWT5.out⟩, by simp [intOf]; omega⟩
      rw [HD.out, numB_big hbig, List.append_assoc]; rfl
    · have hbig' : m < 128 := by omega
      have HOR : Hid ((m : Int) = ((UInt8.ofNat m).toNat : Int)) := by
        unfold Hid; rw [← small_byte hbig']; omega
      have hlw := HWR.out.lt
      have HCP := put_any B wb (tot ++ done) [UInt8.ofNat m] ⟨wr.heap.size, 0, none⟩ 1 _ (HWR.out.on ((Below.refl _ _).alloc (Nat.le_refl _) (.cells #[.int .u8 ((UInt8.ofNat m).toNat : Int)] 5))) (by simp; have := HWT.out.kept.size; omega) (news1 _) (by simp) (by simp) (by simp; omega)
      have HWA : Hid (Wrote wb wr (wr.alloc (.cells #[.int .u8 ((UInt8.ofNat m).toNat : Int)] 5))) := Wrote.below ((Below.refl _ _).alloc (Nat.le_refl _) _) hlw
      rw [← HOR.out] at HCP
      go_wp2_with fail
      refine HCP.mono ?_
      rintro e w5 ⟨rfl, hW5, hw5⟩
      rw [← HOR.out] at HWA
      have HW5 := Hid.mk hW5
      have HWT5 := Hid.mk (HWT.out.trans (HWA.out.trans hw5))
      clear hW5 hw5 HCP HWA
      go_wp2
      go_end0
      refine ⟨rfl, ?_, HWT5.out⟩
      rw [HD.out, numB_small hbig', ← List.append_assoc]
      exact HW5.out

set_option maxRecDepth 100000 in
set_option maxHeartbeats 4000000 in
theorem flag_any (B wb : Nat) (tot : List UInt8) (f : Bool) (w : World) (hW : WR w B wb tot) (hB : B ≤ w.heap.size) : Calls Try.prog 59 #[.pointer (some ⟨wb, 0, none⟩), .bool f] w (WrPost B wb tot [if f then 1 else 0] w) := by
  have hlw := hW.lt
  have HA := fun (b : UInt8) => Hid.mk (put_any B wb tot [b] ⟨w.heap.size, 0, none⟩ 1 _ (hW.on ((Below.refl _ _).alloc (Nat.le_refl _) (.cells #[.int .u8 (b.toNat : Int)] 5))) (by simp; omega) (news1 _) (by simp) (by simp) (by simp; omega))
  have HWA := fun (b : UInt8) => Wrote.below (wb := wb) (w := w) ((Below.refl _ _).alloc (Nat.le_refl _) (.cells #[.int .u8 (b.toNat : Int)] 5)) hlw
  cases f
  · have HC := (HA 0).out
    have HW0 := HWA 0
    go_enter Try.func59, Try.ntmps59
    go_wp2_with fail
    refine HC.mono ?_
    rintro e w5 ⟨rfl, hW5, hw5⟩
    have HR : Hid (WR w5 B wb (tot ++ [0]) ∧ Wrote wb w w5) := ⟨hW5, HW0.trans hw5⟩
    clear hW5 hw5 HC
    go_wp2
    go_end0
    exact ⟨rfl, HR.out.1, HR.out.2⟩
  · have HC := (HA 1).out
    have HW0 := HWA 1
    go_enter Try.func59, Try.ntmps59
    go_wp2_with fail
    refine HC.mono ?_
    rintro e w5 ⟨rfl, hW5, hw5⟩
    have HR : Hid (WR w5 B wb (tot ++ [1]) ∧ Wrote wb w w5) := ⟨hW5, HW0.trans hw5⟩
    clear hW5 hw5 HC
    go_wp2
    go_end0
    exact ⟨rfl, HR.out.1, HR.out.2⟩

/-- the bytes of a name -/
def nameB (s : ByteArray) : List UInt8 := numB s.size ++ s.data.toList

set_option maxRecDepth 100000 in
set_option maxHeartbeats 4000000 in
theorem name_any (B wb : Nat) (tot : List UInt8) (s : ByteArray) (w : World) (hW : WR w B wb tot) (hB : B ≤ w.heap.size) (hs0 : 0 < s.size) (hs : s.size ≤ 1000000000) : Calls Try.prog 50 #[.pointer (some ⟨wb, 0, none⟩), .string s] w (WrPost B wb tot (nameB s) w) := by
  have HC := number_any B wb tot s.size w hW hB (by omega)
  have hconv := fun (w : World) => run_bytes_of_string (P := Try.prog) w 9 65 5 s Try.underlying9 Try.underlying65 Try.underlying5
  go_enter Try.func50, Try.ntmps50
  go_wp2_with fail
  refine HC.mono ?_
  rintro e w1 ⟨rfl, hW1, hw1⟩
  have hlw := hW1.lt
  obtain ⟨W2, hW2⟩ : ∃ W2, (w1.alloc (.cells (bytesRow s (grownCap w1 s.size 0 5)) 5 ((bytesRow s (grownCap w1 s.size 0 5)).size, (bytesRow s (grownCap w1 s.size 0 5)).size + 1))).drew = W2 := ⟨_, rfl⟩
  have hb2 : RowKit.Below w1.heap.size w1 W2 := by rw [← hW2]; exact ((Below.refl _ _).alloc (Nat.le_refl _) _).drew
  have hh2 : W2.heap[w1.heap.size]? = some (.cells (bytesRow s (grownCap w1 s.size 0 5)) 5 ((bytesRow s (grownCap w1 s.size 0 5)).size, (bytesRow s (grownCap w1 s.size 0 5)).size + 1)) := by rw [← hW2]; exact alloc_new w1 _
  have hbl : BL W2 (some ⟨w1.heap.size, 0, none⟩) s.data.toList := BL.of_block hh2 fun i hi => bytesRow_at s _ i (by simpa using hi)
  have hlen : s.data.toList.length = s.size := rfl
  have HCP := put_any B wb (tot ++ numB s.size) s.data.toList ⟨w1.heap.size, 0, none⟩ (grownCap w1 s.size 0 5) W2 (hW1.on hb2) (by have := hw1.kept.size; have := hb2.size; omega) hbl (by intro e; rw [e] at hlen; simp at hlen; omega) (by omega) (by simp only; omega)
  have HWA : Hid (Wrote wb w W2) := hw1.trans (Wrote.below hb2 hlw)
  rw [hlen] at HCP
  have HW2 := Hid.mk hW2
  clear hW2 hb2 hh2 hbl hW1 hw1
  go_wp2_with fail
  rw [HW2.out]
  refine HCP.mono ?_
  rintro e w3 ⟨rfl, hW3, hw3⟩
  have HR : Hid (WR w3 B wb (tot ++ nameB s) ∧ Wrote wb w w3) := ⟨by unfold nameB; rw [← List.append_assoc]; exact hW3, HWA.out.trans hw3⟩
  clear hW3 hw3 HCP HWA
  go_wp2
  go_end0
  exact ⟨rfl, HR.out.1, HR.out.2⟩
end Go.Proofs.Ytmmbnimehmfadaa
