/- What is read is no longer than its bytes when it is written again. -/
import Derived.Test.YtndjdeiccmhelaaGreatGF
import Derived.Test.YtndjdeiccmhelaaGreatGA
import Derived.Test.YtndjdeiccmhelaaGreatKK
namespace Go.Proofs.YtndjdeiccmhelaaGreat
open Go.RowKit Go.Sort Go.Lib

theorem pnum_room : ∀ {k : Nat} {bs r : List UInt8} {m : Nat}, pnum k bs = some (m, r) → (numB m).length + r.length ≤ bs.length
  | 0, bs, r, m, h => by simp [pnum] at h
  | k + 1, [], r, m, h => by simp [pnum] at h
  | k + 1, c :: bs, r, m, h => by
    rw [pnum] at h
    by_cases hc : c.toNat < 128
    · rw [if_pos hc] at h
      simp only [Option.some.injEq, Prod.mk.injEq] at h
      obtain ⟨rfl, rfl⟩ := h
      rw [numB_small hc, List.length_cons]
      simp only [List.length_cons, List.length_nil]
      omega
    · rw [if_neg hc] at h
      cases hp : pnum k bs with
      | none => rw [hp] at h; simp at h
      | some x =>
        rw [hp] at h
        simp only [Option.map_some, Option.some.injEq, Prod.mk.injEq] at h
        obtain ⟨h1, h2⟩ := h
        have ih := pnum_room (m := x.1) (r := x.2) hp
        rw [h2] at ih
        rw [List.length_cons]
        by_cases hm : m < 128
        · rw [numB_small hm]
          have := List.length_pos_iff.2 (numB_ne x.1)
          simp only [List.length_cons, List.length_nil]
          omega
        · rw [numB_big (by omega), List.length_cons, show m / 128 = x.1 by omega]
          omega

theorem ptext_room {bs r : List UInt8} {nm : ByteArray} (h : ptext bs = some (nm, r)) : (nameB nm).length + r.length ≤ bs.length := by
  unfold ptext at h
  cases hp : pnum 6 bs with
  | none => rw [hp] at h; simp at h
  | some x =>
    obtain ⟨m, r1⟩ := x
    rw [hp] at h
    simp only at h
    by_cases hc : 60 < m ∨ r1.length < m
    · rw [if_pos hc] at h; simp at h
    · rw [if_neg hc] at h
      simp only [Option.some.injEq, Prod.mk.injEq] at h
      obtain ⟨rfl, rfl⟩ := h
      have := pnum_room hp
      unfold nameB
      rw [List.length_append, List.length_drop]
      have h2 : (⟨(r1.take m).toArray⟩ : ByteArray).size = m := by
        show (r1.take m).toArray.size = m
        rw [List.size_toArray, List.length_take]
        omega
      rw [h2]
      show (numB m).length + (r1.take m).toArray.toList.length + _ ≤ _
      rw [List.toList_toArray, List.length_take]
      omega

theorem pvars_room : ∀ {c : Nat} {bs r : List UInt8} {xs : List (Int × Int)}, pvars c bs = some (xs, r) → xs.length = c ∧ (xs.flatMap varB).length + r.length ≤ bs.length
  | 0, bs, r, xs, h => by
    simp only [pvars, Option.some.injEq, Prod.mk.injEq] at h
    obtain ⟨rfl, rfl⟩ := h
    simp
  | c + 1, bs, r, xs, h => by
    rw [pvars] at h
    cases h1 : pnum 6 bs with
    | none => rw [h1] at h; simp at h
    | some x =>
      obtain ⟨x, r1⟩ := x
      rw [h1] at h
      simp only at h
      cases h2 : pnum 6 r1 with
      | none => rw [h2] at h; simp at h
      | some y =>
        obtain ⟨y, r2⟩ := y
        rw [h2] at h
        simp only at h
        cases h3 : pvars c r2 with
        | none => rw [h3] at h; simp at h
        | some z =>
          obtain ⟨zs, r3⟩ := z
          rw [h3] at h
          simp only [Option.map_some, Option.some.injEq, Prod.mk.injEq] at h
          obtain ⟨rfl, rfl⟩ := h
          have a1 := pnum_room h1
          have a2 := pnum_room h2
          obtain ⟨a3, a4⟩ := pvars_room h3
          refine ⟨by rw [List.length_cons, a3], ?_⟩
          rw [List.flatMap_cons, List.length_append, varB, List.length_append]
          simp only [Int.toNat_natCast]
          omega

theorem plevel_room {bs r : List UInt8} {l : LvT} (h : plevel bs = some (l, r)) : (levB l).length + r.length ≤ bs.length := by
  unfold plevel at h
  cases h1 : pnum 6 bs with
  | none => rw [h1] at h; simp at h
  | some x =>
    obtain ⟨m, r1⟩ := x
    rw [h1] at h
    simp only at h
    cases h2 : pnum 6 r1 with
    | none => rw [h2] at h; simp at h
    | some y =>
      obtain ⟨c, r2⟩ := y
      rw [h2] at h
      simp only at h
      cases h3 : pvars c r2 with
      | none => rw [h3] at h; simp at h
      | some z =>
        obtain ⟨zs, r3⟩ := z
        rw [h3] at h
        simp only [Option.map_some, Option.some.injEq, Prod.mk.injEq] at h
        obtain ⟨rfl, rfl⟩ := h
        have a1 := pnum_room h1
        have a2 := pnum_room h2
        obtain ⟨a3, a4⟩ := pvars_room h3
        unfold levB
        simp only [Int.toNat_natCast]
        rw [List.length_append, List.length_append, a3]
        omega

theorem plevels_room : ∀ {c : Nat} {bs r : List UInt8} {ls : List LvT}, plevels c bs = some (ls, r) → ls.length = c ∧ (ls.flatMap levB).length + r.length ≤ bs.length
  | 0, bs, r, ls, h => by
    simp only [plevels, Option.some.injEq, Prod.mk.injEq] at h
    obtain ⟨rfl, rfl⟩ := h
    simp
  | c + 1, bs, r, ls, h => by
    rw [plevels] at h
    cases h1 : plevel bs with
    | none => rw [h1] at h; simp at h
    | some x =>
      obtain ⟨l, r1⟩ := x
      rw [h1] at h
      simp only at h
      cases h3 : plevels c r1 with
      | none => rw [h3] at h; simp at h
      | some z =>
        obtain ⟨zs, r3⟩ := z
        rw [h3] at h
        simp only [Option.map_some, Option.some.injEq, Prod.mk.injEq] at h
        obtain ⟨rfl, rfl⟩ := h
        have a1 := plevel_room h1
        obtain ⟨a3, a4⟩ := plevels_room h3
        refine ⟨by rw [List.length_cons, a3], ?_⟩
        rw [List.flatMap_cons, List.length_append]
        omega

theorem pfields_room {f : Nat} {bs r : List UInt8} {n : Int} {h : Bool} {nm : ByteArray} {ls : List LvT} (hp : pfields f bs = some ((n, h, nm, ls), r)) : (fieldB (f : Int) n h nm ls).length + r.length ≤ bs.length := by
  unfold pfields at hp
  unfold fieldB
  by_cases f1 : f = 1 ∨ f = 11
  · rw [if_pos f1] at hp
    rw [if_pos (by omega)]
    cases h1 : pnum 6 bs with
    | none => rw [h1] at hp; simp at hp
    | some x =>
      rw [h1] at hp
      simp only [Option.map_some, Option.some.injEq, Prod.mk.injEq] at hp
      obtain ⟨⟨rfl, -⟩, rfl⟩ := hp
      have := pnum_room (m := x.1) (r := x.2) h1
      simpa using this
  rw [if_neg f1] at hp
  rw [if_neg (by omega)]
  by_cases f2 : f = 2
  · rw [if_pos f2] at hp
    rw [if_neg (by omega), if_neg (by omega), if_pos (by omega)]
    cases h1 : plevel bs with
    | none => rw [h1] at hp; simp at hp
    | some x =>
      rw [h1] at hp
      simp only [Option.map_some, Option.some.injEq, Prod.mk.injEq] at hp
      obtain ⟨⟨-, -, -, rfl⟩, rfl⟩ := hp
      have := plevel_room (l := x.1) (r := x.2) h1
      simpa using this
  rw [if_neg f2] at hp
  by_cases f3 : f = 3 ∨ f = 4 ∨ f = 5
  · rw [if_pos f3] at hp
    rw [if_pos (by omega)]
    cases h1 : pnum 6 bs with
    | none => rw [h1] at hp; simp at hp
    | some x =>
      obtain ⟨y, r1⟩ := x
      rw [h1] at hp
      simp only at hp
      by_cases hy : 1 < y
      · rw [if_pos hy] at hp; simp at hp
      · rw [if_neg hy] at hp
        simp only [Option.some.injEq, Prod.mk.injEq] at hp
        obtain ⟨-, rfl⟩ := hp
        have a1 := pnum_room h1
        have := List.length_pos_iff.2 (numB_ne y)
        simp only [List.length_cons, List.length_nil]
        omega
  rw [if_neg f3] at hp
  rw [if_neg (by omega)]
  by_cases f10 : f = 10
  · rw [if_pos f10] at hp
    rw [if_pos (by omega)]
    cases h1 : ptext bs with
    | none => rw [h1] at hp; simp at hp
    | some x =>
      obtain ⟨nm1, r1⟩ := x
      rw [h1] at hp
      simp only at hp
      cases h2 : pnum 6 r1 with
      | none => rw [h2] at hp; simp at hp
      | some y =>
        obtain ⟨c, r2⟩ := y
        rw [h2] at hp
        simp only at hp
        cases h3 : plevels c r2 with
        | none => rw [h3] at hp; simp at hp
        | some z =>
          obtain ⟨zs, r3⟩ := z
          rw [h3] at hp
          simp only [Option.map_some, Option.some.injEq, Prod.mk.injEq] at hp
          obtain ⟨⟨-, -, rfl, rfl⟩, rfl⟩ := hp
          have a1 := ptext_room h1
          have a2 := pnum_room h2
          obtain ⟨a3, a4⟩ := plevels_room h3
          rw [List.length_append, List.length_append, a3]
          omega
  rw [if_neg f10] at hp
  rw [if_neg (by omega), if_neg (by omega)]
  simp only [Option.some.injEq, Prod.mk.injEq] at hp
  obtain ⟨-, rfl⟩ := hp
  simp

theorem pkids_room {F : List UInt8 → Nat → Option (Tm × List UInt8 × Nat)} (hF : ∀ bs n t r n', F bs n = some (t, r, n') → (encT t).length + r.length ≤ bs.length) : ∀ {k : Nat} {bs r : List UInt8} {n n' : Nat} {ts : List Tm}, pkids F k bs n = some (ts, r, n') → (ts.flatMap encT).length + r.length ≤ bs.length
  | 0, bs, r, n, n', ts, h => by
    simp only [pkids, Option.some.injEq, Prod.mk.injEq] at h
    obtain ⟨rfl, rfl, -⟩ := h
    simp
  | k + 1, bs, r, n, n', ts, h => by
    rw [pkids] at h
    cases h1 : F bs n with
    | none => rw [h1] at h; simp at h
    | some x =>
      obtain ⟨t, r1, n1⟩ := x
      rw [h1] at h
      simp only at h
      cases h3 : pkids F k r1 n1 with
      | none => rw [h3] at h; simp at h
      | some z =>
        obtain ⟨zs, r3, n3⟩ := z
        rw [h3] at h
        simp only [Option.map_some, Option.some.injEq, Prod.mk.injEq] at h
        obtain ⟨rfl, rfl, -⟩ := h
        have a1 := hF _ _ _ _ _ h1
        have a2 := pkids_room hF h3
        rw [List.flatMap_cons, List.length_append]
        omega

theorem pterm_room : ∀ (d : Nat) (bs : List UInt8) (n : Nat) (t : Tm) (r : List UInt8) (n' : Nat), pterm d bs n = some (t, r, n') → (encT t).length + r.length ≤ bs.length
  | 0, bs, n, t, r, n', h => by simp [pterm] at h
  | d + 1, bs, n, t, r, n', h => by
    rw [pterm] at h
    cases h1 : pnum 6 bs with
    | none => rw [h1] at h; simp at h
    | some x =>
      obtain ⟨f, r1⟩ := x
      rw [h1] at h
      simp only at h
      by_cases hc : 20000 < n + 1 ∨ kidsR (f : Int) < 0
      · rw [if_pos hc] at h; simp at h
      · rw [if_neg hc] at h
        cases h2 : pfields f r1 with
        | none => rw [h2] at h; simp at h
        | some y =>
          obtain ⟨⟨y1, y2, y3, y4⟩, r2⟩ := y
          rw [h2] at h
          simp only at h
          cases h3 : pkids (pterm d) (kidsR (f : Int)).toNat r2 (n + 1) with
          | none => rw [h3] at h; simp at h
          | some z =>
            obtain ⟨zs, r3, n3⟩ := z
            rw [h3] at h
            simp only [Option.map_some, Option.some.injEq, Prod.mk.injEq] at h
            obtain ⟨rfl, rfl, -⟩ := h
            have a1 := pnum_room h1
            have a2 := pfields_room h2
            have a3 := pkids_room (pterm_room d) h3
            rw [encT_mk, List.length_append, List.length_append]
            simp only [Int.toNat_natCast]
            omega
end Go.Proofs.YtndjdeiccmhelaaGreat

/- The reference's reader, bad or not: number, text, term; what was written is read, and what is read is no longer than what it was read from. -/
namespace Go.Proofs.YtndjdeiccmhelaaGreat
open Go.RowKit Go.Sort Go.Lib

/-- the reader's own part count set back -/
theorem RR.zero {w : World} {N rb : Nat} {a : Option Addr} {cap : Nat} {all bs : List UInt8} {bad : Bool} {n : Nat} (h : RR w N rb a cap all bs bad n) : RR (w.setCell ⟨rb, 3, none⟩ (.int .i64 0)) N rb a cap all bs bad 0 ∧ Kept (fun k => k = rb) w (w.setCell ⟨rb, 3, none⟩ (.int .i64 0)) := by
  obtain ⟨p, hp, hh⟩ := h.2.2.2.2.2.2.2
  exact h.turn (n' := 0) ⟨p, hp, setR3 hh⟩

theorem RR.len {w : World} {N rb : Nat} {a : Option Addr} {cap : Nat} {all bs : List UInt8} {bad : Bool} {n : Nat} (h : RR w N rb a cap all bs bad n) : bs.length ≤ 1000000 := by
  have hall := h.2.2.2.2.2.1
  obtain ⟨p, hp, -⟩ := h.2.2.2.2.2.2.2
  have := congrArg List.length hp
  rw [List.length_append] at this
  omega

/-- one thing read: x and what is left; bad once is bad for good; what was written is read -/
def RdB {α : Type} (ok : α → Prop) (enc : α → List UInt8) (cl : α → α) (bs : List UInt8) (bad : Bool) (x : α) (r : List UInt8) (bad' : Bool) : Prop :=
  (bad' = false → bad = false ∧ (enc x).length + r.length ≤ bs.length) ∧ (bad = false → ∀ y rest, ok y → bs = enc y ++ rest → bad' = false ∧ x = cl y ∧ r = rest)

theorem rrnum_b (N rb : Nat) (a : Option Addr) (cap : Nat) (all bs : List UInt8) (bad : Bool) (n : Nat) (w : World) (hR : RR w N rb a cap all bs bad n) : Calls Tryz.prog 41 #[.pointer (some ⟨rb, 0, none⟩)] w fun e w' => ∃ (m : Nat) (r : List UInt8) (bad' : Bool), e = .returned (.int .i64 (m : Int)) ∧ RR w' N rb a cap all r bad' n ∧ Kept (fun k => k = rb) w w' ∧ RdB (fun n => n ≤ 1073741824) numB id bs bad m r bad' := by
  refine (rrnum_any N rb a cap all bs bad n w hR).mono ?_
  intro e w' h
  obtain ⟨m, r, bad', rfl, h1, h2, h3⟩ := h.out
  refine ⟨m, r, bad', rfl, h1, h2, fun hb => ?_, fun hb y rest hy he => ?_⟩
  · rcases h3 with ⟨h4, h5⟩ | ⟨h4, -⟩
    · exact ⟨by rw [← h4]; exact hb, pnum_room h5⟩
    · rw [h4] at hb; cases hb
  · have hp := pnum6 hy rest
    rw [← he] at hp
    rcases h3 with ⟨h4, h5⟩ | ⟨-, h5⟩
    · rw [hp] at h5
      simp only [Option.some.injEq, Prod.mk.injEq] at h5
      exact ⟨h4.trans hb, h5.1.symm, h5.2.symm⟩
    · rw [hp] at h5; cases h5

set_option maxRecDepth 100000 in
set_option maxHeartbeats 8000000 in
theorem rrtext_bad (N rb : Nat) (a : Option Addr) (cap : Nat) (all bs : List UInt8) (n : Nat) (w : World) (hR : RR w N rb a cap all bs true n) : Calls Tryz.prog 42 #[.pointer (some ⟨rb, 0, none⟩)] w fun e w' => ∃ r, e = .returned (.string ⟨#[]⟩) ∧ RR w' N rb a cap all r true n ∧ Kept (fun k => k = rb) w w' := by
  have HC := rrnum_any N rb a cap all bs true n w hR
  clear hR
  go_enter Tryz.func42, Tryz.ntmps42
  go_wp2_with fail
  refine HC.mono ?_
  intro e w1 h1
  obtain ⟨m, rest, bad', rfl, hR1, hk1, hq⟩ := h1.out
  obtain rfl : bad' = true := by rcases hq with ⟨h, -⟩ | ⟨h, -⟩ <;> exact h
  have H1 := Hid.mk hR1
  have HK := Hid.mk hk1
  obtain ⟨p, hp, hh⟩ := hR1.2.2.2.2.2.2.2
  obtain ⟨c0, c1, c2, c3, cl, cf⟩ := cellsR hh
  clear HC hk1 hR1 hh hq h1
  go_wp2_with fail
  go_quiet (fail)
  go_wp2
  go_ret
  have h := (H1.out.on (below_drewN (Below.refl _ _) nq)).bad true
  exact ⟨rest, rfl, h.1, (HK.out.trans (Kept.of_below (below_drewN (Below.refl _ _) nq))).trans h.2⟩

theorem rrtext_b (N rb : Nat) (a : Option Addr) (cap : Nat) (all bs : List UInt8) (bad : Bool) (n : Nat) (w : World) (hR : RR w N rb a cap all bs bad n) : Calls Tryz.prog 42 #[.pointer (some ⟨rb, 0, none⟩)] w fun e w' => ∃ (m : ByteArray) (r : List UInt8) (bad' : Bool), e = .returned (.string m) ∧ m.size ≤ 60 ∧ RR w' N rb a cap all r bad' n ∧ Kept (fun k => k = rb) w w' ∧ RdB (fun n => 0 < n.size ∧ n.size ≤ 60) nameB id bs bad m r bad' := by
  cases bad with
  | true =>
    refine (rrtext_bad N rb a cap all bs n w hR).mono ?_
    rintro e w' ⟨r, rfl, h1, h2⟩
    exact ⟨_, r, true, rfl, by decide, h1, h2, (fun h => (by cases h)), (fun h => (by cases h))⟩
  | false =>
    refine (rrtext_any N rb a cap all bs n w hR).mono ?_
    intro e w' h
    cases hq : ptext bs with
    | none =>
      rw [hq] at h
      obtain ⟨r, rfl, h1, h2⟩ := h
      refine ⟨_, r, true, rfl, by decide, h1, h2, (fun h => by cases h), fun _ y rest hy he => ?_⟩
      have hp := ptext_enc rest hy.2
      rw [← he, hq] at hp
      cases hp
    | some q =>
      obtain ⟨m, r⟩ := q
      rw [hq] at h
      obtain ⟨rfl, h1, h2⟩ := h
      refine ⟨m, r, false, rfl, (ptext_small hq).1, h1, h2, fun _ => ⟨rfl, ptext_room hq⟩, fun _ y rest hy he => ?_⟩
      have hp := ptext_enc rest hy.2
      rw [← he, hq] at hp
      simp only [Option.some.injEq, Prod.mk.injEq] at hp
      exact ⟨rfl, hp.1, hp.2⟩

set_option maxRecDepth 100000 in
set_option maxHeartbeats 8000000 in
theorem rrterm_bad (N rb : Nat) (a : Option Addr) (cap : Nat) (all bs : List UInt8) (n : Nat) (high : Int) (w : World) (hR : RR w N rb a cap all bs true n) (hn : n ≤ 20000) : Calls Tryz.prog 43 #[.pointer (some ⟨rb, 0, none⟩), .int .i64 high] w fun e w' => ∃ (v : Value) (t : Tm) (r : List UInt8) (n' : Nat), e = .returned v ∧ ShapeT v ∧ TF w' (oldB w) v t ∧ RR w' N rb a cap all r true n' ∧ Kept (fun k => k = rb) w w' := by
  have hrN := hR.1
  have hNw := hR.2.1
  obtain ⟨W0, hW0⟩ : ∃ W0, w.alloc (.cells #[.int .i64 0, .int .i64 0, .bool false, .string { data := #[] }, .slice none 0 0, .slice none 0 0] 38) = W0 := ⟨_, rfl⟩
  have hb : RowKit.Below w.heap.size w W0 := by rw [← hW0]; exact (Below.refl _ _).alloc (Nat.le_refl _) _
  have HX0 : Hid (W0.heap[w.heap.size]? = some (.cells #[.int .i64 0, .int .i64 0, .bool false, .string { data := #[] }, .slice none 0 0, .slice none 0 0] 38 (0, 0))) := by unfold Hid; rw [← hW0]; exact alloc_new _ _
  have HC := rrnum_any N rb a cap all bs true n W0 (hR.on hb)
  have HK0 : Hid (Kept (fun k => k = rb) w W0) := Kept.of_below hb
  have HW0 := Hid.mk hW0
  clear hR hb hW0
  go_enter Tryz.func43, Tryz.ntmps43
  go_wp2_with fail
  rw [HW0.out]
  refine HC.mono ?_
  intro e w1 h1
  obtain ⟨m, r1, bad1, rfl, hR1, hk1, hq1⟩ := h1.out
  obtain rfl : bad1 = true := by rcases hq1 with ⟨h, -⟩ | ⟨h, -⟩ <;> exact h
  obtain ⟨W1, hW1⟩ : ∃ W1, w1.alloc (.cells #[.int .i64 (m : Int), .int .i64 0, .bool false, .string { data := #[] }, .slice none 0 0, .slice none 0 0] 38) = W1 := ⟨_, rfl⟩
  have hb1 : RowKit.Below w1.heap.size w1 W1 := by rw [← hW1]; exact (Below.refl _ _).alloc (Nat.le_refl _) _
  have hT1 : W1.heap[w1.heap.size]? = some (.cells #[.int .i64 (m : Int), .int .i64 0, .bool false, .string { data := #[] }, .slice none 0 0, .slice none 0 0] 38 (0, 0)) := by rw [← hW1]; exact alloc_new _ _
  have hx0 : w.heap.size < W0.heap.size := heap_lt HX0.out
  have hs1 := hk1.size
  have hX1 : W1.heap[w.heap.size]? = some (.cells #[.int .i64 0, .int .i64 0, .bool false, .string { data := #[] }, .slice none 0 0, .slice none 0 0] 38 (0, 0)) := (hb1.block _ (by omega)).trans ((hk1.block _ (by omega) (by omega)).trans HX0.out)
  have hK1 : Kept (fun k => k = rb) w W1 := (HK0.out.trans hk1).trans (Kept.of_below hb1)
  have hm := (hR1.on hb1).more
  obtain ⟨p1, -, hh1⟩ := (hR1.on hb1).2.2.2.2.2.2.2
  obtain ⟨c0, c1, c2, c3, cl, cf⟩ := cellsR hh1
  obtain ⟨W2, hW2⟩ : ∃ W2, W1.setCell ⟨rb, 3, none⟩ (.int .i64 ((n : Int) + 1)) = W2 := ⟨_, rfl⟩
  have HR2 : Hid (RR W2 N rb a cap all r1 true (n + 1)) := by unfold Hid; rw [← hW2]; exact hm.1
  have hk2 : Kept (fun k => k = rb) W1 W2 := by rw [← hW2]; exact hm.2
  have HK2 : Hid (Kept (fun k => k = rb) w W2) := hK1.trans hk2
  have hs2 := hk2.size
  have HT2 := Hid.mk (box6 hT1 hk2 (by omega))
  have HX2 := Hid.mk (box6 hX1 hk2 (by omega))
  have HW1 := Hid.mk hW1
  have HW2 := Hid.mk hW2
  obtain ⟨Tb, hTb⟩ : ∃ Tb, w1.heap.size = Tb := ⟨_, rfl⟩
  have hXT : w.heap.size < Tb := by omega
  have hT2s : Tb < W2.heap.size := by rw [← hTb]; exact heap_lt HT2.out
  rw [hTb] at HT2
  have HKA := kids_any (m : Int) W2
  clear hR1 hk1 h1 HC hb1 hW1 hq1 hT1 hX1 hK1 hm hh1 hk2 hW2 HX0 HK0 HW0
  obtain ⟨t0, t1, t2, t3, t4, t5, t6⟩ := cells6 HT2.out
  have tf := frz6 HT2.out
  obtain ⟨y0, y1, y2, y3, y4, y5, y6⟩ := cells6 HX2.out
  have yf := frz6 HX2.out
  have hTr : Tb ≠ rb := by omega
  have hXr : w.heap.size ≠ rb := by omega
  have hTX : Tb ≠ w.heap.size := by omega
  have hTr' := hTr.symm
  have hXr' := hXr.symm
  have hTX' := hTX.symm
  go_wp2_with (first | rw [HW1.out] | rw [HW2.out] | fail)
  refine HKA.mono ?_
  rintro e W2 ⟨rfl, rfl⟩
  clear HKA c0 c1 c2 c3 cl cf
  obtain ⟨p2, -, hh2⟩ := HR2.out.2.2.2.2.2.2.2
  obtain ⟨c0, c1, c2, c3, cl, cf⟩ := cellsR hh2
  have hn1 : ((n + 1 : Nat) : Int) = (n : Int) + 1 := by omega
  rw [hn1] at c3
  clear hh2 hn1 HW1 HW2
  obtain ⟨k, hk⟩ : ∃ k, kidsR (m : Int) = k := ⟨_, rfl⟩
  rw [hk]
  go_wp2
  refine bodyPost_ret (v := .agg #[.int .i64 (m : Int), .int .i64 0, .bool false, .string { data := #[] }, .slice none 0 0, .slice none 0 0]) (by simp [results, Tryz.results43, go_sem, y0, y1, y2, y3, y4, y5]) rfl ⟨_, _, r1, n + 1, rfl, ⟨_, _, _, _, _, _, _, _, _, _, rfl⟩, TF.leaf _ _ _ _, ?_, ?_⟩
  · repeat (refine RR.setNew ?_ (by simp only; omega) _)
    exact (HR2.out.bad true).1
  · repeat (refine Kept.setNew ?_ (by simp only; omega) _)
    exact HK2.out.trans (HR2.out.bad true).2

theorem rrterm_b (N rb : Nat) (a : Option Addr) (cap : Nat) (all bs : List UInt8) (bad : Bool) (w : World) (hR : RR w N rb a cap all bs bad 0) : Calls Tryz.prog 43 #[.pointer (some ⟨rb, 0, none⟩), .int .i64 1] w fun e w' => ∃ (v : Value) (t : Tm) (r : List UInt8) (bad' : Bool) (n' : Nat), e = .returned v ∧ ShapeT v ∧ TF w' (oldB w) v t ∧ (bad' = false → smT 1000000 t) ∧ RR w' N rb a cap all r bad' n' ∧ Kept (fun k => k = rb) w w' ∧ RdB okTm encT cleanT bs bad t r bad' := by
  cases bad with
  | true =>
    refine (rrterm_bad N rb a cap all bs 0 1 w hR (by decide)).mono ?_
    rintro e w' ⟨v, t, r, n', rfl, h1, h2, h3, h4⟩
    exact ⟨v, t, r, true, n', rfl, h1, h2, (fun h => by cases h), h3, h4, (fun h => (by cases h)), (fun h => (by cases h))⟩
  | false =>
    refine (rrterm_all N rb a cap all 500 (Nat.le_refl _) bs 0 1 w hR (by omega) (by omega)).mono ?_
    rintro e w' ⟨v, t, r, bad', n', rfl, h1, h2, h3, h4, h5⟩
    refine ⟨v, t, r, bad', n', rfl, h1, h2, fun hb => ?_, h3, h4, fun hb => ?_, fun _ y rest hy he => ?_⟩
    · rcases h5 with ⟨-, -, h6, -⟩ | ⟨h6, -⟩
      · exact h6
      · rw [h6] at hb; cases hb
    · rcases h5 with ⟨-, h6, -, -⟩ | ⟨h6, -⟩
      · exact ⟨rfl, pterm_room _ _ _ _ _ _ h6⟩
      · rw [h6] at hb; cases hb
    · obtain ⟨z1, z2, z3⟩ := check_ok hy.2
      have hp := pterm_enc y 500 0 rest hy.1 z3 z2 (by omega)
      rw [← he] at hp
      rcases h5 with ⟨h6, h7, -, -⟩ | ⟨-, h7⟩
      · rw [hp] at h7
        simp only [Option.some.injEq, Prod.mk.injEq] at h7
        exact ⟨h6, h7.1.symm, h7.2.1.symm⟩
      · rw [hp] at h7; cases h7
end Go.Proofs.YtndjdeiccmhelaaGreat
