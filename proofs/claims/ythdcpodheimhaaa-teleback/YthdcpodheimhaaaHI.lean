/- The reference's Split at right terms, whatever n is. -/
import Derived.Test.YthdcpodheimhaaaHG
import Derived.Test.YthdcpodheimhaaaFD
import Derived.Test.YthdcpodheimhaaaFF
import Derived.Test.YthdcpodheimhaaaFG
import Derived.Test.YthdcpodheimhaaaON
namespace Go.Proofs.Ythdcpodheimhaaa
open Go.RowKit Go.Sort

set_option maxRecDepth 100000 in
set_option maxHeartbeats 2000000 in
theorem rSplit_no (N : Int) (v : Value) (w : World) (hv : ShapeT v) (hN : N < 0) : Calls Try.prog 10 #[v, .int .i64 N] w fun e w' => RowKit.Below w.heap.size w w' ∧ e = .returned (.tuple #[.slice none 0 0, .slice none 0 0, zeroV, .bool false]) := by
  obtain ⟨f, n, hd, nm, la, l1, lc, ka, k1, kc, rfl⟩ := hv
  obtain ⟨W0, hW0⟩ : ∃ W0, (w.alloc (.cells #[.int .i64 f, .int .i64 n, .bool hd, .string nm, .slice la l1 lc, .slice ka k1 kc] 25)).alloc (.cells #[.int .i64 0, .int .i64 0, .bool false, .string { data := #[] }, .slice none 0 0, .slice none 0 0] 25) = W0 := ⟨_, rfl⟩
  have hb0 : RowKit.Below w.heap.size w W0 := by rw [← hW0]; exact ((Below.refl _ _).alloc (Nat.le_refl _) _).alloc (by simp) _
  have HR0 : Hid (W0.heap[w.heap.size + 1]? = some (.cells #[.int .i64 0, .int .i64 0, .bool false, .string { data := #[] }, .slice none 0 0, .slice none 0 0] 25 (0, 0))) := by unfold Hid; rw [← hW0]; exact box_at1
  have HB0 := Hid.mk hb0
  have HW0 := Hid.mk hW0
  obtain ⟨y0, y1, y2, y3, y4, y5, y6⟩ := cells6 HR0.out
  have yf := frz HR0.out
  clear hW0 hb0
  go_enter Try.func10, Try.ntmps10
  go_wp2_with (rw [HW0.out])
  refine bodyPost_ret (v := .tuple #[.slice none 0 0, .slice none 0 0, zeroV, .bool false]) (by simp [results, Try.results10, go_sem, zeroV, y0, y1, y2, y3, y4, y5]) rfl ⟨?_, rfl⟩
  exact HB0.out.trans ((keep6 (P := fun k => k = w.heap.size + 1) rfl).below HB0.out.size (fun k hk => by omega))

theorem rSplit_any (N : Int) (t : Tm) (v : Value) (w : World) (hv : TV w v t) (hsm : smT 1000000 t) (hc : checkT t = 0) (hN : N ≤ 9223372036854775807) : Calls Try.prog 10 #[v, .int .i64 N] w fun e w' => RowKit.Below w.heap.size w w' ∧ RsRes w' e (if N < 0 then none else splitT N.toNat t) := by
  by_cases hn : N < 0
  · rw [if_pos hn]
    have hsh : ShapeT v := by obtain ⟨la, lc, ka, kc, rfl⟩ := hv.shape; exact ⟨_, _, _, _, _, _, _, _, _, _, rfl⟩
    exact rSplit_no N v w hsh hn
  · rw [if_neg hn]
    obtain ⟨hs, hh, hf⟩ := check_ok hc
    have hG : GT t := ⟨hsm, hf⟩
    obtain ⟨xs, v', t', hrow, hend, hsp⟩ := pi_row N.toNat t v hv hG
    obtain ⟨-, -, -, -, h5⟩ := hrow.facts hG
    rw [hsp]
    have e : (if (xs.length : Int) = N then some (xs.map (fun x => (domT x.2, x.2.hid)), t') else none) = (if xs.length = N.toNat then some (xs.map (fun x => (domT x.2, x.2.hid)), t') else none) := by
      by_cases h : xs.length = N.toNat
      · rw [if_pos h, if_pos (by omega)]
      · rw [if_neg h, if_neg (by omega)]
    rw [← e]
    exact rSplit_walk N t t' v v' xs w hv (by omega) hN hrow (by omega) (by omega)
end Go.Proofs.Ythdcpodheimhaaa

/- The contract of telamonref1.Clean, form by form. -/
namespace Go.Proofs.Ythdcpodheimhaaa
open Go.RowKit Go.Sort

theorem Clean_any (t : Tm) : ∀ (v : Value) (w : World), smT 1000000 t → formedB t = true → TV w v t → Calls Try.prog 13 #[v] w fun e w' => ∃ v', e = .returned v' ∧ ShapeT v' ∧ TF w' (fun k => decide (k < w.heap.size)) v' (cleanT t) ∧ RowKit.Below w.heap.size w w' := by
  refine Tm.ind (P := fun t => ∀ (v : Value) (w : World), smT 1000000 t → formedB t = true → TV w v t → Calls Try.prog 13 #[v] w fun e w' => ∃ v', e = .returned v' ∧ ShapeT v' ∧ TF w' (fun k => decide (k < w.heap.size)) v' (cleanT t) ∧ RowKit.Below w.heap.size w w') ?_ t
  intro f n hd nm ls ks ih v w hsm hfm hv
  have hkl := (formed_len hfm).1
  by_cases h3 : f = 3
  · subst h3; exact Clean3 n hd nm ls ks ih v w hsm hfm hv
  by_cases h4 : f = 4
  · subst h4; exact Clean4 n hd nm ls ks ih v w hsm hfm hv
  by_cases h5 : f = 5
  · subst h5; exact Clean5 n hd nm ls ks ih v w hsm hfm hv
  by_cases h6 : f = 6
  · subst h6; exact Clean6 n hd nm ls ks ih v w hsm hfm hv
  by_cases h7 : f = 7
  · subst h7; exact Clean7 n hd nm ls ks ih v w hsm hfm hv
  by_cases h8 : f = 8
  · subst h8; exact Clean8 n hd nm ls ks ih v w hsm hfm hv
  by_cases h9 : f = 9
  · subst h9; exact Clean9 n hd nm ls ks ih v w hsm hfm hv
  by_cases h1 : f = 1
  · subst h1; exact Clean1 n hd nm ls ks ih v w hsm hfm hv
  by_cases h11 : f = 11
  · subst h11; exact Clean11 n hd nm ls ks ih v w hsm hfm hv
  by_cases h2 : f = 2
  · subst h2; exact Clean2 n hd nm ls ks ih v w hsm hfm hv
  by_cases h10 : f = 10
  · subst h10; exact Clean10 n hd nm ls ks ih v w hsm hfm hv
  exfalso
  unfold kidsR at hkl
  rw [if_neg (by omega), if_neg (by omega), if_neg (by omega), if_neg (by omega)] at hkl
  omega
end Go.Proofs.Ythdcpodheimhaaa

/- telamonlaw4.same, where both lists are one. -/
namespace Go.Proofs.Ythdcpodheimhaaa
open Go.RowKit Go.Sort

/-- a slice at address a holds the terms ts -/
def TL (w : World) (a : Option Addr) (ts : List Tm) : Prop := ts = [] ∨ ∃ b, a = some ⟨b, 0, none⟩ ∧ b < w.heap.size ∧ ∀ i t, ts[i]? = some t → TC w b (i * 6) t

theorem RowF.tl {w : World} {B cap : Nat} {P : Nat → Bool} {a : Option Addr} {ts : List Tm} (h : RowF w B P a cap ts) : TL w a ts := by
  obtain ⟨xs, kvs, hown, hkv⟩ := h.go
  rcases hown.2 with ⟨-, hn⟩ | ⟨g, cap', cur, hv, hg, hh, hc, hm, hs, ht⟩
  · exact Or.inl (List.length_eq_zero_iff.1 hn)
  · simp only [Value.slice.injEq, true_and] at hv
    obtain ⟨rfl, rfl⟩ := hv
    refine Or.inr ⟨g, rfl, heap_lt hh, fun i t hi => ?_⟩
    have hlt := (List.getElem?_eq_some_iff.1 hi).1
    exact ((hkv i t hi).1.cells hown (by omega)).tc (hkv i t hi).2.tv

theorem TL.on {w w' : World} {a : Option Addr} {ts : List Tm} (h : TL w a ts) (hb : RowKit.Below w.heap.size w w') : TL w' a ts := by
  rcases h with h | ⟨b, ha, hlt, h⟩
  · exact Or.inl h
  · exact Or.inr ⟨b, ha, Nat.lt_of_lt_of_le hlt hb.size, fun i t hi => (h i t hi).on hb⟩

set_option maxRecDepth 100000 in
set_option maxHeartbeats 4000000 in
theorem same4_yes (bs : List Tm) (aa ab : Option Addr) (ca cb : Nat) (w : World) (hA : TL w aa (bs.map cleanT)) (hB : TL w ab bs) (hG : ∀ t ∈ bs, GT t) (hn : bs.length ≤ 1000000) : Calls Try.prog 11 #[.slice aa bs.length ca, .slice ab bs.length cb] w fun e w' => e = .returned (.bool true) ∧ RowKit.Below w.heap.size w w' := by
  have HA := Hid.mk hA
  have HB := Hid.mk hB
  have HG := Hid.mk hG
  have mx := mixed
  clear hA hB hG
  go_enter Try.func11, Try.ntmps11
  go_wp2
  go_loopw [5] (fun i wr => ∃ k : Nat, k ≤ bs.length ∧ i = .int .i64 k ∧ RowKit.Below w.heap.size w wr) (fun i _ => bs.length - (intOf i).toNat)
  case atStart => exact ⟨0, Nat.zero_le _, rfl, Below.refl _ _⟩
  case round =>
    obtain ⟨k, hk, rfl, hb⟩ := hrel
    have HBR := Hid.mk hb
    clear hb
    by_cases hlt : k < bs.length
    · have hbk : bs[k]? = some bs[k] := List.getElem?_eq_getElem hlt
      have hGk := HG.out bs[k] (List.getElem_mem hlt)
      obtain ⟨ba, rfl, hla, hta⟩ := (HA.out.on HBR.out).resolve_left (by intro e; have := congrArg List.length e; simp at this; subst this; simp at hlt)
      obtain ⟨bb, rfl, hlb, htb⟩ := (HB.out.on HBR.out).resolve_left (by intro e; subst e; simp at hlt)
      obtain ⟨a0, a1, a2, a3, a4, a5, a6, a7, a8, a9, i0, i1, i2, i3, i4, i5, hva⟩ := (hta k (cleanT bs[k]) (by rw [List.getElem?_map, hbk]; rfl)).valE
      obtain ⟨c0, c1, c2, c3, c4, c5, c6, c7, c8, c9, j0, j1, j2, j3, j4, j5, hvb⟩ := (htb k bs[k] hbk).valE
      have HTA := Hid.mk hva
      have HSM := Hid.mk hGk.1
      have HCL := Clean_any bs[k] _ wr.drew hGk.1 hGk.2 (hvb.on (Below.refl _ wr).drew)
      have zk : (k : Int) < (bs.length : Int) := by omega
      have HCEL : Hid (∀ Wx : World, (∀ k, k < wr.heap.size → Wx.heap[k]? = wr.heap[k]?) → (fun w' => w'.cell? ⟨ba, k * 6, none⟩ = some (.int .i64 a0) ∧ w'.cell? ⟨ba, k * 6 + 1, none⟩ = some (.int .i64 a1) ∧ w'.cell? ⟨ba, k * 6 + 2, none⟩ = some (.bool a2) ∧ w'.cell? ⟨ba, k * 6 + 3, none⟩ = some (.string a3) ∧ w'.cell? ⟨ba, k * 6 + 4, none⟩ = some (.slice a4 a5 a6) ∧ w'.cell? ⟨ba, k * 6 + 5, none⟩ = some (.slice a7 a8 a9) ∧ w'.cell? ⟨bb, k * 6, none⟩ = some (.int .i64 c0) ∧ w'.cell? ⟨bb, k * 6 + 1, none⟩ = some (.int .i64 c1) ∧ w'.cell? ⟨bb, k * 6 + 2, none⟩ = some (.bool c2) ∧ w'.cell? ⟨bb, k * 6 + 3, none⟩ = some (.string c3) ∧ w'.cell? ⟨bb, k * 6 + 4, none⟩ = some (.slice c4 c5 c6) ∧ w'.cell? ⟨bb, k * 6 + 5, none⟩ = some (.slice c7 c8 c9)) Wx) := fun Wx h => by
        have h1 := h ba hla
        have h2 := h bb hlb
        exact ⟨(World.cell?_of_block (a := ⟨ba, k * 6, none⟩) h1).trans i0, (World.cell?_of_block (a := ⟨ba, k * 6 + 1, none⟩) h1).trans i1, (World.cell?_of_block (a := ⟨ba, k * 6 + 2, none⟩) h1).trans i2, (World.cell?_of_block (a := ⟨ba, k * 6 + 3, none⟩) h1).trans i3, (World.cell?_of_block (a := ⟨ba, k * 6 + 4, none⟩) h1).trans i4, (World.cell?_of_block (a := ⟨ba, k * 6 + 5, none⟩) h1).trans i5, (World.cell?_of_block (a := ⟨bb, k * 6, none⟩) h2).trans j0, (World.cell?_of_block (a := ⟨bb, k * 6 + 1, none⟩) h2).trans j1, (World.cell?_of_block (a := ⟨bb, k * 6 + 2, none⟩) h2).trans j2, (World.cell?_of_block (a := ⟨bb, k * 6 + 3, none⟩) h2).trans j3, (World.cell?_of_block (a := ⟨bb, k * 6 + 4, none⟩) h2).trans j4, (World.cell?_of_block (a := ⟨bb, k * 6 + 5, none⟩) h2).trans j5⟩
      clear hva hvb hta htb hbk hGk i0 i1 i2 i3 i4 i5 j0 j1 j2 j3 j4 j5
      go_wp2_with fail
      refine wp_region_late (S := fun w' => w'.cell? ⟨ba, k * 6, none⟩ = some (.int .i64 a0) ∧ w'.cell? ⟨ba, k * 6 + 1, none⟩ = some (.int .i64 a1) ∧ w'.cell? ⟨ba, k * 6 + 2, none⟩ = some (.bool a2) ∧ w'.cell? ⟨ba, k * 6 + 3, none⟩ = some (.string a3) ∧ w'.cell? ⟨ba, k * 6 + 4, none⟩ = some (.slice a4 a5 a6) ∧ w'.cell? ⟨ba, k * 6 + 5, none⟩ = some (.slice a7 a8 a9) ∧ w'.cell? ⟨bb, k * 6, none⟩ = some (.int .i64 c0) ∧ w'.cell? ⟨bb, k * 6 + 1, none⟩ = some (.int .i64 c1) ∧ w'.cell? ⟨bb, k * 6 + 2, none⟩ = some (.bool c2) ∧ w'.cell? ⟨bb, k * 6 + 3, none⟩ = some (.string c3) ∧ w'.cell? ⟨bb, k * 6 + 4, none⟩ = some (.slice c4 c5 c6) ∧ w'.cell? ⟨bb, k * 6 + 5, none⟩ = some (.slice c7 c8 c9)) (fun _ => false) mx ?_ (fun hHeld => ?_)
      · (try dsimp only)
        exact HCEL.out _ (fun j _ => rfl)
      refine wpAnyM_take (i := 0) (v := ?_) rfl (by kernel_rfl) (by kernel_rfl) (by kernel_rfl) (by kernel_rfl) (fun _ _ _ h => h) (Or.inl ⟨by rfl, ?_⟩) (by assumption) ?_
      rotate_left
      · (intro w hSw; (try dsimp only at hSw); go_simp; (try with_reducible rfl))
      refine wpAnyM_take (i := 1) (v := ?_) rfl (by kernel_rfl) (by kernel_rfl) (by kernel_rfl) (by kernel_rfl) (fun _ _ _ h => h) (Or.inl ⟨by rfl, ?_⟩) (by assumption) ?_
      rotate_left
      · (intro w hSw; (try dsimp only at hSw); go_simp; (try with_reducible rfl))
      refine wpAnyM_take (i := 2) (v := ?_) rfl (by kernel_rfl) (by kernel_rfl) (by kernel_rfl) (by kernel_rfl) (fun _ _ _ h => h) (Or.inl ⟨by rfl, ?_⟩) (by assumption) ?_
      rotate_left
      · (intro w hSw; (try dsimp only at hSw); go_simp; (try with_reducible rfl))
      refine wpAnyM_take (i := 3) (v := ?_) rfl (by kernel_rfl) (by kernel_rfl) (by kernel_rfl) (by kernel_rfl) (fun _ _ _ h => h) (Or.inl ⟨by rfl, ?_⟩) (by assumption) ?_
      rotate_left
      · (intro w hSw; (try dsimp only at hSw); go_simp; (try with_reducible rfl))
      refine wpAnyM_take (i := 4) (v := ?_) rfl (by kernel_rfl) (by kernel_rfl) (by kernel_rfl) (by kernel_rfl) (fun _ _ _ h => h) (Or.inl ⟨by rfl, ?_⟩) (by assumption) ?_
      rotate_left
      · (intro w hSw; (try dsimp only at hSw); go_simp; (try with_reducible rfl))
      refine wpAnyM_take (i := 5) (v := ?_) rfl (by kernel_rfl) (by kernel_rfl) (by kernel_rfl) (by kernel_rfl) (fun _ _ _ h => h) (Or.inl ⟨by rfl, ?_⟩) (by assumption) ?_
      rotate_left
      · (intro w hSw; (try dsimp only at hSw); go_simp; (try with_reducible rfl))
      refine wpAnyM_take (i := 6) (v := ?_) rfl (by kernel_rfl) (by kernel_rfl) (by kernel_rfl) (by kernel_rfl) (fun _ _ _ h => h) (Or.inl ⟨by rfl, ?_⟩) (by assumption) ?_
      rotate_left
      · (intro w hSw; (try dsimp only at hSw); go_simp; (try with_reducible rfl))
      refine wpAnyM_take (i := 7) (v := ?_) rfl (by kernel_rfl) (by kernel_rfl) (by kernel_rfl) (by kernel_rfl) (fun _ _ _ h => h) (Or.inl ⟨by rfl, ?_⟩) (by assumption) ?_
      rotate_left
      · (intro w hSw; (try dsimp only at hSw); go_simp; (try with_reducible rfl))
      refine wpAnyM_one (i := 8) (by kernel_rfl) ?_
      refine ⟨_, rfl, fun K hK => ?_⟩
      go_simp
      go_at_call 13
      refine HCL.mono ?_
      rintro e w6 ⟨v6, rfl, ⟨u0, u1, u2, u3, r1, r2, r3, s1', s2', s3', rfl⟩, htf6, hb6⟩
      have HB6 : Hid (RowKit.Below wr.heap.size wr w6) := (Below.refl _ wr).drew.trans hb6
      have HEX := Exactly_exa _ _ (cleanT bs[k]) w6 (smT_clean 1000000 _ HSM.out) (HTA.out.on HB6.out) htf6.tv
      clear htf6 hb6
      refine hK.out _ _ (fun _ => ?_) (fun hHeld => ?_)
      · (try dsimp only)
        exact HCEL.out _ (fun k hk => HB6.out.block k hk)
      replace hHeld := hHeld rfl
      clear hK K
      refine wpAnyM_one (i := 9) (by kernel_rfl) ?_
      refine ⟨_, rfl, fun K hK => ?_⟩
      go_simp
      go_at_call 12
      refine HEX.mono ?_
      rintro e w7 ⟨rfl, hb7⟩
      have HB7 : Hid (RowKit.Below wr.heap.size wr w7) := HB6.out.trans (hb7.mono HB6.out.size)
      clear hb7
      refine hK.out _ _ (fun _ => ?_) (fun hHeld => ?_)
      · (try dsimp only)
        exact HCEL.out _ (fun k hk => HB7.out.block k hk)
      replace hHeld := hHeld rfl
      clear hK K
      refine wpAnyM_one (i := 10) (by kernel_rfl) ?_
      refine ⟨_, rfl, fun K hK => ?_⟩
      go_simp
      refine hK.out _ _ (fun _ => ?_) (fun hHeld => ?_)
      · (try dsimp only)
        exact hHeld
      replace hHeld := hHeld rfl
      clear hK K
      refine wpAnyM_done (by kernel_rfl) ?_ _
      clear hHeld
      go_wp2
      exact ⟨⟨k + 1, hlt, by go_num, HBR.out.trans (HB7.out.mono HBR.out.size)⟩, by simp [intOf]; omega⟩
    · go_wp2
      go_ret
      exact ⟨rfl, HBR.out⟩
end Go.Proofs.Ythdcpodheimhaaa
