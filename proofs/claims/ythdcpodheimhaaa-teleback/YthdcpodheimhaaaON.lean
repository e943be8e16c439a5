/- The contracts of the small terms of the laws: Var, Set, Const, Lam, App. -/
import Derived.Test.YthdcpodheimhaaaOK
import Derived.Test.YthdcpodheimhaaaTH
namespace Go.Proofs.Ythdcpodheimhaaa
open Go.RowKit Go.Sort

theorem TV.leaf {w : World} (f n : Int) (h : Bool) (nm : ByteArray) : TV w (.agg #[.int .i64 f, .int .i64 n, .bool h, .string nm, .slice none 0 0, .slice none 0 0]) (.mk f n h nm [] []) :=
  TV.mk (kb := 0) (ko := 0) (ls := []) (ks := []) (Or.inl rfl) (fun _ => rfl) (Nat.le_refl _) (by omega) (fun _ => rfl) (Nat.le_refl _) (by omega) (fun h => absurd rfl h) (fun i t hi => by simp at hi)

theorem TV.two {w : World} {b : Nat} {f : Int} {va vb : Value} {x y : Tm} {a0 a1 a2 a3 a4 a5 b0 b1 b2 b3 b4 b5 : Value} (hva : va = .agg #[a0, a1, a2, a3, a4, a5]) (hvb : vb = .agg #[b0, b1, b2, b3, b4, b5]) (hx : TV w va x) (hy : TV w vb y) (hb : w.heap[b]? = some (.cells #[a0, a1, a2, a3, a4, a5, b0, b1, b2, b3, b4, b5] 25 (0, 0))) : TV w (.agg #[.int .i64 f, .int .i64 0, .bool false, .string { data := #[] }, .slice none 0 0, .slice (some ⟨b, 0, none⟩) 2 2]) (.mk f 0 false { data := #[] } [] [x, y]) := by
  subst hva hvb
  refine TV.mk (kb := b) (ko := 0) (ls := []) (ks := [x, y]) (Or.inl rfl) (fun _ => rfl) (Nat.le_refl _) (by omega) (fun e => by cases e) (Nat.le_refl _) (by omega) (fun _ => ⟨rfl, heap_lt hb⟩) (fun i t hi => ?_)
  have hc : ∀ o v, #[a0, a1, a2, a3, a4, a5, b0, b1, b2, b3, b4, b5][o]? = some v → w.cell? ⟨b, o, none⟩ = some v := fun o v h => by rw [cell_of_row _ b o _ _ _ hb]; exact h
  match i with
  | 0 =>
    simp at hi
    subst hi
    cases hx with
    | mk hl hln hlc hlm hkn hkc hkm hk kids => exact TC.mk (hc 0 _ rfl) (hc 1 _ rfl) (hc 2 _ rfl) (hc 3 _ rfl) (hc 4 _ rfl) (hc 5 _ rfl) hl hln hlc hlm hkn hkc hkm hk kids
  | 1 =>
    simp at hi
    subst hi
    cases hy with
    | mk hl hln hlc hlm hkn hkc hkm hk kids => exact TC.mk (hc 6 _ rfl) (hc 7 _ rfl) (hc 8 _ rfl) (hc 9 _ rfl) (hc 10 _ rfl) (hc 11 _ rfl) hl hln hlc hlm hkn hkc hkm hk kids
  | i + 2 => simp at hi

theorem TV.shapeT {w : World} {v : Value} {t : Tm} (h : TV w v t) : ShapeT v := by
  cases h with
  | mk => exact ⟨_, _, _, _, _, _, _, _, _, _, rfl⟩

set_option maxRecDepth 100000 in
set_option maxHeartbeats 1000000 in
theorem Var_any (n : Int) (w : World) : Calls Try.prog 21 #[.int .i64 n] w fun e w' => ∃ v, e = .returned v ∧ TV w' v (.mk 1 n false { data := #[] } [] []) ∧ RowKit.Below w.heap.size w w' := by
  go_enter Try.func21, Try.ntmps21
  go_wp2
  exact bodyPost_ret (v := .agg #[.int .i64 1, .int .i64 n, .bool false, .string { data := #[] }, .slice none 0 0, .slice none 0 0]) (by simp [results, Try.results21, go_sem]) rfl ⟨_, rfl, TV.leaf _ _ _ _, (Below.refl _ _).alloc (Nat.le_refl _) _⟩

set_option maxRecDepth 100000 in
set_option maxHeartbeats 1000000 in
theorem Set_any (n : Int) (w : World) : Calls Try.prog 20 #[.int .i64 n] w fun e w' => ∃ v, e = .returned v ∧ TV w' v (.mk 2 0 false { data := #[] } [(n, [])] []) ∧ RowKit.Below w.heap.size w w' := by
  go_enter Try.func20, Try.ntmps20
  go_wp2
  refine bodyPost_ret (v := .agg #[.int .i64 2, .int .i64 0, .bool false, .string { data := #[] }, .slice (some ⟨w.heap.size + 1, 0, none⟩) 1 1, .slice none 0 0]) (by simp [results, Try.results20, go_sem]) rfl ⟨_, rfl, ?_, ?_⟩
  · refine TV.mk (kb := 0) (ko := 0) (ls := [(n, [])]) (ks := []) (Or.inr ⟨w.heap.size + 1, 0, rfl, by simp, fun i m xs hi => ?_⟩) (fun e => by cases e) (Nat.le_refl _) (by simp) (fun _ => rfl) (Nat.le_refl _) (by omega) (fun h => absurd rfl h) (fun i t hi => by simp at hi)
    match i with
    | 0 =>
      simp at hi
      obtain ⟨rfl, rfl⟩ := hi
      obtain ⟨c0, c1, -⟩ := cells2 (box_at1 (w := w) (o := _) (p := .cells #[.int .i64 n, .slice none 0 0] 59))
      exact ⟨c0, none, 0, c1, Or.inl rfl, fun _ => rfl⟩
    | i + 1 => simp at hi
  · exact ((Below.refl w.heap.size w).alloc (Nat.le_refl _) _).alloc (by simp) _

end Go.Proofs.Ythdcpodheimhaaa

/- The document's examples of terms, as plain data. -/
namespace Go.Proofs.Ythdcpodheimhaaa
open Go.RowKit Go.Sort

def tVar (n : Int) : Tm := .mk 1 n false { data := #[] } [] []
def tSet (n : Int) : Tm := .mk 2 0 false { data := #[] } [(n, [])] []
def tCon : Tm := .mk 10 0 false { data := #[99] } [] []
def tLam (x y : Tm) : Tm := .mk 4 0 false { data := #[] } [] [x, y]
def tApp (x y : Tm) : Tm := .mk 5 0 false { data := #[] } [] [x, y]

theorem norm00 : normR 0 [] = (0, [], 0) := by
  simp [normR, rightB, inR, canonR, tidyL_nil, nOf]

theorem canon00 : canonB (0, []) = true := by
  simp [canonB, norm00, exactB]

theorem check_mk {t : Tm} (h1 : sizeT t ≤ 20000) (h2 : heightT t ≤ 500) (h3 : formedB t = true) : checkT t = 0 := by
  unfold checkT; rw [if_pos ⟨h1, h2⟩, if_pos h3]

theorem formed_var (n : Int) (h0 : 0 ≤ n) (h1 : n ≤ 1073741824) : formedB (tVar n) = true := by
  simp [tVar, formedB_mk, judB, kidsR, fieldsB, Tm.kids, Tm.form, h0, h1]
theorem formed_set : formedB (tSet 0) = true := by
  simp [tSet, formedB_mk, judB, kidsR, fieldsB, Tm.kids, Tm.form, canon00]
theorem formed_con : formedB tCon = true := by
  rw [tCon, formedB_mk]
  simp [judB, kidsR, fieldsB, Tm.kids, Tm.form]
  decide
theorem formed_lam {x y : Tm} (hx : formedB x = true) (hy : formedB y = true) : formedB (tLam x y) = true := by
  simp [tLam, formedB_mk, judB, kidsR, fieldsB, Tm.kids, Tm.form, hx, hy]
theorem formed_app {x y : Tm} (hx : formedB x = true) (hy : formedB y = true) : formedB (tApp x y) = true := by
  simp [tApp, formedB_mk, judB, kidsR, fieldsB, Tm.kids, Tm.form, hx, hy]

theorem size_leaf (f n : Int) (h : Bool) (nm : ByteArray) (ls : List LvT) : sizeT (.mk f n h nm ls []) = 1 := by simp [sizeT_mk]
theorem high_leaf (f n : Int) (h : Bool) (nm : ByteArray) (ls : List LvT) : heightT (.mk f n h nm ls []) = 1 := by simp [heightT_mk]
theorem size_two (f n : Int) (h : Bool) (nm : ByteArray) (ls : List LvT) (x y : Tm) : sizeT (.mk f n h nm ls [x, y]) = 1 + sizeT x + sizeT y := by simp [sizeT_mk]; omega
theorem high_two (f n : Int) (h : Bool) (nm : ByteArray) (ls : List LvT) (x y : Tm) : heightT (.mk f n h nm ls [x, y]) = 1 + max (heightT x) (heightT y) := by simp [heightT_mk]

theorem sm_leaf (f n : Int) (h : Bool) (nm : ByteArray) (ls : List LvT) (h1 : nm.size ≤ 1000000) (h2 : ls.length ≤ 1000000) (h3 : ∀ l ∈ ls, l.2.length ≤ 1000000) : smT 1000000 (.mk f n h nm ls []) := by
  rw [smT_mk]; exact ⟨h1, h2, h3, by simp, by simp⟩
theorem sm_two (f n : Int) (h : Bool) (x y : Tm) (hx : smT 1000000 x) (hy : smT 1000000 y) : smT 1000000 (.mk f n h { data := #[] } [] [x, y]) := by
  rw [smT_mk]; exact ⟨by decide, by simp, by simp, by simp, by simp [hx, hy]⟩

theorem exs1 : substRes (tLam (tSet 0) (tVar 1)) 0 tCon = .ok (tLam (tSet 0) tCon) := by
  have c1 : checkT (tLam (tSet 0) (tVar 1)) = 0 := check_mk (by simp [tLam, tSet, tVar, size_two, size_leaf]) (by simp [tLam, tSet, tVar, high_two, high_leaf]) (formed_lam formed_set (formed_var 1 (by decide) (by decide)))
  have c2 : checkT tCon = 0 := check_mk (by simp [tCon, size_leaf]) (by simp [tCon, high_leaf]) formed_con
  have c3 : checkT (tLam (tSet 0) tCon) = 0 := check_mk (by simp [tLam, tSet, tCon, size_two, size_leaf]) (by simp [tLam, tSet, tCon, high_two, high_leaf]) (formed_lam formed_set formed_con)
  have hs : sizeT tCon = 1 := size_leaf _ _ _ _ _
  have hw : walkF (repV 0 1 tCon) Tm.add (tLam (tSet 0) (tVar 1)) 20000 0 0 = .ok (19997, tLam (tSet 0) tCon) := rfl
  unfold substRes
  rw [c1, c2, hs]
  rw [if_neg (by simp), if_neg (by simp), if_neg (by decide)]
  show finT (walkF (repV 0 1 tCon) Tm.add (tLam (tSet 0) (tVar 1)) 20000 0 0) = _
  rw [hw]
  show (if checkT (tLam (tSet 0) tCon) = 0 then (.ok (tLam (tSet 0) tCon) : Except Int Tm) else .error 2) = _
  rw [if_pos c3]

theorem exs2 : liftRes (tLam (tSet 0) (tApp (tVar 0) (tVar 1))) 0 2 = .ok (tLam (tSet 0) (tApp (tVar 0) (tVar 3))) := by
  have c1 : checkT (tLam (tSet 0) (tApp (tVar 0) (tVar 1))) = 0 := check_mk (by simp [tLam, tSet, tVar, tApp, size_two, size_leaf]) (by simp [tLam, tSet, tVar, tApp, high_two, high_leaf]) (formed_lam formed_set (formed_app (formed_var 0 (by decide) (by decide)) (formed_var 1 (by decide) (by decide))))
  have c3 : checkT (tLam (tSet 0) (tApp (tVar 0) (tVar 3))) = 0 := check_mk (by simp [tLam, tSet, tVar, tApp, size_two, size_leaf]) (by simp [tLam, tSet, tVar, tApp, high_two, high_leaf]) (formed_lam formed_set (formed_app (formed_var 0 (by decide) (by decide)) (formed_var 3 (by decide) (by decide))))
  have hw : liftT 0 2 (tLam (tSet 0) (tApp (tVar 0) (tVar 1))) 0 = tLam (tSet 0) (tApp (tVar 0) (tVar 3)) := rfl
  unfold liftRes
  rw [c1, hw, c3]
  simp

theorem exs3 : tsizeR (tLam (tSet 0) tCon) = 3 := by
  have c3 : checkT (tLam (tSet 0) tCon) = 0 := check_mk (by simp [tLam, tSet, tCon, size_two, size_leaf]) (by simp [tLam, tSet, tCon, high_two, high_leaf]) (formed_lam formed_set formed_con)
  unfold tsizeR
  rw [if_pos c3]
  simp [tLam, tSet, tCon, size_two, size_leaf]
end Go.Proofs.Ythdcpodheimhaaa

/- The contract of telamonlaw2.alive. -/
namespace Go.Proofs.Ythdcpodheimhaaa
open Go.RowKit Go.Sort

theorem sm_con : smT 1000000 tCon := sm_leaf _ _ _ _ _ (by decide) (by simp) (by simp)
theorem sm_set : smT 1000000 (tSet 0) := sm_leaf _ _ _ _ _ (by decide) (by simp) (by simp)
theorem sm_var (n : Int) : smT 1000000 (tVar n) := sm_leaf _ _ _ _ _ (by decide) (by simp) (by simp)

theorem Exactly_exa (va vb : Value) (t : Tm) (w : World) (hs : smT 1000000 t) (ha : TV w va t) (hb : TV w vb t) : Calls Try.prog 12 #[va, vb] w fun e w' => e = .returned (.bool true) ∧ RowKit.Below w.heap.size w w' :=
  (Exactly_same t va vb w (smT_lv _ _ hs) ha hb).mono fun _ _ ⟨h1, h2⟩ => ⟨h1, h2.below⟩

end Go.Proofs.Ythdcpodheimhaaa
