/- The document's examples of terms, as plain data. -/
import Derived.Test.YtggiibkboblknaaOL
namespace Go.Proofs.Ytggiibkboblknaa
open Go.RowKit Go.Sort

def tVar (n : Int) : Tm := .mk 1 n false { data := #[] } [] []
def tSet (n : Int) : Tm := .mk 2 0 false { data := #[] } [(n, [])] []
def tCon : Tm := .mk 10 0 false { data := #[99] } [] []
def tLam (x y : Tm) : Tm := .mk 4 0 false { data := #[] } [] [x, y]
def tApp (x y : Tm) : Tm := .mk 5 0 false { data := #[] } [] [x, y]

theorem norm00 : normR 0 [] = (0, [], 0) := by
  simp [normR, rightB, inR, canonR, tidyL_nil, nOf]

theorem canon00 : canonB (0, []) = true := by
  simp [canonB, norm00, exactB]

theorem check_mk {t : Tm} (h1 : sizeT t ≤ 20000) (h2 : heightT t ≤ 500) (h3 : formedB t = true) : checkT t = 0 := by
  unfold checkT; rw [if_pos ⟨h1, h2⟩, if_pos h3]

theorem formed_var (n : Int) (h0 : 0 ≤ n) (h1 : n ≤ 1073741824) : formedB (tVar n) = true := by
  simp [tVar, formedB_mk, judB, kidsR, fieldsB, Tm.kids, Tm.form, h0, h1]
theorem formed_set : formedB (tSet 0) = true := by
  simp [tSet, formedB_mk, judB, kidsR, fieldsB, Tm.kids, Tm.form, canon00]
theorem formed_con : formedB tCon = true := by
  rw [tCon, formedB_mk]
  simp [judB, kidsR, fieldsB, Tm.kids, Tm.form]
  decide
theorem formed_lam {x y : Tm} (hx : formedB x = true) (hy : formedB y = true) : formedB (tLam x y) = true := by
  simp [tLam, formedB_mk, judB, kidsR, fieldsB, Tm.kids, Tm.form, hx, hy]
theorem formed_app {x y : Tm} (hx : formedB x = true) (hy : formedB y = true) : formedB (tApp x y) = true := by
  simp [tApp, formedB_mk, judB, kidsR, fieldsB, Tm.kids, Tm.form, hx, hy]

theorem size_leaf (f n : Int) (h : Bool) (nm : ByteArray) (ls : List LvT) : sizeT (.mk f n h nm ls []) = 1 := by simp [sizeT_mk]
theorem high_leaf (f n : Int) (h : Bool) (nm : ByteArray) (ls : List LvT) : heightT (.mk f n h nm ls []) = 1 := by simp [heightT_mk]
theorem size_two (f n : Int) (h : Bool) (nm : ByteArray) (ls : List LvT) (x y : Tm) : sizeT (.mk f n h nm ls [x, y]) = 1 + sizeT x + sizeT y := by simp [sizeT_mk]; omega
theorem high_two (f n : Int) (h : Bool) (nm : ByteArray) (ls : List LvT) (x y : Tm) : heightT (.mk f n h nm ls [x, y]) = 1 + max (heightT x) (heightT y) := by simp [heightT_mk]

theorem sm_leaf (f n : Int) (h : Bool) (nm : ByteArray) (ls : List LvT) (h1 : nm.size ≤ 1000000) (h2 : ls.length ≤ 1000000) (h3 : ∀ l ∈ ls, l.2.length ≤ 1000000) : smT 1000000 (.mk f n h nm ls []) := by
  rw [smT_mk]; exact ⟨h1, h2, h3, by simp, by simp⟩
theorem sm_two (f n : Int) (h : Bool) (x y : Tm) (hx : smT 1000000 x) (hy : smT 1000000 y) : smT 1000000 (.mk f n h { data := #[] } [] [x, y]) := by
  rw [smT_mk]; exact ⟨by decide, by simp, by simp, by simp, by simp [hx, hy]⟩

theorem exs1 : substRes (tLam (tSet 0) (tVar 1)) 0 tCon = .ok (tLam (tSet 0) tCon) := by
  have c1 : checkT (tLam (tSet 0) (tVar 1)) = 0 := check_mk (by simp [tLam, tSet, tVar, size_two, size_leaf]) (by simp [tLam, tSet, tVar, high_two, high_leaf]) (formed_lam formed_set (formed_var 1 (by decide) (by decide)))
  have c2 : checkT tCon = 0 := check_mk (by simp [tCon, size_leaf]) (by simp [tCon, high_leaf]) formed_con
  have c3 : checkT (tLam (tSet 0) tCon) = 0 := check_mk (by simp [tLam, tSet, tCon, size_two, size_leaf]) (by simp [tLam, tSet, tCon, high_two, high_leaf]) (formed_lam formed_set formed_con)
  have hs : sizeT tCon = 1 := size_leaf _ _ _ _ _
  have hw : walkF (repV 0 1 tCon) Tm.add (tLam (tSet 0) (tVar 1)) 20000 0 0 = .ok (19997, tLam (tSet 0) tCon) := rfl
  unfold substRes
  rw [c1, c2, hs]
  rw [if_neg (by simp), if_neg (by simp), if_neg (by decide)]
  show finT (walkF (repV 0 1 tCon) Tm.add (tLam (tSet 0) (tVar 1)) 20000 0 0) = _
  rw [hw]
  show (if checkT (tLam (tSet 0) tCon) = 0 then (.ok (tLam (tSet 0) tCon) : Except Int Tm) else .error 2) = _
  rw [if_pos c3]

theorem exs2 : liftRes (tLam (tSet 0) (tApp (tVar 0) (tVar 1))) 0 2 = .ok (tLam (tSet 0) (tApp (tVar 0) (tVar 3))) := by
  have c1 : checkT (tLam (tSet 0) (tApp (tVar 0) (tVar 1))) = 0 := check_mk (by simp [tLam, tSet, tVar, tApp, size_two, size_leaf]) (by simp [tLam, tSet, tVar, tApp, high_two, high_leaf]) (formed_lam formed_set (formed_app (formed_var 0 (by decide) (by decide)) (formed_var 1 (by decide) (by decide))))
  have c3 : checkT (tLam (tSet 0) (tApp (tVar 0) (tVar 3))) = 0 := check_mk (by simp [tLam, tSet, tVar, tApp, size_two, size_leaf]) (by simp [tLam, tSet, tVar, tApp, high_two, high_leaf]) (formed_lam formed_set (formed_app (formed_var 0 (by decide) (by decide)) (formed_var 3 (by decide) (by decide))))
  have hw : liftT 0 2 (tLam (tSet 0) (tApp (tVar 0) (tVar 1))) 0 = tLam (tSet 0) (tApp (tVar 0) (tVar 3)) := rfl
  unfold liftRes
  rw [c1, hw, c3]
  simp

theorem exs3 : tsizeR (tLam (tSet 0) tCon) = 3 := by
  have c3 : checkT (tLam (tSet 0) tCon) = 0 := check_mk (by simp [tLam, tSet, tCon, size_two, size_leaf]) (by simp [tLam, tSet, tCon, high_two, high_leaf]) (formed_lam formed_set formed_con)
  unfold tsizeR
  rw [if_pos c3]
  simp [tLam, tSet, tCon, size_two, size_leaf]
end Go.Proofs.Ytggiibkboblknaa
