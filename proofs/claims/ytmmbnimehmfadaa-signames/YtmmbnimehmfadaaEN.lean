/- The contracts of term.answered and term.Lift. -/
import Derived.Test.YtmmbnimehmfadaaCA
import Derived.Deep.AppendLies
import Derived.Test.YtmmbnimehmfadaaFA
import Derived.Test.YtmmbnimehmfadaaED
import Derived.Test.YtmmbnimehmfadaaEC
import Derived.Lib.AppendStr
import Derived.Deep.RegionHeld3
import Derived.Test.YtmmbnimehmfadaaOA
import Derived.Test.YtmmbnimehmfadaaTH
import Derived.Test.YtmmbnimehmfadaaG
import Derived.Test.YtmmbnimehmfadaaRL
import Derived.Test.YtmmbnimehmfadaaOG
import Derived.Test.YtmmbnimehmfadaaOD
namespace Go.Proofs.Ytmmbnimehmfadaa
open Go.RowKit Go.Sort

def Tm.addAll : Tm → List Tm → Tm
  | .mk f n h nm ls ks, l => .mk f n h nm ls (ks ++ l)

theorem addAll_nil (t : Tm) : t.addAll [] = t := by cases t; simp [Tm.addAll]
theorem add_addAll (t k : Tm) (l : List Tm) : (t.add k).addAll l = t.addAll (k :: l) := by cases t; simp [Tm.addAll, Tm.add]

end Go.Proofs.Ytmmbnimehmfadaa

/- The contracts of the small terms of the laws: Var, Set, Const, Lam, App. -/
namespace Go.Proofs.Ytmmbnimehmfadaa
open Go.RowKit Go.Sort

theorem TV.leaf {w : World} (f n : Int) (h : Bool) (nm : ByteArray) : TV w (.agg #[.int .i64 f, .int .i64 n, .bool h, .string nm, .slice none 0 0, .slice none 0 0]) (.mk f n h nm [] []) :=
  TV.mk (kb := 0) (ko := 0) (ls := []) (ks := []) (Or.inl rfl) (fun _ => rfl) (Nat.le_refl _) (by omega) (fun _ => rfl) (Nat.le_refl _) (by omega) (fun h => absurd rfl h) (fun i t hi => by simp at hi)

theorem TV.two {w : World} {b : Nat} {f : Int} {va vb : Value} {x y : Tm} {a0 a1 a2 a3 a4 a5 b0 b1 b2 b3 b4 b5 : Value} (hva : va = .agg #[a0, a1, a2, a3, a4, a5]) (hvb : vb = .agg #[b0, b1, b2, b3, b4, b5]) (hx : TV w va x) (hy : TV w vb y) (hb : w.heap[b]? = some (.cells #[a0, a1, a2, a3, a4, a5, b0, b1, b2, b3, b4, b5] 26 (0, 0))) : TV w (.agg #[.int .i64 f, .int .i64 0, .bool false, .string { data := #[] }, .slice none 0 0, .slice (some ⟨b, 0, none⟩) 2 2]) (.mk f 0 false { data := #[] } [] [x, y]) := by
  subst hva hvb
  refine TV.mk (kb := b) (ko := 0) (ls := []) (ks := [x, y]) (Or.inl rfl) (fun _ => rfl) (Nat.le_refl _) (by omega) (fun e => by cases e) (Nat.le_refl _) (by omega) (fun _ => ⟨rfl, heap_lt hb⟩) (fun i t hi => ?_)
  have hc : ∀ o v, #[a0, a1, a2, a3, a4, a5, b0, b1, b2, b3, b4, b5][o]? = some v → w.cell? ⟨b, o, none⟩ = some v := fun o v h => by rw [cell_of_row _ b o _ _ _ hb]; exact h
  match i with
  | 0 =>
    simp at hi
    subst hi
    cases hx with
    | mk hl hln hlc hlm hkn hkc hkm hk kids => exact TC.mk (hc 0 _ rfl) (hc 1 _ rfl) (hc 2 _ rfl) (hc 3 _ rfl) (hc 4 _ rfl) (hc 5 _ rfl) hl hln hlc hlm hkn hkc hkm hk kids
  | 1 =>
    simp at hi
    subst hi
    cases hy with
    | mk hl hln hlc hlm hkn hkc hkm hk kids => exact TC.mk (hc 6 _ rfl) (hc 7 _ rfl) (hc 8 _ rfl) (hc 9 _ rfl) (hc 10 _ rfl) (hc 11 _ rfl) hl hln hlc hlm hkn hkc hkm hk kids
  | i + 2 => simp at hi

theorem TV.shapeT {w : World} {v : Value} {t : Tm} (h : TV w v t) : ShapeT v := by
  cases h with
  | mk => exact ⟨_, _, _, _, _, _, _, _, _, _, rfl⟩

set_option maxRecDepth 100000 in
set_option maxHeartbeats 1000000 in
theorem Const_any (nm : ByteArray) (w : World) : Calls Try.prog 7 #[.string nm, .slice none 0 0] w fun e w' => ∃ v, e = .returned v ∧ TV w' v (.mk 10 0 false nm [] []) ∧ RowKit.Below w.heap.size w w' := by
  go_enter Try.func7, Try.ntmps7
  go_wp2
  exact bodyPost_ret (v := .agg #[.int .i64 10, .int .i64 0, .bool false, .string nm, .slice none 0 0, .slice none 0 0]) (by simp [results, Try.results7, go_sem]) rfl ⟨_, rfl, TV.leaf _ _ _ _, (Below.refl _ _).alloc (Nat.le_refl _) _⟩

end Go.Proofs.Ytmmbnimehmfadaa

/- The reference's lift and Clean as plain data: what they make is what the code makes. -/
namespace Go.Proofs.Ytmmbnimehmfadaa
open Go.RowKit Go.Sort

mutual
/-- a term with zero in each field that its form does not have -/
def cleanT : Tm → Tm
  | .mk f n h nm ls ks => .mk f (if f = 1 ∨ f = 11 then n else 0) (if f = 3 ∨ f = 4 ∨ f = 5 then h else false) (if f = 10 then nm else ByteArray.empty) (if f = 2 ∨ f = 10 then ls else []) (cleanTs ks)
def cleanTs : List Tm → List Tm
  | [] => []
  | k :: ks => cleanT k :: cleanTs ks
end
theorem cleanTs_map : ∀ ks : List Tm, cleanTs ks = ks.map cleanT
  | [] => by rw [cleanTs]; rfl
  | k :: ks => by rw [cleanTs, cleanTs_map ks]; rfl

theorem clean_mk (f n : Int) (h : Bool) (nm : ByteArray) (ls : List LvT) (ks : List Tm) : cleanT (.mk f n h nm ls ks) = .mk f (if f = 1 ∨ f = 11 then n else 0) (if f = 3 ∨ f = 4 ∨ f = 5 then h else false) (if f = 10 then nm else ByteArray.empty) (if f = 2 ∨ f = 10 then ls else []) (ks.map cleanT) := by rw [cleanT, cleanTs_map]

theorem clean_form (t : Tm) : (cleanT t).form = t.form := by cases t; rw [clean_mk]; rfl

theorem clean_size (t : Tm) : sizeT (cleanT t) = sizeT t := by
  refine Tm.ind (P := fun t => sizeT (cleanT t) = sizeT t) ?_ t
  intro f n hd nm ls ks ih
  rw [clean_mk, sizeT_mk, sizeT_mk, List.map_map]
  congr 2
  exact List.map_congr_left fun k hk => ih k hk

theorem clean_high (t : Tm) : heightT (cleanT t) = heightT t := by
  refine Tm.ind (P := fun t => heightT (cleanT t) = heightT t) ?_ t
  intro f n hd nm ls ks ih
  rw [clean_mk, heightT_mk, heightT_mk, List.map_map]
  congr 2
  exact List.map_congr_left fun k hk => ih k hk

theorem clean_fields (t : Tm) : fieldsB (cleanT t) = fieldsB t := by
  cases t with
  | mk f n h nm ls ks =>
    rw [clean_mk]
    unfold fieldsB
    by_cases h1 : f = 1 ∨ f = 11
    · simp only [h1, if_true]
    · by_cases h7 : f = 7
      · subst h7
        simp only [h1, if_false, if_true]
        cases ks with
        | nil => rfl
        | cons k ks => simp only [List.map_cons]; rw [clean_form]
      · by_cases h2 : f = 2
        · subst h2; simp
        · by_cases h10 : f = 10
          · subst h10; simp
          · simp only [h1, h7, h2, h10, if_false, or_self]

theorem clean_formed (t : Tm) : formedB (cleanT t) = formedB t := by
  refine Tm.ind (P := fun t => formedB (cleanT t) = formedB t) ?_ t
  intro f n hd nm ls ks ih
  have hf := clean_fields (.mk f n hd nm ls ks)
  rw [clean_mk] at hf ⊢
  rw [formedB_mk, formedB_mk]
  unfold judB
  rw [hf]
  congr 1
  · simp only [Tm.kids, Tm.form, List.length_map]
    first | rfl | congr
  · rw [List.all_map]
    clear hf
    induction ks with
    | nil => rfl
    | cons k ks ihk => simp only [List.all_cons, Function.comp]; rw [ih k (by simp), ihk (fun k' hk' => ih k' (by simp [hk']))]

theorem clean_check (t : Tm) : checkT (cleanT t) = checkT t := by
  unfold checkT; rw [clean_size, clean_high, clean_formed]

theorem smT_clean (m : Nat) (t : Tm) : smT m t → smT m (cleanT t) := by
  refine Tm.ind (P := fun t => smT m t → smT m (cleanT t)) ?_ t
  intro f n hd nm ls ks ih h
  obtain ⟨h1, h2, h3, h4, h5⟩ := (smT_mk _ _ _ _ _ _ _).1 h
  rw [clean_mk, smT_mk]
  refine ⟨?_, ?_, ?_, by simpa using h4, fun k hk => ?_⟩
  · split
    · exact h1
    · exact Nat.zero_le _
  · split
    · exact h2
    · exact Nat.zero_le _
  · intro l hl
    split at hl
    · exact h3 l hl
    · simp at hl
  · obtain ⟨k', hk', rfl⟩ := List.mem_map.1 hk
    exact ih k' hk' (h5 k' hk')

end Go.Proofs.Ytmmbnimehmfadaa

/- The contracts of the writer's written, and of bytes.Term. -/
namespace Go.Proofs.Ytmmbnimehmfadaa
open Go.RowKit Go.Sort

/-- bytes in memory of the call's own and no error, or nil and an error -/
def AnsB (B : Nat) (e : Ending) (w' : World) : Except Int (List UInt8) → Prop
  | .ok bs => ∃ v, e = .returned (.tuple #[v, .int .i64 0]) ∧ OY B w' v bs
  | .error c => c ≠ 0 ∧ e = .returned (.tuple #[.slice none 0 0, .int .i64 c])

set_option maxRecDepth 100000 in
set_option maxHeartbeats 4000000 in
theorem written_any (B wb : Nat) (tot : List UInt8) (w : World) (hW : WR w B wb tot) : Calls Try.prog 30 #[.pointer (some ⟨wb, 0, none⟩)] w fun e w' => AnsB B e w' (if 1000000 < tot.length then .error 2 else .ok tot) ∧ w' = w := by
  obtain ⟨hBw, out, tm, bs, hh, hO, hnb, hst⟩ := hW
  obtain ⟨x0, x1, -, -, x4⟩ := cells2 hh
  obtain ⟨oa, oc, rfl, hbl, hoc, hom, hon, hog⟩ := hO.shape
  have HO := Hid.mk hO
  clear hh hO hnb hog hbl hon
  rcases hst with ⟨rfl, rfl, hl⟩ | ⟨rfl, hl, -⟩
  · rw [if_neg (by omega)]
    go_enter Try.func30, Try.ntmps30
    go_wp2
    go_ret2
    exact ⟨⟨_, rfl, HO.out⟩, rfl⟩
  · rw [if_pos hl]
    go_enter Try.func30, Try.ntmps30
    go_wp2
    go_ret2
    exact ⟨⟨by decide, rfl⟩, rfl⟩

theorem WR.new (w : World) (B : Nat) (hB : B ≤ w.heap.size) : WR (w.alloc (.cells #[.slice none 0 0, .bool false] 78)) B w.heap.size [] :=
  ⟨hB, .slice none 0 0, false, [], alloc_new _ _, OY.nil _ _, by simp [Value.ownBlock], Or.inl ⟨rfl, rfl, by simp⟩⟩

end Go.Proofs.Ytmmbnimehmfadaa

/- The contracts of the reader of package bytes, where what is read was written: several, level. -/
namespace Go.Proofs.Ytmmbnimehmfadaa
open Go.RowKit Go.Sort Go.Lib

/-- the blocks of an elder world -/
def oldB (w : World) (k : Nat) : Bool := decide (k < w.heap.size)

theorem oldB_no {w : World} {k : Nat} (h : oldB w k = false) : w.heap.size ≤ k := by unfold oldB at h; simpa using h
theorem oldB_new {w : World} {k : Nat} (h : w.heap.size ≤ k) : oldB w k = false := by unfold oldB; simpa using h

theorem owns_move {w w' : World} {B n size : Nat} {e : TypeId} {v : Value} {xs : List Value} (h : w.ownsRow B e size v n xs) (hk : ∀ k, v.ownBlock = some k → w'.heap[k]? = w.heap[k]?) : w'.ownsRow B e size v n xs := by
  refine ⟨h.1, ?_⟩
  rcases h.2 with h2 | ⟨g, cap, cur, hv, hg, hh, r⟩
  · exact Or.inl h2
  · exact Or.inr ⟨g, cap, cur, hv, hg, (hk g (by rw [hv]; rfl)).trans hh, r⟩

end Go.Proofs.Ytmmbnimehmfadaa

/- The contract of the reader's term, where what is read was written. -/
namespace Go.Proofs.Ytmmbnimehmfadaa
open Go.RowKit Go.Sort Go.Lib

/-- a leaf, whatever the world -/
theorem TF.leaf {w : World} {P : Nat → Bool} (f n : Int) (h : Bool) (nm : ByteArray) : TF w P (.agg #[.int .i64 f, .int .i64 n, .bool h, .string nm, .slice none 0 0, .slice none 0 0]) (.mk f n h nm [] []) :=
  TV.mk (kb := 0) (ko := 0) (ls := []) (ks := []) (Or.inl rfl) (fun _ => rfl) (Nat.le_refl _) (by omega) (fun _ => rfl) (Nat.le_refl _) (by omega) (fun h => absurd rfl h) (fun i t hi => by simp at hi)

end Go.Proofs.Ytmmbnimehmfadaa
