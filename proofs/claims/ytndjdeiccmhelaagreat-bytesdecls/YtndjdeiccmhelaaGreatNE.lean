/- What bytes are as declarations they are once. -/
import Derived.Test.YtndjdeiccmhelaaGreatKK
import Derived.Test.YtndjdeiccmhelaaGreatFD
namespace Go.Proofs.YtndjdeiccmhelaaGreat
open Go.RowKit Go.Sort Go.Lib

theorem num_one {n n' : Nat} {rest rest' : List UInt8} (hn : n ≤ 1073741824) (hn' : n' ≤ 1073741824) (h : numB n ++ rest = numB n' ++ rest') : n = n' ∧ rest = rest' := by
  have h1 := pnum6 hn rest
  rw [h, pnum6 hn' rest'] at h1
  simp only [Option.some.injEq, Prod.mk.injEq] at h1
  exact ⟨h1.1.symm, h1.2.symm⟩

theorem name_one {s s' : ByteArray} {rest rest' : List UInt8} (hs : s.size ≤ 60) (hs' : s'.size ≤ 60) (h : nameB s ++ rest = nameB s' ++ rest') : s = s' ∧ rest = rest' := by
  have h1 := ptext_enc rest hs
  rw [h, ptext_enc rest' hs'] at h1
  simp only [Option.some.injEq, Prod.mk.injEq] at h1
  exact ⟨h1.1.symm, h1.2.symm⟩

theorem ctors_one : ∀ {cs cs' : List (ByteArray × Tm)} {rest rest' : List UInt8}, cs.length = cs'.length → (∀ c ∈ cs, okC c) → (∀ c ∈ cs', okC c) → cs.flatMap encC ++ rest = cs'.flatMap encC ++ rest' → cs.map cleanC = cs'.map cleanC ∧ rest = rest'
  | [], [], _, _, _, _, _, h => ⟨rfl, h⟩
  | [], c :: cs, _, _, h, _, _, _ => by simp at h
  | c :: cs, [], _, _, h, _, _, _ => by simp at h
  | c :: cs, c' :: cs', rest, rest', hl, h1, h2, h => by
    rw [List.flatMap_cons, List.flatMap_cons, encC, encC, List.append_assoc, List.append_assoc, List.append_assoc, List.append_assoc] at h
    have k1 := h1 c (by simp)
    have k2 := h2 c' (by simp)
    obtain ⟨e1, h⟩ := name_one k1.1.2 k2.1.2 h
    obtain ⟨e2, h⟩ := enc_one k1.2 k2.2 h
    obtain ⟨e3, e4⟩ := ctors_one (by simpa using hl) (fun x hx => h1 x (by simp [hx])) (fun x hx => h2 x (by simp [hx])) h
    refine ⟨?_, e4⟩
    rw [List.map_cons, List.map_cons, e3, cleanC, cleanC, e1, e2]

theorem encD_one {d d' : Dl} {rest rest' : List UInt8} (hd : RightD d) (hd' : RightD d') (h : encD d ++ rest = encD d' ++ rest') : cleanD d = cleanD d' ∧ rest = rest' := by
  rw [encD_app, encD_app] at h
  have k1 := hd.kind
  have k2 := hd'.kind
  have l1 := hd.levels
  have l2 := hd'.levels
  obtain ⟨e1, h⟩ := num_one (by omega) (by omega) h
  obtain ⟨e2, h⟩ := name_one hd.name.2 hd'.name.2 h
  obtain ⟨e3, h⟩ := num_one (by omega) (by omega) h
  obtain ⟨e4, h⟩ := enc_one hd.ty hd'.ty h
  have ek : d.kind = d'.kind := by omega
  have el : d.levels = d'.levels := by omega
  unfold encF at h
  unfold cleanD
  by_cases h2 : d.kind = 2
  · have h2' : d'.kind = 2 := by omega
    rw [if_pos h2, if_pos h2'] at h
    obtain ⟨e5, h⟩ := enc_one (hd.val h2) (hd'.val h2') h
    refine ⟨?_, h⟩
    rw [if_pos h2, if_pos h2', if_neg (by omega), if_neg (by omega), if_neg (by omega), if_neg (by omega), ek, e2, el, e4, e5]
  · have h2' : ¬ d'.kind = 2 := by omega
    rw [if_neg h2, if_neg h2'] at h
    by_cases h3 : d.kind = 3
    · have h3' : d'.kind = 3 := by omega
      rw [if_pos h3, if_pos h3', List.append_assoc, List.append_assoc, List.append_assoc, List.append_assoc] at h
      have p1 := hd.params h3
      have p2 := hd'.params h3'
      have n1 := hd.len h3
      have n2 := hd'.len h3'
      obtain ⟨e5, h⟩ := num_one (by omega) (by omega) h
      obtain ⟨e6, h⟩ := num_one (by omega) (by omega) h
      obtain ⟨e7, h⟩ := ctors_one e6 (hd.ctors h3) (hd'.ctors h3') h
      refine ⟨?_, h⟩
      rw [if_neg h2, if_neg h2', if_pos h3, if_pos h3', if_pos h3, if_pos h3', ek, e2, el, e4, e7, show d.params = d'.params by omega]
    · have h3' : ¬ d'.kind = 3 := by omega
      rw [if_neg h3, if_neg h3', List.nil_append, List.nil_append] at h
      refine ⟨?_, h⟩
      rw [if_neg h2, if_neg h2', if_neg h3, if_neg h3', if_neg h3, if_neg h3', ek, e2, el, e4]

theorem decls_one : ∀ {ds ds' : List Dl}, ds.length = ds'.length → (∀ d ∈ ds, RightD d) → (∀ d ∈ ds', RightD d) → ds.flatMap encD = ds'.flatMap encD → ds.map cleanD = ds'.map cleanD
  | [], [], _, _, _, _ => rfl
  | [], d :: ds, h, _, _, _ => by simp at h
  | d :: ds, [], h, _, _, _ => by simp at h
  | d :: ds, d' :: ds', hl, h1, h2, h => by
    rw [List.flatMap_cons, List.flatMap_cons] at h
    obtain ⟨e1, e2⟩ := encD_one (h1 d (by simp)) (h2 d' (by simp)) h
    rw [List.map_cons, List.map_cons, e1, decls_one (by simpa using hl) (fun x hx => h1 x (by simp [hx])) (fun x hx => h2 x (by simp [hx])) e2]

theorem HasD.one {bs : List UInt8} {ds ds' : List Dl} (h : HasD bs ds) (h' : HasD bs ds') : ds.map cleanD = ds'.map cleanD := by
  have e := h.2.trans h'.2.symm
  unfold encDs at e
  have l1 := h.1.1
  have l2 := h'.1.1
  obtain ⟨e1, e2⟩ := num_one (by omega) (by omega) e
  exact decls_one e1 (fun d hd => (h.1.2 d hd).right) (fun d hd => (h'.1.2 d hd).right) e2
end Go.Proofs.YtndjdeiccmhelaaGreat
