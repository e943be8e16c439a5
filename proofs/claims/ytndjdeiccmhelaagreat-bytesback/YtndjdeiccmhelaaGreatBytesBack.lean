/- BytesBack: for any bytes b, bytes.ReadDecls answers what the reference's ReadDecls answers: the same error, and declarations that are one in all fields. Conditions: none but the row's own. -/
import Derived.Test.YtndjdeiccmhelaaGreatRows
import Derived.Test.YtndjdeiccmhelaaGreatLH
import Derived.Test.YtndjdeiccmhelaaGreatLC
import Derived.Test.YtndjdeiccmhelaaGreatKL
import Derived.Test.YtndjdeiccmhelaaGreatEP
import Derived.Test.YtndjdeiccmhelaaGreatGF
import Derived.SizedLaws
import Derived.ProofKit
import Derived.OpenShut
import Derived.Below
namespace Go.Proofs.YtndjdeiccmhelaaGreat
open Go.RowKit Go.Sort Go.Lib
namespace bytesBack
open Go.ChangeShapes Go.WideShapes Go.ChangeAt

set_option maxRecDepth 100000 in
set_option maxHeartbeats 8000000 in
theorem walk (bs : List UInt8) (ab : Option Addr) (cb : Nat) (w : World) (hB : BL w ab bs) (hBl : ∀ ad, ab = some ad → ad.block < w.heap.size) (hBn : ab = none → cb = 0) (hBc : bs.length ≤ cb) (hBm : cb ≤ 9223372036854775807) :
    Calls Tryz.prog 4 #[.slice ab bs.length cb] w fun e w' => e = .returned (.bool true) ∧ RowKit.Below w.heap.size w w' := by
  have HBB := Hid.mk hB
  have HBL := Hid.mk hBl
  have HBN := Hid.mk hBn
  have HA := alive3_any w
  clear hB hBl hBn
  go_enter Tryz.func4, Tryz.ntmps4
  go_wp2_with fail
  refine HA.mono ?_
  rintro e w1 ⟨rfl, hb1⟩
  have HB1 := Hid.mk hb1
  have hs1 := hb1.size
  clear hb1 HA
  by_cases hlb : (5000 : Int) < (bs.length : Int)
  · go_wp2
    go_ret
    exact ⟨rfl, HB1.out⟩
  have HC1 := ReadDecls_any bs ab cb w1 (HBB.out.below HB1.out) (fun ad e => by have := HBL.out ad e; omega) (fun e => by have := HBN.out e; exact List.eq_nil_of_length_eq_zero (by omega)) hBc hBm (by omega)
  go_wp2_with fail
  refine HC1.mono ?_
  rintro e w2 ⟨hans, hb2⟩
  have HB2 : Hid (RowKit.Below w.heap.size w w2) := HB1.out.trans (hb2.mono hs1)
  have hs2 := HB2.out.size
  have HC2 := rReadDecls_any bs ab cb w2 (HBB.out.below HB2.out) (fun ad e => by have := HBL.out ad e; omega) HBN.out hBc hBm (by omega)
  rcases hans with ⟨ds, a1, c1, hh, hcl, rfl, hrow⟩ | ⟨hno, rfl⟩
  · have HH := Hid.mk hh
    have HCL := Hid.mk hcl
    obtain ⟨hdl, hsm⟩ := hrow.dl (fun k hk => oldB_new hk)
    have HDL := Hid.mk hdl
    have HSM := Hid.mk hsm
    clear hb2 hh hcl hrow HC1 hdl hsm
    go_wp2_with fail
    refine HC2.mono ?_
    rintro e w3 ⟨hans, hb3⟩
    have HB3 : Hid (RowKit.Below w.heap.size w w3) := HB2.out.trans (hb3.mono hs2)
    rcases hans with ⟨ds', a2, c2, hh2, hun, rfl, hrow2⟩ | ⟨hno, rfl⟩
    rotate_left
    · exact absurd HH.out (hno ds)
    obtain rfl : ds' = ds := by
      rw [hun ds HH.out]
      exact HCL.out.symm
    obtain ⟨hdl2, -⟩ := hrow2.dl (fun k hk => oldB_new hk)
    have hlen := HH.out.1.1
    have HEX := ExactDecls_yes ds' a1 a2 c1 c2 w3 (HDL.out.on hb3) hdl2 (by omega) HSM.out
    clear hb3 hh2 hun hrow2 hdl2 HC2
    go_wp2_with (go_at_call 10; refine (num3_any _ _).mono ?_; rintro e w' ⟨rfl, rfl⟩)
    refine HEX.mono ?_
    rintro e w4 ⟨rfl, hb4⟩
    have HB4 : Hid (RowKit.Below w.heap.size w w4) := HB3.out.trans (hb4.mono HB3.out.size)
    clear hb4 HEX
    go_wp2
    go_ret
    exact ⟨rfl, HB4.out⟩
  · have HNO := Hid.mk hno
    clear hb2 hno HC1
    go_wp2_with fail
    refine HC2.mono ?_
    rintro e w3 ⟨hans, hb3⟩
    have HB3 : Hid (RowKit.Below w.heap.size w w3) := HB2.out.trans (hb3.mono hs2)
    rcases hans with ⟨ds', a2, c2, hh2, -, -, -⟩ | ⟨-, rfl⟩
    · exact absurd hh2 (HNO.out ds')
    have HEX := ExactDecls_yes [] none none 0 0 w3 (Or.inl rfl) (Or.inl rfl) (by simp) (by simp)
    clear hb3 HC2
    go_wp2_with (go_at_call 10; refine (num3_any _ _).mono ?_; rintro e w' ⟨rfl, rfl⟩)
    refine HEX.mono ?_
    rintro e w4 ⟨rfl, hb4⟩
    have HB4 : Hid (RowKit.Below w.heap.size w w4) := HB3.out.trans (hb4.mono HB3.out.size)
    clear hb4 HEX
    go_wp2
    go_ret
    exact ⟨rfl, HB4.out⟩

theorem ownL : ownKnob Tryz.prog.godebug = none := by kernel_rfl

set_option maxRecDepth 100000 in
theorem lifted (os : Os) (started : os.Started) (H : Type) (enc : TypeId × Value → H) :
    ReturnsInHanded {} Tryz.checked os 4 .any (Rows.bytesBackSpec.pre6 enc Tryz.prog Tryz.f4 Rows.bytesBackRow.domain false) (Rows.bytesBackSpec.post enc Tryz.prog Tryz.f4 false true false false) := by
  refine returnsInHanded_of_change_sized (C := Tryz.checked) ownL started (by kernel_rfl) Tryz.func4
    (ChangeSpec.witness6 (enc := enc) (C := Tryz.checked) false ⟨#[], #[.slice none 0 0], []⟩ 8 (by kernel_rfl) (by kernel_rfl) (by kernel_rfl) (by kernel_rfl)) ?_
  intro W base args ds gs before hval0 hW hcnd hwt _
  have hval : ∀ (j : Nat) t v, Tryz.f4.params[j]? = some t → args[j]? = some v → Value.okWide Tryz.prog W .any base t v := hval0
  have hW' := hW
  obtain ⟨p, q, hA0, hV, rfl, hfz, hnd⟩ := hW
  have hA : DataW.TrodAll enc Tryz.prog W 0 (fun _ => true) true Tryz.f4.params.toList args.toList ds p := hA0
  rw [Tryz.params4] at hA hval
  obtain ⟨v0, d0, rfl, rfl, h0⟩ := trodAll_one hA
  obtain ⟨rfl, rfl⟩ := trodVars_none hV
  have k0 := h0
  have lt0 : ∀ x ∈ p, x.block < W.heap.size := by obtain ⟨m, hm⟩ := k0; exact DataW.trod_lt m _ _ _ hm
  obtain ⟨a, aa, ca, rfl, ha1, ha2, ha3, ha4, ha5⟩ := open_bytes1 (hval 0 25 v0 rfl rfl) h0
  clear hA0 hval0
  refine (walk a aa ca W ha1 ha2 ha3 ha4 ha5).mono fun e W' ⟨he, bel⟩ => ?_
  subst he
  exact ⟨_, rfl, _, _, _, [], _, [], hW', trodAll_mk1 (shut_bool Tryz.underlying4 _), trodAll_mk1 (Below.trod laidOut (by kernel_rfl) (of_decide_eq_true (by kernel_rfl)) k0 bel lt0), rfl, bel.frame _, fun h => by cases h⟩

theorem over : Rows.bytesBackRow.holds Tryz.pinned (OpenSpec.ofChange Rows.bytesBackSpec) :=
  OpenClaim.holds_of_wide 4 Tryz.f4 rfl rfl rfl rfl rfl rfl rfl ⟨rfl, rfl, rfl, rfl, rfl⟩ rfl rfl rfl rfl rfl (by kernel_rfl) Tryz.func4 (by kernel_rfl)
    (of_decide_eq_true (by kernel_rfl)) (by unfold Func.isWrapper; first | (rw [if_pos (by decide +kernel)]; kernel_rfl) | (rw [if_neg (by decide +kernel)]; exact ⟨rfl, rfl⟩))
    (fun os started H enc _ => lifted os started H enc)

end bytesBack

theorem bytesBack_holds : Rows.BytesBackSaid := bytesBack.over
#print axioms bytesBack_holds
end Go.Proofs.YtndjdeiccmhelaaGreat
