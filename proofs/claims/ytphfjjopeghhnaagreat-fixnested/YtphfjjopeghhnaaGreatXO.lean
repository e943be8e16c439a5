/- An executor for closed calls, 15: what is made out of an operation stands for it. -/
import Derived.Test.YtphfjjopeghhnaaGreatXN
namespace Go.Proofs.YtphfjjopeghhnaaGreat.X
open Go.RowKit
theorem zinfo {P:Program} {t:TypeId} {i:TypeInfo} {z:Value} {v:AV} (h:zeroA P t=some (i,z,v)):P.info? t=some i:=(zeroA_spec h).1
theorem zzero {P:Program} {t:TypeId} {i:TypeInfo} {z:Value} {v:AV} (h:zeroA P t=some (i,z,v)):i.zero=some z:=(zeroA_spec h).2.1
theorem zlone {P:Program} {t:TypeId} {i:TypeInfo} {z:Value} {v:AV} (h:zeroA P t=some (i,z,v)):Lone v z:=(zeroA_spec h).2.2
theorem Co.buildS' {P:Program} {t e:TypeId} {n:Nat} {j:TypeInfo} {z:Value} {v:AV} {ps:Array (Nat × Operand)} {qs:List (Nat × Nat × AX)} (h1:P.underlying t=some (.slice e)) (h2:zeroA P e=some (j,z,v)) (hn:¬ n=0) (h3:(cellsA v).length=j.size∧0<j.size∧n*j.size≤2 ^ 24) (h4:cps (fun i=>some (i*j.size,j.size)) ps.toList=some qs):Co P (.buildSlice t n ps) (.buildS e n (zerosL (cellsA v) n) qs):=by
  obtain ⟨e1,e2,e3⟩:=zeroA_spec h2
  refine Co.buildS h1 e1 e2 h3.2.2 (Nat.mul_pos (by omega) h3.2.1) (fun _=>okL_zeros (okL_cells (e3.2 _)) n) (fun r=>?_) e3 (cps_spec h4)
  rw [← h3.1]
  exact zeros_real e3 (by omega) n
theorem compOp_spec {P:Program} {op:Op} {op':AOp} (h:compOp P op=some op'):Co P op op':=by
  unfold compOp at h
  split at h
  all_goals (repeat' split at h)
  all_goals first
    | (cases h; done)
    | (cases h
       first
         | exact Co.mv (cx_spec ‹_›)
         | exact Co.asg (cx_spec ‹_›)
         | exact Co.pick (cx_spec ‹_›) (cx_spec ‹_›) (cx_spec ‹_›)
         | exact Co.new (zinfo ‹_›) (zzero ‹_›) (zlone ‹_›)
         | exact Co.box (cx_spec ‹_›)
         | exact Co.build (zinfo ‹_›) (zzero ‹_›) (zlone ‹_›) ‹_› (placesA_spec ‹_›) (cps_spec ‹_›)
         | exact Co.buildA (zinfo ‹_›) (zzero ‹_›) (zlone ‹_›) ‹_› ‹_› (cps_spec ‹_›)
         | exact Co.buildS' ‹_› ‹_› ‹_› ‹_› ‹_›
         | (subst_vars; exact Co.buildE ‹_› (zinfo ‹_›))
         | exact Co.ldN ‹_› ‹_› ‹_› (cx_spec ‹_›)
         | exact Co.ld1 ‹_› (Bool.eq_false_iff.2 ‹_›) (cx_spec ‹_›)
         | exact Co.st ‹_› (cx_spec ‹_›) (cx_spec ‹_›)
         | exact Co.nchk (cx_spec ‹_›)
         | exact Co.fa ‹_› ‹_› ‹_› ‹_› (cx_spec ‹_›)
         | exact Co.fld ‹_› ‹_› ‹_› ‹_› ‹_› (cx_spec ‹_›)
         | exact Co.fld1 ‹_› ‹_› ‹_› (Bool.eq_false_iff.2 ‹_›) (cx_spec ‹_›)
         | exact Co.ia ‹_› ‹_› (cx_spec ‹_›) (cx_spec ‹_›)
         | exact Co.iaA ‹_› ‹_› (cx_spec ‹_›) (cx_spec ‹_›)
         | exact Co.ext (cx_spec ‹_›)
         | exact Co.mkf (cxs_spec ‹_›) (cxs_spec ‹_›)
         | exact Co.mki ‹_› (by intro m hm; subst hm; simp_all) (cx_spec ‹_›)
         | exact Co.eq (.inl ⟨rfl,rfl⟩) ‹_› (eqT_spec ‹_›) (cx_spec ‹_›) (cx_spec ‹_›)
         | exact Co.eq (.inr ⟨rfl,rfl⟩) ‹_› (eqT_spec ‹_›) (cx_spec ‹_›) (cx_spec ‹_›)
         | exact Co.eqA (eaN_spec ‹_› ‹_›) (.inl ⟨rfl,rfl⟩) (cx_spec ‹_›) (cx_spec ‹_›)
         | exact Co.eqA (eaN_spec ‹_› ‹_›) (.inr ⟨rfl,rfl⟩) (cx_spec ‹_›) (cx_spec ‹_›)
         | exact Co.ar (cx_spec ‹_›) (cx_spec ‹_›)
         | exact Co.un (cx_spec ‹_›)
         | exact Co.ta (taL_spec ‹_› _) (cx_spec ‹_›)
         | exact Co.cvI ‹_› ‹_› (cx_spec ‹_›)
         | exact Co.clr ‹_› (zinfo ‹_›) (zzero ‹_›) (zlone ‹_›) ‹_› (cx_spec ‹_›)
         | exact Co.cvT ‹_› ‹_› ‹_› (cx_spec ‹_›)
         | exact Co.cvB ‹_› ‹_› ‹_› ‹_› ‹_› (cx_spec ‹_›)
         | exact Co.cvS ‹_› ‹_› (cx_spec ‹_›)
         | exact Co.lenS ‹_› (cx_spec ‹_›)
         | exact Co.len ‹_› (cx_spec ‹_›)
         | exact Co.lenM ‹_› (cx_spec ‹_›)
         | exact Co.lenC ‹_› (cx_spec ‹_›)
         | exact Co.mkC ‹_› ‹_› ‹_› (cx_spec ‹_›)
         | exact Co.app ‹_› (.inr ⟨_,‹_›⟩) (zinfo ‹_›) (zzero ‹_›) (zlone ‹_›) (And.left ‹_∧_›) (And.left (And.right ‹_∧_›)) (And.right (And.right ‹_∧_›)) (cx_spec ‹_›) (cx_spec ‹_›)
         | exact Co.app ‹_› (.inl ‹_›) (zinfo ‹_›) (zzero ‹_›) (zlone ‹_›) (And.left ‹_∧_›) (And.left (And.right ‹_∧_›)) (And.right (And.right ‹_∧_›)) (cx_spec ‹_›) (cx_spec ‹_›)
         | exact Co.max (cxs_spec ‹_›)
         | exact Co.min (cxs_spec ‹_›)
         | exact Co.ix1 ‹_› ‹_› (And.left ‹_∧_›) ‹_› (And.right ‹_∧_›) (cx_spec ‹_›) (cx_spec ‹_›)
         | exact Co.lk ‹_› ‹_› (zinfo ‹_›) (zzero ‹_›) (zlone ‹_›) (cx_spec ‹_›) (cx_spec ‹_›)
         | exact Co.up ‹_› ‹_› (cx_spec ‹_›) (cx_spec ‹_›) (cx_spec ‹_›)
         | exact Co.ins ‹_› ‹_› (cx_spec ‹_›) (cx_spec ‹_›) (cx_spec ‹_›)
         | exact Co.lkA ‹_› (sk_of ‹_›) (zinfo ‹_›) (zzero ‹_›) (zlone ‹_›) (cx_spec ‹_›) (cx_spec ‹_›)
         | exact Co.upA ‹_› (sk_of ‹_›) (cx_spec ‹_›) (cx_spec ‹_›) (cx_spec ‹_›)
         | exact Co.ixS ‹_› (cx_spec ‹_›) (cx_spec ‹_›)
         | exact Co.mkS ‹_› (zinfo ‹_›) (zzero ‹_›) (zlone ‹_›) (And.left ‹_∧_›) (And.left (And.right ‹_∧_›)) (And.right (And.right ‹_∧_›)) (cx_spec ‹_›) (cx_spec ‹_›)
         | exact Co.sl ‹_› ‹_› (cx_spec ‹_›) (cxo_spec ‹_›) (cxo_spec ‹_›) (cxo_spec ‹_›) (by intro h1 h2; simp_all)
         | exact Co.slS ‹_› (cx_spec ‹_›) (cxo_spec ‹_›) (cxo_spec ‹_›)
         | exact Co.rng ‹_› (cx_spec ‹_›)
         | exact Co.nxt (cx_spec ‹_›)
         | exact Co.mkM)
end Go.Proofs.YtphfjjopeghhnaaGreat.X
