/- An executor for closed calls, 1b: slots. Two levels of sixteen, and a trie for what is beyond; the name of a slot carries how it is read and written. -/
import Derived.Test.YtidggaoacldgkaaGreatDoorXGW
namespace Go.Proofs.YtidggaoacldgkaaGreatDoor.X
set_option linter.unusedVariables false
inductive N16 (α:Type) where
 | mk (a0 a1 a2 a3 a4 a5 a6 a7 a8 a9 a10 a11 a12 a13 a14 a15:α)
namespace N16
variable {α:Type}
def toL:N16 α→List α
 | .mk a0 a1 a2 a3 a4 a5 a6 a7 a8 a9 a10 a11 a12 a13 a14 a15=>[a0,a1,a2,a3,a4,a5,a6,a7,a8,a9,a10,a11,a12,a13,a14,a15]
def same (x:α):N16 α:=.mk x x x x x x x x x x x x x x x x
def ofL (n:N16 α) (l:List α):N16 α:=match l with
 | [a0,a1,a2,a3,a4,a5,a6,a7,a8,a9,a10,a11,a12,a13,a14,a15]=>.mk a0 a1 a2 a3 a4 a5 a6 a7 a8 a9 a10 a11 a12 a13 a14 a15
 | _=>n
def put (n:N16 α) (i:Nat) (x:α):N16 α:=ofL n (n.toL.set i x)
theorem toL_length:∀ n:N16 α,n.toL.length=16
 | .mk _ _ _ _ _ _ _ _ _ _ _ _ _ _ _ _=>rfl
theorem toL_ofL (n:N16 α):∀ l:List α,l.length=16→(ofL n l).toL=l
 | [a0,a1,a2,a3,a4,a5,a6,a7,a8,a9,a10,a11,a12,a13,a14,a15],_=>rfl
 | [],h=>by simp at h
 | [a0],h=>by simp at h
 | [a0,a1],h=>by simp at h
 | [a0,a1,a2],h=>by simp at h
 | [a0,a1,a2,a3],h=>by simp at h
 | [a0,a1,a2,a3,a4],h=>by simp at h
 | [a0,a1,a2,a3,a4,a5],h=>by simp at h
 | [a0,a1,a2,a3,a4,a5,a6],h=>by simp at h
 | [a0,a1,a2,a3,a4,a5,a6,a7],h=>by simp at h
 | [a0,a1,a2,a3,a4,a5,a6,a7,a8],h=>by simp at h
 | [a0,a1,a2,a3,a4,a5,a6,a7,a8,a9],h=>by simp at h
 | [a0,a1,a2,a3,a4,a5,a6,a7,a8,a9,a10],h=>by simp at h
 | [a0,a1,a2,a3,a4,a5,a6,a7,a8,a9,a10,a11],h=>by simp at h
 | [a0,a1,a2,a3,a4,a5,a6,a7,a8,a9,a10,a11,a12],h=>by simp at h
 | [a0,a1,a2,a3,a4,a5,a6,a7,a8,a9,a10,a11,a12,a13],h=>by simp at h
 | [a0,a1,a2,a3,a4,a5,a6,a7,a8,a9,a10,a11,a12,a13,a14],h=>by simp at h
 | a0 :: a1 :: a2 :: a3 :: a4 :: a5 :: a6 :: a7 :: a8 :: a9 :: a10 :: a11 :: a12 :: a13 :: a14 :: a15 :: a16 :: l,h=>by simp at h
theorem toL_put (n:N16 α) (i:Nat) (x:α):(n.put i x).toL=n.toL.set i x:=toL_ofL n _ (by rw [List.length_set,toL_length])
def gm0 (c:α→Prop) (a0 a1 a2 a3 a4 a5 a6 a7 a8 a9 a10 a11 a12 a13 a14 a15:α):Prop:=c a0
def g0 (n:N16 α) (c:α→Prop):Prop:=N16.rec (motive:=fun _=>Prop) (gm0 c) n
def wm0 (v:α) (c:N16 α→Prop) (a0 a1 a2 a3 a4 a5 a6 a7 a8 a9 a10 a11 a12 a13 a14 a15:α):Prop:=c (.mk v a1 a2 a3 a4 a5 a6 a7 a8 a9 a10 a11 a12 a13 a14 a15)
def w0 (v:α) (n:N16 α) (c:N16 α→Prop):Prop:=N16.rec (motive:=fun _=>Prop) (wm0 v c) n
theorem g0_iff (n:N16 α) (c:α→Prop):g0 n c↔∃ x,n.toL[0]?=some x∧c x:=by cases n; exact ⟨fun h=>⟨_,rfl,h⟩,fun ⟨_,h,g⟩=>by cases h; exact g⟩
theorem w0_iff (v:α) (n:N16 α) (c:N16 α→Prop):w0 v n c↔c (n.put 0 v):=by cases n; exact Iff.rfl
def gm1 (c:α→Prop) (a0 a1 a2 a3 a4 a5 a6 a7 a8 a9 a10 a11 a12 a13 a14 a15:α):Prop:=c a1
def g1 (n:N16 α) (c:α→Prop):Prop:=N16.rec (motive:=fun _=>Prop) (gm1 c) n
def wm1 (v:α) (c:N16 α→Prop) (a0 a1 a2 a3 a4 a5 a6 a7 a8 a9 a10 a11 a12 a13 a14 a15:α):Prop:=c (.mk a0 v a2 a3 a4 a5 a6 a7 a8 a9 a10 a11 a12 a13 a14 a15)
def w1 (v:α) (n:N16 α) (c:N16 α→Prop):Prop:=N16.rec (motive:=fun _=>Prop) (wm1 v c) n
theorem g1_iff (n:N16 α) (c:α→Prop):g1 n c↔∃ x,n.toL[1]?=some x∧c x:=by cases n; exact ⟨fun h=>⟨_,rfl,h⟩,fun ⟨_,h,g⟩=>by cases h; exact g⟩
theorem w1_iff (v:α) (n:N16 α) (c:N16 α→Prop):w1 v n c↔c (n.put 1 v):=by cases n; exact Iff.rfl
def gm2 (c:α→Prop) (a0 a1 a2 a3 a4 a5 a6 a7 a8 a9 a10 a11 a12 a13 a14 a15:α):Prop:=c a2
def g2 (n:N16 α) (c:α→Prop):Prop:=N16.rec (motive:=fun _=>Prop) (gm2 c) n
def wm2 (v:α) (c:N16 α→Prop) (a0 a1 a2 a3 a4 a5 a6 a7 a8 a9 a10 a11 a12 a13 a14 a15:α):Prop:=c (.mk a0 a1 v a3 a4 a5 a6 a7 a8 a9 a10 a11 a12 a13 a14 a15)
def w2 (v:α) (n:N16 α) (c:N16 α→Prop):Prop:=N16.rec (motive:=fun _=>Prop) (wm2 v c) n
theorem g2_iff (n:N16 α) (c:α→Prop):g2 n c↔∃ x,n.toL[2]?=some x∧c x:=by cases n; exact ⟨fun h=>⟨_,rfl,h⟩,fun ⟨_,h,g⟩=>by cases h; exact g⟩
theorem w2_iff (v:α) (n:N16 α) (c:N16 α→Prop):w2 v n c↔c (n.put 2 v):=by cases n; exact Iff.rfl
def gm3 (c:α→Prop) (a0 a1 a2 a3 a4 a5 a6 a7 a8 a9 a10 a11 a12 a13 a14 a15:α):Prop:=c a3
def g3 (n:N16 α) (c:α→Prop):Prop:=N16.rec (motive:=fun _=>Prop) (gm3 c) n
def wm3 (v:α) (c:N16 α→Prop) (a0 a1 a2 a3 a4 a5 a6 a7 a8 a9 a10 a11 a12 a13 a14 a15:α):Prop:=c (.mk a0 a1 a2 v a4 a5 a6 a7 a8 a9 a10 a11 a12 a13 a14 a15)
def w3 (v:α) (n:N16 α) (c:N16 α→Prop):Prop:=N16.rec (motive:=fun _=>Prop) (wm3 v c) n
theorem g3_iff (n:N16 α) (c:α→Prop):g3 n c↔∃ x,n.toL[3]?=some x∧c x:=by cases n; exact ⟨fun h=>⟨_,rfl,h⟩,fun ⟨_,h,g⟩=>by cases h; exact g⟩
theorem w3_iff (v:α) (n:N16 α) (c:N16 α→Prop):w3 v n c↔c (n.put 3 v):=by cases n; exact Iff.rfl
def gm4 (c:α→Prop) (a0 a1 a2 a3 a4 a5 a6 a7 a8 a9 a10 a11 a12 a13 a14 a15:α):Prop:=c a4
def g4 (n:N16 α) (c:α→Prop):Prop:=N16.rec (motive:=fun _=>Prop) (gm4 c) n
def wm4 (v:α) (c:N16 α→Prop) (a0 a1 a2 a3 a4 a5 a6 a7 a8 a9 a10 a11 a12 a13 a14 a15:α):Prop:=c (.mk a0 a1 a2 a3 v a5 a6 a7 a8 a9 a10 a11 a12 a13 a14 a15)
def w4 (v:α) (n:N16 α) (c:N16 α→Prop):Prop:=N16.rec (motive:=fun _=>Prop) (wm4 v c) n
theorem g4_iff (n:N16 α) (c:α→Prop):g4 n c↔∃ x,n.toL[4]?=some x∧c x:=by cases n; exact ⟨fun h=>⟨_,rfl,h⟩,fun ⟨_,h,g⟩=>by cases h; exact g⟩
theorem w4_iff (v:α) (n:N16 α) (c:N16 α→Prop):w4 v n c↔c (n.put 4 v):=by cases n; exact Iff.rfl
def gm5 (c:α→Prop) (a0 a1 a2 a3 a4 a5 a6 a7 a8 a9 a10 a11 a12 a13 a14 a15:α):Prop:=c a5
def g5 (n:N16 α) (c:α→Prop):Prop:=N16.rec (motive:=fun _=>Prop) (gm5 c) n
def wm5 (v:α) (c:N16 α→Prop) (a0 a1 a2 a3 a4 a5 a6 a7 a8 a9 a10 a11 a12 a13 a14 a15:α):Prop:=c (.mk a0 a1 a2 a3 a4 v a6 a7 a8 a9 a10 a11 a12 a13 a14 a15)
def w5 (v:α) (n:N16 α) (c:N16 α→Prop):Prop:=N16.rec (motive:=fun _=>Prop) (wm5 v c) n
theorem g5_iff (n:N16 α) (c:α→Prop):g5 n c↔∃ x,n.toL[5]?=some x∧c x:=by cases n; exact ⟨fun h=>⟨_,rfl,h⟩,fun ⟨_,h,g⟩=>by cases h; exact g⟩
theorem w5_iff (v:α) (n:N16 α) (c:N16 α→Prop):w5 v n c↔c (n.put 5 v):=by cases n; exact Iff.rfl
def gm6 (c:α→Prop) (a0 a1 a2 a3 a4 a5 a6 a7 a8 a9 a10 a11 a12 a13 a14 a15:α):Prop:=c a6
def g6 (n:N16 α) (c:α→Prop):Prop:=N16.rec (motive:=fun _=>Prop) (gm6 c) n
def wm6 (v:α) (c:N16 α→Prop) (a0 a1 a2 a3 a4 a5 a6 a7 a8 a9 a10 a11 a12 a13 a14 a15:α):Prop:=c (.mk a0 a1 a2 a3 a4 a5 v a7 a8 a9 a10 a11 a12 a13 a14 a15)
def w6 (v:α) (n:N16 α) (c:N16 α→Prop):Prop:=N16.rec (motive:=fun _=>Prop) (wm6 v c) n
theorem g6_iff (n:N16 α) (c:α→Prop):g6 n c↔∃ x,n.toL[6]?=some x∧c x:=by cases n; exact ⟨fun h=>⟨_,rfl,h⟩,fun ⟨_,h,g⟩=>by cases h; exact g⟩
theorem w6_iff (v:α) (n:N16 α) (c:N16 α→Prop):w6 v n c↔c (n.put 6 v):=by cases n; exact Iff.rfl
def gm7 (c:α→Prop) (a0 a1 a2 a3 a4 a5 a6 a7 a8 a9 a10 a11 a12 a13 a14 a15:α):Prop:=c a7
def g7 (n:N16 α) (c:α→Prop):Prop:=N16.rec (motive:=fun _=>Prop) (gm7 c) n
def wm7 (v:α) (c:N16 α→Prop) (a0 a1 a2 a3 a4 a5 a6 a7 a8 a9 a10 a11 a12 a13 a14 a15:α):Prop:=c (.mk a0 a1 a2 a3 a4 a5 a6 v a8 a9 a10 a11 a12 a13 a14 a15)
def w7 (v:α) (n:N16 α) (c:N16 α→Prop):Prop:=N16.rec (motive:=fun _=>Prop) (wm7 v c) n
theorem g7_iff (n:N16 α) (c:α→Prop):g7 n c↔∃ x,n.toL[7]?=some x∧c x:=by cases n; exact ⟨fun h=>⟨_,rfl,h⟩,fun ⟨_,h,g⟩=>by cases h; exact g⟩
theorem w7_iff (v:α) (n:N16 α) (c:N16 α→Prop):w7 v n c↔c (n.put 7 v):=by cases n; exact Iff.rfl
def gm8 (c:α→Prop) (a0 a1 a2 a3 a4 a5 a6 a7 a8 a9 a10 a11 a12 a13 a14 a15:α):Prop:=c a8
def g8 (n:N16 α) (c:α→Prop):Prop:=N16.rec (motive:=fun _=>Prop) (gm8 c) n
def wm8 (v:α) (c:N16 α→Prop) (a0 a1 a2 a3 a4 a5 a6 a7 a8 a9 a10 a11 a12 a13 a14 a15:α):Prop:=c (.mk a0 a1 a2 a3 a4 a5 a6 a7 v a9 a10 a11 a12 a13 a14 a15)
def w8 (v:α) (n:N16 α) (c:N16 α→Prop):Prop:=N16.rec (motive:=fun _=>Prop) (wm8 v c) n
theorem g8_iff (n:N16 α) (c:α→Prop):g8 n c↔∃ x,n.toL[8]?=some x∧c x:=by cases n; exact ⟨fun h=>⟨_,rfl,h⟩,fun ⟨_,h,g⟩=>by cases h; exact g⟩
theorem w8_iff (v:α) (n:N16 α) (c:N16 α→Prop):w8 v n c↔c (n.put 8 v):=by cases n; exact Iff.rfl
def gm9 (c:α→Prop) (a0 a1 a2 a3 a4 a5 a6 a7 a8 a9 a10 a11 a12 a13 a14 a15:α):Prop:=c a9
def g9 (n:N16 α) (c:α→Prop):Prop:=N16.rec (motive:=fun _=>Prop) (gm9 c) n
def wm9 (v:α) (c:N16 α→Prop) (a0 a1 a2 a3 a4 a5 a6 a7 a8 a9 a10 a11 a12 a13 a14 a15:α):Prop:=c (.mk a0 a1 a2 a3 a4 a5 a6 a7 a8 v a10 a11 a12 a13 a14 a15)
def w9 (v:α) (n:N16 α) (c:N16 α→Prop):Prop:=N16.rec (motive:=fun _=>Prop) (wm9 v c) n
theorem g9_iff (n:N16 α) (c:α→Prop):g9 n c↔∃ x,n.toL[9]?=some x∧c x:=by cases n; exact ⟨fun h=>⟨_,rfl,h⟩,fun ⟨_,h,g⟩=>by cases h; exact g⟩
theorem w9_iff (v:α) (n:N16 α) (c:N16 α→Prop):w9 v n c↔c (n.put 9 v):=by cases n; exact Iff.rfl
def gm10 (c:α→Prop) (a0 a1 a2 a3 a4 a5 a6 a7 a8 a9 a10 a11 a12 a13 a14 a15:α):Prop:=c a10
def g10 (n:N16 α) (c:α→Prop):Prop:=N16.rec (motive:=fun _=>Prop) (gm10 c) n
def wm10 (v:α) (c:N16 α→Prop) (a0 a1 a2 a3 a4 a5 a6 a7 a8 a9 a10 a11 a12 a13 a14 a15:α):Prop:=c (.mk a0 a1 a2 a3 a4 a5 a6 a7 a8 a9 v a11 a12 a13 a14 a15)
def w10 (v:α) (n:N16 α) (c:N16 α→Prop):Prop:=N16.rec (motive:=fun _=>Prop) (wm10 v c) n
theorem g10_iff (n:N16 α) (c:α→Prop):g10 n c↔∃ x,n.toL[10]?=some x∧c x:=by cases n; exact ⟨fun h=>⟨_,rfl,h⟩,fun ⟨_,h,g⟩=>by cases h; exact g⟩
theorem w10_iff (v:α) (n:N16 α) (c:N16 α→Prop):w10 v n c↔c (n.put 10 v):=by cases n; exact Iff.rfl
def gm11 (c:α→Prop) (a0 a1 a2 a3 a4 a5 a6 a7 a8 a9 a10 a11 a12 a13 a14 a15:α):Prop:=c a11
def g11 (n:N16 α) (c:α→Prop):Prop:=N16.rec (motive:=fun _=>Prop) (gm11 c) n
def wm11 (v:α) (c:N16 α→Prop) (a0 a1 a2 a3 a4 a5 a6 a7 a8 a9 a10 a11 a12 a13 a14 a15:α):Prop:=c (.mk a0 a1 a2 a3 a4 a5 a6 a7 a8 a9 a10 v a12 a13 a14 a15)
def w11 (v:α) (n:N16 α) (c:N16 α→Prop):Prop:=N16.rec (motive:=fun _=>Prop) (wm11 v c) n
theorem g11_iff (n:N16 α) (c:α→Prop):g11 n c↔∃ x,n.toL[11]?=some x∧c x:=by cases n; exact ⟨fun h=>⟨_,rfl,h⟩,fun ⟨_,h,g⟩=>by cases h; exact g⟩
theorem w11_iff (v:α) (n:N16 α) (c:N16 α→Prop):w11 v n c↔c (n.put 11 v):=by cases n; exact Iff.rfl
def gm12 (c:α→Prop) (a0 a1 a2 a3 a4 a5 a6 a7 a8 a9 a10 a11 a12 a13 a14 a15:α):Prop:=c a12
def g12 (n:N16 α) (c:α→Prop):Prop:=N16.rec (motive:=fun _=>Prop) (gm12 c) n
def wm12 (v:α) (c:N16 α→Prop) (a0 a1 a2 a3 a4 a5 a6 a7 a8 a9 a10 a11 a12 a13 a14 a15:α):Prop:=c (.mk a0 a1 a2 a3 a4 a5 a6 a7 a8 a9 a10 a11 v a13 a14 a15)
def w12 (v:α) (n:N16 α) (c:N16 α→Prop):Prop:=N16.rec (motive:=fun _=>Prop) (wm12 v c) n
theorem g12_iff (n:N16 α) (c:α→Prop):g12 n c↔∃ x,n.toL[12]?=some x∧c x:=by cases n; exact ⟨fun h=>⟨_,rfl,h⟩,fun ⟨_,h,g⟩=>by cases h; exact g⟩
theorem w12_iff (v:α) (n:N16 α) (c:N16 α→Prop):w12 v n c↔c (n.put 12 v):=by cases n; exact Iff.rfl
def gm13 (c:α→Prop) (a0 a1 a2 a3 a4 a5 a6 a7 a8 a9 a10 a11 a12 a13 a14 a15:α):Prop:=c a13
def g13 (n:N16 α) (c:α→Prop):Prop:=N16.rec (motive:=fun _=>Prop) (gm13 c) n
def wm13 (v:α) (c:N16 α→Prop) (a0 a1 a2 a3 a4 a5 a6 a7 a8 a9 a10 a11 a12 a13 a14 a15:α):Prop:=c (.mk a0 a1 a2 a3 a4 a5 a6 a7 a8 a9 a10 a11 a12 v a14 a15)
def w13 (v:α) (n:N16 α) (c:N16 α→Prop):Prop:=N16.rec (motive:=fun _=>Prop) (wm13 v c) n
theorem g13_iff (n:N16 α) (c:α→Prop):g13 n c↔∃ x,n.toL[13]?=some x∧c x:=by cases n; exact ⟨fun h=>⟨_,rfl,h⟩,fun ⟨_,h,g⟩=>by cases h; exact g⟩
theorem w13_iff (v:α) (n:N16 α) (c:N16 α→Prop):w13 v n c↔c (n.put 13 v):=by cases n; exact Iff.rfl
def gm14 (c:α→Prop) (a0 a1 a2 a3 a4 a5 a6 a7 a8 a9 a10 a11 a12 a13 a14 a15:α):Prop:=c a14
def g14 (n:N16 α) (c:α→Prop):Prop:=N16.rec (motive:=fun _=>Prop) (gm14 c) n
def wm14 (v:α) (c:N16 α→Prop) (a0 a1 a2 a3 a4 a5 a6 a7 a8 a9 a10 a11 a12 a13 a14 a15:α):Prop:=c (.mk a0 a1 a2 a3 a4 a5 a6 a7 a8 a9 a10 a11 a12 a13 v a15)
def w14 (v:α) (n:N16 α) (c:N16 α→Prop):Prop:=N16.rec (motive:=fun _=>Prop) (wm14 v c) n
theorem g14_iff (n:N16 α) (c:α→Prop):g14 n c↔∃ x,n.toL[14]?=some x∧c x:=by cases n; exact ⟨fun h=>⟨_,rfl,h⟩,fun ⟨_,h,g⟩=>by cases h; exact g⟩
theorem w14_iff (v:α) (n:N16 α) (c:N16 α→Prop):w14 v n c↔c (n.put 14 v):=by cases n; exact Iff.rfl
def gm15 (c:α→Prop) (a0 a1 a2 a3 a4 a5 a6 a7 a8 a9 a10 a11 a12 a13 a14 a15:α):Prop:=c a15
def g15 (n:N16 α) (c:α→Prop):Prop:=N16.rec (motive:=fun _=>Prop) (gm15 c) n
def wm15 (v:α) (c:N16 α→Prop) (a0 a1 a2 a3 a4 a5 a6 a7 a8 a9 a10 a11 a12 a13 a14 a15:α):Prop:=c (.mk a0 a1 a2 a3 a4 a5 a6 a7 a8 a9 a10 a11 a12 a13 a14 v)
def w15 (v:α) (n:N16 α) (c:N16 α→Prop):Prop:=N16.rec (motive:=fun _=>Prop) (wm15 v c) n
theorem g15_iff (n:N16 α) (c:α→Prop):g15 n c↔∃ x,n.toL[15]?=some x∧c x:=by cases n; exact ⟨fun h=>⟨_,rfl,h⟩,fun ⟨_,h,g⟩=>by cases h; exact g⟩
theorem w15_iff (v:α) (n:N16 α) (c:N16 α→Prop):w15 v n c↔c (n.put 15 v):=by cases n; exact Iff.rfl
end N16
abbrev Row:=N16 (Option AV)
inductive S where
 | mk (a0 a1 a2 a3 a4 a5 a6 a7 a8 a9 a10 a11 a12 a13 a14 a15:Row) (more:T AV)
namespace S
def noRow:Row:=.same none
def rows:S→N16 Row | .mk a0 a1 a2 a3 a4 a5 a6 a7 a8 a9 a10 a11 a12 a13 a14 a15 _=>.mk a0 a1 a2 a3 a4 a5 a6 a7 a8 a9 a10 a11 a12 a13 a14 a15
def more:S→T AV | .mk _ _ _ _ _ _ _ _ _ _ _ _ _ _ _ _ m=>m
def ofRows:N16 Row→T AV→S | .mk a0 a1 a2 a3 a4 a5 a6 a7 a8 a9 a10 a11 a12 a13 a14 a15,m=>.mk a0 a1 a2 a3 a4 a5 a6 a7 a8 a9 a10 a11 a12 a13 a14 a15 m
theorem rows_ofRows:∀ (rs:N16 Row) (m:T AV),(ofRows rs m).rows=rs | .mk _ _ _ _ _ _ _ _ _ _ _ _ _ _ _ _,_=>rfl
theorem more_ofRows:∀ (rs:N16 Row) (m:T AV),(ofRows rs m).more=m | .mk _ _ _ _ _ _ _ _ _ _ _ _ _ _ _ _,_=>rfl
def l:S:=ofRows (.same noRow) .l
def at' (s:S) (n:Nat):Option AV:=if n<256 then (s.rows.toL[n / 16]?).bind (fun r=>(r.toL[n % 16]?).bind id) else s.more.find (Pt.ofNat n)
def put (s:S) (n:Nat) (o:Option AV):S:=if n<256 then (match s.rows.toL[n / 16]? with
   | some r=>ofRows (s.rows.put (n / 16) (r.put (n % 16) o)) s.more
   | none=>s) else ofRows s.rows (match o with
   | some v=>s.more.set v (Pt.ofNat n)
   | none=>s.more.del (Pt.ofNat n))
theorem ofNat_inj {i j:Nat} (h:Pt.ofNat i=Pt.ofNat j):i=j:=by rw [← Pt.toNat_ofNat i,← Pt.toNat_ofNat j,h]
theorem row_some (rs:N16 Row) {n:Nat} (h:n<256):∃ r,rs.toL[n / 16]?=some r:=by
 have:n / 16<rs.toL.length:=by rw [N16.toL_length]; omega
 exact ⟨_,List.getElem?_eq_getElem this⟩
theorem at_put (s:S) (n:Nat) (o:Option AV):(s.put n o).at' n=o:=by
 by_cases h:n<256
 ·obtain ⟨r,hr⟩:=row_some s.rows h
  have h1:n / 16<16:=by omega
  have h2:n % 16<16:=by omega
  simp only [put,at',h,if_true,hr,rows_ofRows,N16.toL_put,List.getElem?_set,N16.toL_length,h1,h2,Option.bind_some,id]
 ·cases o with
  | none=>simp only [put,at',h,if_false,more_ofRows,T.find_del]
  | some v=>simp only [put,at',h,if_false,more_ofRows,T.find_set]
theorem at_put_ne (s:S) {n j:Nat} (o:Option AV) (hne:j≠n):(s.put n o).at' j=s.at' j:=by
 by_cases h:n<256
 ·obtain ⟨r,hr⟩:=row_some s.rows h
  have h1:n / 16<16:=by omega
  simp only [put,h,if_true,hr]
  unfold at'
  by_cases hj:j<256
  ·simp only [hj,if_true,rows_ofRows,N16.toL_put,List.getElem?_set,N16.toL_length]
   by_cases e:n / 16=j / 16
   ·have e2:n % 16≠j % 16:=by omega
    simp only [e,if_true,show j / 16<16 by omega,Option.bind_some,N16.toL_put,List.getElem?_set,if_neg e2]
    rw [← e,hr]; rfl
   ·simp only [if_neg e]
  ·simp only [hj,if_false,more_ofRows]
 ·unfold at'
  simp only [put,h,if_false,rows_ofRows,more_ofRows]
  by_cases hj:j<256
  ·simp only [hj,if_true]
  ·simp only [hj,if_false]
   have hp:Pt.ofNat j≠Pt.ofNat n:=fun e=>hne (ofNat_inj e)
   cases o with
   | none=>exact T.find_del_ne _ _ _ hp
   | some v=>exact T.find_set_ne _ _ _ _ hp
theorem at_l (n:Nat):l.at' n=none:=by
 unfold at' l
 by_cases h:n<256
 ·simp only [h,if_true,rows_ofRows]
  obtain ⟨r,hr⟩:=row_some (.same noRow) h
  rw [hr,Option.bind_some]
  have:r=noRow:=by
   have hm:=List.mem_of_getElem? hr
   simp only [N16.same,N16.toL,List.mem_cons,List.not_mem_nil,or_false,or_self] at hm
   exact hm
  subst this
  have h2:n % 16<(noRow.toL).length:=by rw [N16.toL_length]; omega
  rw [List.getElem?_eq_getElem h2,Option.bind_some]
  have hm:=List.getElem_mem h2
  generalize (noRow.toL)[n % 16]'h2=x at hm ⊢
  simp only [noRow,N16.same,N16.toL,List.mem_cons,List.not_mem_nil,or_false,or_self] at hm
  rw [hm]; rfl
 ·simp only [h,if_false,more_ofRows,T.find_l]
def getS (n:Nat) (s:S) (c:AV→Prop):Prop:=∃ v,s.at' n=some v∧c v
def setS (n:Nat) (v:AV) (s:S) (c:S→Prop):Prop:=c (s.put n (some v))
end S
def optK (c:AV→Prop) (o:Option AV):Prop:=Option.rec (motive:=fun _=>Prop) False (fun v=>c v) o
theorem optK_iff (c:AV→Prop) (o:Option AV):optK c o↔∃ v,o=some v∧c v:=by
 cases o with
 | none=>exact ⟨fun h=>h.elim,fun ⟨_,h,_⟩=>by cases h⟩
 | some v=>exact ⟨fun h=>⟨v,rfl,h⟩,fun ⟨_,h,g⟩=>by cases h; exact g⟩
structure Sl where
 n:Nat
 rd:S→(AV→Prop)→Prop
 wr:AV→S→(S→Prop)→Prop
 rd_eq:rd=S.getS n
 wr_eq:wr=S.setS n
theorem Sl.ext':∀ {p q:Sl},p.n=q.n→p=q
 | ⟨n,_,_,h1,h2⟩,⟨m,_,_,h3,h4⟩,h=>by
  have h:n=m:=h
  subst h; subst h1; subst h2; subst h3; subst h4; rfl
theorem getS_of {s:S} {q k:Nat} (hq:q<16) (hk:k<16) {r:Row} (hr:s.rows.toL[q]?=some r) (c:AV→Prop):S.getS (16*q+k) s c↔∃ o,r.toL[k]?=some o∧∃ v,o=some v∧c v:=by
 have h:16*q+k<256:=by omega
 have h1:(16*q+k) / 16=q:=by omega
 have h2:(16*q+k) % 16=k:=by omega
 simp only [S.getS,S.at',h,if_true,h1,h2,hr,Option.bind_some]
 constructor
 ·rintro ⟨v,hv,hc⟩
  cases ho:r.toL[k]? with
  | none=>rw [ho] at hv; cases hv
  | some o=>rw [ho] at hv; exact ⟨o,rfl,v,hv,hc⟩
 ·rintro ⟨o,ho,v,rfl,hc⟩
  exact ⟨v,by rw [ho]; rfl,hc⟩
theorem setS_of {s:S} {q k:Nat} (hq:q<16) (hk:k<16) {r:Row} (hr:s.rows.toL[q]?=some r) (v:AV) (c:S→Prop):S.setS (16*q+k) v s c↔c (S.ofRows (s.rows.put q (r.put k (some v))) s.more):=by
 have h:16*q+k<256:=by omega
 have h1:(16*q+k) / 16=q:=by omega
 have h2:(16*q+k) % 16=k:=by omega
 simp only [S.setS,S.put,h,if_true,h1,h2,hr]
def rm0 (g:Row→(Option AV→Prop)→Prop) (c:AV→Prop) (a0 a1 a2 a3 a4 a5 a6 a7 a8 a9 a10 a11 a12 a13 a14 a15:Row) (m:T AV):Prop:=g a0 (optK c)
def rd0 (g:Row→(Option AV→Prop)→Prop) (s:S) (c:AV→Prop):Prop:=S.rec (motive:=fun _=>Prop) (rm0 g c) s
def um0 (c:S→Prop) (a0 a1 a2 a3 a4 a5 a6 a7 a8 a9 a10 a11 a12 a13 a14 a15:Row) (m:T AV) (r:Row):Prop:=c (.mk r a1 a2 a3 a4 a5 a6 a7 a8 a9 a10 a11 a12 a13 a14 a15 m)
def vm0 (w:Option AV→Row→(Row→Prop)→Prop) (v:AV) (c:S→Prop) (a0 a1 a2 a3 a4 a5 a6 a7 a8 a9 a10 a11 a12 a13 a14 a15:Row) (m:T AV):Prop:=w (some v) a0 (um0 c a0 a1 a2 a3 a4 a5 a6 a7 a8 a9 a10 a11 a12 a13 a14 a15 m)
def wr0 (w:Option AV→Row→(Row→Prop)→Prop) (v:AV) (s:S) (c:S→Prop):Prop:=S.rec (motive:=fun _=>Prop) (vm0 w v c) s
theorem rd0_eq {k:Nat} (hk:k<16) {g:Row→(Option AV→Prop)→Prop} (hg:∀ n c,g n c↔∃ x,n.toL[k]?=some x∧c x):rd0 g=S.getS (16*0+k):=by
 funext s c
 cases s with
 | mk a0 a1 a2 a3 a4 a5 a6 a7 a8 a9 a10 a11 a12 a13 a14 a15 m =>
 apply propext
 rw [getS_of (q:=0) (r:=a0) (by decide) hk rfl]
 show (g a0 fun o=>optK c o)↔_
 simp only [hg,optK_iff]
theorem wr0_eq {k:Nat} (hk:k<16) {w:Option AV→Row→(Row→Prop)→Prop} (hw:∀ v n c,w v n c↔c (n.put k v)):wr0 w=S.setS (16*0+k):=by
 funext v s c
 cases s with
 | mk a0 a1 a2 a3 a4 a5 a6 a7 a8 a9 a10 a11 a12 a13 a14 a15 m =>
 apply propext
 rw [setS_of (q:=0) (r:=a0) (by decide) hk rfl]
 exact hw _ _ _
def rm1 (g:Row→(Option AV→Prop)→Prop) (c:AV→Prop) (a0 a1 a2 a3 a4 a5 a6 a7 a8 a9 a10 a11 a12 a13 a14 a15:Row) (m:T AV):Prop:=g a1 (optK c)
def rd1 (g:Row→(Option AV→Prop)→Prop) (s:S) (c:AV→Prop):Prop:=S.rec (motive:=fun _=>Prop) (rm1 g c) s
def um1 (c:S→Prop) (a0 a1 a2 a3 a4 a5 a6 a7 a8 a9 a10 a11 a12 a13 a14 a15:Row) (m:T AV) (r:Row):Prop:=c (.mk a0 r a2 a3 a4 a5 a6 a7 a8 a9 a10 a11 a12 a13 a14 a15 m)
def vm1 (w:Option AV→Row→(Row→Prop)→Prop) (v:AV) (c:S→Prop) (a0 a1 a2 a3 a4 a5 a6 a7 a8 a9 a10 a11 a12 a13 a14 a15:Row) (m:T AV):Prop:=w (some v) a1 (um1 c a0 a1 a2 a3 a4 a5 a6 a7 a8 a9 a10 a11 a12 a13 a14 a15 m)
def wr1 (w:Option AV→Row→(Row→Prop)→Prop) (v:AV) (s:S) (c:S→Prop):Prop:=S.rec (motive:=fun _=>Prop) (vm1 w v c) s
theorem rd1_eq {k:Nat} (hk:k<16) {g:Row→(Option AV→Prop)→Prop} (hg:∀ n c,g n c↔∃ x,n.toL[k]?=some x∧c x):rd1 g=S.getS (16*1+k):=by
 funext s c
 cases s with
 | mk a0 a1 a2 a3 a4 a5 a6 a7 a8 a9 a10 a11 a12 a13 a14 a15 m =>
 apply propext
 rw [getS_of (q:=1) (r:=a1) (by decide) hk rfl]
 show (g a1 fun o=>optK c o)↔_
 simp only [hg,optK_iff]
theorem wr1_eq {k:Nat} (hk:k<16) {w:Option AV→Row→(Row→Prop)→Prop} (hw:∀ v n c,w v n c↔c (n.put k v)):wr1 w=S.setS (16*1+k):=by
 funext v s c
 cases s with
 | mk a0 a1 a2 a3 a4 a5 a6 a7 a8 a9 a10 a11 a12 a13 a14 a15 m =>
 apply propext
 rw [setS_of (q:=1) (r:=a1) (by decide) hk rfl]
 exact hw _ _ _
def rm2 (g:Row→(Option AV→Prop)→Prop) (c:AV→Prop) (a0 a1 a2 a3 a4 a5 a6 a7 a8 a9 a10 a11 a12 a13 a14 a15:Row) (m:T AV):Prop:=g a2 (optK c)
def rd2 (g:Row→(Option AV→Prop)→Prop) (s:S) (c:AV→Prop):Prop:=S.rec (motive:=fun _=>Prop) (rm2 g c) s
def um2 (c:S→Prop) (a0 a1 a2 a3 a4 a5 a6 a7 a8 a9 a10 a11 a12 a13 a14 a15:Row) (m:T AV) (r:Row):Prop:=c (.mk a0 a1 r a3 a4 a5 a6 a7 a8 a9 a10 a11 a12 a13 a14 a15 m)
def vm2 (w:Option AV→Row→(Row→Prop)→Prop) (v:AV) (c:S→Prop) (a0 a1 a2 a3 a4 a5 a6 a7 a8 a9 a10 a11 a12 a13 a14 a15:Row) (m:T AV):Prop:=w (some v) a2 (um2 c a0 a1 a2 a3 a4 a5 a6 a7 a8 a9 a10 a11 a12 a13 a14 a15 m)
def wr2 (w:Option AV→Row→(Row→Prop)→Prop) (v:AV) (s:S) (c:S→Prop):Prop:=S.rec (motive:=fun _=>Prop) (vm2 w v c) s
theorem rd2_eq {k:Nat} (hk:k<16) {g:Row→(Option AV→Prop)→Prop} (hg:∀ n c,g n c↔∃ x,n.toL[k]?=some x∧c x):rd2 g=S.getS (16*2+k):=by
 funext s c
 cases s with
 | mk a0 a1 a2 a3 a4 a5 a6 a7 a8 a9 a10 a11 a12 a13 a14 a15 m =>
 apply propext
 rw [getS_of (q:=2) (r:=a2) (by decide) hk rfl]
 show (g a2 fun o=>optK c o)↔_
 simp only [hg,optK_iff]
theorem wr2_eq {k:Nat} (hk:k<16) {w:Option AV→Row→(Row→Prop)→Prop} (hw:∀ v n c,w v n c↔c (n.put k v)):wr2 w=S.setS (16*2+k):=by
 funext v s c
 cases s with
 | mk a0 a1 a2 a3 a4 a5 a6 a7 a8 a9 a10 a11 a12 a13 a14 a15 m =>
 apply propext
 rw [setS_of (q:=2) (r:=a2) (by decide) hk rfl]
 exact hw _ _ _
def rm3 (g:Row→(Option AV→Prop)→Prop) (c:AV→Prop) (a0 a1 a2 a3 a4 a5 a6 a7 a8 a9 a10 a11 a12 a13 a14 a15:Row) (m:T AV):Prop:=g a3 (optK c)
def rd3 (g:Row→(Option AV→Prop)→Prop) (s:S) (c:AV→Prop):Prop:=S.rec (motive:=fun _=>Prop) (rm3 g c) s
def um3 (c:S→Prop) (a0 a1 a2 a3 a4 a5 a6 a7 a8 a9 a10 a11 a12 a13 a14 a15:Row) (m:T AV) (r:Row):Prop:=c (.mk a0 a1 a2 r a4 a5 a6 a7 a8 a9 a10 a11 a12 a13 a14 a15 m)
def vm3 (w:Option AV→Row→(Row→Prop)→Prop) (v:AV) (c:S→Prop) (a0 a1 a2 a3 a4 a5 a6 a7 a8 a9 a10 a11 a12 a13 a14 a15:Row) (m:T AV):Prop:=w (some v) a3 (um3 c a0 a1 a2 a3 a4 a5 a6 a7 a8 a9 a10 a11 a12 a13 a14 a15 m)
def wr3 (w:Option AV→Row→(Row→Prop)→Prop) (v:AV) (s:S) (c:S→Prop):Prop:=S.rec (motive:=fun _=>Prop) (vm3 w v c) s
theorem rd3_eq {k:Nat} (hk:k<16) {g:Row→(Option AV→Prop)→Prop} (hg:∀ n c,g n c↔∃ x,n.toL[k]?=some x∧c x):rd3 g=S.getS (16*3+k):=by
 funext s c
 cases s with
 | mk a0 a1 a2 a3 a4 a5 a6 a7 a8 a9 a10 a11 a12 a13 a14 a15 m =>
 apply propext
 rw [getS_of (q:=3) (r:=a3) (by decide) hk rfl]
 show (g a3 fun o=>optK c o)↔_
 simp only [hg,optK_iff]
theorem wr3_eq {k:Nat} (hk:k<16) {w:Option AV→Row→(Row→Prop)→Prop} (hw:∀ v n c,w v n c↔c (n.put k v)):wr3 w=S.setS (16*3+k):=by
 funext v s c
 cases s with
 | mk a0 a1 a2 a3 a4 a5 a6 a7 a8 a9 a10 a11 a12 a13 a14 a15 m =>
 apply propext
 rw [setS_of (q:=3) (r:=a3) (by decide) hk rfl]
 exact hw _ _ _
def rm4 (g:Row→(Option AV→Prop)→Prop) (c:AV→Prop) (a0 a1 a2 a3 a4 a5 a6 a7 a8 a9 a10 a11 a12 a13 a14 a15:Row) (m:T AV):Prop:=g a4 (optK c)
def rd4 (g:Row→(Option AV→Prop)→Prop) (s:S) (c:AV→Prop):Prop:=S.rec (motive:=fun _=>Prop) (rm4 g c) s
def um4 (c:S→Prop) (a0 a1 a2 a3 a4 a5 a6 a7 a8 a9 a10 a11 a12 a13 a14 a15:Row) (m:T AV) (r:Row):Prop:=c (.mk a0 a1 a2 a3 r a5 a6 a7 a8 a9 a10 a11 a12 a13 a14 a15 m)
def vm4 (w:Option AV→Row→(Row→Prop)→Prop) (v:AV) (c:S→Prop) (a0 a1 a2 a3 a4 a5 a6 a7 a8 a9 a10 a11 a12 a13 a14 a15:Row) (m:T AV):Prop:=w (some v) a4 (um4 c a0 a1 a2 a3 a4 a5 a6 a7 a8 a9 a10 a11 a12 a13 a14 a15 m)
def wr4 (w:Option AV→Row→(Row→Prop)→Prop) (v:AV) (s:S) (c:S→Prop):Prop:=S.rec (motive:=fun _=>Prop) (vm4 w v c) s
theorem rd4_eq {k:Nat} (hk:k<16) {g:Row→(Option AV→Prop)→Prop} (hg:∀ n c,g n c↔∃ x,n.toL[k]?=some x∧c x):rd4 g=S.getS (16*4+k):=by
 funext s c
 cases s with
 | mk a0 a1 a2 a3 a4 a5 a6 a7 a8 a9 a10 a11 a12 a13 a14 a15 m =>
 apply propext
 rw [getS_of (q:=4) (r:=a4) (by decide) hk rfl]
 show (g a4 fun o=>optK c o)↔_
 simp only [hg,optK_iff]
theorem wr4_eq {k:Nat} (hk:k<16) {w:Option AV→Row→(Row→Prop)→Prop} (hw:∀ v n c,w v n c↔c (n.put k v)):wr4 w=S.setS (16*4+k):=by
 funext v s c
 cases s with
 | mk a0 a1 a2 a3 a4 a5 a6 a7 a8 a9 a10 a11 a12 a13 a14 a15 m =>
 apply propext
 rw [setS_of (q:=4) (r:=a4) (by decide) hk rfl]
 exact hw _ _ _
def rm5 (g:Row→(Option AV→Prop)→Prop) (c:AV→Prop) (a0 a1 a2 a3 a4 a5 a6 a7 a8 a9 a10 a11 a12 a13 a14 a15:Row) (m:T AV):Prop:=g a5 (optK c)
def rd5 (g:Row→(Option AV→Prop)→Prop) (s:S) (c:AV→Prop):Prop:=S.rec (motive:=fun _=>Prop) (rm5 g c) s
def um5 (c:S→Prop) (a0 a1 a2 a3 a4 a5 a6 a7 a8 a9 a10 a11 a12 a13 a14 a15:Row) (m:T AV) (r:Row):Prop:=c (.mk a0 a1 a2 a3 a4 r a6 a7 a8 a9 a10 a11 a12 a13 a14 a15 m)
def vm5 (w:Option AV→Row→(Row→Prop)→Prop) (v:AV) (c:S→Prop) (a0 a1 a2 a3 a4 a5 a6 a7 a8 a9 a10 a11 a12 a13 a14 a15:Row) (m:T AV):Prop:=w (some v) a5 (um5 c a0 a1 a2 a3 a4 a5 a6 a7 a8 a9 a10 a11 a12 a13 a14 a15 m)
def wr5 (w:Option AV→Row→(Row→Prop)→Prop) (v:AV) (s:S) (c:S→Prop):Prop:=S.rec (motive:=fun _=>Prop) (vm5 w v c) s
theorem rd5_eq {k:Nat} (hk:k<16) {g:Row→(Option AV→Prop)→Prop} (hg:∀ n c,g n c↔∃ x,n.toL[k]?=some x∧c x):rd5 g=S.getS (16*5+k):=by
 funext s c
 cases s with
 | mk a0 a1 a2 a3 a4 a5 a6 a7 a8 a9 a10 a11 a12 a13 a14 a15 m =>
 apply propext
 rw [getS_of (q:=5) (r:=a5) (by decide) hk rfl]
 show (g a5 fun o=>optK c o)↔_
 simp only [hg,optK_iff]
theorem wr5_eq {k:Nat} (hk:k<16) {w:Option AV→Row→(Row→Prop)→Prop} (hw:∀ v n c,w v n c↔c (n.put k v)):wr5 w=S.setS (16*5+k):=by
 funext v s c
 cases s with
 | mk a0 a1 a2 a3 a4 a5 a6 a7 a8 a9 a10 a11 a12 a13 a14 a15 m =>
 apply propext
 rw [setS_of (q:=5) (r:=a5) (by decide) hk rfl]
 exact hw _ _ _
def rm6 (g:Row→(Option AV→Prop)→Prop) (c:AV→Prop) (a0 a1 a2 a3 a4 a5 a6 a7 a8 a9 a10 a11 a12 a13 a14 a15:Row) (m:T AV):Prop:=g a6 (optK c)
def rd6 (g:Row→(Option AV→Prop)→Prop) (s:S) (c:AV→Prop):Prop:=S.rec (motive:=fun _=>Prop) (rm6 g c) s
def um6 (c:S→Prop) (a0 a1 a2 a3 a4 a5 a6 a7 a8 a9 a10 a11 a12 a13 a14 a15:Row) (m:T AV) (r:Row):Prop:=c (.mk a0 a1 a2 a3 a4 a5 r a7 a8 a9 a10 a11 a12 a13 a14 a15 m)
def vm6 (w:Option AV→Row→(Row→Prop)→Prop) (v:AV) (c:S→Prop) (a0 a1 a2 a3 a4 a5 a6 a7 a8 a9 a10 a11 a12 a13 a14 a15:Row) (m:T AV):Prop:=w (some v) a6 (um6 c a0 a1 a2 a3 a4 a5 a6 a7 a8 a9 a10 a11 a12 a13 a14 a15 m)
def wr6 (w:Option AV→Row→(Row→Prop)→Prop) (v:AV) (s:S) (c:S→Prop):Prop:=S.rec (motive:=fun _=>Prop) (vm6 w v c) s
theorem rd6_eq {k:Nat} (hk:k<16) {g:Row→(Option AV→Prop)→Prop} (hg:∀ n c,g n c↔∃ x,n.toL[k]?=some x∧c x):rd6 g=S.getS (16*6+k):=by
 funext s c
 cases s with
 | mk a0 a1 a2 a3 a4 a5 a6 a7 a8 a9 a10 a11 a12 a13 a14 a15 m =>
 apply propext
 rw [getS_of (q:=6) (r:=a6) (by decide) hk rfl]
 show (g a6 fun o=>optK c o)↔_
 simp only [hg,optK_iff]
theorem wr6_eq {k:Nat} (hk:k<16) {w:Option AV→Row→(Row→Prop)→Prop} (hw:∀ v n c,w v n c↔c (n.put k v)):wr6 w=S.setS (16*6+k):=by
 funext v s c
 cases s with
 | mk a0 a1 a2 a3 a4 a5 a6 a7 a8 a9 a10 a11 a12 a13 a14 a15 m =>
 apply propext
 rw [setS_of (q:=6) (r:=a6) (by decide) hk rfl]
 exact hw _ _ _
def rm7 (g:Row→(Option AV→Prop)→Prop) (c:AV→Prop) (a0 a1 a2 a3 a4 a5 a6 a7 a8 a9 a10 a11 a12 a13 a14 a15:Row) (m:T AV):Prop:=g a7 (optK c)
def rd7 (g:Row→(Option AV→Prop)→Prop) (s:S) (c:AV→Prop):Prop:=S.rec (motive:=fun _=>Prop) (rm7 g c) s
def um7 (c:S→Prop) (a0 a1 a2 a3 a4 a5 a6 a7 a8 a9 a10 a11 a12 a13 a14 a15:Row) (m:T AV) (r:Row):Prop:=c (.mk a0 a1 a2 a3 a4 a5 a6 r a8 a9 a10 a11 a12 a13 a14 a15 m)
def vm7 (w:Option AV→Row→(Row→Prop)→Prop) (v:AV) (c:S→Prop) (a0 a1 a2 a3 a4 a5 a6 a7 a8 a9 a10 a11 a12 a13 a14 a15:Row) (m:T AV):Prop:=w (some v) a7 (um7 c a0 a1 a2 a3 a4 a5 a6 a7 a8 a9 a10 a11 a12 a13 a14 a15 m)
def wr7 (w:Option AV→Row→(Row→Prop)→Prop) (v:AV) (s:S) (c:S→Prop):Prop:=S.rec (motive:=fun _=>Prop) (vm7 w v c) s
theorem rd7_eq {k:Nat} (hk:k<16) {g:Row→(Option AV→Prop)→Prop} (hg:∀ n c,g n c↔∃ x,n.toL[k]?=some x∧c x):rd7 g=S.getS (16*7+k):=by
 funext s c
 cases s with
 | mk a0 a1 a2 a3 a4 a5 a6 a7 a8 a9 a10 a11 a12 a13 a14 a15 m =>
 apply propext
 rw [getS_of (q:=7) (r:=a7) (by decide) hk rfl]
 show (g a7 fun o=>optK c o)↔_
 simp only [hg,optK_iff]
theorem wr7_eq {k:Nat} (hk:k<16) {w:Option AV→Row→(Row→Prop)→Prop} (hw:∀ v n c,w v n c↔c (n.put k v)):wr7 w=S.setS (16*7+k):=by
 funext v s c
 cases s with
 | mk a0 a1 a2 a3 a4 a5 a6 a7 a8 a9 a10 a11 a12 a13 a14 a15 m =>
 apply propext
 rw [setS_of (q:=7) (r:=a7) (by decide) hk rfl]
 exact hw _ _ _
def rm8 (g:Row→(Option AV→Prop)→Prop) (c:AV→Prop) (a0 a1 a2 a3 a4 a5 a6 a7 a8 a9 a10 a11 a12 a13 a14 a15:Row) (m:T AV):Prop:=g a8 (optK c)
def rd8 (g:Row→(Option AV→Prop)→Prop) (s:S) (c:AV→Prop):Prop:=S.rec (motive:=fun _=>Prop) (rm8 g c) s
def um8 (c:S→Prop) (a0 a1 a2 a3 a4 a5 a6 a7 a8 a9 a10 a11 a12 a13 a14 a15:Row) (m:T AV) (r:Row):Prop:=c (.mk a0 a1 a2 a3 a4 a5 a6 a7 r a9 a10 a11 a12 a13 a14 a15 m)
def vm8 (w:Option AV→Row→(Row→Prop)→Prop) (v:AV) (c:S→Prop) (a0 a1 a2 a3 a4 a5 a6 a7 a8 a9 a10 a11 a12 a13 a14 a15:Row) (m:T AV):Prop:=w (some v) a8 (um8 c a0 a1 a2 a3 a4 a5 a6 a7 a8 a9 a10 a11 a12 a13 a14 a15 m)
def wr8 (w:Option AV→Row→(Row→Prop)→Prop) (v:AV) (s:S) (c:S→Prop):Prop:=S.rec (motive:=fun _=>Prop) (vm8 w v c) s
theorem rd8_eq {k:Nat} (hk:k<16) {g:Row→(Option AV→Prop)→Prop} (hg:∀ n c,g n c↔∃ x,n.toL[k]?=some x∧c x):rd8 g=S.getS (16*8+k):=by
 funext s c
 cases s with
 | mk a0 a1 a2 a3 a4 a5 a6 a7 a8 a9 a10 a11 a12 a13 a14 a15 m =>
 apply propext
 rw [getS_of (q:=8) (r:=a8) (by decide) hk rfl]
 show (g a8 fun o=>optK c o)↔_
 simp only [hg,optK_iff]
theorem wr8_eq {k:Nat} (hk:k<16) {w:Option AV→Row→(Row→Prop)→Prop} (hw:∀ v n c,w v n c↔c (n.put k v)):wr8 w=S.setS (16*8+k):=by
 funext v s c
 cases s with
 | mk a0 a1 a2 a3 a4 a5 a6 a7 a8 a9 a10 a11 a12 a13 a14 a15 m =>
 apply propext
 rw [setS_of (q:=8) (r:=a8) (by decide) hk rfl]
 exact hw _ _ _
def rm9 (g:Row→(Option AV→Prop)→Prop) (c:AV→Prop) (a0 a1 a2 a3 a4 a5 a6 a7 a8 a9 a10 a11 a12 a13 a14 a15:Row) (m:T AV):Prop:=g a9 (optK c)
def rd9 (g:Row→(Option AV→Prop)→Prop) (s:S) (c:AV→Prop):Prop:=S.rec (motive:=fun _=>Prop) (rm9 g c) s
def um9 (c:S→Prop) (a0 a1 a2 a3 a4 a5 a6 a7 a8 a9 a10 a11 a12 a13 a14 a15:Row) (m:T AV) (r:Row):Prop:=c (.mk a0 a1 a2 a3 a4 a5 a6 a7 a8 r a10 a11 a12 a13 a14 a15 m)
def vm9 (w:Option AV→Row→(Row→Prop)→Prop) (v:AV) (c:S→Prop) (a0 a1 a2 a3 a4 a5 a6 a7 a8 a9 a10 a11 a12 a13 a14 a15:Row) (m:T AV):Prop:=w (some v) a9 (um9 c a0 a1 a2 a3 a4 a5 a6 a7 a8 a9 a10 a11 a12 a13 a14 a15 m)
def wr9 (w:Option AV→Row→(Row→Prop)→Prop) (v:AV) (s:S) (c:S→Prop):Prop:=S.rec (motive:=fun _=>Prop) (vm9 w v c) s
theorem rd9_eq {k:Nat} (hk:k<16) {g:Row→(Option AV→Prop)→Prop} (hg:∀ n c,g n c↔∃ x,n.toL[k]?=some x∧c x):rd9 g=S.getS (16*9+k):=by
 funext s c
 cases s with
 | mk a0 a1 a2 a3 a4 a5 a6 a7 a8 a9 a10 a11 a12 a13 a14 a15 m =>
 apply propext
 rw [getS_of (q:=9) (r:=a9) (by decide) hk rfl]
 show (g a9 fun o=>optK c o)↔_
 simp only [hg,optK_iff]
theorem wr9_eq {k:Nat} (hk:k<16) {w:Option AV→Row→(Row→Prop)→Prop} (hw:∀ v n c,w v n c↔c (n.put k v)):wr9 w=S.setS (16*9+k):=by
 funext v s c
 cases s with
 | mk a0 a1 a2 a3 a4 a5 a6 a7 a8 a9 a10 a11 a12 a13 a14 a15 m =>
 apply propext
 rw [setS_of (q:=9) (r:=a9) (by decide) hk rfl]
 exact hw _ _ _
def rm10 (g:Row→(Option AV→Prop)→Prop) (c:AV→Prop) (a0 a1 a2 a3 a4 a5 a6 a7 a8 a9 a10 a11 a12 a13 a14 a15:Row) (m:T AV):Prop:=g a10 (optK c)
def rd10 (g:Row→(Option AV→Prop)→Prop) (s:S) (c:AV→Prop):Prop:=S.rec (motive:=fun _=>Prop) (rm10 g c) s
def um10 (c:S→Prop) (a0 a1 a2 a3 a4 a5 a6 a7 a8 a9 a10 a11 a12 a13 a14 a15:Row) (m:T AV) (r:Row):Prop:=c (.mk a0 a1 a2 a3 a4 a5 a6 a7 a8 a9 r a11 a12 a13 a14 a15 m)
def vm10 (w:Option AV→Row→(Row→Prop)→Prop) (v:AV) (c:S→Prop) (a0 a1 a2 a3 a4 a5 a6 a7 a8 a9 a10 a11 a12 a13 a14 a15:Row) (m:T AV):Prop:=w (some v) a10 (um10 c a0 a1 a2 a3 a4 a5 a6 a7 a8 a9 a10 a11 a12 a13 a14 a15 m)
def wr10 (w:Option AV→Row→(Row→Prop)→Prop) (v:AV) (s:S) (c:S→Prop):Prop:=S.rec (motive:=fun _=>Prop) (vm10 w v c) s
theorem rd10_eq {k:Nat} (hk:k<16) {g:Row→(Option AV→Prop)→Prop} (hg:∀ n c,g n c↔∃ x,n.toL[k]?=some x∧c x):rd10 g=S.getS (16*10+k):=by
 funext s c
 cases s with
 | mk a0 a1 a2 a3 a4 a5 a6 a7 a8 a9 a10 a11 a12 a13 a14 a15 m =>
 apply propext
 rw [getS_of (q:=10) (r:=a10) (by decide) hk rfl]
 show (g a10 fun o=>optK c o)↔_
 simp only [hg,optK_iff]
theorem wr10_eq {k:Nat} (hk:k<16) {w:Option AV→Row→(Row→Prop)→Prop} (hw:∀ v n c,w v n c↔c (n.put k v)):wr10 w=S.setS (16*10+k):=by
 funext v s c
 cases s with
 | mk a0 a1 a2 a3 a4 a5 a6 a7 a8 a9 a10 a11 a12 a13 a14 a15 m =>
 apply propext
 rw [setS_of (q:=10) (r:=a10) (by decide) hk rfl]
 exact hw _ _ _
def rm11 (g:Row→(Option AV→Prop)→Prop) (c:AV→Prop) (a0 a1 a2 a3 a4 a5 a6 a7 a8 a9 a10 a11 a12 a13 a14 a15:Row) (m:T AV):Prop:=g a11 (optK c)
def rd11 (g:Row→(Option AV→Prop)→Prop) (s:S) (c:AV→Prop):Prop:=S.rec (motive:=fun _=>Prop) (rm11 g c) s
def um11 (c:S→Prop) (a0 a1 a2 a3 a4 a5 a6 a7 a8 a9 a10 a11 a12 a13 a14 a15:Row) (m:T AV) (r:Row):Prop:=c (.mk a0 a1 a2 a3 a4 a5 a6 a7 a8 a9 a10 r a12 a13 a14 a15 m)
def vm11 (w:Option AV→Row→(Row→Prop)→Prop) (v:AV) (c:S→Prop) (a0 a1 a2 a3 a4 a5 a6 a7 a8 a9 a10 a11 a12 a13 a14 a15:Row) (m:T AV):Prop:=w (some v) a11 (um11 c a0 a1 a2 a3 a4 a5 a6 a7 a8 a9 a10 a11 a12 a13 a14 a15 m)
def wr11 (w:Option AV→Row→(Row→Prop)→Prop) (v:AV) (s:S) (c:S→Prop):Prop:=S.rec (motive:=fun _=>Prop) (vm11 w v c) s
theorem rd11_eq {k:Nat} (hk:k<16) {g:Row→(Option AV→Prop)→Prop} (hg:∀ n c,g n c↔∃ x,n.toL[k]?=some x∧c x):rd11 g=S.getS (16*11+k):=by
 funext s c
 cases s with
 | mk a0 a1 a2 a3 a4 a5 a6 a7 a8 a9 a10 a11 a12 a13 a14 a15 m =>
 apply propext
 rw [getS_of (q:=11) (r:=a11) (by decide) hk rfl]
 show (g a11 fun o=>optK c o)↔_
 simp only [hg,optK_iff]
theorem wr11_eq {k:Nat} (hk:k<16) {w:Option AV→Row→(Row→Prop)→Prop} (hw:∀ v n c,w v n c↔c (n.put k v)):wr11 w=S.setS (16*11+k):=by
 funext v s c
 cases s with
 | mk a0 a1 a2 a3 a4 a5 a6 a7 a8 a9 a10 a11 a12 a13 a14 a15 m =>
 apply propext
 rw [setS_of (q:=11) (r:=a11) (by decide) hk rfl]
 exact hw _ _ _
def rm12 (g:Row→(Option AV→Prop)→Prop) (c:AV→Prop) (a0 a1 a2 a3 a4 a5 a6 a7 a8 a9 a10 a11 a12 a13 a14 a15:Row) (m:T AV):Prop:=g a12 (optK c)
def rd12 (g:Row→(Option AV→Prop)→Prop) (s:S) (c:AV→Prop):Prop:=S.rec (motive:=fun _=>Prop) (rm12 g c) s
def um12 (c:S→Prop) (a0 a1 a2 a3 a4 a5 a6 a7 a8 a9 a10 a11 a12 a13 a14 a15:Row) (m:T AV) (r:Row):Prop:=c (.mk a0 a1 a2 a3 a4 a5 a6 a7 a8 a9 a10 a11 r a13 a14 a15 m)
def vm12 (w:Option AV→Row→(Row→Prop)→Prop) (v:AV) (c:S→Prop) (a0 a1 a2 a3 a4 a5 a6 a7 a8 a9 a10 a11 a12 a13 a14 a15:Row) (m:T AV):Prop:=w (some v) a12 (um12 c a0 a1 a2 a3 a4 a5 a6 a7 a8 a9 a10 a11 a12 a13 a14 a15 m)
def wr12 (w:Option AV→Row→(Row→Prop)→Prop) (v:AV) (s:S) (c:S→Prop):Prop:=S.rec (motive:=fun _=>Prop) (vm12 w v c) s
theorem rd12_eq {k:Nat} (hk:k<16) {g:Row→(Option AV→Prop)→Prop} (hg:∀ n c,g n c↔∃ x,n.toL[k]?=some x∧c x):rd12 g=S.getS (16*12+k):=by
 funext s c
 cases s with
 | mk a0 a1 a2 a3 a4 a5 a6 a7 a8 a9 a10 a11 a12 a13 a14 a15 m =>
 apply propext
 rw [getS_of (q:=12) (r:=a12) (by decide) hk rfl]
 show (g a12 fun o=>optK c o)↔_
 simp only [hg,optK_iff]
theorem wr12_eq {k:Nat} (hk:k<16) {w:Option AV→Row→(Row→Prop)→Prop} (hw:∀ v n c,w v n c↔c (n.put k v)):wr12 w=S.setS (16*12+k):=by
 funext v s c
 cases s with
 | mk a0 a1 a2 a3 a4 a5 a6 a7 a8 a9 a10 a11 a12 a13 a14 a15 m =>
 apply propext
 rw [setS_of (q:=12) (r:=a12) (by decide) hk rfl]
 exact hw _ _ _
def rm13 (g:Row→(Option AV→Prop)→Prop) (c:AV→Prop) (a0 a1 a2 a3 a4 a5 a6 a7 a8 a9 a10 a11 a12 a13 a14 a15:Row) (m:T AV):Prop:=g a13 (optK c)
def rd13 (g:Row→(Option AV→Prop)→Prop) (s:S) (c:AV→Prop):Prop:=S.rec (motive:=fun _=>Prop) (rm13 g c) s
def um13 (c:S→Prop) (a0 a1 a2 a3 a4 a5 a6 a7 a8 a9 a10 a11 a12 a13 a14 a15:Row) (m:T AV) (r:Row):Prop:=c (.mk a0 a1 a2 a3 a4 a5 a6 a7 a8 a9 a10 a11 a12 r a14 a15 m)
def vm13 (w:Option AV→Row→(Row→Prop)→Prop) (v:AV) (c:S→Prop) (a0 a1 a2 a3 a4 a5 a6 a7 a8 a9 a10 a11 a12 a13 a14 a15:Row) (m:T AV):Prop:=w (some v) a13 (um13 c a0 a1 a2 a3 a4 a5 a6 a7 a8 a9 a10 a11 a12 a13 a14 a15 m)
def wr13 (w:Option AV→Row→(Row→Prop)→Prop) (v:AV) (s:S) (c:S→Prop):Prop:=S.rec (motive:=fun _=>Prop) (vm13 w v c) s
theorem rd13_eq {k:Nat} (hk:k<16) {g:Row→(Option AV→Prop)→Prop} (hg:∀ n c,g n c↔∃ x,n.toL[k]?=some x∧c x):rd13 g=S.getS (16*13+k):=by
 funext s c
 cases s with
 | mk a0 a1 a2 a3 a4 a5 a6 a7 a8 a9 a10 a11 a12 a13 a14 a15 m =>
 apply propext
 rw [getS_of (q:=13) (r:=a13) (by decide) hk rfl]
 show (g a13 fun o=>optK c o)↔_
 simp only [hg,optK_iff]
theorem wr13_eq {k:Nat} (hk:k<16) {w:Option AV→Row→(Row→Prop)→Prop} (hw:∀ v n c,w v n c↔c (n.put k v)):wr13 w=S.setS (16*13+k):=by
 funext v s c
 cases s with
 | mk a0 a1 a2 a3 a4 a5 a6 a7 a8 a9 a10 a11 a12 a13 a14 a15 m =>
 apply propext
 rw [setS_of (q:=13) (r:=a13) (by decide) hk rfl]
 exact hw _ _ _
def rm14 (g:Row→(Option AV→Prop)→Prop) (c:AV→Prop) (a0 a1 a2 a3 a4 a5 a6 a7 a8 a9 a10 a11 a12 a13 a14 a15:Row) (m:T AV):Prop:=g a14 (optK c)
def rd14 (g:Row→(Option AV→Prop)→Prop) (s:S) (c:AV→Prop):Prop:=S.rec (motive:=fun _=>Prop) (rm14 g c) s
def um14 (c:S→Prop) (a0 a1 a2 a3 a4 a5 a6 a7 a8 a9 a10 a11 a12 a13 a14 a15:Row) (m:T AV) (r:Row):Prop:=c (.mk a0 a1 a2 a3 a4 a5 a6 a7 a8 a9 a10 a11 a12 a13 r a15 m)
def vm14 (w:Option AV→Row→(Row→Prop)→Prop) (v:AV) (c:S→Prop) (a0 a1 a2 a3 a4 a5 a6 a7 a8 a9 a10 a11 a12 a13 a14 a15:Row) (m:T AV):Prop:=w (some v) a14 (um14 c a0 a1 a2 a3 a4 a5 a6 a7 a8 a9 a10 a11 a12 a13 a14 a15 m)
def wr14 (w:Option AV→Row→(Row→Prop)→Prop) (v:AV) (s:S) (c:S→Prop):Prop:=S.rec (motive:=fun _=>Prop) (vm14 w v c) s
theorem rd14_eq {k:Nat} (hk:k<16) {g:Row→(Option AV→Prop)→Prop} (hg:∀ n c,g n c↔∃ x,n.toL[k]?=some x∧c x):rd14 g=S.getS (16*14+k):=by
 funext s c
 cases s with
 | mk a0 a1 a2 a3 a4 a5 a6 a7 a8 a9 a10 a11 a12 a13 a14 a15 m =>
 apply propext
 rw [getS_of (q:=14) (r:=a14) (by decide) hk rfl]
 show (g a14 fun o=>optK c o)↔_
 simp only [hg,optK_iff]
theorem wr14_eq {k:Nat} (hk:k<16) {w:Option AV→Row→(Row→Prop)→Prop} (hw:∀ v n c,w v n c↔c (n.put k v)):wr14 w=S.setS (16*14+k):=by
 funext v s c
 cases s with
 | mk a0 a1 a2 a3 a4 a5 a6 a7 a8 a9 a10 a11 a12 a13 a14 a15 m =>
 apply propext
 rw [setS_of (q:=14) (r:=a14) (by decide) hk rfl]
 exact hw _ _ _
def rm15 (g:Row→(Option AV→Prop)→Prop) (c:AV→Prop) (a0 a1 a2 a3 a4 a5 a6 a7 a8 a9 a10 a11 a12 a13 a14 a15:Row) (m:T AV):Prop:=g a15 (optK c)
def rd15 (g:Row→(Option AV→Prop)→Prop) (s:S) (c:AV→Prop):Prop:=S.rec (motive:=fun _=>Prop) (rm15 g c) s
def um15 (c:S→Prop) (a0 a1 a2 a3 a4 a5 a6 a7 a8 a9 a10 a11 a12 a13 a14 a15:Row) (m:T AV) (r:Row):Prop:=c (.mk a0 a1 a2 a3 a4 a5 a6 a7 a8 a9 a10 a11 a12 a13 a14 r m)
def vm15 (w:Option AV→Row→(Row→Prop)→Prop) (v:AV) (c:S→Prop) (a0 a1 a2 a3 a4 a5 a6 a7 a8 a9 a10 a11 a12 a13 a14 a15:Row) (m:T AV):Prop:=w (some v) a15 (um15 c a0 a1 a2 a3 a4 a5 a6 a7 a8 a9 a10 a11 a12 a13 a14 a15 m)
def wr15 (w:Option AV→Row→(Row→Prop)→Prop) (v:AV) (s:S) (c:S→Prop):Prop:=S.rec (motive:=fun _=>Prop) (vm15 w v c) s
theorem rd15_eq {k:Nat} (hk:k<16) {g:Row→(Option AV→Prop)→Prop} (hg:∀ n c,g n c↔∃ x,n.toL[k]?=some x∧c x):rd15 g=S.getS (16*15+k):=by
 funext s c
 cases s with
 | mk a0 a1 a2 a3 a4 a5 a6 a7 a8 a9 a10 a11 a12 a13 a14 a15 m =>
 apply propext
 rw [getS_of (q:=15) (r:=a15) (by decide) hk rfl]
 show (g a15 fun o=>optK c o)↔_
 simp only [hg,optK_iff]
theorem wr15_eq {k:Nat} (hk:k<16) {w:Option AV→Row→(Row→Prop)→Prop} (hw:∀ v n c,w v n c↔c (n.put k v)):wr15 w=S.setS (16*15+k):=by
 funext v s c
 cases s with
 | mk a0 a1 a2 a3 a4 a5 a6 a7 a8 a9 a10 a11 a12 a13 a14 a15 m =>
 apply propext
 rw [setS_of (q:=15) (r:=a15) (by decide) hk rfl]
 exact hw _ _ _
theorem lt16 (k:Nat) (h:k<16:=by decide):k<16:=h
def s0:Sl:=⟨0,rd0 N16.g0,wr0 N16.w0,rd0_eq (lt16 0) N16.g0_iff,wr0_eq (lt16 0) N16.w0_iff⟩
def s1:Sl:=⟨1,rd0 N16.g1,wr0 N16.w1,rd0_eq (lt16 1) N16.g1_iff,wr0_eq (lt16 1) N16.w1_iff⟩
def s2:Sl:=⟨2,rd0 N16.g2,wr0 N16.w2,rd0_eq (lt16 2) N16.g2_iff,wr0_eq (lt16 2) N16.w2_iff⟩
def s3:Sl:=⟨3,rd0 N16.g3,wr0 N16.w3,rd0_eq (lt16 3) N16.g3_iff,wr0_eq (lt16 3) N16.w3_iff⟩
def s4:Sl:=⟨4,rd0 N16.g4,wr0 N16.w4,rd0_eq (lt16 4) N16.g4_iff,wr0_eq (lt16 4) N16.w4_iff⟩
def s5:Sl:=⟨5,rd0 N16.g5,wr0 N16.w5,rd0_eq (lt16 5) N16.g5_iff,wr0_eq (lt16 5) N16.w5_iff⟩
def s6:Sl:=⟨6,rd0 N16.g6,wr0 N16.w6,rd0_eq (lt16 6) N16.g6_iff,wr0_eq (lt16 6) N16.w6_iff⟩
def s7:Sl:=⟨7,rd0 N16.g7,wr0 N16.w7,rd0_eq (lt16 7) N16.g7_iff,wr0_eq (lt16 7) N16.w7_iff⟩
def s8:Sl:=⟨8,rd0 N16.g8,wr0 N16.w8,rd0_eq (lt16 8) N16.g8_iff,wr0_eq (lt16 8) N16.w8_iff⟩
def s9:Sl:=⟨9,rd0 N16.g9,wr0 N16.w9,rd0_eq (lt16 9) N16.g9_iff,wr0_eq (lt16 9) N16.w9_iff⟩
def s10:Sl:=⟨10,rd0 N16.g10,wr0 N16.w10,rd0_eq (lt16 10) N16.g10_iff,wr0_eq (lt16 10) N16.w10_iff⟩
def s11:Sl:=⟨11,rd0 N16.g11,wr0 N16.w11,rd0_eq (lt16 11) N16.g11_iff,wr0_eq (lt16 11) N16.w11_iff⟩
def s12:Sl:=⟨12,rd0 N16.g12,wr0 N16.w12,rd0_eq (lt16 12) N16.g12_iff,wr0_eq (lt16 12) N16.w12_iff⟩
def s13:Sl:=⟨13,rd0 N16.g13,wr0 N16.w13,rd0_eq (lt16 13) N16.g13_iff,wr0_eq (lt16 13) N16.w13_iff⟩
def s14:Sl:=⟨14,rd0 N16.g14,wr0 N16.w14,rd0_eq (lt16 14) N16.g14_iff,wr0_eq (lt16 14) N16.w14_iff⟩
def s15:Sl:=⟨15,rd0 N16.g15,wr0 N16.w15,rd0_eq (lt16 15) N16.g15_iff,wr0_eq (lt16 15) N16.w15_iff⟩
def s16:Sl:=⟨16,rd1 N16.g0,wr1 N16.w0,rd1_eq (lt16 0) N16.g0_iff,wr1_eq (lt16 0) N16.w0_iff⟩
def s17:Sl:=⟨17,rd1 N16.g1,wr1 N16.w1,rd1_eq (lt16 1) N16.g1_iff,wr1_eq (lt16 1) N16.w1_iff⟩
def s18:Sl:=⟨18,rd1 N16.g2,wr1 N16.w2,rd1_eq (lt16 2) N16.g2_iff,wr1_eq (lt16 2) N16.w2_iff⟩
def s19:Sl:=⟨19,rd1 N16.g3,wr1 N16.w3,rd1_eq (lt16 3) N16.g3_iff,wr1_eq (lt16 3) N16.w3_iff⟩
def s20:Sl:=⟨20,rd1 N16.g4,wr1 N16.w4,rd1_eq (lt16 4) N16.g4_iff,wr1_eq (lt16 4) N16.w4_iff⟩
def s21:Sl:=⟨21,rd1 N16.g5,wr1 N16.w5,rd1_eq (lt16 5) N16.g5_iff,wr1_eq (lt16 5) N16.w5_iff⟩
def s22:Sl:=⟨22,rd1 N16.g6,wr1 N16.w6,rd1_eq (lt16 6) N16.g6_iff,wr1_eq (lt16 6) N16.w6_iff⟩
def s23:Sl:=⟨23,rd1 N16.g7,wr1 N16.w7,rd1_eq (lt16 7) N16.g7_iff,wr1_eq (lt16 7) N16.w7_iff⟩
def s24:Sl:=⟨24,rd1 N16.g8,wr1 N16.w8,rd1_eq (lt16 8) N16.g8_iff,wr1_eq (lt16 8) N16.w8_iff⟩
def s25:Sl:=⟨25,rd1 N16.g9,wr1 N16.w9,rd1_eq (lt16 9) N16.g9_iff,wr1_eq (lt16 9) N16.w9_iff⟩
def s26:Sl:=⟨26,rd1 N16.g10,wr1 N16.w10,rd1_eq (lt16 10) N16.g10_iff,wr1_eq (lt16 10) N16.w10_iff⟩
def s27:Sl:=⟨27,rd1 N16.g11,wr1 N16.w11,rd1_eq (lt16 11) N16.g11_iff,wr1_eq (lt16 11) N16.w11_iff⟩
def s28:Sl:=⟨28,rd1 N16.g12,wr1 N16.w12,rd1_eq (lt16 12) N16.g12_iff,wr1_eq (lt16 12) N16.w12_iff⟩
def s29:Sl:=⟨29,rd1 N16.g13,wr1 N16.w13,rd1_eq (lt16 13) N16.g13_iff,wr1_eq (lt16 13) N16.w13_iff⟩
def s30:Sl:=⟨30,rd1 N16.g14,wr1 N16.w14,rd1_eq (lt16 14) N16.g14_iff,wr1_eq (lt16 14) N16.w14_iff⟩
def s31:Sl:=⟨31,rd1 N16.g15,wr1 N16.w15,rd1_eq (lt16 15) N16.g15_iff,wr1_eq (lt16 15) N16.w15_iff⟩
def s32:Sl:=⟨32,rd2 N16.g0,wr2 N16.w0,rd2_eq (lt16 0) N16.g0_iff,wr2_eq (lt16 0) N16.w0_iff⟩
def s33:Sl:=⟨33,rd2 N16.g1,wr2 N16.w1,rd2_eq (lt16 1) N16.g1_iff,wr2_eq (lt16 1) N16.w1_iff⟩
def s34:Sl:=⟨34,rd2 N16.g2,wr2 N16.w2,rd2_eq (lt16 2) N16.g2_iff,wr2_eq (lt16 2) N16.w2_iff⟩
def s35:Sl:=⟨35,rd2 N16.g3,wr2 N16.w3,rd2_eq (lt16 3) N16.g3_iff,wr2_eq (lt16 3) N16.w3_iff⟩
def s36:Sl:=⟨36,rd2 N16.g4,wr2 N16.w4,rd2_eq (lt16 4) N16.g4_iff,wr2_eq (lt16 4) N16.w4_iff⟩
def s37:Sl:=⟨37,rd2 N16.g5,wr2 N16.w5,rd2_eq (lt16 5) N16.g5_iff,wr2_eq (lt16 5) N16.w5_iff⟩
def s38:Sl:=⟨38,rd2 N16.g6,wr2 N16.w6,rd2_eq (lt16 6) N16.g6_iff,wr2_eq (lt16 6) N16.w6_iff⟩
def s39:Sl:=⟨39,rd2 N16.g7,wr2 N16.w7,rd2_eq (lt16 7) N16.g7_iff,wr2_eq (lt16 7) N16.w7_iff⟩
def s40:Sl:=⟨40,rd2 N16.g8,wr2 N16.w8,rd2_eq (lt16 8) N16.g8_iff,wr2_eq (lt16 8) N16.w8_iff⟩
def s41:Sl:=⟨41,rd2 N16.g9,wr2 N16.w9,rd2_eq (lt16 9) N16.g9_iff,wr2_eq (lt16 9) N16.w9_iff⟩
def s42:Sl:=⟨42,rd2 N16.g10,wr2 N16.w10,rd2_eq (lt16 10) N16.g10_iff,wr2_eq (lt16 10) N16.w10_iff⟩
def s43:Sl:=⟨43,rd2 N16.g11,wr2 N16.w11,rd2_eq (lt16 11) N16.g11_iff,wr2_eq (lt16 11) N16.w11_iff⟩
def s44:Sl:=⟨44,rd2 N16.g12,wr2 N16.w12,rd2_eq (lt16 12) N16.g12_iff,wr2_eq (lt16 12) N16.w12_iff⟩
def s45:Sl:=⟨45,rd2 N16.g13,wr2 N16.w13,rd2_eq (lt16 13) N16.g13_iff,wr2_eq (lt16 13) N16.w13_iff⟩
def s46:Sl:=⟨46,rd2 N16.g14,wr2 N16.w14,rd2_eq (lt16 14) N16.g14_iff,wr2_eq (lt16 14) N16.w14_iff⟩
def s47:Sl:=⟨47,rd2 N16.g15,wr2 N16.w15,rd2_eq (lt16 15) N16.g15_iff,wr2_eq (lt16 15) N16.w15_iff⟩
def s48:Sl:=⟨48,rd3 N16.g0,wr3 N16.w0,rd3_eq (lt16 0) N16.g0_iff,wr3_eq (lt16 0) N16.w0_iff⟩
def s49:Sl:=⟨49,rd3 N16.g1,wr3 N16.w1,rd3_eq (lt16 1) N16.g1_iff,wr3_eq (lt16 1) N16.w1_iff⟩
def s50:Sl:=⟨50,rd3 N16.g2,wr3 N16.w2,rd3_eq (lt16 2) N16.g2_iff,wr3_eq (lt16 2) N16.w2_iff⟩
def s51:Sl:=⟨51,rd3 N16.g3,wr3 N16.w3,rd3_eq (lt16 3) N16.g3_iff,wr3_eq (lt16 3) N16.w3_iff⟩
def s52:Sl:=⟨52,rd3 N16.g4,wr3 N16.w4,rd3_eq (lt16 4) N16.g4_iff,wr3_eq (lt16 4) N16.w4_iff⟩
def s53:Sl:=⟨53,rd3 N16.g5,wr3 N16.w5,rd3_eq (lt16 5) N16.g5_iff,wr3_eq (lt16 5) N16.w5_iff⟩
def s54:Sl:=⟨54,rd3 N16.g6,wr3 N16.w6,rd3_eq (lt16 6) N16.g6_iff,wr3_eq (lt16 6) N16.w6_iff⟩
def s55:Sl:=⟨55,rd3 N16.g7,wr3 N16.w7,rd3_eq (lt16 7) N16.g7_iff,wr3_eq (lt16 7) N16.w7_iff⟩
def s56:Sl:=⟨56,rd3 N16.g8,wr3 N16.w8,rd3_eq (lt16 8) N16.g8_iff,wr3_eq (lt16 8) N16.w8_iff⟩
def s57:Sl:=⟨57,rd3 N16.g9,wr3 N16.w9,rd3_eq (lt16 9) N16.g9_iff,wr3_eq (lt16 9) N16.w9_iff⟩
def s58:Sl:=⟨58,rd3 N16.g10,wr3 N16.w10,rd3_eq (lt16 10) N16.g10_iff,wr3_eq (lt16 10) N16.w10_iff⟩
def s59:Sl:=⟨59,rd3 N16.g11,wr3 N16.w11,rd3_eq (lt16 11) N16.g11_iff,wr3_eq (lt16 11) N16.w11_iff⟩
def s60:Sl:=⟨60,rd3 N16.g12,wr3 N16.w12,rd3_eq (lt16 12) N16.g12_iff,wr3_eq (lt16 12) N16.w12_iff⟩
def s61:Sl:=⟨61,rd3 N16.g13,wr3 N16.w13,rd3_eq (lt16 13) N16.g13_iff,wr3_eq (lt16 13) N16.w13_iff⟩
def s62:Sl:=⟨62,rd3 N16.g14,wr3 N16.w14,rd3_eq (lt16 14) N16.g14_iff,wr3_eq (lt16 14) N16.w14_iff⟩
def s63:Sl:=⟨63,rd3 N16.g15,wr3 N16.w15,rd3_eq (lt16 15) N16.g15_iff,wr3_eq (lt16 15) N16.w15_iff⟩
def s64:Sl:=⟨64,rd4 N16.g0,wr4 N16.w0,rd4_eq (lt16 0) N16.g0_iff,wr4_eq (lt16 0) N16.w0_iff⟩
def s65:Sl:=⟨65,rd4 N16.g1,wr4 N16.w1,rd4_eq (lt16 1) N16.g1_iff,wr4_eq (lt16 1) N16.w1_iff⟩
def s66:Sl:=⟨66,rd4 N16.g2,wr4 N16.w2,rd4_eq (lt16 2) N16.g2_iff,wr4_eq (lt16 2) N16.w2_iff⟩
def s67:Sl:=⟨67,rd4 N16.g3,wr4 N16.w3,rd4_eq (lt16 3) N16.g3_iff,wr4_eq (lt16 3) N16.w3_iff⟩
def s68:Sl:=⟨68,rd4 N16.g4,wr4 N16.w4,rd4_eq (lt16 4) N16.g4_iff,wr4_eq (lt16 4) N16.w4_iff⟩
def s69:Sl:=⟨69,rd4 N16.g5,wr4 N16.w5,rd4_eq (lt16 5) N16.g5_iff,wr4_eq (lt16 5) N16.w5_iff⟩
def s70:Sl:=⟨70,rd4 N16.g6,wr4 N16.w6,rd4_eq (lt16 6) N16.g6_iff,wr4_eq (lt16 6) N16.w6_iff⟩
def s71:Sl:=⟨71,rd4 N16.g7,wr4 N16.w7,rd4_eq (lt16 7) N16.g7_iff,wr4_eq (lt16 7) N16.w7_iff⟩
def s72:Sl:=⟨72,rd4 N16.g8,wr4 N16.w8,rd4_eq (lt16 8) N16.g8_iff,wr4_eq (lt16 8) N16.w8_iff⟩
def s73:Sl:=⟨73,rd4 N16.g9,wr4 N16.w9,rd4_eq (lt16 9) N16.g9_iff,wr4_eq (lt16 9) N16.w9_iff⟩
def s74:Sl:=⟨74,rd4 N16.g10,wr4 N16.w10,rd4_eq (lt16 10) N16.g10_iff,wr4_eq (lt16 10) N16.w10_iff⟩
def s75:Sl:=⟨75,rd4 N16.g11,wr4 N16.w11,rd4_eq (lt16 11) N16.g11_iff,wr4_eq (lt16 11) N16.w11_iff⟩
def s76:Sl:=⟨76,rd4 N16.g12,wr4 N16.w12,rd4_eq (lt16 12) N16.g12_iff,wr4_eq (lt16 12) N16.w12_iff⟩
def s77:Sl:=⟨77,rd4 N16.g13,wr4 N16.w13,rd4_eq (lt16 13) N16.g13_iff,wr4_eq (lt16 13) N16.w13_iff⟩
def s78:Sl:=⟨78,rd4 N16.g14,wr4 N16.w14,rd4_eq (lt16 14) N16.g14_iff,wr4_eq (lt16 14) N16.w14_iff⟩
def s79:Sl:=⟨79,rd4 N16.g15,wr4 N16.w15,rd4_eq (lt16 15) N16.g15_iff,wr4_eq (lt16 15) N16.w15_iff⟩
def s80:Sl:=⟨80,rd5 N16.g0,wr5 N16.w0,rd5_eq (lt16 0) N16.g0_iff,wr5_eq (lt16 0) N16.w0_iff⟩
def s81:Sl:=⟨81,rd5 N16.g1,wr5 N16.w1,rd5_eq (lt16 1) N16.g1_iff,wr5_eq (lt16 1) N16.w1_iff⟩
def s82:Sl:=⟨82,rd5 N16.g2,wr5 N16.w2,rd5_eq (lt16 2) N16.g2_iff,wr5_eq (lt16 2) N16.w2_iff⟩
def s83:Sl:=⟨83,rd5 N16.g3,wr5 N16.w3,rd5_eq (lt16 3) N16.g3_iff,wr5_eq (lt16 3) N16.w3_iff⟩
def s84:Sl:=⟨84,rd5 N16.g4,wr5 N16.w4,rd5_eq (lt16 4) N16.g4_iff,wr5_eq (lt16 4) N16.w4_iff⟩
def s85:Sl:=⟨85,rd5 N16.g5,wr5 N16.w5,rd5_eq (lt16 5) N16.g5_iff,wr5_eq (lt16 5) N16.w5_iff⟩
def s86:Sl:=⟨86,rd5 N16.g6,wr5 N16.w6,rd5_eq (lt16 6) N16.g6_iff,wr5_eq (lt16 6) N16.w6_iff⟩
def s87:Sl:=⟨87,rd5 N16.g7,wr5 N16.w7,rd5_eq (lt16 7) N16.g7_iff,wr5_eq (lt16 7) N16.w7_iff⟩
def s88:Sl:=⟨88,rd5 N16.g8,wr5 N16.w8,rd5_eq (lt16 8) N16.g8_iff,wr5_eq (lt16 8) N16.w8_iff⟩
def s89:Sl:=⟨89,rd5 N16.g9,wr5 N16.w9,rd5_eq (lt16 9) N16.g9_iff,wr5_eq (lt16 9) N16.w9_iff⟩
def s90:Sl:=⟨90,rd5 N16.g10,wr5 N16.w10,rd5_eq (lt16 10) N16.g10_iff,wr5_eq (lt16 10) N16.w10_iff⟩
def s91:Sl:=⟨91,rd5 N16.g11,wr5 N16.w11,rd5_eq (lt16 11) N16.g11_iff,wr5_eq (lt16 11) N16.w11_iff⟩
def s92:Sl:=⟨92,rd5 N16.g12,wr5 N16.w12,rd5_eq (lt16 12) N16.g12_iff,wr5_eq (lt16 12) N16.w12_iff⟩
def s93:Sl:=⟨93,rd5 N16.g13,wr5 N16.w13,rd5_eq (lt16 13) N16.g13_iff,wr5_eq (lt16 13) N16.w13_iff⟩
def s94:Sl:=⟨94,rd5 N16.g14,wr5 N16.w14,rd5_eq (lt16 14) N16.g14_iff,wr5_eq (lt16 14) N16.w14_iff⟩
def s95:Sl:=⟨95,rd5 N16.g15,wr5 N16.w15,rd5_eq (lt16 15) N16.g15_iff,wr5_eq (lt16 15) N16.w15_iff⟩
def s96:Sl:=⟨96,rd6 N16.g0,wr6 N16.w0,rd6_eq (lt16 0) N16.g0_iff,wr6_eq (lt16 0) N16.w0_iff⟩
def s97:Sl:=⟨97,rd6 N16.g1,wr6 N16.w1,rd6_eq (lt16 1) N16.g1_iff,wr6_eq (lt16 1) N16.w1_iff⟩
def s98:Sl:=⟨98,rd6 N16.g2,wr6 N16.w2,rd6_eq (lt16 2) N16.g2_iff,wr6_eq (lt16 2) N16.w2_iff⟩
def s99:Sl:=⟨99,rd6 N16.g3,wr6 N16.w3,rd6_eq (lt16 3) N16.g3_iff,wr6_eq (lt16 3) N16.w3_iff⟩
def s100:Sl:=⟨100,rd6 N16.g4,wr6 N16.w4,rd6_eq (lt16 4) N16.g4_iff,wr6_eq (lt16 4) N16.w4_iff⟩
def s101:Sl:=⟨101,rd6 N16.g5,wr6 N16.w5,rd6_eq (lt16 5) N16.g5_iff,wr6_eq (lt16 5) N16.w5_iff⟩
def s102:Sl:=⟨102,rd6 N16.g6,wr6 N16.w6,rd6_eq (lt16 6) N16.g6_iff,wr6_eq (lt16 6) N16.w6_iff⟩
def s103:Sl:=⟨103,rd6 N16.g7,wr6 N16.w7,rd6_eq (lt16 7) N16.g7_iff,wr6_eq (lt16 7) N16.w7_iff⟩
def s104:Sl:=⟨104,rd6 N16.g8,wr6 N16.w8,rd6_eq (lt16 8) N16.g8_iff,wr6_eq (lt16 8) N16.w8_iff⟩
def s105:Sl:=⟨105,rd6 N16.g9,wr6 N16.w9,rd6_eq (lt16 9) N16.g9_iff,wr6_eq (lt16 9) N16.w9_iff⟩
def s106:Sl:=⟨106,rd6 N16.g10,wr6 N16.w10,rd6_eq (lt16 10) N16.g10_iff,wr6_eq (lt16 10) N16.w10_iff⟩
def s107:Sl:=⟨107,rd6 N16.g11,wr6 N16.w11,rd6_eq (lt16 11) N16.g11_iff,wr6_eq (lt16 11) N16.w11_iff⟩
def s108:Sl:=⟨108,rd6 N16.g12,wr6 N16.w12,rd6_eq (lt16 12) N16.g12_iff,wr6_eq (lt16 12) N16.w12_iff⟩
def s109:Sl:=⟨109,rd6 N16.g13,wr6 N16.w13,rd6_eq (lt16 13) N16.g13_iff,wr6_eq (lt16 13) N16.w13_iff⟩
def s110:Sl:=⟨110,rd6 N16.g14,wr6 N16.w14,rd6_eq (lt16 14) N16.g14_iff,wr6_eq (lt16 14) N16.w14_iff⟩
def s111:Sl:=⟨111,rd6 N16.g15,wr6 N16.w15,rd6_eq (lt16 15) N16.g15_iff,wr6_eq (lt16 15) N16.w15_iff⟩
def s112:Sl:=⟨112,rd7 N16.g0,wr7 N16.w0,rd7_eq (lt16 0) N16.g0_iff,wr7_eq (lt16 0) N16.w0_iff⟩
def s113:Sl:=⟨113,rd7 N16.g1,wr7 N16.w1,rd7_eq (lt16 1) N16.g1_iff,wr7_eq (lt16 1) N16.w1_iff⟩
def s114:Sl:=⟨114,rd7 N16.g2,wr7 N16.w2,rd7_eq (lt16 2) N16.g2_iff,wr7_eq (lt16 2) N16.w2_iff⟩
def s115:Sl:=⟨115,rd7 N16.g3,wr7 N16.w3,rd7_eq (lt16 3) N16.g3_iff,wr7_eq (lt16 3) N16.w3_iff⟩
def s116:Sl:=⟨116,rd7 N16.g4,wr7 N16.w4,rd7_eq (lt16 4) N16.g4_iff,wr7_eq (lt16 4) N16.w4_iff⟩
def s117:Sl:=⟨117,rd7 N16.g5,wr7 N16.w5,rd7_eq (lt16 5) N16.g5_iff,wr7_eq (lt16 5) N16.w5_iff⟩
def s118:Sl:=⟨118,rd7 N16.g6,wr7 N16.w6,rd7_eq (lt16 6) N16.g6_iff,wr7_eq (lt16 6) N16.w6_iff⟩
def s119:Sl:=⟨119,rd7 N16.g7,wr7 N16.w7,rd7_eq (lt16 7) N16.g7_iff,wr7_eq (lt16 7) N16.w7_iff⟩
def s120:Sl:=⟨120,rd7 N16.g8,wr7 N16.w8,rd7_eq (lt16 8) N16.g8_iff,wr7_eq (lt16 8) N16.w8_iff⟩
def s121:Sl:=⟨121,rd7 N16.g9,wr7 N16.w9,rd7_eq (lt16 9) N16.g9_iff,wr7_eq (lt16 9) N16.w9_iff⟩
def s122:Sl:=⟨122,rd7 N16.g10,wr7 N16.w10,rd7_eq (lt16 10) N16.g10_iff,wr7_eq (lt16 10) N16.w10_iff⟩
def s123:Sl:=⟨123,rd7 N16.g11,wr7 N16.w11,rd7_eq (lt16 11) N16.g11_iff,wr7_eq (lt16 11) N16.w11_iff⟩
def s124:Sl:=⟨124,rd7 N16.g12,wr7 N16.w12,rd7_eq (lt16 12) N16.g12_iff,wr7_eq (lt16 12) N16.w12_iff⟩
def s125:Sl:=⟨125,rd7 N16.g13,wr7 N16.w13,rd7_eq (lt16 13) N16.g13_iff,wr7_eq (lt16 13) N16.w13_iff⟩
def s126:Sl:=⟨126,rd7 N16.g14,wr7 N16.w14,rd7_eq (lt16 14) N16.g14_iff,wr7_eq (lt16 14) N16.w14_iff⟩
def s127:Sl:=⟨127,rd7 N16.g15,wr7 N16.w15,rd7_eq (lt16 15) N16.g15_iff,wr7_eq (lt16 15) N16.w15_iff⟩
def s128:Sl:=⟨128,rd8 N16.g0,wr8 N16.w0,rd8_eq (lt16 0) N16.g0_iff,wr8_eq (lt16 0) N16.w0_iff⟩
def s129:Sl:=⟨129,rd8 N16.g1,wr8 N16.w1,rd8_eq (lt16 1) N16.g1_iff,wr8_eq (lt16 1) N16.w1_iff⟩
def s130:Sl:=⟨130,rd8 N16.g2,wr8 N16.w2,rd8_eq (lt16 2) N16.g2_iff,wr8_eq (lt16 2) N16.w2_iff⟩
def s131:Sl:=⟨131,rd8 N16.g3,wr8 N16.w3,rd8_eq (lt16 3) N16.g3_iff,wr8_eq (lt16 3) N16.w3_iff⟩
def s132:Sl:=⟨132,rd8 N16.g4,wr8 N16.w4,rd8_eq (lt16 4) N16.g4_iff,wr8_eq (lt16 4) N16.w4_iff⟩
def s133:Sl:=⟨133,rd8 N16.g5,wr8 N16.w5,rd8_eq (lt16 5) N16.g5_iff,wr8_eq (lt16 5) N16.w5_iff⟩
def s134:Sl:=⟨134,rd8 N16.g6,wr8 N16.w6,rd8_eq (lt16 6) N16.g6_iff,wr8_eq (lt16 6) N16.w6_iff⟩
def s135:Sl:=⟨135,rd8 N16.g7,wr8 N16.w7,rd8_eq (lt16 7) N16.g7_iff,wr8_eq (lt16 7) N16.w7_iff⟩
def s136:Sl:=⟨136,rd8 N16.g8,wr8 N16.w8,rd8_eq (lt16 8) N16.g8_iff,wr8_eq (lt16 8) N16.w8_iff⟩
def s137:Sl:=⟨137,rd8 N16.g9,wr8 N16.w9,rd8_eq (lt16 9) N16.g9_iff,wr8_eq (lt16 9) N16.w9_iff⟩
def s138:Sl:=⟨138,rd8 N16.g10,wr8 N16.w10,rd8_eq (lt16 10) N16.g10_iff,wr8_eq (lt16 10) N16.w10_iff⟩
def s139:Sl:=⟨139,rd8 N16.g11,wr8 N16.w11,rd8_eq (lt16 11) N16.g11_iff,wr8_eq (lt16 11) N16.w11_iff⟩
def s140:Sl:=⟨140,rd8 N16.g12,wr8 N16.w12,rd8_eq (lt16 12) N16.g12_iff,wr8_eq (lt16 12) N16.w12_iff⟩
def s141:Sl:=⟨141,rd8 N16.g13,wr8 N16.w13,rd8_eq (lt16 13) N16.g13_iff,wr8_eq (lt16 13) N16.w13_iff⟩
def s142:Sl:=⟨142,rd8 N16.g14,wr8 N16.w14,rd8_eq (lt16 14) N16.g14_iff,wr8_eq (lt16 14) N16.w14_iff⟩
def s143:Sl:=⟨143,rd8 N16.g15,wr8 N16.w15,rd8_eq (lt16 15) N16.g15_iff,wr8_eq (lt16 15) N16.w15_iff⟩
def s144:Sl:=⟨144,rd9 N16.g0,wr9 N16.w0,rd9_eq (lt16 0) N16.g0_iff,wr9_eq (lt16 0) N16.w0_iff⟩
def s145:Sl:=⟨145,rd9 N16.g1,wr9 N16.w1,rd9_eq (lt16 1) N16.g1_iff,wr9_eq (lt16 1) N16.w1_iff⟩
def s146:Sl:=⟨146,rd9 N16.g2,wr9 N16.w2,rd9_eq (lt16 2) N16.g2_iff,wr9_eq (lt16 2) N16.w2_iff⟩
def s147:Sl:=⟨147,rd9 N16.g3,wr9 N16.w3,rd9_eq (lt16 3) N16.g3_iff,wr9_eq (lt16 3) N16.w3_iff⟩
def s148:Sl:=⟨148,rd9 N16.g4,wr9 N16.w4,rd9_eq (lt16 4) N16.g4_iff,wr9_eq (lt16 4) N16.w4_iff⟩
def s149:Sl:=⟨149,rd9 N16.g5,wr9 N16.w5,rd9_eq (lt16 5) N16.g5_iff,wr9_eq (lt16 5) N16.w5_iff⟩
def s150:Sl:=⟨150,rd9 N16.g6,wr9 N16.w6,rd9_eq (lt16 6) N16.g6_iff,wr9_eq (lt16 6) N16.w6_iff⟩
def s151:Sl:=⟨151,rd9 N16.g7,wr9 N16.w7,rd9_eq (lt16 7) N16.g7_iff,wr9_eq (lt16 7) N16.w7_iff⟩
def s152:Sl:=⟨152,rd9 N16.g8,wr9 N16.w8,rd9_eq (lt16 8) N16.g8_iff,wr9_eq (lt16 8) N16.w8_iff⟩
def s153:Sl:=⟨153,rd9 N16.g9,wr9 N16.w9,rd9_eq (lt16 9) N16.g9_iff,wr9_eq (lt16 9) N16.w9_iff⟩
def s154:Sl:=⟨154,rd9 N16.g10,wr9 N16.w10,rd9_eq (lt16 10) N16.g10_iff,wr9_eq (lt16 10) N16.w10_iff⟩
def s155:Sl:=⟨155,rd9 N16.g11,wr9 N16.w11,rd9_eq (lt16 11) N16.g11_iff,wr9_eq (lt16 11) N16.w11_iff⟩
def s156:Sl:=⟨156,rd9 N16.g12,wr9 N16.w12,rd9_eq (lt16 12) N16.g12_iff,wr9_eq (lt16 12) N16.w12_iff⟩
def s157:Sl:=⟨157,rd9 N16.g13,wr9 N16.w13,rd9_eq (lt16 13) N16.g13_iff,wr9_eq (lt16 13) N16.w13_iff⟩
def s158:Sl:=⟨158,rd9 N16.g14,wr9 N16.w14,rd9_eq (lt16 14) N16.g14_iff,wr9_eq (lt16 14) N16.w14_iff⟩
def s159:Sl:=⟨159,rd9 N16.g15,wr9 N16.w15,rd9_eq (lt16 15) N16.g15_iff,wr9_eq (lt16 15) N16.w15_iff⟩
def s160:Sl:=⟨160,rd10 N16.g0,wr10 N16.w0,rd10_eq (lt16 0) N16.g0_iff,wr10_eq (lt16 0) N16.w0_iff⟩
def s161:Sl:=⟨161,rd10 N16.g1,wr10 N16.w1,rd10_eq (lt16 1) N16.g1_iff,wr10_eq (lt16 1) N16.w1_iff⟩
def s162:Sl:=⟨162,rd10 N16.g2,wr10 N16.w2,rd10_eq (lt16 2) N16.g2_iff,wr10_eq (lt16 2) N16.w2_iff⟩
def s163:Sl:=⟨163,rd10 N16.g3,wr10 N16.w3,rd10_eq (lt16 3) N16.g3_iff,wr10_eq (lt16 3) N16.w3_iff⟩
def s164:Sl:=⟨164,rd10 N16.g4,wr10 N16.w4,rd10_eq (lt16 4) N16.g4_iff,wr10_eq (lt16 4) N16.w4_iff⟩
def s165:Sl:=⟨165,rd10 N16.g5,wr10 N16.w5,rd10_eq (lt16 5) N16.g5_iff,wr10_eq (lt16 5) N16.w5_iff⟩
def s166:Sl:=⟨166,rd10 N16.g6,wr10 N16.w6,rd10_eq (lt16 6) N16.g6_iff,wr10_eq (lt16 6) N16.w6_iff⟩
def s167:Sl:=⟨167,rd10 N16.g7,wr10 N16.w7,rd10_eq (lt16 7) N16.g7_iff,wr10_eq (lt16 7) N16.w7_iff⟩
def s168:Sl:=⟨168,rd10 N16.g8,wr10 N16.w8,rd10_eq (lt16 8) N16.g8_iff,wr10_eq (lt16 8) N16.w8_iff⟩
def s169:Sl:=⟨169,rd10 N16.g9,wr10 N16.w9,rd10_eq (lt16 9) N16.g9_iff,wr10_eq (lt16 9) N16.w9_iff⟩
def s170:Sl:=⟨170,rd10 N16.g10,wr10 N16.w10,rd10_eq (lt16 10) N16.g10_iff,wr10_eq (lt16 10) N16.w10_iff⟩
def s171:Sl:=⟨171,rd10 N16.g11,wr10 N16.w11,rd10_eq (lt16 11) N16.g11_iff,wr10_eq (lt16 11) N16.w11_iff⟩
def s172:Sl:=⟨172,rd10 N16.g12,wr10 N16.w12,rd10_eq (lt16 12) N16.g12_iff,wr10_eq (lt16 12) N16.w12_iff⟩
def s173:Sl:=⟨173,rd10 N16.g13,wr10 N16.w13,rd10_eq (lt16 13) N16.g13_iff,wr10_eq (lt16 13) N16.w13_iff⟩
def s174:Sl:=⟨174,rd10 N16.g14,wr10 N16.w14,rd10_eq (lt16 14) N16.g14_iff,wr10_eq (lt16 14) N16.w14_iff⟩
def s175:Sl:=⟨175,rd10 N16.g15,wr10 N16.w15,rd10_eq (lt16 15) N16.g15_iff,wr10_eq (lt16 15) N16.w15_iff⟩
def s176:Sl:=⟨176,rd11 N16.g0,wr11 N16.w0,rd11_eq (lt16 0) N16.g0_iff,wr11_eq (lt16 0) N16.w0_iff⟩
def s177:Sl:=⟨177,rd11 N16.g1,wr11 N16.w1,rd11_eq (lt16 1) N16.g1_iff,wr11_eq (lt16 1) N16.w1_iff⟩
def s178:Sl:=⟨178,rd11 N16.g2,wr11 N16.w2,rd11_eq (lt16 2) N16.g2_iff,wr11_eq (lt16 2) N16.w2_iff⟩
def s179:Sl:=⟨179,rd11 N16.g3,wr11 N16.w3,rd11_eq (lt16 3) N16.g3_iff,wr11_eq (lt16 3) N16.w3_iff⟩
def s180:Sl:=⟨180,rd11 N16.g4,wr11 N16.w4,rd11_eq (lt16 4) N16.g4_iff,wr11_eq (lt16 4) N16.w4_iff⟩
def s181:Sl:=⟨181,rd11 N16.g5,wr11 N16.w5,rd11_eq (lt16 5) N16.g5_iff,wr11_eq (lt16 5) N16.w5_iff⟩
def s182:Sl:=⟨182,rd11 N16.g6,wr11 N16.w6,rd11_eq (lt16 6) N16.g6_iff,wr11_eq (lt16 6) N16.w6_iff⟩
def s183:Sl:=⟨183,rd11 N16.g7,wr11 N16.w7,rd11_eq (lt16 7) N16.g7_iff,wr11_eq (lt16 7) N16.w7_iff⟩
def s184:Sl:=⟨184,rd11 N16.g8,wr11 N16.w8,rd11_eq (lt16 8) N16.g8_iff,wr11_eq (lt16 8) N16.w8_iff⟩
def s185:Sl:=⟨185,rd11 N16.g9,wr11 N16.w9,rd11_eq (lt16 9) N16.g9_iff,wr11_eq (lt16 9) N16.w9_iff⟩
def s186:Sl:=⟨186,rd11 N16.g10,wr11 N16.w10,rd11_eq (lt16 10) N16.g10_iff,wr11_eq (lt16 10) N16.w10_iff⟩
def s187:Sl:=⟨187,rd11 N16.g11,wr11 N16.w11,rd11_eq (lt16 11) N16.g11_iff,wr11_eq (lt16 11) N16.w11_iff⟩
def s188:Sl:=⟨188,rd11 N16.g12,wr11 N16.w12,rd11_eq (lt16 12) N16.g12_iff,wr11_eq (lt16 12) N16.w12_iff⟩
def s189:Sl:=⟨189,rd11 N16.g13,wr11 N16.w13,rd11_eq (lt16 13) N16.g13_iff,wr11_eq (lt16 13) N16.w13_iff⟩
def s190:Sl:=⟨190,rd11 N16.g14,wr11 N16.w14,rd11_eq (lt16 14) N16.g14_iff,wr11_eq (lt16 14) N16.w14_iff⟩
def s191:Sl:=⟨191,rd11 N16.g15,wr11 N16.w15,rd11_eq (lt16 15) N16.g15_iff,wr11_eq (lt16 15) N16.w15_iff⟩
def s192:Sl:=⟨192,rd12 N16.g0,wr12 N16.w0,rd12_eq (lt16 0) N16.g0_iff,wr12_eq (lt16 0) N16.w0_iff⟩
def s193:Sl:=⟨193,rd12 N16.g1,wr12 N16.w1,rd12_eq (lt16 1) N16.g1_iff,wr12_eq (lt16 1) N16.w1_iff⟩
def s194:Sl:=⟨194,rd12 N16.g2,wr12 N16.w2,rd12_eq (lt16 2) N16.g2_iff,wr12_eq (lt16 2) N16.w2_iff⟩
def s195:Sl:=⟨195,rd12 N16.g3,wr12 N16.w3,rd12_eq (lt16 3) N16.g3_iff,wr12_eq (lt16 3) N16.w3_iff⟩
def s196:Sl:=⟨196,rd12 N16.g4,wr12 N16.w4,rd12_eq (lt16 4) N16.g4_iff,wr12_eq (lt16 4) N16.w4_iff⟩
def s197:Sl:=⟨197,rd12 N16.g5,wr12 N16.w5,rd12_eq (lt16 5) N16.g5_iff,wr12_eq (lt16 5) N16.w5_iff⟩
def s198:Sl:=⟨198,rd12 N16.g6,wr12 N16.w6,rd12_eq (lt16 6) N16.g6_iff,wr12_eq (lt16 6) N16.w6_iff⟩
def s199:Sl:=⟨199,rd12 N16.g7,wr12 N16.w7,rd12_eq (lt16 7) N16.g7_iff,wr12_eq (lt16 7) N16.w7_iff⟩
def s200:Sl:=⟨200,rd12 N16.g8,wr12 N16.w8,rd12_eq (lt16 8) N16.g8_iff,wr12_eq (lt16 8) N16.w8_iff⟩
def s201:Sl:=⟨201,rd12 N16.g9,wr12 N16.w9,rd12_eq (lt16 9) N16.g9_iff,wr12_eq (lt16 9) N16.w9_iff⟩
def s202:Sl:=⟨202,rd12 N16.g10,wr12 N16.w10,rd12_eq (lt16 10) N16.g10_iff,wr12_eq (lt16 10) N16.w10_iff⟩
def s203:Sl:=⟨203,rd12 N16.g11,wr12 N16.w11,rd12_eq (lt16 11) N16.g11_iff,wr12_eq (lt16 11) N16.w11_iff⟩
def s204:Sl:=⟨204,rd12 N16.g12,wr12 N16.w12,rd12_eq (lt16 12) N16.g12_iff,wr12_eq (lt16 12) N16.w12_iff⟩
def s205:Sl:=⟨205,rd12 N16.g13,wr12 N16.w13,rd12_eq (lt16 13) N16.g13_iff,wr12_eq (lt16 13) N16.w13_iff⟩
def s206:Sl:=⟨206,rd12 N16.g14,wr12 N16.w14,rd12_eq (lt16 14) N16.g14_iff,wr12_eq (lt16 14) N16.w14_iff⟩
def s207:Sl:=⟨207,rd12 N16.g15,wr12 N16.w15,rd12_eq (lt16 15) N16.g15_iff,wr12_eq (lt16 15) N16.w15_iff⟩
def s208:Sl:=⟨208,rd13 N16.g0,wr13 N16.w0,rd13_eq (lt16 0) N16.g0_iff,wr13_eq (lt16 0) N16.w0_iff⟩
def s209:Sl:=⟨209,rd13 N16.g1,wr13 N16.w1,rd13_eq (lt16 1) N16.g1_iff,wr13_eq (lt16 1) N16.w1_iff⟩
def s210:Sl:=⟨210,rd13 N16.g2,wr13 N16.w2,rd13_eq (lt16 2) N16.g2_iff,wr13_eq (lt16 2) N16.w2_iff⟩
def s211:Sl:=⟨211,rd13 N16.g3,wr13 N16.w3,rd13_eq (lt16 3) N16.g3_iff,wr13_eq (lt16 3) N16.w3_iff⟩
def s212:Sl:=⟨212,rd13 N16.g4,wr13 N16.w4,rd13_eq (lt16 4) N16.g4_iff,wr13_eq (lt16 4) N16.w4_iff⟩
def s213:Sl:=⟨213,rd13 N16.g5,wr13 N16.w5,rd13_eq (lt16 5) N16.g5_iff,wr13_eq (lt16 5) N16.w5_iff⟩
def s214:Sl:=⟨214,rd13 N16.g6,wr13 N16.w6,rd13_eq (lt16 6) N16.g6_iff,wr13_eq (lt16 6) N16.w6_iff⟩
def s215:Sl:=⟨215,rd13 N16.g7,wr13 N16.w7,rd13_eq (lt16 7) N16.g7_iff,wr13_eq (lt16 7) N16.w7_iff⟩
def s216:Sl:=⟨216,rd13 N16.g8,wr13 N16.w8,rd13_eq (lt16 8) N16.g8_iff,wr13_eq (lt16 8) N16.w8_iff⟩
def s217:Sl:=⟨217,rd13 N16.g9,wr13 N16.w9,rd13_eq (lt16 9) N16.g9_iff,wr13_eq (lt16 9) N16.w9_iff⟩
def s218:Sl:=⟨218,rd13 N16.g10,wr13 N16.w10,rd13_eq (lt16 10) N16.g10_iff,wr13_eq (lt16 10) N16.w10_iff⟩
def s219:Sl:=⟨219,rd13 N16.g11,wr13 N16.w11,rd13_eq (lt16 11) N16.g11_iff,wr13_eq (lt16 11) N16.w11_iff⟩
def s220:Sl:=⟨220,rd13 N16.g12,wr13 N16.w12,rd13_eq (lt16 12) N16.g12_iff,wr13_eq (lt16 12) N16.w12_iff⟩
def s221:Sl:=⟨221,rd13 N16.g13,wr13 N16.w13,rd13_eq (lt16 13) N16.g13_iff,wr13_eq (lt16 13) N16.w13_iff⟩
def s222:Sl:=⟨222,rd13 N16.g14,wr13 N16.w14,rd13_eq (lt16 14) N16.g14_iff,wr13_eq (lt16 14) N16.w14_iff⟩
def s223:Sl:=⟨223,rd13 N16.g15,wr13 N16.w15,rd13_eq (lt16 15) N16.g15_iff,wr13_eq (lt16 15) N16.w15_iff⟩
def s224:Sl:=⟨224,rd14 N16.g0,wr14 N16.w0,rd14_eq (lt16 0) N16.g0_iff,wr14_eq (lt16 0) N16.w0_iff⟩
def s225:Sl:=⟨225,rd14 N16.g1,wr14 N16.w1,rd14_eq (lt16 1) N16.g1_iff,wr14_eq (lt16 1) N16.w1_iff⟩
def s226:Sl:=⟨226,rd14 N16.g2,wr14 N16.w2,rd14_eq (lt16 2) N16.g2_iff,wr14_eq (lt16 2) N16.w2_iff⟩
def s227:Sl:=⟨227,rd14 N16.g3,wr14 N16.w3,rd14_eq (lt16 3) N16.g3_iff,wr14_eq (lt16 3) N16.w3_iff⟩
def s228:Sl:=⟨228,rd14 N16.g4,wr14 N16.w4,rd14_eq (lt16 4) N16.g4_iff,wr14_eq (lt16 4) N16.w4_iff⟩
def s229:Sl:=⟨229,rd14 N16.g5,wr14 N16.w5,rd14_eq (lt16 5) N16.g5_iff,wr14_eq (lt16 5) N16.w5_iff⟩
def s230:Sl:=⟨230,rd14 N16.g6,wr14 N16.w6,rd14_eq (lt16 6) N16.g6_iff,wr14_eq (lt16 6) N16.w6_iff⟩
def s231:Sl:=⟨231,rd14 N16.g7,wr14 N16.w7,rd14_eq (lt16 7) N16.g7_iff,wr14_eq (lt16 7) N16.w7_iff⟩
def s232:Sl:=⟨232,rd14 N16.g8,wr14 N16.w8,rd14_eq (lt16 8) N16.g8_iff,wr14_eq (lt16 8) N16.w8_iff⟩
def s233:Sl:=⟨233,rd14 N16.g9,wr14 N16.w9,rd14_eq (lt16 9) N16.g9_iff,wr14_eq (lt16 9) N16.w9_iff⟩
def s234:Sl:=⟨234,rd14 N16.g10,wr14 N16.w10,rd14_eq (lt16 10) N16.g10_iff,wr14_eq (lt16 10) N16.w10_iff⟩
def s235:Sl:=⟨235,rd14 N16.g11,wr14 N16.w11,rd14_eq (lt16 11) N16.g11_iff,wr14_eq (lt16 11) N16.w11_iff⟩
def s236:Sl:=⟨236,rd14 N16.g12,wr14 N16.w12,rd14_eq (lt16 12) N16.g12_iff,wr14_eq (lt16 12) N16.w12_iff⟩
def s237:Sl:=⟨237,rd14 N16.g13,wr14 N16.w13,rd14_eq (lt16 13) N16.g13_iff,wr14_eq (lt16 13) N16.w13_iff⟩
def s238:Sl:=⟨238,rd14 N16.g14,wr14 N16.w14,rd14_eq (lt16 14) N16.g14_iff,wr14_eq (lt16 14) N16.w14_iff⟩
def s239:Sl:=⟨239,rd14 N16.g15,wr14 N16.w15,rd14_eq (lt16 15) N16.g15_iff,wr14_eq (lt16 15) N16.w15_iff⟩
def s240:Sl:=⟨240,rd15 N16.g0,wr15 N16.w0,rd15_eq (lt16 0) N16.g0_iff,wr15_eq (lt16 0) N16.w0_iff⟩
def s241:Sl:=⟨241,rd15 N16.g1,wr15 N16.w1,rd15_eq (lt16 1) N16.g1_iff,wr15_eq (lt16 1) N16.w1_iff⟩
def s242:Sl:=⟨242,rd15 N16.g2,wr15 N16.w2,rd15_eq (lt16 2) N16.g2_iff,wr15_eq (lt16 2) N16.w2_iff⟩
def s243:Sl:=⟨243,rd15 N16.g3,wr15 N16.w3,rd15_eq (lt16 3) N16.g3_iff,wr15_eq (lt16 3) N16.w3_iff⟩
def s244:Sl:=⟨244,rd15 N16.g4,wr15 N16.w4,rd15_eq (lt16 4) N16.g4_iff,wr15_eq (lt16 4) N16.w4_iff⟩
def s245:Sl:=⟨245,rd15 N16.g5,wr15 N16.w5,rd15_eq (lt16 5) N16.g5_iff,wr15_eq (lt16 5) N16.w5_iff⟩
def s246:Sl:=⟨246,rd15 N16.g6,wr15 N16.w6,rd15_eq (lt16 6) N16.g6_iff,wr15_eq (lt16 6) N16.w6_iff⟩
def s247:Sl:=⟨247,rd15 N16.g7,wr15 N16.w7,rd15_eq (lt16 7) N16.g7_iff,wr15_eq (lt16 7) N16.w7_iff⟩
def s248:Sl:=⟨248,rd15 N16.g8,wr15 N16.w8,rd15_eq (lt16 8) N16.g8_iff,wr15_eq (lt16 8) N16.w8_iff⟩
def s249:Sl:=⟨249,rd15 N16.g9,wr15 N16.w9,rd15_eq (lt16 9) N16.g9_iff,wr15_eq (lt16 9) N16.w9_iff⟩
def s250:Sl:=⟨250,rd15 N16.g10,wr15 N16.w10,rd15_eq (lt16 10) N16.g10_iff,wr15_eq (lt16 10) N16.w10_iff⟩
def s251:Sl:=⟨251,rd15 N16.g11,wr15 N16.w11,rd15_eq (lt16 11) N16.g11_iff,wr15_eq (lt16 11) N16.w11_iff⟩
def s252:Sl:=⟨252,rd15 N16.g12,wr15 N16.w12,rd15_eq (lt16 12) N16.g12_iff,wr15_eq (lt16 12) N16.w12_iff⟩
def s253:Sl:=⟨253,rd15 N16.g13,wr15 N16.w13,rd15_eq (lt16 13) N16.g13_iff,wr15_eq (lt16 13) N16.w13_iff⟩
def s254:Sl:=⟨254,rd15 N16.g14,wr15 N16.w14,rd15_eq (lt16 14) N16.g14_iff,wr15_eq (lt16 14) N16.w14_iff⟩
def s255:Sl:=⟨255,rd15 N16.g15,wr15 N16.w15,rd15_eq (lt16 15) N16.g15_iff,wr15_eq (lt16 15) N16.w15_iff⟩
def rmMore (p:Pt) (c:AV→Prop) (a0 a1 a2 a3 a4 a5 a6 a7 a8 a9 a10 a11 a12 a13 a14 a15:Row) (m:T AV):Prop:=m.getK p c
def rdMore (n:Nat) (s:S) (c:AV→Prop):Prop:=Bool.rec (motive:=fun _=>Prop) (S.rec (motive:=fun _=>Prop) (rmMore (Pt.ofNat n) c) s) (S.getS n s c) (Nat.blt n 256)
def wmMore (p:Pt) (v:AV) (c:S→Prop) (a0 a1 a2 a3 a4 a5 a6 a7 a8 a9 a10 a11 a12 a13 a14 a15:Row) (m:T AV):Prop:=m.setK v p fun m=>c (.mk a0 a1 a2 a3 a4 a5 a6 a7 a8 a9 a10 a11 a12 a13 a14 a15 m)
def wrMore (n:Nat) (v:AV) (s:S) (c:S→Prop):Prop:=Bool.rec (motive:=fun _=>Prop) (S.rec (motive:=fun _=>Prop) (wmMore (Pt.ofNat n) v c) s) (S.setS n v s c) (Nat.blt n 256)
theorem blt_no {n:Nat} (h:Nat.blt n 256=false):¬ n<256:=fun e=>by
 have:Nat.blt n 256=true:=by simpa using e
 rw [h] at this; cases this
theorem rdMore_eq (n:Nat):rdMore n=S.getS n:=by
 funext s c
 unfold rdMore
 cases h:Nat.blt n 256 with
 | true=>rfl
 | false =>
  have h':=blt_no h
  cases s with
  | mk a0 a1 a2 a3 a4 a5 a6 a7 a8 a9 a10 a11 a12 a13 a14 a15 m =>
  apply propext
  show m.getK (Pt.ofNat n) c↔_
  rw [T.getK_iff]
  simp only [S.getS,S.at',h',if_false]
  exact Iff.rfl
theorem wrMore_eq (n:Nat):wrMore n=S.setS n:=by
 funext v s c
 unfold wrMore
 cases h:Nat.blt n 256 with
 | true=>rfl
 | false =>
  have h':=blt_no h
  cases s with
  | mk a0 a1 a2 a3 a4 a5 a6 a7 a8 a9 a10 a11 a12 a13 a14 a15 m =>
  apply propext
  show (m.setK v (Pt.ofNat n) fun m=>c (.mk a0 a1 a2 a3 a4 a5 a6 a7 a8 a9 a10 a11 a12 a13 a14 a15 m))↔_
  rw [T.setK_iff]
  simp only [S.setS,S.put,h',if_false]
  exact Iff.rfl
def slMore (n:Nat):Sl:=⟨n,rdMore n,wrMore n,rdMore_eq n,wrMore_eq n⟩
def slT15:List Sl:=s240 :: s241 :: s242 :: s243 :: s244 :: s245 :: s246 :: s247 :: s248 :: s249 :: s250 :: s251 :: s252 :: s253 :: s254 :: s255 :: []
def slT14:List Sl:=s224 :: s225 :: s226 :: s227 :: s228 :: s229 :: s230 :: s231 :: s232 :: s233 :: s234 :: s235 :: s236 :: s237 :: s238 :: s239 :: slT15
def slT13:List Sl:=s208 :: s209 :: s210 :: s211 :: s212 :: s213 :: s214 :: s215 :: s216 :: s217 :: s218 :: s219 :: s220 :: s221 :: s222 :: s223 :: slT14
def slT12:List Sl:=s192 :: s193 :: s194 :: s195 :: s196 :: s197 :: s198 :: s199 :: s200 :: s201 :: s202 :: s203 :: s204 :: s205 :: s206 :: s207 :: slT13
def slT11:List Sl:=s176 :: s177 :: s178 :: s179 :: s180 :: s181 :: s182 :: s183 :: s184 :: s185 :: s186 :: s187 :: s188 :: s189 :: s190 :: s191 :: slT12
def slT10:List Sl:=s160 :: s161 :: s162 :: s163 :: s164 :: s165 :: s166 :: s167 :: s168 :: s169 :: s170 :: s171 :: s172 :: s173 :: s174 :: s175 :: slT11
def slT9:List Sl:=s144 :: s145 :: s146 :: s147 :: s148 :: s149 :: s150 :: s151 :: s152 :: s153 :: s154 :: s155 :: s156 :: s157 :: s158 :: s159 :: slT10
def slT8:List Sl:=s128 :: s129 :: s130 :: s131 :: s132 :: s133 :: s134 :: s135 :: s136 :: s137 :: s138 :: s139 :: s140 :: s141 :: s142 :: s143 :: slT9
def slT7:List Sl:=s112 :: s113 :: s114 :: s115 :: s116 :: s117 :: s118 :: s119 :: s120 :: s121 :: s122 :: s123 :: s124 :: s125 :: s126 :: s127 :: slT8
def slT6:List Sl:=s96 :: s97 :: s98 :: s99 :: s100 :: s101 :: s102 :: s103 :: s104 :: s105 :: s106 :: s107 :: s108 :: s109 :: s110 :: s111 :: slT7
def slT5:List Sl:=s80 :: s81 :: s82 :: s83 :: s84 :: s85 :: s86 :: s87 :: s88 :: s89 :: s90 :: s91 :: s92 :: s93 :: s94 :: s95 :: slT6
def slT4:List Sl:=s64 :: s65 :: s66 :: s67 :: s68 :: s69 :: s70 :: s71 :: s72 :: s73 :: s74 :: s75 :: s76 :: s77 :: s78 :: s79 :: slT5
def slT3:List Sl:=s48 :: s49 :: s50 :: s51 :: s52 :: s53 :: s54 :: s55 :: s56 :: s57 :: s58 :: s59 :: s60 :: s61 :: s62 :: s63 :: slT4
def slT2:List Sl:=s32 :: s33 :: s34 :: s35 :: s36 :: s37 :: s38 :: s39 :: s40 :: s41 :: s42 :: s43 :: s44 :: s45 :: s46 :: s47 :: slT3
def slT1:List Sl:=s16 :: s17 :: s18 :: s19 :: s20 :: s21 :: s22 :: s23 :: s24 :: s25 :: s26 :: s27 :: s28 :: s29 :: s30 :: s31 :: slT2
def slT0:List Sl:=s0 :: s1 :: s2 :: s3 :: s4 :: s5 :: s6 :: s7 :: s8 :: s9 :: s10 :: s11 :: s12 :: s13 :: s14 :: s15 :: slT1
abbrev slTab:List Sl:=slT0
def Sl.ofNat (t:Nat):Sl:=match slTab[t]? with
 | some s=>s
 | none=>slMore t
theorem slTab_n:slTab.map Sl.n=List.range 256:=by decide +kernel
theorem Sl.n_ofNat (t:Nat):(Sl.ofNat t).n=t:=by
 unfold Sl.ofNat
 split
 ·rename_i s hs
  have h1:(slTab.map Sl.n)[t]?=some s.n:=by rw [List.getElem?_map,hs]; rfl
  rw [slTab_n] at h1
  have h2:=List.getElem?_eq_some_iff.1 h1
  obtain ⟨h3,h4⟩:=h2
  simpa using h4.symm
 ·rfl
def Sl.toNat (p:Sl):Nat:=p.n
theorem Sl.toNat_ofNat (n:Nat):(Sl.ofNat n).toNat=n:=Sl.n_ofNat n
theorem Sl.inj {p q:Sl} (h:p.toNat=q.toNat):p=q:=Sl.ext' h
def eqS (p q:Sl):Bool:=Nat.beq p.n q.n
theorem eqS_spec {p q:Sl} (h:eqS p q=true):p=q:=Sl.ext' (Nat.eq_of_beq_eq_true h)
theorem eqS_refl (p:Sl):eqS p p=true:=by simp [eqS]
theorem eqS_ne {p q:Sl} (h:p≠q):eqS p q=false:=by
 cases e:eqS p q with
 | false=>rfl
 | true=>exact absurd (eqS_spec e) h
namespace S
def find (s:S) (p:Sl):Option AV:=s.at' p.n
def set (x:AV) (s:S) (p:Sl):S:=s.put p.n (some x)
def del (s:S) (p:Sl):S:=s.put p.n none
def getK (s:S) (p:Sl) (c:AV→Prop):Prop:=p.rd s c
def setK (x:AV) (s:S) (p:Sl) (c:S→Prop):Prop:=p.wr x s c
theorem find_l (k:Sl):find l k=none:=at_l k.n
theorem find_set (x:AV) (t:S) (k:Sl):find (set x t k) k=some x:=at_put t k.n (some x)
theorem find_set_ne (x:AV) (t:S) (k j:Sl) (h:j≠k):find (set x t k) j=find t j:=at_put_ne t (some x) (fun e=>h (Sl.ext' e))
theorem find_del (t:S) (k:Sl):find (del t k) k=none:=at_put t k.n none
theorem find_del_ne (t:S) (k j:Sl) (h:j≠k):find (del t k) j=find t j:=at_put_ne t none (fun e=>h (Sl.ext' e))
theorem getK_iff (c:AV→Prop) (t:S) (k:Sl):getK t k c↔∃ v,find t k=some v∧c v:=by
 unfold getK; rw [k.rd_eq]; exact Iff.rfl
theorem setK_iff (x:AV) (t:S) (k:Sl) (c:S→Prop):setK x t k c↔c (set x t k):=by
 unfold setK; rw [k.wr_eq]; exact Iff.rfl
end S
end Go.Proofs.YtidggaoacldgkaaGreatDoor.X
