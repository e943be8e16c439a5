/- An executor for closed calls, 43: strings.Fields of the language's words, Contains, IndexByte, Clone, told. -/
import Derived.Test.YtoijcpnfohjciaaGreatDoorXTO
import Derived.Test.YtoijcpnfohjciaaGreatDoorXGW
import Derived.WalkKit
import Derived.WalkMore
namespace Go.Proofs.YtoijcpnfohjciaaGreatDoor.X
open Go.RowKit Go.Lib
theorem ofNat_inj8 {a b:Nat} (ha:a<256) (hb:b<256) (h:UInt8.ofNat a=UInt8.ofNat b):a=b:=by
 have:=congrArg UInt8.toNat h
 simp only [UInt8.toNat_ofNat'] at this
 omega
theorem beq8 {a b:Nat} (ha:a<256) (hb:b<256):(UInt8.ofNat a == UInt8.ofNat b)=Nat.beq a b:=by
 cases h:Nat.beq a b with
 | true=>obtain rfl:=Nat.eq_of_beq_eq_true h; simp
 | false =>
  have:¬ UInt8.ofNat a=UInt8.ofNat b:=fun e=>by obtain rfl:=ofNat_inj8 ha hb e; rw [Nat.beq_refl] at h; cases h
  simpa using this
theorem bytes_data (s:List Nat):(bytesOf s).data.toList=s.map UInt8.ofNat:=by simp [bytesOf]
def preN:List Nat→List Nat→Bool
 | [],_=>true
 | _ :: _,[]=>false
 | a :: l,b :: m=>Nat.beq a b&&preN l m
theorem preN_spec:∀ {t s:List Nat},(∀ b ∈ t,b<256)→(∀ b ∈ s,b<256)→(t.map UInt8.ofNat).isPrefixOf (s.map UInt8.ofNat)=preN t s
 | [],s,_,_=>by simp [preN]
 | a :: l,[],_,_=>by simp [preN]
 | a :: l,b :: m,h1,h2=>by
  simp only [List.map_cons,List.isPrefixOf,preN]
  rw [beq8 (h1 a (List.mem_cons_self ..)) (h2 b (List.mem_cons_self ..)),preN_spec (fun c hc=>h1 c (List.mem_cons_of_mem _ hc)) (fun c hc=>h2 c (List.mem_cons_of_mem _ hc))]
def hasN (t:List Nat):List Nat→Bool
 | []=>preN t []
 | a :: l=>preN t (a :: l)||hasN t l
theorem hasN_spec {t:List Nat} (ht:∀ b ∈ t,b<256):∀ {s:List Nat},(∀ b ∈ s,b<256)→Lib.contains (s.map UInt8.ofNat) (t.map UInt8.ofNat)=hasN t s
 | [],_=>by
  cases t with
  | nil=>simp [Lib.contains,Lib.index,hasN,preN]
  | cons a l=>simp [Lib.contains,Lib.index,hasN,preN]
 | b :: m,h=>by
  have ih:=hasN_spec ht (fun c hc=>h c (List.mem_cons_of_mem _ hc))
  have h0:=preN_spec ht h
  have hge:=Lib.index_ge (m.map UInt8.ofNat) (t.map UInt8.ofNat)
  have e:Lib.index ((b :: m).map UInt8.ofNat) (t.map UInt8.ofNat)=if preN t (b :: m)=true then 0 else if Lib.index (m.map UInt8.ofNat) (t.map UInt8.ofNat) == -1 then -1 else Lib.index (m.map UInt8.ofNat) (t.map UInt8.ofNat)+1:=by
   rw [← h0]; simp only [List.map_cons,Lib.index]
  unfold Lib.contains at ih ⊢
  rw [show hasN t (b :: m)=(preN t (b :: m)||hasN t m) from rfl,← ih]
  simp only [e]
  cases preN t (b :: m) with
  | true=>simp
  | false =>
   simp only [Bool.false_eq_true,if_false,Bool.false_or]
   by_cases e:Lib.index (m.map UInt8.ofNat) (t.map UInt8.ofNat)=-1
   ·simp [e]
   ·simp only [beq_iff_eq,e,if_false]
    refine decide_eq_decide.2 ⟨fun _=>?_,fun _=>?_⟩ <;> omega
def idxN (c:Nat):List Nat→Option Nat
 | []=>none
 | a :: l=>match Nat.beq a c with
  | true=>some 0
  | false=>match idxN c l with
   | some n=>some (n+1)
   | none=>none
def idxI:Option Nat→Int
 | some n=>.ofNat n
 | none=>.negSucc 0
theorem idxN_spec {c:Nat} (hc:c<256):∀ {s:List Nat},(∀ b ∈ s,b<256)→Lib.indexByte (s.map UInt8.ofNat) (UInt8.ofNat c)=idxI (idxN c s)
 | [],_=>rfl
 | b :: m,h=>by
  have ih:=idxN_spec hc (fun c hc=>h c (List.mem_cons_of_mem _ hc))
  simp only [List.map_cons,Lib.indexByte,idxN]
  rw [beq8 (h b (List.mem_cons_self ..)) hc,ih]
  cases Nat.beq b c with
  | true=>rfl
  | false =>
   cases idxN c m with
   | none=>rfl
   | some n=>simp [idxI]
def containsF (x y:AV) (h:T AO) (nx:Pt) (K:AV→T AO→Pt→Prop):Prop:=match x,y with
 | .str s,.str t=>Bool.rec (motive:=fun _=>Prop) False (forceB (hasN t s) fun b=>K (.bool b) h nx) (Nat.ble s.length 1000000)
 | _,_=>False
def indexByteF (x y:AV) (h:T AO) (nx:Pt) (K:AV→T AO→Pt→Prop):Prop:=match x,y with
 | .str s,.int .u8 (.ofNat c)=>Bool.rec (motive:=fun _=>Prop) False (forceI (idxI (idxN c s)) fun i=>K (.int .i64 i) h nx) (Nat.blt c 256)
 | _,_=>False
def prefixF (x y:AV) (h:T AO) (nx:Pt) (K:AV→T AO→Pt→Prop):Prop:=match x,y with
 | .str s,.str t=>forceB (preN t s) fun b=>K (.bool b) h nx
 | _,_=>False
def cloneF (x:AV) (h:T AO) (nx:Pt) (K:AV→T AO→Pt→Prop):Prop:=match x with
 | .str s=>Bool.rec (motive:=fun _=>Prop) False (K (.str s) h nx) (Nat.ble s.length 1000000)
 | _=>False
def wordsT:List Nat:=[109,111,100,117,108,101,32,119,104,101,114,101,32,100,97,116,97,32,108,101,116,32,105,110,32,111,112,101,110,32,117,115,105,110,103,32,104,105,100,105,110,103,32,114,101,110,97,109,105,110,103,32,116,111,32,112,114,105,118,97,116,101,32,112,111,115,116,117,108,97,116,101,32,105,110,102,105,120,32,105,110,102,105,120,108,32,105,110,102,105,120,114,32,83,101,116,32,102,115,116,32,115,110,100,32,58,32,61,32,45,62,32,92,32,42,42,32,95]
def wordsN:List (List Nat):=[[109,111,100,117,108,101],[119,104,101,114,101],[100,97,116,97],[108,101,116],[105,110],[111,112,101,110],[117,115,105,110,103],[104,105,100,105,110,103],[114,101,110,97,109,105,110,103],[116,111],[112,114,105,118,97,116,101],[112,111,115,116,117,108,97,116,101],[105,110,102,105,120],[105,110,102,105,120,108],[105,110,102,105,120,114],[83,101,116],[102,115,116],[115,110,100],[58],[61],[45,62],[92],[42,42],[95]]
def wordsA:List AV:=[.str [109,111,100,117,108,101],.str [119,104,101,114,101],.str [100,97,116,97],.str [108,101,116],.str [105,110],.str [111,112,101,110],.str [117,115,105,110,103],.str [104,105,100,105,110,103],.str [114,101,110,97,109,105,110,103],.str [116,111],.str [112,114,105,118,97,116,101],.str [112,111,115,116,117,108,97,116,101],.str [105,110,102,105,120],.str [105,110,102,105,120,108],.str [105,110,102,105,120,114],.str [83,101,116],.str [102,115,116],.str [115,110,100],.str [58],.str [61],.str [45,62],.str [92],.str [42,42],.str [95]]
def fieldsF (x:AV) (h:T AO) (nx:Pt) (K:AV→T AO→Pt→Prop):Prop:=match x with
 | .str s=>Bool.rec (motive:=fun _=>Prop) False (h.setK (.cells wordsA 9) nx fun h=>succK nx fun nx'=>K (.sl nx 0 24 24 false) h nx') (eqN s wordsT)
 | _=>False
theorem contains_sem:FunSem Tryz.prog 145 (told2 containsF) :=
 told2_sem ⟨_,_,Tryz.func145,by kernel_rfl,rfl⟩ fun w0 w r h nx x y K R hG H hx hy hF hR=>by
  unfold containsF at hF
  split at hF
  ·rename_i s t
   obtain ⟨hb,hF⟩:=brec hF
   rw [forceB_iff] at hF
   have hl:=Nat.le_of_ble_eq_true hb
   simp only [okV] at hx hy
   obtain ⟨m,hm⟩:=hG.ml
   have hc:=Any.strings_Contains Tryz.containsL (bytesOf s) (bytesOf t) m w (by rw [bytes_size]; omega) hm
   rw [bytes_data,bytes_data,hasN_spec hy hx] at hc
   refine Calls.mono hc fun e w' he=>?_
   obtain ⟨rfl,rfl⟩:=he
   have:=hR (.bool (hasN t s)) h nx r w' hF H (.refl r h w') (by simp [okV])
   simpa [conc] using this
  ·exact hF.elim
theorem prefix_sem:FunSem Tryz.prog 116 (told2 prefixF) :=
 told2_sem ⟨_,_,Tryz.func116,by kernel_rfl,rfl⟩ fun w0 w r h nx x y K R hG H hx hy hF hR=>by
  unfold prefixF at hF
  split at hF
  ·rename_i s t
   rw [forceB_iff] at hF
   simp only [okV] at hx hy
   have hc:=Any.strings_HasPrefix Tryz.prefixL (bytesOf s) (bytesOf t) w
   unfold Lib.hasPrefix at hc
   rw [bytes_data,bytes_data,preN_spec hy hx] at hc
   refine Calls.mono hc fun e w' he=>?_
   obtain ⟨rfl,rfl⟩:=he
   have:=hR (.bool (preN t s)) h nx r w' hF H (.refl r h w') (by simp [okV])
   simpa [conc] using this
  ·exact hF.elim
theorem indexByte_sem:FunSem Tryz.prog 154 (told2 indexByteF) :=
 told2_sem ⟨_,_,Tryz.func154,by kernel_rfl,rfl⟩ fun w0 w r h nx x y K R hG H hx hy hF hR=>by
  unfold indexByteF at hF
  split at hF
  ·rename_i s c
   obtain ⟨hb,hF⟩:=brec hF
   rw [forceI_iff] at hF
   have hb:c<256:=by have hb:Nat.ble (c+1) 256=true:=hb; have:=Nat.le_of_ble_eq_true hb; omega
   simp only [okV] at hx
   have hc:=Any.strings_IndexByte Tryz.indexByteL (bytesOf s) (c:Int) w
   have ec:((c:Int).toNat.toUInt8)=UInt8.ofNat c:=by simp
   rw [bytes_data,ec,idxN_spec hb hx] at hc
   refine Calls.mono hc fun e w' he=>?_
   obtain ⟨rfl,rfl⟩:=he
   have:=hR (.int .i64 (idxI (idxN c s))) h nx r w' hF H (.refl r h w') (by simp [okV])
   simpa [conc] using this
  ·exact hF.elim
set_option maxRecDepth 100000 in
theorem clone_call (s:ByteArray) (w:World) (hs:s.size≤1000000):Calls Tryz.prog 159 #[.string s] w fun e w'=>e=.returned (.string s)∧Below w.heap.size w w':=by
 have hc:=Any.stringslite_Clone Tryz.cloneL s w (by omega)
 go_enter Tryz.func159,Tryz.ntmps159
 go_wp2_with (refine hc.mono ?_; rintro e w' ⟨rfl,hb⟩)
 go_ret
 exact ⟨rfl,hb⟩
theorem sclone_sem:FunSem Tryz.prog 159 (told1 cloneF) :=
 told1_sem ⟨_,_,Tryz.func159,by kernel_rfl,rfl⟩ fun w0 w r h nx x K R hG H hx hF hR=>by
  unfold cloneF at hF
  split at hF
  ·rename_i s
   obtain ⟨hb,hF⟩:=brec hF
   have hl:=Nat.le_of_ble_eq_true hb
   refine Calls.mono (clone_call (bytesOf s) w (by rw [bytes_size]; exact hl)) fun e w' he=>?_
   obtain ⟨rfl,hB⟩:=he
   obtain ⟨g1,g2⟩:=H.grew hB
   have:=hR (.str s) h nx r w' hF g1 g2 (by simpa [okV] using hx)
   simpa [conc] using this
  ·exact hF.elim
theorem hi9:(Tryz.prog.info? (Tryz.fieldsL_ren.t 9)).map (fun i=>(i.zero,i.size,i.bytes))=some (some (.string ByteArray.empty),1,16):=by kernel_rfl
theorem ascii_of (l:List UInt8) (h:l.all (fun b=>decide (b.toNat<128))=true) (j:Nat) (b:UInt8) (hj:l[j]?=some b):b.toNat<128:=by
 have:=List.all_eq_true.1 h b (List.mem_of_getElem? hj)
 simpa using this
set_option maxRecDepth 100000 in
theorem fields_call (w:World) (hG:GW w):Calls Tryz.prog 29 #[.string (bytesOf wordsT)] w fun e w'=>e=.returned (.slice (some ⟨w.heap.size,0,none⟩) 24 24)∧w'=w.alloc (.cells (concL ⟨fun _=>False,fun _=>False,fun _=>0,fun _=>0,fun _=>{ state:=.ready,pending:=none,fn:=0,tmps:=#[],params:=#[],assign:=.skip,body:=.skip,defers:=0 }⟩ wordsA).toArray 9):=by
 have hf:Lib.fields ((bytesOf wordsT).data.toList)=wordsN.map (·.map UInt8.ofNat):=by kernel_rfl
 have h:Calls Tryz.prog 29 #[.string (bytesOf wordsT)] w fun e w'=>e=.returned (.slice (some ⟨w.heap.size,0,none⟩) (Lib.fields (bytesOf wordsT).data.toList).length (Lib.fields (bytesOf wordsT).data.toList).length)∧w'=w.alloc (.cells ((Lib.fields (bytesOf wordsT).data.toList).map fun l=>Value.string ⟨l.toArray⟩).toArray 9) :=
  Any.strings_Fields_core Tryz.fieldsL hi9 (bytesOf wordsT) w (by decide +kernel) (fun j b h=>ascii_of _ (by decide +kernel) j b h) hG.sp
 rw [hf] at h
 exact h
theorem wordsA_conc (r r':Rho):concL r wordsA=concL r' wordsA:=rfl
theorem wordsA_ok (m:Pt→Prop):okL m wordsA:=by
 have h:∀ l:List (List Nat),(∀ s ∈ l,∀ b ∈ s,b<256)→okL m (l.map AV.str):=by
  intro l
  induction l with
  | nil=>intro _; simp [okL]
  | cons s l ih =>
   intro h
   simp only [List.map_cons,okL,okV]
   exact ⟨h s (List.mem_cons_self ..),ih fun t ht=>h t (List.mem_cons_of_mem _ ht)⟩
 exact h wordsN (by decide +kernel)
theorem fields_sem:FunSem Tryz.prog 29 (told1 fieldsF) :=
 told1_sem ⟨_,_,Tryz.func29,by kernel_rfl,rfl⟩ fun w0 w r h nx x K R hG H hx hF hR=>by
  unfold fieldsF at hF
  split at hF
  ·rename_i s
   obtain ⟨hb,hF⟩:=brec hF
   obtain rfl:=eqN_eq hb
   rw [T.setK_iff,succK_iff] at hF
   refine Calls.mono (fields_call w hG) fun e w' he=>?_
   obtain ⟨rfl,he⟩:=he
   rw [wordsA_conc _ r] at he
   subst he
   obtain ⟨g1,g2⟩:=H.alloc (.cells wordsA 9) 0 (.cells (concL r wordsA).toArray 9) (wordsA_ok _) ⟨[],by simpa using wordsA_conc r _,by simp [r.more_ext]⟩
   have:=hR (.sl nx 0 24 24 false) _ _ _ _ hF g1 g2 (by simp only [okV]; exact .inl rfl)
   simpa [conc,Rho.more_blk] using this
  ·exact hF.elim
end Go.Proofs.YtoijcpnfohjciaaGreatDoor.X

/- An executor for closed calls, 46: package lex's control and single told, of ASCII. -/
namespace Go.Proofs.YtoijcpnfohjciaaGreatDoor.X
open Go.RowKit Go.Lib
def signsN:List Nat:=[40,41,123,125,59,44]
def ctlN (r:Nat):Bool:=(Nat.blt r 32&&!(Nat.beq r 10))||Nat.beq r 127
theorem signs_spec (r:Nat) (hr:r<128):decide (0≤Lib.indexByte [40,41,123,125,59,44] r.toUInt8)=amongN signsN r:=by
  have h:∀ r:Fin 128,decide (0≤Lib.indexByte [40,41,123,125,59,44] r.1.toUInt8)=amongN signsN r.1:=by decide +kernel
  exact h ⟨r,hr⟩
set_option maxHeartbeats 4000000 in
set_option maxRecDepth 100000 in
theorem indexRune_low (s:ByteArray) (r:Nat) (w:World) (hr:r<128):Calls Tryz.prog 139 #[.string s,.int .i32 r] w fun e w'=>e=.returned (.int .i64 (Lib.indexByte s.data.toList r.toUInt8))∧w'=w:=by
  have z1:(0:Int)≤r:=by omega
  have z2:(r:Int)<128:=by omega
  have hb:=Any.strings_IndexByte Tryz.indexByteL s r w
  go_enter Tryz.func139,Tryz.ntmps139
  go_wp2_with fail
  refine hb.mono ?_
  rintro e w' ⟨rfl,rfl⟩
  go_wp2
  go_ret
  exact ⟨by simp,rfl⟩
set_option maxHeartbeats 1000000 in
theorem single_low (r:Nat) (w:World) (hr:r<128):Calls Tryz.prog 70 #[.int .i32 r] w fun e w'=>e=.returned (.bool (amongN signsN r))∧w'=w:=by
  have hi:=indexRune_low ⟨#[40,41,123,125,59,44]⟩ r w hr
  have hs:=signs_spec r hr
  have e0:(⟨#[40,41,123,125,59,44]⟩:ByteArray).data.toList=[40,41,123,125,59,44]:=rfl
  rw [e0] at hi
  have hc:Calls Tryz.prog 115 #[.string ⟨#[40,41,123,125,59,44]⟩,.int .i32 r] w fun e w'=>e=.returned (.bool (amongN signsN r))∧w'=w:=by
    rw [← hs]
    generalize Lib.indexByte [40,41,123,125,59,44] r.toUInt8=i at hi ⊢
    go_enter Tryz.func115,Tryz.ntmps115
    go_wp2_with fail
    refine hi.mono ?_
    rintro e w' ⟨rfl,rfl⟩
    go_wp2
    go_ret
    exact ⟨rfl,rfl⟩
  generalize amongN signsN r=b at hc ⊢
  go_enter Tryz.func70,Tryz.ntmps70
  go_wp2_with fail
  refine hc.mono ?_
  rintro e w' ⟨rfl,rfl⟩
  go_wp2
  go_ret
  exact ⟨rfl,rfl⟩
set_option maxHeartbeats 1000000 in
theorem control_low (r:Nat) (w:World):Calls Tryz.prog 69 #[.int .i32 r] w fun e w'=>e=.returned (.bool (ctlN r))∧w'=w:=by
  have hb:ctlN r=((decide ((r:Int)<32)&&!decide ((r:Int)=10))||decide ((r:Int)=127)):=by
    unfold ctlN
    have e1:Nat.blt r 32=decide ((r:Int)<32):=by
      by_cases h:r<32
      · rw [decide_eq_true (by omega)]; exact Nat.ble_eq_true_of_le h
      · rw [decide_eq_false (by omega)]; exact Bool.eq_false_iff.2 fun e=>h (Nat.le_of_ble_eq_true e)
    have e2:∀ k:Nat,Nat.beq r k=decide ((r:Int)=(k:Int)):=fun k=>by
      by_cases h:r=k
      · subst h; simp
      · rw [decide_eq_false (by omega)]; exact Bool.eq_false_iff.2 fun e=>h (Nat.eq_of_beq_eq_true e)
    rw [e1,e2 10,e2 127]; rfl
  rw [hb]
  by_cases h1:(r:Int)<32 <;> by_cases h2:(r:Int)=10 <;> by_cases h3:(r:Int)=127
  all_goals
    first
    | omega
    | (go_enter Tryz.func69,Tryz.ntmps69
       go_wp2
       go_ret
       exact ⟨by first | (simp [h1,h2,h3]; done) | (have h4:¬ (r:Int)<32:=(by omega); simp [h3,h4]),rfl⟩)
def singleF (x:AV) (h:T AO) (nx:Pt) (K:AV→T AO→Pt→Prop):Prop:=match x with
  | .int .i32 (.ofNat r)=>Bool.rec (motive:=fun _=>Prop) False (forceB (amongN signsN r) fun b=>K (.bool b) h nx) (Nat.blt r 128)
  | _=>False
def controlF (x:AV) (h:T AO) (nx:Pt) (K:AV→T AO→Pt→Prop):Prop:=match x with
  | .int .i32 (.ofNat r)=>forceB (ctlN r) fun b=>K (.bool b) h nx
  | _=>False
theorem single_sem:FunSem Tryz.prog 70 (told1 singleF) :=
  told1_sem ⟨_,_,Tryz.func70,by kernel_rfl,rfl⟩ fun w0 w r h nx x K R hG H hx hF hR=>by
    unfold singleF at hF
    split at hF
    · rename_i c
      obtain ⟨hb,hF⟩:=brec hF
      rw [forceB_iff] at hF
      have hb:c<128:=by have hb:Nat.ble (c+1) 128=true:=hb; have:=Nat.le_of_ble_eq_true hb; omega
      refine Calls.mono (single_low c w hb) fun e w' he=>?_
      obtain ⟨rfl,rfl⟩:=he
      have:=hR (.bool (amongN signsN c)) h nx r w' hF H (.refl r h w') (by simp [okV])
      simpa [conc] using this
    · exact hF.elim
theorem control_sem:FunSem Tryz.prog 69 (told1 controlF) :=
  told1_sem ⟨_,_,Tryz.func69,by kernel_rfl,rfl⟩ fun w0 w r h nx x K R hG H hx hF hR=>by
    unfold controlF at hF
    split at hF
    · rename_i c
      rw [forceB_iff] at hF
      refine Calls.mono (control_low c w) fun e w' he=>?_
      obtain ⟨rfl,rfl⟩:=he
      have:=hR (.bool (ctlN c)) h nx r w' hF H (.refl r h w') (by simp [okV])
      simpa [conc] using this
    · exact hF.elim
end Go.Proofs.YtoijcpnfohjciaaGreatDoor.X
