/- An executor for closed calls, 13b: operations that the kernel computes faster, equal to the plain ones; a record of operations. -/
import Derived.Test.YtidggaoacldgkaaGreatDoorXM
namespace Go.Proofs.YtidggaoacldgkaaGreatDoor.X
set_option linter.unusedVariables false
open Go.RowKit
def kPtr_bool:Bool→((Pt→Nat→Prop)→Prop):=fun _=>fun _=>False
def kPtr_int:IntKind→Int→((Pt→Nat→Prop)→Prop):=fun _ _=>fun _=>False
def kPtr_str:List Nat→((Pt→Nat→Prop)→Prop):=fun _=>fun _=>False
def kPtr_nilp:((Pt→Nat→Prop)→Prop):=fun _=>False
def kPtr_ptr:Pt→Nat→((Pt→Nat→Prop)→Prop):=fun k o c=>c k o
def kPtr_nils:((Pt→Nat→Prop)→Prop):=fun _=>False
def kPtr_sl:Pt→Nat→Nat→Nat→Bool→((Pt→Nat→Prop)→Prop):=fun _ _ _ _ _=>fun _=>False
def kPtr_slz:Pt→Nat→Nat→((Pt→Nat→Prop)→Prop):=fun _ _ _=>fun _=>False
def kPtr_nilm:((Pt→Nat→Prop)→Prop):=fun _=>False
def kPtr_map:Pt→((Pt→Nat→Prop)→Prop):=fun _=>fun _=>False
def kPtr_fn:Fn→List AV→List AV→((Pt→Nat→Prop)→Prop)→((Pt→Nat→Prop)→Prop)→((Pt→Nat→Prop)→Prop):=fun _ _ _ _ _=>fun _=>False
def kPtr_yld:Pt→((Pt→Nat→Prop)→Prop):=fun _=>fun _=>False
def kPtr_chan:Pt→((Pt→Nat→Prop)→Prop):=fun _=>fun _=>False
def kPtr_nilc:((Pt→Nat→Prop)→Prop):=fun _=>False
def kPtr_nilf:((Pt→Nat→Prop)→Prop):=fun _=>False
def kPtr_iface:TypeId→AV→((Pt→Nat→Prop)→Prop)→((Pt→Nat→Prop)→Prop):=fun _ _ _=>fun _=>False
def kPtr_nili:((Pt→Nat→Prop)→Prop):=fun _=>False
def kPtr_agg:List AV→((Pt→Nat→Prop)→Prop)→((Pt→Nat→Prop)→Prop):=fun _ _=>fun _=>False
def kPtr_tup:List AV→((Pt→Nat→Prop)→Prop)→((Pt→Nat→Prop)→Prop):=fun _ _=>fun _=>False
def kPtr_nil:((Pt→Nat→Prop)→Prop):=fun _=>False
def kPtr_cons:AV→List AV→((Pt→Nat→Prop)→Prop)→((Pt→Nat→Prop)→Prop)→((Pt→Nat→Prop)→Prop):=fun _ _ _ _=>fun _=>False
def ptrK (v:AV) (c:Pt→Nat→Prop):Prop:=@AV.rec (fun _=>((Pt→Nat→Prop)→Prop)) (fun _=>((Pt→Nat→Prop)→Prop)) kPtr_bool kPtr_int kPtr_str kPtr_nilp kPtr_ptr kPtr_nils kPtr_sl kPtr_slz kPtr_nilm kPtr_map kPtr_fn kPtr_yld kPtr_chan kPtr_nilc kPtr_nilf kPtr_iface kPtr_nili kPtr_agg kPtr_tup kPtr_nil kPtr_cons v c
def kBool_bool:Bool→((Bool→Prop)→Prop):=fun b c=>c b
def kBool_int:IntKind→Int→((Bool→Prop)→Prop):=fun _ _=>fun _=>False
def kBool_str:List Nat→((Bool→Prop)→Prop):=fun _=>fun _=>False
def kBool_nilp:((Bool→Prop)→Prop):=fun _=>False
def kBool_ptr:Pt→Nat→((Bool→Prop)→Prop):=fun _ _=>fun _=>False
def kBool_nils:((Bool→Prop)→Prop):=fun _=>False
def kBool_sl:Pt→Nat→Nat→Nat→Bool→((Bool→Prop)→Prop):=fun _ _ _ _ _=>fun _=>False
def kBool_slz:Pt→Nat→Nat→((Bool→Prop)→Prop):=fun _ _ _=>fun _=>False
def kBool_nilm:((Bool→Prop)→Prop):=fun _=>False
def kBool_map:Pt→((Bool→Prop)→Prop):=fun _=>fun _=>False
def kBool_fn:Fn→List AV→List AV→((Bool→Prop)→Prop)→((Bool→Prop)→Prop)→((Bool→Prop)→Prop):=fun _ _ _ _ _=>fun _=>False
def kBool_yld:Pt→((Bool→Prop)→Prop):=fun _=>fun _=>False
def kBool_chan:Pt→((Bool→Prop)→Prop):=fun _=>fun _=>False
def kBool_nilc:((Bool→Prop)→Prop):=fun _=>False
def kBool_nilf:((Bool→Prop)→Prop):=fun _=>False
def kBool_iface:TypeId→AV→((Bool→Prop)→Prop)→((Bool→Prop)→Prop):=fun _ _ _=>fun _=>False
def kBool_nili:((Bool→Prop)→Prop):=fun _=>False
def kBool_agg:List AV→((Bool→Prop)→Prop)→((Bool→Prop)→Prop):=fun _ _=>fun _=>False
def kBool_tup:List AV→((Bool→Prop)→Prop)→((Bool→Prop)→Prop):=fun _ _=>fun _=>False
def kBool_nil:((Bool→Prop)→Prop):=fun _=>False
def kBool_cons:AV→List AV→((Bool→Prop)→Prop)→((Bool→Prop)→Prop)→((Bool→Prop)→Prop):=fun _ _ _ _=>fun _=>False
def boolK (v:AV) (c:Bool→Prop):Prop:=@AV.rec (fun _=>((Bool→Prop)→Prop)) (fun _=>((Bool→Prop)→Prop)) kBool_bool kBool_int kBool_str kBool_nilp kBool_ptr kBool_nils kBool_sl kBool_slz kBool_nilm kBool_map kBool_fn kBool_yld kBool_chan kBool_nilc kBool_nilf kBool_iface kBool_nili kBool_agg kBool_tup kBool_nil kBool_cons v c
def kAgg_bool:Bool→((List AV→Prop)→Prop):=fun _=>fun _=>False
def kAgg_int:IntKind→Int→((List AV→Prop)→Prop):=fun _ _=>fun _=>False
def kAgg_str:List Nat→((List AV→Prop)→Prop):=fun _=>fun _=>False
def kAgg_nilp:((List AV→Prop)→Prop):=fun _=>False
def kAgg_ptr:Pt→Nat→((List AV→Prop)→Prop):=fun _ _=>fun _=>False
def kAgg_nils:((List AV→Prop)→Prop):=fun _=>False
def kAgg_sl:Pt→Nat→Nat→Nat→Bool→((List AV→Prop)→Prop):=fun _ _ _ _ _=>fun _=>False
def kAgg_slz:Pt→Nat→Nat→((List AV→Prop)→Prop):=fun _ _ _=>fun _=>False
def kAgg_nilm:((List AV→Prop)→Prop):=fun _=>False
def kAgg_map:Pt→((List AV→Prop)→Prop):=fun _=>fun _=>False
def kAgg_fn:Fn→List AV→List AV→((List AV→Prop)→Prop)→((List AV→Prop)→Prop)→((List AV→Prop)→Prop):=fun _ _ _ _ _=>fun _=>False
def kAgg_yld:Pt→((List AV→Prop)→Prop):=fun _=>fun _=>False
def kAgg_chan:Pt→((List AV→Prop)→Prop):=fun _=>fun _=>False
def kAgg_nilc:((List AV→Prop)→Prop):=fun _=>False
def kAgg_nilf:((List AV→Prop)→Prop):=fun _=>False
def kAgg_iface:TypeId→AV→((List AV→Prop)→Prop)→((List AV→Prop)→Prop):=fun _ _ _=>fun _=>False
def kAgg_nili:((List AV→Prop)→Prop):=fun _=>False
def kAgg_agg:List AV→((List AV→Prop)→Prop)→((List AV→Prop)→Prop):=fun vs _ c=>c vs
def kAgg_tup:List AV→((List AV→Prop)→Prop)→((List AV→Prop)→Prop):=fun _ _=>fun _=>False
def kAgg_nil:((List AV→Prop)→Prop):=fun _=>False
def kAgg_cons:AV→List AV→((List AV→Prop)→Prop)→((List AV→Prop)→Prop)→((List AV→Prop)→Prop):=fun _ _ _ _=>fun _=>False
def aggK (v:AV) (c:List AV→Prop):Prop:=@AV.rec (fun _=>((List AV→Prop)→Prop)) (fun _=>((List AV→Prop)→Prop)) kAgg_bool kAgg_int kAgg_str kAgg_nilp kAgg_ptr kAgg_nils kAgg_sl kAgg_slz kAgg_nilm kAgg_map kAgg_fn kAgg_yld kAgg_chan kAgg_nilc kAgg_nilf kAgg_iface kAgg_nili kAgg_agg kAgg_tup kAgg_nil kAgg_cons v c
def kTup_bool:Bool→((List AV→Prop)→Prop):=fun _=>fun _=>False
def kTup_int:IntKind→Int→((List AV→Prop)→Prop):=fun _ _=>fun _=>False
def kTup_str:List Nat→((List AV→Prop)→Prop):=fun _=>fun _=>False
def kTup_nilp:((List AV→Prop)→Prop):=fun _=>False
def kTup_ptr:Pt→Nat→((List AV→Prop)→Prop):=fun _ _=>fun _=>False
def kTup_nils:((List AV→Prop)→Prop):=fun _=>False
def kTup_sl:Pt→Nat→Nat→Nat→Bool→((List AV→Prop)→Prop):=fun _ _ _ _ _=>fun _=>False
def kTup_slz:Pt→Nat→Nat→((List AV→Prop)→Prop):=fun _ _ _=>fun _=>False
def kTup_nilm:((List AV→Prop)→Prop):=fun _=>False
def kTup_map:Pt→((List AV→Prop)→Prop):=fun _=>fun _=>False
def kTup_fn:Fn→List AV→List AV→((List AV→Prop)→Prop)→((List AV→Prop)→Prop)→((List AV→Prop)→Prop):=fun _ _ _ _ _=>fun _=>False
def kTup_yld:Pt→((List AV→Prop)→Prop):=fun _=>fun _=>False
def kTup_chan:Pt→((List AV→Prop)→Prop):=fun _=>fun _=>False
def kTup_nilc:((List AV→Prop)→Prop):=fun _=>False
def kTup_nilf:((List AV→Prop)→Prop):=fun _=>False
def kTup_iface:TypeId→AV→((List AV→Prop)→Prop)→((List AV→Prop)→Prop):=fun _ _ _=>fun _=>False
def kTup_nili:((List AV→Prop)→Prop):=fun _=>False
def kTup_agg:List AV→((List AV→Prop)→Prop)→((List AV→Prop)→Prop):=fun _ _=>fun _=>False
def kTup_tup:List AV→((List AV→Prop)→Prop)→((List AV→Prop)→Prop):=fun vs _ c=>c vs
def kTup_nil:((List AV→Prop)→Prop):=fun _=>False
def kTup_cons:AV→List AV→((List AV→Prop)→Prop)→((List AV→Prop)→Prop)→((List AV→Prop)→Prop):=fun _ _ _ _=>fun _=>False
def tupK (v:AV) (c:List AV→Prop):Prop:=@AV.rec (fun _=>((List AV→Prop)→Prop)) (fun _=>((List AV→Prop)→Prop)) kTup_bool kTup_int kTup_str kTup_nilp kTup_ptr kTup_nils kTup_sl kTup_slz kTup_nilm kTup_map kTup_fn kTup_yld kTup_chan kTup_nilc kTup_nilf kTup_iface kTup_nili kTup_agg kTup_tup kTup_nil kTup_cons v c
def kSl_bool:Bool→((Pt→Nat→Nat→Prop)→Prop):=fun _=>fun _=>False
def kSl_int:IntKind→Int→((Pt→Nat→Nat→Prop)→Prop):=fun _ _=>fun _=>False
def kSl_str:List Nat→((Pt→Nat→Nat→Prop)→Prop):=fun _=>fun _=>False
def kSl_nilp:((Pt→Nat→Nat→Prop)→Prop):=fun _=>False
def kSl_ptr:Pt→Nat→((Pt→Nat→Nat→Prop)→Prop):=fun _ _=>fun _=>False
def kSl_nils:((Pt→Nat→Nat→Prop)→Prop):=fun _=>False
def kSl_sl:Pt→Nat→Nat→Nat→Bool→((Pt→Nat→Nat→Prop)→Prop):=fun k o l _ _ c=>c k o l
def kSl_slz:Pt→Nat→Nat→((Pt→Nat→Nat→Prop)→Prop):=fun _ _ _=>fun _=>False
def kSl_nilm:((Pt→Nat→Nat→Prop)→Prop):=fun _=>False
def kSl_map:Pt→((Pt→Nat→Nat→Prop)→Prop):=fun _=>fun _=>False
def kSl_fn:Fn→List AV→List AV→((Pt→Nat→Nat→Prop)→Prop)→((Pt→Nat→Nat→Prop)→Prop)→((Pt→Nat→Nat→Prop)→Prop):=fun _ _ _ _ _=>fun _=>False
def kSl_yld:Pt→((Pt→Nat→Nat→Prop)→Prop):=fun _=>fun _=>False
def kSl_chan:Pt→((Pt→Nat→Nat→Prop)→Prop):=fun _=>fun _=>False
def kSl_nilc:((Pt→Nat→Nat→Prop)→Prop):=fun _=>False
def kSl_nilf:((Pt→Nat→Nat→Prop)→Prop):=fun _=>False
def kSl_iface:TypeId→AV→((Pt→Nat→Nat→Prop)→Prop)→((Pt→Nat→Nat→Prop)→Prop):=fun _ _ _=>fun _=>False
def kSl_nili:((Pt→Nat→Nat→Prop)→Prop):=fun _=>False
def kSl_agg:List AV→((Pt→Nat→Nat→Prop)→Prop)→((Pt→Nat→Nat→Prop)→Prop):=fun _ _=>fun _=>False
def kSl_tup:List AV→((Pt→Nat→Nat→Prop)→Prop)→((Pt→Nat→Nat→Prop)→Prop):=fun _ _=>fun _=>False
def kSl_nil:((Pt→Nat→Nat→Prop)→Prop):=fun _=>False
def kSl_cons:AV→List AV→((Pt→Nat→Nat→Prop)→Prop)→((Pt→Nat→Nat→Prop)→Prop)→((Pt→Nat→Nat→Prop)→Prop):=fun _ _ _ _=>fun _=>False
def slK (v:AV) (c:Pt→Nat→Nat→Prop):Prop:=@AV.rec (fun _=>((Pt→Nat→Nat→Prop)→Prop)) (fun _=>((Pt→Nat→Nat→Prop)→Prop)) kSl_bool kSl_int kSl_str kSl_nilp kSl_ptr kSl_nils kSl_sl kSl_slz kSl_nilm kSl_map kSl_fn kSl_yld kSl_chan kSl_nilc kSl_nilf kSl_iface kSl_nili kSl_agg kSl_tup kSl_nil kSl_cons v c
def kStr_bool:Bool→((List Nat→Prop)→Prop):=fun _=>fun _=>False
def kStr_int:IntKind→Int→((List Nat→Prop)→Prop):=fun _ _=>fun _=>False
def kStr_str:List Nat→((List Nat→Prop)→Prop):=fun s c=>c s
def kStr_nilp:((List Nat→Prop)→Prop):=fun _=>False
def kStr_ptr:Pt→Nat→((List Nat→Prop)→Prop):=fun _ _=>fun _=>False
def kStr_nils:((List Nat→Prop)→Prop):=fun _=>False
def kStr_sl:Pt→Nat→Nat→Nat→Bool→((List Nat→Prop)→Prop):=fun _ _ _ _ _=>fun _=>False
def kStr_slz:Pt→Nat→Nat→((List Nat→Prop)→Prop):=fun _ _ _=>fun _=>False
def kStr_nilm:((List Nat→Prop)→Prop):=fun _=>False
def kStr_map:Pt→((List Nat→Prop)→Prop):=fun _=>fun _=>False
def kStr_fn:Fn→List AV→List AV→((List Nat→Prop)→Prop)→((List Nat→Prop)→Prop)→((List Nat→Prop)→Prop):=fun _ _ _ _ _=>fun _=>False
def kStr_yld:Pt→((List Nat→Prop)→Prop):=fun _=>fun _=>False
def kStr_chan:Pt→((List Nat→Prop)→Prop):=fun _=>fun _=>False
def kStr_nilc:((List Nat→Prop)→Prop):=fun _=>False
def kStr_nilf:((List Nat→Prop)→Prop):=fun _=>False
def kStr_iface:TypeId→AV→((List Nat→Prop)→Prop)→((List Nat→Prop)→Prop):=fun _ _ _=>fun _=>False
def kStr_nili:((List Nat→Prop)→Prop):=fun _=>False
def kStr_agg:List AV→((List Nat→Prop)→Prop)→((List Nat→Prop)→Prop):=fun _ _=>fun _=>False
def kStr_tup:List AV→((List Nat→Prop)→Prop)→((List Nat→Prop)→Prop):=fun _ _=>fun _=>False
def kStr_nil:((List Nat→Prop)→Prop):=fun _=>False
def kStr_cons:AV→List AV→((List Nat→Prop)→Prop)→((List Nat→Prop)→Prop)→((List Nat→Prop)→Prop):=fun _ _ _ _=>fun _=>False
def strK (v:AV) (c:List Nat→Prop):Prop:=@AV.rec (fun _=>((List Nat→Prop)→Prop)) (fun _=>((List Nat→Prop)→Prop)) kStr_bool kStr_int kStr_str kStr_nilp kStr_ptr kStr_nils kStr_sl kStr_slz kStr_nilm kStr_map kStr_fn kStr_yld kStr_chan kStr_nilc kStr_nilf kStr_iface kStr_nili kStr_agg kStr_tup kStr_nil kStr_cons v c
def iOfNat (n:Nat) (c:Nat→Prop):Prop:=c n
def iNeg (_:Nat) (_:Nat→Prop):Prop:=False
def kIdx_bool:Bool→((Nat→Prop)→Prop):=fun _=>fun _=>False
def kIdx_int:IntKind→Int→((Nat→Prop)→Prop):=fun _ n c=>Int.rec (motive:=fun _=>(Nat→Prop)→Prop) iOfNat iNeg n c
def kIdx_str:List Nat→((Nat→Prop)→Prop):=fun _=>fun _=>False
def kIdx_nilp:((Nat→Prop)→Prop):=fun _=>False
def kIdx_ptr:Pt→Nat→((Nat→Prop)→Prop):=fun _ _=>fun _=>False
def kIdx_nils:((Nat→Prop)→Prop):=fun _=>False
def kIdx_sl:Pt→Nat→Nat→Nat→Bool→((Nat→Prop)→Prop):=fun _ _ _ _ _=>fun _=>False
def kIdx_slz:Pt→Nat→Nat→((Nat→Prop)→Prop):=fun _ _ _=>fun _=>False
def kIdx_nilm:((Nat→Prop)→Prop):=fun _=>False
def kIdx_map:Pt→((Nat→Prop)→Prop):=fun _=>fun _=>False
def kIdx_fn:Fn→List AV→List AV→((Nat→Prop)→Prop)→((Nat→Prop)→Prop)→((Nat→Prop)→Prop):=fun _ _ _ _ _=>fun _=>False
def kIdx_yld:Pt→((Nat→Prop)→Prop):=fun _=>fun _=>False
def kIdx_chan:Pt→((Nat→Prop)→Prop):=fun _=>fun _=>False
def kIdx_nilc:((Nat→Prop)→Prop):=fun _=>False
def kIdx_nilf:((Nat→Prop)→Prop):=fun _=>False
def kIdx_iface:TypeId→AV→((Nat→Prop)→Prop)→((Nat→Prop)→Prop):=fun _ _ _=>fun _=>False
def kIdx_nili:((Nat→Prop)→Prop):=fun _=>False
def kIdx_agg:List AV→((Nat→Prop)→Prop)→((Nat→Prop)→Prop):=fun _ _=>fun _=>False
def kIdx_tup:List AV→((Nat→Prop)→Prop)→((Nat→Prop)→Prop):=fun _ _=>fun _=>False
def kIdx_nil:((Nat→Prop)→Prop):=fun _=>False
def kIdx_cons:AV→List AV→((Nat→Prop)→Prop)→((Nat→Prop)→Prop)→((Nat→Prop)→Prop):=fun _ _ _ _=>fun _=>False
def idxK (v:AV) (c:Nat→Prop):Prop:=@AV.rec (fun _=>((Nat→Prop)→Prop)) (fun _=>((Nat→Prop)→Prop)) kIdx_bool kIdx_int kIdx_str kIdx_nilp kIdx_ptr kIdx_nils kIdx_sl kIdx_slz kIdx_nilm kIdx_map kIdx_fn kIdx_yld kIdx_chan kIdx_nilc kIdx_nilf kIdx_iface kIdx_nili kIdx_agg kIdx_tup kIdx_nil kIdx_cons v c
def iOfNat2 (n:Nat) (c:Nat→Prop) (_:Prop):Prop:=c n
def iNeg2 (_:Nat) (_:Nat→Prop) (d:Prop):Prop:=d
def kd0 (_:Int) (_:Nat→Prop) (d:Prop):Prop:=d
def kd64 (n:Int) (c:Nat→Prop) (d:Prop):Prop:=Int.rec (motive:=fun _=>(Nat→Prop)→Prop→Prop) iOfNat2 iNeg2 n c d
def k64_bool:Bool→((Nat→Prop)→Prop→Prop):=fun _=>fun _ d=>d
def k64_int:IntKind→Int→((Nat→Prop)→Prop→Prop):=fun k n c d=>@IntKind.rec (fun _=>Int→(Nat→Prop)→Prop→Prop) kd0 kd0 kd0 kd64 kd0 kd0 kd0 kd0 k n c d
def k64_str:List Nat→((Nat→Prop)→Prop→Prop):=fun _=>fun _ d=>d
def k64_nilp:((Nat→Prop)→Prop→Prop):=fun _ d=>d
def k64_ptr:Pt→Nat→((Nat→Prop)→Prop→Prop):=fun _ _=>fun _ d=>d
def k64_nils:((Nat→Prop)→Prop→Prop):=fun _ d=>d
def k64_sl:Pt→Nat→Nat→Nat→Bool→((Nat→Prop)→Prop→Prop):=fun _ _ _ _ _=>fun _ d=>d
def k64_slz:Pt→Nat→Nat→((Nat→Prop)→Prop→Prop):=fun _ _ _=>fun _ d=>d
def k64_nilm:((Nat→Prop)→Prop→Prop):=fun _ d=>d
def k64_map:Pt→((Nat→Prop)→Prop→Prop):=fun _=>fun _ d=>d
def k64_fn:Fn→List AV→List AV→((Nat→Prop)→Prop→Prop)→((Nat→Prop)→Prop→Prop)→((Nat→Prop)→Prop→Prop):=fun _ _ _ _ _=>fun _ d=>d
def k64_yld:Pt→((Nat→Prop)→Prop→Prop):=fun _=>fun _ d=>d
def k64_chan:Pt→((Nat→Prop)→Prop→Prop):=fun _=>fun _ d=>d
def k64_nilc:((Nat→Prop)→Prop→Prop):=fun _ d=>d
def k64_nilf:((Nat→Prop)→Prop→Prop):=fun _ d=>d
def k64_iface:TypeId→AV→((Nat→Prop)→Prop→Prop)→((Nat→Prop)→Prop→Prop):=fun _ _ _=>fun _ d=>d
def k64_nili:((Nat→Prop)→Prop→Prop):=fun _ d=>d
def k64_agg:List AV→((Nat→Prop)→Prop→Prop)→((Nat→Prop)→Prop→Prop):=fun _ _=>fun _ d=>d
def k64_tup:List AV→((Nat→Prop)→Prop→Prop)→((Nat→Prop)→Prop→Prop):=fun _ _=>fun _ d=>d
def k64_nil:((Nat→Prop)→Prop→Prop):=fun _ d=>d
def k64_cons:AV→List AV→((Nat→Prop)→Prop→Prop)→((Nat→Prop)→Prop→Prop)→((Nat→Prop)→Prop→Prop):=fun _ _ _ _=>fun _ d=>d
def n64K (v:AV) (c:Nat→Prop) (d:Prop):Prop:=@AV.rec (fun _=>((Nat→Prop)→Prop→Prop)) (fun _=>((Nat→Prop)→Prop→Prop)) k64_bool k64_int k64_str k64_nilp k64_ptr k64_nils k64_sl k64_slz k64_nilm k64_map k64_fn k64_yld k64_chan k64_nilc k64_nilf k64_iface k64_nili k64_agg k64_tup k64_nil k64_cons v c d
def kFlat_bool:Bool→(Prop→Prop→Prop):=fun _=>fun a _=>a
def kFlat_int:IntKind→Int→(Prop→Prop→Prop):=fun _ _=>fun a _=>a
def kFlat_str:List Nat→(Prop→Prop→Prop):=fun _=>fun a _=>a
def kFlat_nilp:(Prop→Prop→Prop):=fun a _=>a
def kFlat_ptr:Pt→Nat→(Prop→Prop→Prop):=fun _ _=>fun a _=>a
def kFlat_nils:(Prop→Prop→Prop):=fun a _=>a
def kFlat_sl:Pt→Nat→Nat→Nat→Bool→(Prop→Prop→Prop):=fun _ _ _ _ _=>fun a _=>a
def kFlat_slz:Pt→Nat→Nat→(Prop→Prop→Prop):=fun _ _ _=>fun a _=>a
def kFlat_nilm:(Prop→Prop→Prop):=fun a _=>a
def kFlat_map:Pt→(Prop→Prop→Prop):=fun _=>fun a _=>a
def kFlat_fn:Fn→List AV→List AV→(Prop→Prop→Prop)→(Prop→Prop→Prop)→(Prop→Prop→Prop):=fun _ _ _ _ _=>fun a _=>a
def kFlat_yld:Pt→(Prop→Prop→Prop):=fun _=>fun a _=>a
def kFlat_chan:Pt→(Prop→Prop→Prop):=fun _=>fun a _=>a
def kFlat_nilc:(Prop→Prop→Prop):=fun a _=>a
def kFlat_nilf:(Prop→Prop→Prop):=fun a _=>a
def kFlat_iface:TypeId→AV→(Prop→Prop→Prop)→(Prop→Prop→Prop):=fun _ _ _=>fun a _=>a
def kFlat_nili:(Prop→Prop→Prop):=fun a _=>a
def kFlat_agg:List AV→(Prop→Prop→Prop)→(Prop→Prop→Prop):=fun _ _ _ b=>b
def kFlat_tup:List AV→(Prop→Prop→Prop)→(Prop→Prop→Prop):=fun _ _ _ b=>b
def kFlat_nil:(Prop→Prop→Prop):=fun a _=>a
def kFlat_cons:AV→List AV→(Prop→Prop→Prop)→(Prop→Prop→Prop)→(Prop→Prop→Prop):=fun _ _ _ _=>fun a _=>a
def rowK (v:AV) (a b:Prop):Prop:=@AV.rec (fun _=>(Prop→Prop→Prop)) (fun _=>(Prop→Prop→Prop)) kFlat_bool kFlat_int kFlat_str kFlat_nilp kFlat_ptr kFlat_nils kFlat_sl kFlat_slz kFlat_nilm kFlat_map kFlat_fn kFlat_yld kFlat_chan kFlat_nilc kFlat_nilf kFlat_iface kFlat_nili kFlat_agg kFlat_tup kFlat_nil kFlat_cons v a b
def kLen_bool:Bool→((Nat→Prop)→Prop):=fun _=>fun _=>False
def kLen_int:IntKind→Int→((Nat→Prop)→Prop):=fun _ _=>fun _=>False
def kLen_str:List Nat→((Nat→Prop)→Prop):=fun _=>fun _=>False
def kLen_nilp:((Nat→Prop)→Prop):=fun _=>False
def kLen_ptr:Pt→Nat→((Nat→Prop)→Prop):=fun _ _=>fun _=>False
def kLen_nils:((Nat→Prop)→Prop):=fun c=>c 0
def kLen_sl:Pt→Nat→Nat→Nat→Bool→((Nat→Prop)→Prop):=fun _ _ l _ _ c=>c l
def kLen_slz:Pt→Nat→Nat→((Nat→Prop)→Prop):=fun _ _ _ c=>c 0
def kLen_nilm:((Nat→Prop)→Prop):=fun _=>False
def kLen_map:Pt→((Nat→Prop)→Prop):=fun _=>fun _=>False
def kLen_fn:Fn→List AV→List AV→((Nat→Prop)→Prop)→((Nat→Prop)→Prop)→((Nat→Prop)→Prop):=fun _ _ _ _ _=>fun _=>False
def kLen_yld:Pt→((Nat→Prop)→Prop):=fun _=>fun _=>False
def kLen_chan:Pt→((Nat→Prop)→Prop):=fun _=>fun _=>False
def kLen_nilc:((Nat→Prop)→Prop):=fun _=>False
def kLen_nilf:((Nat→Prop)→Prop):=fun _=>False
def kLen_iface:TypeId→AV→((Nat→Prop)→Prop)→((Nat→Prop)→Prop):=fun _ _ _=>fun _=>False
def kLen_nili:((Nat→Prop)→Prop):=fun _=>False
def kLen_agg:List AV→((Nat→Prop)→Prop)→((Nat→Prop)→Prop):=fun _ _=>fun _=>False
def kLen_tup:List AV→((Nat→Prop)→Prop)→((Nat→Prop)→Prop):=fun _ _=>fun _=>False
def kLen_nil:((Nat→Prop)→Prop):=fun _=>False
def kLen_cons:AV→List AV→((Nat→Prop)→Prop)→((Nat→Prop)→Prop)→((Nat→Prop)→Prop):=fun _ _ _ _=>fun _=>False
def lenK (v:AV) (c:Nat→Prop):Prop:=@AV.rec (fun _=>((Nat→Prop)→Prop)) (fun _=>((Nat→Prop)→Prop)) kLen_bool kLen_int kLen_str kLen_nilp kLen_ptr kLen_nils kLen_sl kLen_slz kLen_nilm kLen_map kLen_fn kLen_yld kLen_chan kLen_nilc kLen_nilf kLen_iface kLen_nili kLen_agg kLen_tup kLen_nil kLen_cons v c
def kNck_bool:Bool→((AV→Prop)→Prop):=fun b c=>c (.bool b)
def kNck_int:IntKind→Int→((AV→Prop)→Prop):=fun k n c=>c (.int k n)
def kNck_str:List Nat→((AV→Prop)→Prop):=fun s c=>c (.str s)
def kNck_nilp:((AV→Prop)→Prop):=fun _=>False
def kNck_ptr:Pt→Nat→((AV→Prop)→Prop):=fun k o c=>c (.ptr k o)
def kNck_nils:((AV→Prop)→Prop):=fun c=>c .nils
def kNck_sl:Pt→Nat→Nat→Nat→Bool→((AV→Prop)→Prop):=fun k o l a b c=>c (.sl k o l a b)
def kNck_slz:Pt→Nat→Nat→((AV→Prop)→Prop):=fun k o p c=>c (.slz k o p)
def kNck_nilm:((AV→Prop)→Prop):=fun c=>c .nilm
def kNck_map:Pt→((AV→Prop)→Prop):=fun k c=>c (.map k)
def kNck_fn:Fn→List AV→List AV→((AV→Prop)→Prop)→((AV→Prop)→Prop)→((AV→Prop)→Prop):=fun f a b _ _ c=>Fn.rec (motive:=fun _=>(AV→Prop)→Prop) (fun f c=>c (.fn (.func f) a b)) (fun _ _=>False) (fun _ _ _=>False) (fun _ _ _ _ _=>False) (fun _ _=>False) f c
def kNck_yld:Pt→((AV→Prop)→Prop):=fun k c=>c (.yld k)
def kNck_chan:Pt→((AV→Prop)→Prop):=fun k c=>c (.chan k)
def kNck_nilc:((AV→Prop)→Prop):=fun c=>c .nilc
def kNck_nilf:((AV→Prop)→Prop):=fun _=>False
def kNck_iface:TypeId→AV→((AV→Prop)→Prop)→((AV→Prop)→Prop):=fun t v _ c=>c (.iface t v)
def kNck_nili:((AV→Prop)→Prop):=fun _=>False
def kNck_agg:List AV→((AV→Prop)→Prop)→((AV→Prop)→Prop):=fun vs _ c=>c (.agg vs)
def kNck_tup:List AV→((AV→Prop)→Prop)→((AV→Prop)→Prop):=fun vs _ c=>c (.tup vs)
def kNck_nil:((AV→Prop)→Prop):=fun _=>False
def kNck_cons:AV→List AV→((AV→Prop)→Prop)→((AV→Prop)→Prop)→((AV→Prop)→Prop):=fun _ _ _ _=>fun _=>False
def nckK (v:AV) (c:AV→Prop):Prop:=@AV.rec (fun _=>((AV→Prop)→Prop)) (fun _=>((AV→Prop)→Prop)) kNck_bool kNck_int kNck_str kNck_nilp kNck_ptr kNck_nils kNck_sl kNck_slz kNck_nilm kNck_map kNck_fn kNck_yld kNck_chan kNck_nilc kNck_nilf kNck_iface kNck_nili kNck_agg kNck_tup kNck_nil kNck_cons v c
def kGd_bool:Bool→(Bool→Prop→Prop→Prop):=fun b w yes no=>Bool.rec (motive:=fun _=>Prop) (Bool.rec (motive:=fun _=>Prop) yes no w) (Bool.rec (motive:=fun _=>Prop) no yes w) b
def kGd_int:IntKind→Int→(Bool→Prop→Prop→Prop):=fun _ _=>fun _ _ no=>no
def kGd_str:List Nat→(Bool→Prop→Prop→Prop):=fun _=>fun _ _ no=>no
def kGd_nilp:(Bool→Prop→Prop→Prop):=fun _ _ no=>no
def kGd_ptr:Pt→Nat→(Bool→Prop→Prop→Prop):=fun _ _=>fun _ _ no=>no
def kGd_nils:(Bool→Prop→Prop→Prop):=fun _ _ no=>no
def kGd_sl:Pt→Nat→Nat→Nat→Bool→(Bool→Prop→Prop→Prop):=fun _ _ _ _ _=>fun _ _ no=>no
def kGd_slz:Pt→Nat→Nat→(Bool→Prop→Prop→Prop):=fun _ _ _=>fun _ _ no=>no
def kGd_nilm:(Bool→Prop→Prop→Prop):=fun _ _ no=>no
def kGd_map:Pt→(Bool→Prop→Prop→Prop):=fun _=>fun _ _ no=>no
def kGd_fn:Fn→List AV→List AV→(Bool→Prop→Prop→Prop)→(Bool→Prop→Prop→Prop)→(Bool→Prop→Prop→Prop):=fun _ _ _ _ _=>fun _ _ no=>no
def kGd_yld:Pt→(Bool→Prop→Prop→Prop):=fun _=>fun _ _ no=>no
def kGd_chan:Pt→(Bool→Prop→Prop→Prop):=fun _=>fun _ _ no=>no
def kGd_nilc:(Bool→Prop→Prop→Prop):=fun _ _ no=>no
def kGd_nilf:(Bool→Prop→Prop→Prop):=fun _ _ no=>no
def kGd_iface:TypeId→AV→(Bool→Prop→Prop→Prop)→(Bool→Prop→Prop→Prop):=fun _ _ _=>fun _ _ no=>no
def kGd_nili:(Bool→Prop→Prop→Prop):=fun _ _ no=>no
def kGd_agg:List AV→(Bool→Prop→Prop→Prop)→(Bool→Prop→Prop→Prop):=fun _ _=>fun _ _ no=>no
def kGd_tup:List AV→(Bool→Prop→Prop→Prop)→(Bool→Prop→Prop→Prop):=fun _ _=>fun _ _ no=>no
def kGd_nil:(Bool→Prop→Prop→Prop):=fun _ _ no=>no
def kGd_cons:AV→List AV→(Bool→Prop→Prop→Prop)→(Bool→Prop→Prop→Prop)→(Bool→Prop→Prop→Prop):=fun _ _ _ _=>fun _ _ no=>no
def kGd (v:AV) (w:Bool) (yes no:Prop):Prop:=@AV.rec (fun _=>(Bool→Prop→Prop→Prop)) (fun _=>(Bool→Prop→Prop→Prop)) kGd_bool kGd_int kGd_str kGd_nilp kGd_ptr kGd_nils kGd_sl kGd_slz kGd_nilm kGd_map kGd_fn kGd_yld kGd_chan kGd_nilc kGd_nilf kGd_iface kGd_nili kGd_agg kGd_tup kGd_nil kGd_cons v w yes no
def kPtrE_bool:Bool→(Prop→(Pt→Nat→Prop)→Prop):=fun _=>fun _ _=>False
def kPtrE_int:IntKind→Int→(Prop→(Pt→Nat→Prop)→Prop):=fun _ _=>fun _ _=>False
def kPtrE_str:List Nat→(Prop→(Pt→Nat→Prop)→Prop):=fun _=>fun _ _=>False
def kPtrE_nilp:(Prop→(Pt→Nat→Prop)→Prop):=fun d _=>d
def kPtrE_ptr:Pt→Nat→(Prop→(Pt→Nat→Prop)→Prop):=fun k o _ c=>c k o
def kPtrE_nils:(Prop→(Pt→Nat→Prop)→Prop):=fun _ _=>False
def kPtrE_sl:Pt→Nat→Nat→Nat→Bool→(Prop→(Pt→Nat→Prop)→Prop):=fun _ _ _ _ _=>fun _ _=>False
def kPtrE_slz:Pt→Nat→Nat→(Prop→(Pt→Nat→Prop)→Prop):=fun _ _ _=>fun _ _=>False
def kPtrE_nilm:(Prop→(Pt→Nat→Prop)→Prop):=fun _ _=>False
def kPtrE_map:Pt→(Prop→(Pt→Nat→Prop)→Prop):=fun _=>fun _ _=>False
def kPtrE_fn:Fn→List AV→List AV→(Prop→(Pt→Nat→Prop)→Prop)→(Prop→(Pt→Nat→Prop)→Prop)→(Prop→(Pt→Nat→Prop)→Prop):=fun _ _ _ _ _=>fun _ _=>False
def kPtrE_yld:Pt→(Prop→(Pt→Nat→Prop)→Prop):=fun _=>fun _ _=>False
def kPtrE_chan:Pt→(Prop→(Pt→Nat→Prop)→Prop):=fun _=>fun _ _=>False
def kPtrE_nilc:(Prop→(Pt→Nat→Prop)→Prop):=fun _ _=>False
def kPtrE_nilf:(Prop→(Pt→Nat→Prop)→Prop):=fun _ _=>False
def kPtrE_iface:TypeId→AV→(Prop→(Pt→Nat→Prop)→Prop)→(Prop→(Pt→Nat→Prop)→Prop):=fun _ _ _=>fun _ _=>False
def kPtrE_nili:(Prop→(Pt→Nat→Prop)→Prop):=fun _ _=>False
def kPtrE_agg:List AV→(Prop→(Pt→Nat→Prop)→Prop)→(Prop→(Pt→Nat→Prop)→Prop):=fun _ _=>fun _ _=>False
def kPtrE_tup:List AV→(Prop→(Pt→Nat→Prop)→Prop)→(Prop→(Pt→Nat→Prop)→Prop):=fun _ _=>fun _ _=>False
def kPtrE_nil:(Prop→(Pt→Nat→Prop)→Prop):=fun _ _=>False
def kPtrE_cons:AV→List AV→(Prop→(Pt→Nat→Prop)→Prop)→(Prop→(Pt→Nat→Prop)→Prop)→(Prop→(Pt→Nat→Prop)→Prop):=fun _ _ _ _=>fun _ _=>False
def ptrE (v:AV) (d:Prop) (c:Pt→Nat→Prop):Prop:=@AV.rec (fun _=>(Prop→(Pt→Nat→Prop)→Prop)) (fun _=>(Prop→(Pt→Nat→Prop)→Prop)) kPtrE_bool kPtrE_int kPtrE_str kPtrE_nilp kPtrE_ptr kPtrE_nils kPtrE_sl kPtrE_slz kPtrE_nilm kPtrE_map kPtrE_fn kPtrE_yld kPtrE_chan kPtrE_nilc kPtrE_nilf kPtrE_iface kPtrE_nili kPtrE_agg kPtrE_tup kPtrE_nil kPtrE_cons v d c
def nthK (vs:List AV) (o:Nat) (c:AV→Prop):Prop :=
  List.rec (motive:=fun _=>Nat→Prop) (fun _=>False) (fun v _ ih o=>Nat.rec (motive:=fun _=>Prop) (c v) (fun o _=>ih o) o) vs o
theorem nthK_eq (c:AV→Prop):∀ (vs:List AV) (o:Nat),nthK vs o c=(match vs[o]? with | some u=>c u | none=>False)
  | [],_=>rfl
  | _ :: _,0=>rfl
  | _ :: vs,o+1=>nthK_eq c vs o
def setN (vs:List AV) (o:Nat) (x:AV) (c:List AV→Prop):Prop :=
  List.rec (motive:=fun _=>Nat→(List AV→Prop)→Prop) (fun _ _=>False) (fun v l ih o c=>Nat.rec (motive:=fun _=>Prop) (c (x :: l)) (fun o _=>ih o fun us=>c (v :: us)) o) vs o c
def nthN (s:List Nat) (o:Nat) (c:Nat→Prop):Prop :=
  List.rec (motive:=fun _=>Nat→Prop) (fun _=>False) (fun v _ ih o=>Nat.rec (motive:=fun _=>Prop) (c v) (fun o _=>ih o) o) s o
theorem nthN_eq (c:Nat→Prop):∀ (s:List Nat) (j:Nat),nthN s j c=Bool.rec (motive:=fun _=>Prop) False (match s[j]? with | some b=>c b | none=>False) (Nat.blt j s.length)
  | [],_=>rfl
  | _ :: _,0=>rfl
  | v :: vs,o+1=>by
    show nthN vs o c=_
    rw [nthN_eq c vs o]
    rfl
theorem setN_eq (x:AV):∀ (vs:List AV) (o:Nat) (c:List AV→Prop),setN vs o x c=Bool.rec (motive:=fun _=>Prop) False (c (putL vs o [x])) (Nat.ble (o+1) vs.length)
  | [],_,_=>rfl
  | v :: l,0,c=>by
    show c (x :: l)=_
    have h:Nat.ble (0+1) (v :: l).length=true:=by simp
    rw [h]; rfl
  | v :: l,o+1,c=>by
    show setN l o x (fun us=>c (v :: us))=_
    rw [setN_eq x l o]
    have h:Nat.ble (o+1+1) (v :: l).length=Nat.ble (o+1) l.length:=rfl
    rw [h]; rfl
def cMap (_:List (AV × AV × Nat)) (_:Nat) (_:List AV→TypeId→Prop):Prop:=False
def cFrz (_:List AV) (_:TypeId) (_:List AV→TypeId→Prop):Prop:=False
def cLoop (_:LoopState) (_:Option AE) (_:List AV→TypeId→Prop):Prop:=False
def cChan (_:Nat) (_:List AV) (_:List AV→TypeId→Prop):Prop:=False
def cMapK (_:Nat) (_:T (List Int × AV)) (_:List AV→TypeId→Prop):Prop:=False
def cIter (_ _:List Nat) (_:Nat) (_:List AV→TypeId→Prop):Prop:=False
def cCells (vs:List AV) (e:TypeId) (c:List AV→TypeId→Prop):Prop:=c vs e
def cellsK (b:AO) (c:List AV→TypeId→Prop):Prop:=@AO.rec (fun _=>(List AV→TypeId→Prop)→Prop) cCells cMap cFrz cLoop cChan cMapK cIter b c
def rCells (vs:List AV) (_:TypeId) (c:List AV→Prop):Prop:=c vs
def rMap (_:List (AV × AV × Nat)) (_:Nat) (_:List AV→Prop):Prop:=False
def rLoop (_:LoopState) (_:Option AE) (_:List AV→Prop):Prop:=False
def rChan (_:Nat) (_:List AV) (_:List AV→Prop):Prop:=False
def rMapK (_:Nat) (_:T (List Int × AV)) (_:List AV→Prop):Prop:=False
def rIter (_ _:List Nat) (_:Nat) (_:List AV→Prop):Prop:=False
def rowZ (b:AO) (c:List AV→Prop):Prop:=@AO.rec (fun _=>(List AV→Prop)→Prop) rCells rMap rCells rLoop rChan rMapK rIter b c
section
variable {tm:S} {h:T AO} {nx:Pt}
theorem evF_congr {x:AX} {c c':AV→Prop} (hc:∀ v,c v=c' v):evK tm x c=evK tm x c':=by rw [funext hc]
theorem getF_congr {k:Pt} {c c':AO→Prop} (hc:∀ v,c v=c' v):h.getK k c=h.getK k c':=by rw [funext hc]
theorem intF_congr {v:AV} {c c':Nat→Prop} (hc:∀ n,c n=c' n):idxK v c=idxK v c':=by rw [funext hc]
def fLd1 (x:AX):VO:=fun tm h nx K=>evK tm x fun v=>ptrK v fun k o=>h.getK k fun b=>rowZ b fun vs=>nthK vs o fun u=>K u h nx
theorem fLd1_eq:fLd1=oLd1:=by
  funext x tm h nx K
  refine evF_congr fun v=>?_
  cases v <;> first | rfl | skip
  refine getF_congr fun b=>?_
  cases b <;> first | rfl | exact nthK_eq _ _ _
def fLdN (n:Nat) (x:AX):VO:=fun tm h nx K=>evK tm x fun v=>ptrK v fun k o=>h.getK k fun b=>cellsK b fun vs _=>Bool.rec (motive:=fun _=>Prop) False (forceL ((vs.drop o).take n) fun us=>K (.agg us) h nx) (Nat.ble (Nat.add o n) vs.length)
theorem fLdN_eq:fLdN=oLdN:=by
  funext n x tm h nx K
  refine evF_congr fun v=>?_
  cases v <;> first | rfl | skip
  refine getF_congr fun b=>?_
  cases b <;> rfl
def stSlow (n:Nat) (k:Pt) (o:Nat) (x:AV) (h:T AO) (nx:Pt) (K:AV→T AO→Pt→Prop):Prop :=
  h.getK k fun b=>match b with
      | .cells vs e=>Bool.rec (motive:=fun _=>Prop) False (forceL (putL vs o (cellsA x)) fun us=>h.setK (.cells us e) k fun h'=>K (.tup []) h' nx) (Nat.beq (cellsA x).length n&&Nat.ble (o+n) vs.length&&flatB (cellsA x))
      | _=>False
def fSt1 (a x:AX):VO:=fun tm h nx K=>evK tm a fun a=>ptrK a fun k o=>evK tm x fun x=>rowK x (h.getK k fun b=>cellsK b fun vs e=>setN vs o x fun us=>h.setK (.cells us e) k fun h'=>K (.tup []) h' nx) (stSlow 1 k o x h nx K)
theorem fSt1_eq:fSt1=oSt 1:=by
  funext a x tm h nx K
  refine evF_congr fun v=>?_
  cases v <;> first | rfl | skip
  refine evF_congr fun x=>?_
  have key:(∃ vs,x=.agg vs)∨(∃ vs,x=.tup vs)∨(flat1 x=true∧cellsA x=[x]∧∀ a b,rowK x a b=a):=by
    cases x <;> first | exact .inl ⟨_,rfl⟩ | exact .inr (.inl ⟨_,rfl⟩) | exact .inr (.inr ⟨rfl,rfl,fun _ _=>rfl⟩)
  rcases key with ⟨vs,rfl⟩ | ⟨vs,rfl⟩ | ⟨h0,h1,hr⟩
  · rfl
  · rfl
  · show rowK x _ _=_
    rw [hr]
    refine getF_congr fun b=>?_
    cases b <;> first | rfl | skip
    rename_i vs e
    show setN vs _ x _=_
    rw [setN_eq]
    have h2:flatB (cellsA x)=true:=by rw [h1]; simp only [flatB,h0,Bool.and_true]
    have h3:Nat.beq (cellsA x).length 1=true:=by rw [h1]; rfl
    show _=Bool.rec (motive:=fun _=>Prop) False (forceL (putL vs _ (cellsA x)) _) (Nat.beq (cellsA x).length 1&&Nat.ble (_+1) vs.length&&flatB (cellsA x))
    rw [h2,h3,Bool.true_and,Bool.and_true,h1,propext (forceL_iff _ _)]
def fFa (d:Nat) (x:AX):VO:=fun tm h nx K=>evK tm x fun v=>ptrK v fun k o=>forceN (Nat.add o d) fun o=>K (.ptr k o) h nx
theorem fFa_eq:fFa=oFa:=by
  funext d x tm h nx K
  refine evF_congr fun v=>?_
  cases v <;> rfl
def fFld1 (o:Nat) (x:AX):VO:=fun tm h nx K=>evK tm x fun v=>aggK v fun vs=>nthK vs o fun u=>K u h nx
theorem fFld1_eq:fFld1=oFld1:=by
  funext o x tm h nx K
  refine evF_congr fun v=>?_
  cases v <;> first | rfl | skip
  exact nthK_eq _ _ _
def fFld (n o:Nat) (x:AX):VO:=fun tm h nx K=>evK tm x fun v=>aggK v fun vs=>forceL ((vs.drop o).take n) fun us=>K (.agg us) h nx
theorem fFld_eq:fFld=oFld:=by
  funext n o x tm h nx K
  refine evF_congr fun v=>?_
  cases v <;> rfl
def fExt (x:AX) (i:Nat):VO:=fun tm h nx K=>evK tm x fun v=>tupK v fun vs=>nthK vs i fun u=>K u h nx
theorem fExt_eq:fExt=oExt:=by
  funext x i tm h nx K
  refine evF_congr fun v=>?_
  cases v <;> first | rfl | skip
  exact nthK_eq _ _ _
theorem atK_idx (i:AV) (n:Nat) (c:Nat→Prop):(idxK i fun j=>Bool.rec (motive:=fun _=>Prop) False (c j) (Nat.blt j n))=atK i n c:=by
  cases i <;> first | rfl | skip
  rename_i k m
  cases m <;> rfl
def fIa (n:Nat) (x i:AX):VO:=fun tm h nx K=>evK tm x fun v=>slK v fun k o l=>evK tm i fun i=>idxK i fun j=>Bool.rec (motive:=fun _=>Prop) False (forceN (Nat.add o (Nat.mul j n)) fun o=>K (.ptr k o) h nx) (Nat.ble (Nat.succ j) l)
theorem fIa_eq:fIa=oIa:=by
  funext n x i tm h nx K
  refine evF_congr fun v=>?_
  cases v <;> first | rfl | skip
  refine evF_congr fun i=>?_
  exact atK_idx _ _ _
def fIaA (len n:Nat) (x i:AX):VO:=fun tm h nx K=>evK tm x fun v=>ptrK v fun k o=>evK tm i fun i=>idxK i fun j=>Bool.rec (motive:=fun _=>Prop) False (forceN (Nat.add o (Nat.mul j n)) fun o=>K (.ptr k o) h nx) (Nat.ble (Nat.succ j) len)
theorem fIaA_eq:fIaA=oIaA:=by
  funext len n x i tm h nx K
  refine evF_congr fun v=>?_
  cases v <;> first | rfl | skip
  refine evF_congr fun i=>?_
  exact atK_idx _ _ _
def fLen (x:AX):VO:=fun tm h nx K=>evK tm x fun v=>lenK v fun l=>K (.int .i64 (.ofNat l)) h nx
theorem fLen_eq:fLen=oLen:=by
  funext x tm h nx K
  refine evF_congr fun v=>?_
  cases v <;> rfl
def fIxS (x i:AX):VO:=fun tm h nx K=>evK tm x fun a=>strK a fun s=>evK tm i fun i=>idxK i fun j=>nthN s j fun b=>forceN (Nat.mod b 256) fun b=>K (.int .u8 (.ofNat b)) h nx
theorem fIxS_eq:fIxS=oIxS:=by
  funext x i tm h nx K
  refine evF_congr fun a=>?_
  cases a <;> first | rfl | skip
  rename_i s
  refine evF_congr fun i=>?_
  show _=atK i s.length _
  rw [← atK_idx]
  refine intF_congr fun j=>?_
  exact nthN_eq _ _ _
def dropE (p:Nat) (c:List Nat→Prop):Prop:=Nat.rec (motive:=fun _=>Prop) (c []) (fun _ _=>False) p
def dropC (b:Nat) (l:List Nat) (ih:Nat→(List Nat→Prop)→Prop) (p:Nat) (c:List Nat→Prop):Prop:=Nat.rec (motive:=fun _=>Prop) (c (b :: l)) (fun q _=>ih q c) p
def dropN (s:List Nat) (p:Nat) (c:List Nat→Prop):Prop:=List.rec (motive:=fun _=>Nat→(List Nat→Prop)→Prop) dropE dropC s p c
theorem dropN_eq:∀ (s:List Nat) (p:Nat) (c:List Nat→Prop),dropN s p c=Bool.rec (motive:=fun _=>Prop) False (c (s.drop p)) (Nat.ble p s.length)
  | [],0,c=>rfl
  | [],p+1,c=>rfl
  | b :: l,0,c=>rfl
  | b :: l,p+1,c=>by
    have h:dropN (b :: l) (p+1) c=dropN l p c:=rfl
    rw [h,dropN_eq l p c]
    rfl
def tnE (_:Nat) (c:List Nat→Prop):Prop:=c []
def tnK (v:Nat) (c:List Nat→Prop) (l:List Nat):Prop:=c (v :: l)
def tnC (v:Nat) (_:List Nat) (ih:Nat→(List Nat→Prop)→Prop) (n:Nat) (c:List Nat→Prop):Prop:=Nat.rec (motive:=fun _=>Prop) (c []) (fun m _=>ih m (tnK v c)) n
def txTake (l:List Nat) (n:Nat) (c:List Nat→Prop):Prop:=List.rec (motive:=fun _=>Nat→(List Nat→Prop)→Prop) tnE tnC l n c
theorem txTake_eq:∀ (l:List Nat) (n:Nat) (c:List Nat→Prop),txTake l n c=c (l.take n)
  | [],n,c=>by cases n <;> rfl
  | v :: l,0,c=>rfl
  | v :: l,n+1,c=>by
    have h:txTake (v :: l) (n+1) c=txTake l n (tnK v c):=rfl
    rw [h,txTake_eq l n]; rfl
def gnE (n:Nat):Bool:=Nat.beq n 0
def gnS (_:Nat) (_:List Nat) (ih:Nat→Bool) (n:Nat):Bool:=Nat.rec (motive:=fun _=>Bool) true (fun m _=>ih m) n
noncomputable def txGe (l:List Nat) (n:Nat):Bool:=List.rec (motive:=fun _=>Nat→Bool) gnE gnS l n
theorem txGe_eq:∀ (l:List Nat) (n:Nat),txGe l n=Nat.ble n l.length
  | [],0=>rfl
  | [],n+1=>rfl
  | v :: l,0=>rfl
  | v :: l,n+1=>txGe_eq l n
def anE (us:List Nat) (c:List Nat→Prop):Prop:=c us
def anC (v:Nat) (_:List Nat) (ih:List Nat→(List Nat→Prop)→Prop) (us:List Nat) (c:List Nat→Prop):Prop:=ih us (tnK v c)
def txApp (l us:List Nat) (c:List Nat→Prop):Prop:=List.rec (motive:=fun _=>List Nat→(List Nat→Prop)→Prop) anE anC l us c
theorem txApp_eq:∀ (l us:List Nat) (c:List Nat→Prop),txApp l us c=c (l ++ us)
  | [],us,c=>rfl
  | v :: l,us,c=>by
    have h:txApp (v :: l) us c=txApp l us (tnK v c):=rfl
    rw [h,txApp_eq l us]; rfl
def lnE (n:Nat) (c:Nat→Prop):Prop:=c n
def lnC (_:Nat) (_:List Nat) (ih:Nat→(Nat→Prop)→Prop) (n:Nat) (c:Nat→Prop):Prop:=Nat.rec (motive:=fun _=>Prop) False (fun m _=>ih m c) n
def txLeft (l:List Nat) (n:Nat) (c:Nat→Prop):Prop:=List.rec (motive:=fun _=>Nat→(Nat→Prop)→Prop) lnE lnC l n c
theorem txLeft_eq:∀ (l:List Nat) (n:Nat) (c:Nat→Prop),txLeft l n c=Bool.rec (motive:=fun _=>Prop) False (c (n - l.length)) (Nat.ble l.length n)
  | [],n,c=>by
    have h:Nat.ble ([]:List Nat).length n=true:=Nat.ble_eq_true_of_le (Nat.zero_le _)
    rw [h]; rfl
  | v :: l,0,c=>rfl
  | v :: l,n+1,c=>by
    have h:txLeft (v :: l) (n+1) c=txLeft l n c:=rfl
    rw [h,txLeft_eq l n]
    have e:n+1 - (v :: l).length=n - l.length:=by simp
    rw [e]; rfl
def sAddK (a b:List Nat) (c:AV→Prop):Prop:=txLeft a 1000000000 fun n=>txLeft b n fun _=>txApp a b fun s=>c (.str s)
theorem sAddK_eq (a b:List Nat) (c:AV→Prop):sAddK a b c=arS .add a b c:=by
  unfold sAddK arS
  rw [txLeft_eq]
  rw [txLeft_eq,txApp_eq]
  show _=Bool.rec (motive:=fun _=>Prop) False (forceL (a ++ b) fun s=>c (.str s)) (Nat.ble (a.length+b.length) 1000000000)
  rw [propext (forceL_iff (a ++ b) fun s=>c (.str s))]
  generalize 1000000000=N
  by_cases h:a.length+b.length≤N
  · rw [Nat.ble_eq_true_of_le h,Nat.ble_eq_true_of_le (show a.length≤N by omega),Nat.ble_eq_true_of_le (show b.length≤N - a.length by omega)]
  · have e1:Nat.ble (a.length+b.length) N=false:=Bool.eq_false_iff.2 fun e=>h (Nat.le_of_ble_eq_true e)
    rw [e1]
    by_cases h2:a.length≤N
    · have e2:Nat.ble b.length (N - a.length)=false:=Bool.eq_false_iff.2 fun e=>by have:=Nat.le_of_ble_eq_true e; omega
      rw [e2,Nat.ble_eq_true_of_le h2]
    · have e2:Nat.ble a.length N=false:=Bool.eq_false_iff.2 fun e=>h2 (Nat.le_of_ble_eq_true e)
      rw [e2]
def fSlS (x:AX) (lo hi:Option AX):VO:=match hi,lo with
  | none,some y=>fun tm h nx K=>evK tm x fun a=>strK a fun s=>evK tm y fun v=>idxK v fun p=>dropN s p fun s=>K (.str s) h nx
  | some z,some y=>fun tm h nx K=>evK tm x fun a=>strK a fun s=>evK tm z fun v=>idxK v fun q=>Bool.rec (motive:=fun _=>Prop) False (evK tm y fun v=>idxK v fun p=>Bool.rec (motive:=fun _=>Prop) False (dropN s p fun s=>txTake s (q - p) fun s=>K (.str s) h nx) (Nat.ble p q)) (txGe s q)
  | hi,lo=>oSlS x lo hi
theorem fSlS_eq:fSlS=oSlS:=by
  funext x lo hi
  cases hi with
  | some z =>
    cases lo with
    | none=>rfl
    | some y =>
      funext tm h nx K
      refine evF_congr fun a=>?_
      cases a <;> first | rfl | skip
      rename_i s
      refine evF_congr fun v=>?_
      cases v <;> first | rfl | skip
      rename_i k n
      cases n with
      | negSucc n=>rfl
      | ofNat q =>
        show Bool.rec (motive:=fun _=>Prop) False (evK tm y fun v=>idxK v fun p=>Bool.rec (motive:=fun _=>Prop) False (dropN s p fun s=>txTake s (q - p) fun s=>K (.str s) h nx) (Nat.ble p q)) (txGe s q)=Bool.rec (motive:=fun _=>Prop) False (bdK tm (some y) 0 q fun p=>forceL ((s.drop p).take (q - p)) fun s=>K (.str s) h nx) (Nat.ble q s.length)
        rw [txGe_eq]
        cases hq:Nat.ble q s.length with
        | false=>rfl
        | true =>
          refine evF_congr fun v=>?_
          cases v <;> first | rfl | skip
          rename_i k' n'
          cases n' with
          | negSucc n=>rfl
          | ofNat p =>
            show Bool.rec (motive:=fun _=>Prop) False (dropN s p fun s=>txTake s (q - p) fun s=>K (.str s) h nx) (Nat.ble p q)=Bool.rec (motive:=fun _=>Prop) False (forceL ((s.drop p).take (q - p)) fun s=>K (.str s) h nx) (Nat.ble p q)
            cases hp:Nat.ble p q with
            | false=>rfl
            | true =>
              have hle:Nat.ble p s.length=true:=Nat.ble_eq_true_of_le (Nat.le_trans (Nat.le_of_ble_eq_true hp) (Nat.le_of_ble_eq_true hq))
              show (dropN s p fun s=>txTake s (q - p) fun s=>K (.str s) h nx)=forceL ((s.drop p).take (q - p)) fun s=>K (.str s) h nx
              rw [dropN_eq,hle,propext (forceL_iff _ _)]
              exact txTake_eq _ _ _
  | none =>
    cases lo with
    | none=>rfl
    | some y =>
      funext tm h nx K
      refine evF_congr fun a=>?_
      cases a <;> first | rfl | skip
      rename_i s
      refine evF_congr fun v=>?_
      cases v <;> first | rfl | skip
      rename_i k n
      cases n with
      | negSucc n=>rfl
      | ofNat n =>
        show dropN s n (fun s=>K (.str s) h nx)=Bool.rec (motive:=fun _=>Prop) False (forceL ((s.drop n).take (s.length - n)) fun s=>K (.str s) h nx) (Nat.ble n s.length)
        rw [dropN_eq]
        have e:(forceL ((s.drop n).take (s.length - n)) fun s=>K (.str s) h nx)=K (.str (s.drop n)) h nx:=by
          rw [List.take_of_length_le (by simp)]
          exact propext (forceL_iff _ _)
        rw [e]
def fNchk (x:AX):VO:=fun tm h nx K=>evK tm x fun v=>nckK v fun v=>K v h nx
theorem fNchk_eq:fNchk=oNchk:=by
  funext x tm h nx K
  refine evF_congr fun v=>?_
  cases v <;> first | rfl | skip
  rename_i f a b
  cases f <;> rfl
def takeN (vs:List AV) (n:Nat) (c:List AV→Prop):Prop :=
  List.rec (motive:=fun _=>Nat→(List AV→Prop)→Prop) (fun n c=>Nat.rec (motive:=fun _=>Prop) (c []) (fun _ _=>False) n) (fun v _ ih n c=>Nat.rec (motive:=fun _=>Prop) (c []) (fun n _=>ih n fun us=>c (v :: us)) n) vs n c
def sliceN (vs:List AV) (o n:Nat) (c:List AV→Prop):Prop :=
  List.rec (motive:=fun _=>Nat→Prop) (fun o=>Nat.rec (motive:=fun _=>Prop) (takeN [] n c) (fun _ _=>Nat.rec (motive:=fun _=>Prop) False (fun _ _=>False) n) o) (fun v l ih o=>Nat.rec (motive:=fun _=>Prop) (takeN (v :: l) n c) (fun o _=>ih o) o) vs o
theorem takeN_eq:∀ (vs:List AV) (n:Nat) (c:List AV→Prop),takeN vs n c=Bool.rec (motive:=fun _=>Prop) False (c (vs.take n)) (Nat.ble n vs.length)
  | [],0,_=>rfl
  | [],_+1,_=>rfl
  | _ :: _,0,_=>rfl
  | v :: vs,n+1,c=>by
    show takeN vs n (fun us=>c (v :: us))=_
    rw [takeN_eq vs n]; rfl
theorem ble_zero (n:Nat):Nat.ble (n+1) 0=false:=rfl
theorem sliceN_eq (n:Nat) (c:List AV→Prop):∀ (vs:List AV) (o:Nat),(o≤vs.length∨n≠0)→sliceN vs o n c=Bool.rec (motive:=fun _=>Prop) False (c ((vs.drop o).take n)) (Nat.ble (o+n) vs.length)
  | [],0,_=>by
    show takeN [] n c=_
    rw [takeN_eq,Nat.zero_add]; rfl
  | [],o+1,h=>by
    have h1:Nat.ble (o+1+n) ([]:List AV).length=false:=by
      rw [show o+1+n=(o+n)+1 by omega]; rfl
    rw [h1]
    show Nat.rec (motive:=fun _=>Prop) False (fun _ _=>False) n=False
    cases n <;> rfl
  | v :: vs,0,_=>by
    show takeN (v :: vs) n c=_
    rw [takeN_eq,Nat.zero_add]; rfl
  | v :: vs,o+1,h=>by
    show sliceN vs o n c=_
    rw [sliceN_eq n c vs o (by rcases h with h | h; · left; simpa using h
                               · right; exact h)]
    have:Nat.ble (o+1+n) (v :: vs).length=Nat.ble (o+n) vs.length:=by
      rw [show o+1+n=(o+n)+1 by omega]; rfl
    rw [this]; rfl
def fLdS (n:Nat) (x:AX):VO:=fun tm h nx K=>evK tm x fun v=>ptrK v fun k o=>h.getK k fun b=>cellsK b fun vs _=>sliceN vs o (Nat.succ n) fun us=>K (.agg us) h nx
theorem fLdS_eq (n:Nat):fLdS n=oLdN (n+1):=by
  funext x tm h nx K
  refine evF_congr fun v=>?_
  cases v <;> first | rfl | skip
  refine getF_congr fun b=>?_
  cases b <;> first | rfl | skip
  show sliceN _ _ _ _=_
  rw [sliceN_eq _ _ _ _ (.inr (Nat.succ_ne_zero n))]
  show _=Bool.rec (motive:=fun _=>Prop) False (forceL _ _) _
  rw [propext (forceL_iff _ _)]
def fLdN' (n:Nat):AX→VO:=Nat.rec (motive:=fun _=>AX→VO) (oLdN 0) (fun n _=>fLdS n) n
theorem fLdN'_eq:fLdN'=oLdN:=by
  funext n
  cases n with
  | zero=>rfl
  | succ n=>exact fLdS_eq n
def pickB (b:Bool) (x y:Prop):Prop:=Bool.rec (motive:=fun _=>Prop) y x b
def fPick (c a b:AX):VO:=fun tm h nx K=>evK tm c fun v=>boolK v fun x=>Bool.rec (motive:=fun _=>Prop) (evK tm b fun v=>K v h nx) (evK tm a fun v=>K v h nx) x
theorem fPick_eq:fPick=oPick:=by
  funext c a b tm h nx K
  refine evF_congr fun v=>?_
  cases v <;> first | rfl | skip
  rename_i x
  cases x <;> rfl
def fG (g:Sl) (want:Bool) (d:Option Sl) (x:DO→DO) (rest:DO):DO:=fun ch tm h nx K =>
  tm.getK g fun v=>kGd v want (x rest ch tm h nx K) (putD d (.tup []) tm fun tm=>rest ch tm h nx K)
theorem fG_eq:fG=dG:=by
  funext g want d x rest ch tm h nx K
  have:∀ {c c':AV→Prop},(∀ v,c v=c' v)→tm.getK g c=tm.getK g c':=fun hc=>by rw [funext hc]
  refine this fun v=>?_
  cases v <;> first | rfl | skip
  rename_i b
  cases b <;> cases want <;> rfl
def fEqP (neg:Bool) (x y:AX):VO:=fun tm h nx K=>evK tm x fun a=>evK tm y fun b=>ptrE a (ptrE b (K (.bool (!neg)) h nx) fun _ _=>K (.bool neg) h nx) fun k o=>ptrE b (K (.bool neg) h nx) fun k' o'=>eqK .p h (.ptr k o) (.ptr k' o') fun x=>forceB (neg != x) fun x=>K (.bool x) h nx
theorem fEqP_eq:fEqP=oEq .p:=by
  funext neg x y tm h nx K
  refine evF_congr fun a=>evF_congr fun b=>?_
  cases a <;> first | (cases b <;> first | rfl | (cases neg <;> rfl)) | skip
def fCond (c:AX) (a b:D):D:=fun ch tm h nx K=>evK tm c fun v=>boolK v fun x=>Bool.rec (motive:=fun _=>Prop) (b ch tm h nx K) (a ch tm h nx K) x
theorem fCond_eq:fCond=dCond:=by
  funext c a b ch tm h nx K
  refine evF_congr fun v=>?_
  cases v <;> rfl
def fNot (x:AX):VO:=fun tm h nx K=>evK tm x fun a=>boolK a fun b=>Bool.rec (motive:=fun _=>Prop) (K (.bool true) h nx) (K (.bool false) h nx) b
theorem fNot_eq:fNot=oUn .not:=by
  funext x tm h nx K
  refine evF_congr fun v=>?_
  cases v <;> first | rfl | skip
  rename_i b
  cases b <;> rfl
def arSlow (op:BinOp) (a b:AV) (h:T AO) (nx:Pt) (K:AV→T AO→Pt→Prop):Prop:=match a,b with
    | .int k a,.int k' b=>arI op k k' a b fun v=>K v h nx
    | .str a,.str b=>arS op a b fun v=>K v h nx
    | _,_=>False
theorem n64_eq {v:AV} {c:Nat→Prop} {d:Prop} (hc:∀ n,v=.int .i64 (.ofNat n)→c n=d):n64K v c d=d:=by
  cases v <;> first | rfl | skip
  rename_i k m
  cases k <;> first | rfl | skip
  cases m <;> first | rfl | exact hc _ rfl
theorem arI_add (a b:Int) (c:AV→Prop):arI .add .i64 .i64 a b c=wrapK .i64 (Int.add a b) c:=rfl
theorem arI_sub (a b:Int) (c:AV→Prop):arI .sub .i64 .i64 a b c=wrapK .i64 (Int.sub a b) c:=rfl
def addS (a b:AV) (h:T AO) (nx:Pt) (K:AV→T AO→Pt→Prop):Prop:=match a,b with
  | .str a,.str b=>sAddK a b fun v=>K v h nx
  | a,b=>arSlow .add a b h nx K
theorem addS_eq (a b:AV) (h:T AO) (nx:Pt) (K:AV→T AO→Pt→Prop):addS a b h nx K=arSlow .add a b h nx K:=by
  unfold addS
  split
  · exact sAddK_eq _ _ _
  · rfl
def fAdd (x y:AX):VO:=fun tm h nx K=>evK tm x fun a=>evK tm y fun b=>n64K a (fun n=>n64K b (fun m=>forceN (Nat.add n m) fun s=>Bool.rec (motive:=fun _=>Prop) (arSlow .add a b h nx K) (K (.int .i64 (.ofNat s)) h nx) (Nat.ble (Nat.succ s) 9223372036854775808)) (arSlow .add a b h nx K)) (addS a b h nx K)
theorem fAdd_eq:fAdd=oAr .add:=by
  funext x y tm h nx K
  refine evF_congr fun a=>evF_congr fun b=>?_
  rw [addS_eq]
  show n64K a _ _=arSlow .add a b h nx K
  refine n64_eq fun n hn=>n64_eq fun m hm=>?_
  subst hn; subst hm
  rw [propext (forceN_iff _ _)]
  show _=arI .add .i64 .i64 (.ofNat n) (.ofNat m) fun v=>K v h nx
  have hw:∀ c:AV→Prop,Nat.blt (n+m) 9223372036854775808=true→arI .add .i64 .i64 (.ofNat n) (.ofNat m) c=c (.int .i64 (.ofNat (n+m))):=fun c hb=>by
    rw [arI_add]
    show wrapK .i64 (.ofNat (n+m)) c=_
    unfold wrapK
    show Bool.rec (motive:=fun _=>Prop) (forceI (IntKind.wrap .i64 (.ofNat (n+m))) fun n=>c (.int .i64 n)) (forceN (n+m) fun m=>c (.int .i64 (.ofNat m))) (Nat.blt (n+m) 9223372036854775808)=_
    rw [hb]; exact propext (forceN_iff (n+m) _)
  cases hb:Nat.ble (Nat.succ (Nat.add n m)) 9223372036854775808 with
  | false=>rfl
  | true=>exact (hw (fun v=>K v h nx) hb).symm
def fSub (x y:AX):VO:=fun tm h nx K=>evK tm x fun a=>evK tm y fun b=>n64K a (fun n=>n64K b (fun m=>Bool.rec (motive:=fun _=>Prop) (arSlow .sub a b h nx K) (Bool.rec (motive:=fun _=>Prop) (arSlow .sub a b h nx K) (forceN (Nat.sub n m) fun s=>K (.int .i64 (.ofNat s)) h nx) (Nat.ble (Nat.succ n) 9223372036854775808)) (Nat.ble m n)) (arSlow .sub a b h nx K)) (arSlow .sub a b h nx K)
theorem fSub_eq:fSub=oAr .sub:=by
  funext x y tm h nx K
  refine evF_congr fun a=>evF_congr fun b=>?_
  show n64K a _ _=arSlow .sub a b h nx K
  refine n64_eq fun n hn=>n64_eq fun m hm=>?_
  subst hn; subst hm
  cases hb:Nat.ble m n with
  | false=>rfl
  | true =>
    cases hc:Nat.ble (Nat.succ n) 9223372036854775808 with
    | false=>rfl
    | true =>
      have h1:m≤n:=Nat.le_of_ble_eq_true hb
      have h2:n+1≤9223372036854775808:=Nat.le_of_ble_eq_true hc
      have h3:Int.sub (.ofNat n) (.ofNat m)=.ofNat (n - m):=by
        show (n:Int) - (m:Int)=((n - m:Nat):Int)
        omega
      show (forceN (n - m) fun s=>K (.int .i64 (.ofNat s)) h nx)=arI .sub .i64 .i64 (.ofNat n) (.ofNat m) fun v=>K v h nx
      rw [arI_sub,h3]
      have h4:Nat.blt (n - m) 9223372036854775808=true:=by rw [Nat.blt_eq]; omega
      show _=Bool.rec (motive:=fun _=>Prop) (forceI (IntKind.wrap .i64 (.ofNat (n - m))) fun n=>K (.int .i64 n) h nx) (forceN (n - m) fun m=>K (.int .i64 (.ofNat m)) h nx) (Nat.blt (n - m) 9223372036854775808)
      rw [h4]
def fCmp (op:BinOp) (f:Nat→Nat→Bool) (x y:AX):VO:=fun tm h nx K=>evK tm x fun a=>evK tm y fun b=>n64K a (fun n=>n64K b (fun m=>Bool.rec (motive:=fun _=>Prop) (K (.bool false) h nx) (K (.bool true) h nx) (f n m)) (arSlow op a b h nx K)) (arSlow op a b h nx K)
theorem fCmp_eq {op:BinOp} {f:Nat→Nat→Bool} (hf:∀ n m (c:AV→Prop),arI op .i64 .i64 (.ofNat n) (.ofNat m) c=forceB (f n m) fun x=>c (.bool x)):fCmp op f=oAr op:=by
  funext x y tm h nx K
  refine evF_congr fun a=>evF_congr fun b=>?_
  show n64K a _ _=arSlow op a b h nx K
  refine n64_eq fun n hn=>n64_eq fun m hm=>?_
  subst hn; subst hm
  show _=arI op .i64 .i64 (.ofNat n) (.ofNat m) _
  rw [hf]
  cases f n m <;> rfl
def fCmpN (op:BinOp) (f:Nat→Nat→Bool) (x y:AX):VO:=fun tm h nx K=>evK tm x fun a=>evK tm y fun b=>n64K a (fun n=>n64K b (fun m=>Bool.rec (motive:=fun _=>Prop) (K (.bool true) h nx) (K (.bool false) h nx) (f n m)) (arSlow op a b h nx K)) (arSlow op a b h nx K)
theorem fCmpN_eq {op:BinOp} {f:Nat→Nat→Bool} (hf:∀ n m (c:AV→Prop),arI op .i64 .i64 (.ofNat n) (.ofNat m) c=forceB (!f n m) fun x=>c (.bool x)):fCmpN op f=oAr op:=by
  funext x y tm h nx K
  refine evF_congr fun a=>evF_congr fun b=>?_
  show n64K a _ _=arSlow op a b h nx K
  refine n64_eq fun n hn=>n64_eq fun m hm=>?_
  subst hn; subst hm
  show _=arI op .i64 .i64 (.ofNat n) (.ofNat m) _
  rw [hf]
  cases f n m <;> rfl
def bLss (n m:Nat):Bool:=Nat.ble (Nat.succ n) m
def bGtr (n m:Nat):Bool:=Nat.ble (Nat.succ m) n
theorem fEql_eq:fCmp .eql Nat.beq=oAr .eql:=fCmp_eq fun _ _ _=>rfl
theorem fNeq_eq:fCmpN .neq Nat.beq=oAr .neq:=fCmpN_eq fun _ _ _=>rfl
theorem fLss_eq:fCmp .lss bLss=oAr .lss:=fCmp_eq fun _ _ _=>rfl
theorem fLeq_eq:fCmpN .leq bGtr=oAr .leq:=fCmpN_eq fun _ _ _=>rfl
theorem fGtr_eq:fCmp .gtr bGtr=oAr .gtr:=fCmp_eq fun _ _ _=>rfl
theorem fGeq_eq:fCmpN .geq bLss=oAr .geq:=fCmpN_eq fun _ _ _=>rfl
end
def sMv (p:Sl) (x:AX) (rest:DO):DO:=dV p (oMv x) rest
def fMv (p:Sl) (x:AX) (rest:DO):DO:=fun ch tm h nx K=>evK tm x fun v=>p.wr v tm fun tm=>rest ch tm h nx K
theorem fMv_eq:fMv=sMv:=rfl
def consC {α:Type} (v:α) (c:List α→Prop) (l:List α):Prop:=c (v :: l)
def leE (n:Nat):Bool:=Nat.beq n 0
def leS (_:AV) (_:List AV) (ih:Nat→Bool) (n:Nat):Bool:=Nat.rec (motive:=fun _=>Bool) false (fun m _=>ih m) n
noncomputable def lenIs (l:List AV) (n:Nat):Bool:=List.rec (motive:=fun _=>Nat→Bool) leE leS l n
theorem lenIs_eq:∀ (l:List AV) (n:Nat),lenIs l n=Nat.beq l.length n
  | [],0=>rfl
  | [],n+1=>rfl
  | v :: l,0=>rfl
  | v :: l,n+1=>lenIs_eq l n
def ovN (vs:List AV) (c:List AV→Prop):Prop:=c vs
def ovS (x:AV) (ih:List AV→(List AV→Prop)→Prop) (c:List AV→Prop) (_:AV) (t:List AV):Prop:=ih t (consC x c)
def ovC (x:AV) (_:List AV) (ih:List AV→(List AV→Prop)→Prop) (vs:List AV) (c:List AV→Prop):Prop:=List.rec (motive:=fun _=>Prop) False (fun v t _=>ovS x ih c v t) vs
def overK (xs vs:List AV) (c:List AV→Prop):Prop:=List.rec (motive:=fun _=>List AV→(List AV→Prop)→Prop) ovN ovC xs vs c
def puE (xs:List AV) (o:Nat) (c:List AV→Prop):Prop:=Nat.rec (motive:=fun _=>Prop) (overK xs [] c) (fun _ _=>False) o
def puC (v:AV) (t:List AV) (ih:List AV→Nat→(List AV→Prop)→Prop) (xs:List AV) (o:Nat) (c:List AV→Prop):Prop:=Nat.rec (motive:=fun _=>Prop) (overK xs (v :: t) c) (fun m _=>ih xs m (consC v c)) o
def putF (vs:List AV) (o:Nat) (xs:List AV) (c:List AV→Prop):Prop:=List.rec (motive:=fun _=>List AV→Nat→(List AV→Prop)→Prop) puE puC vs xs o c
theorem putL_zero {α:Type}:∀ (xs:List α) (v:α) (t:List α) (o:Nat),putL (v :: t) (o+1) xs=v :: putL t o xs
  | [],_,_,_=>rfl
  | x :: xs,v,t,o=>by
    show putL ((v :: t).set (o+1) x) (o+1+1) xs=v :: putL (t.set o x) (o+1) xs
    rw [List.set_cons_succ,putL_zero xs]
theorem overK_eq:∀ (xs vs:List AV) (c:List AV→Prop),overK xs vs c=Bool.rec (motive:=fun _=>Prop) False (c (putL vs 0 xs)) (Nat.ble xs.length vs.length)
  | [],vs,c=>by
    have h:Nat.ble ([]:List AV).length vs.length=true:=Nat.ble_eq_true_of_le (Nat.zero_le _)
    rw [h]; rfl
  | x :: xs,[],c=>rfl
  | x :: xs,v :: t,c=>by
    have h:overK (x :: xs) (v :: t) c=overK xs t (consC x c):=rfl
    rw [h,overK_eq xs t]
    show (Bool.rec (motive:=fun _=>Prop) False (c (x :: putL t 0 xs)) (Nat.ble xs.length t.length))=Bool.rec (motive:=fun _=>Prop) False (c (putL ((v :: t).set 0 x) (0+1) xs)) (Nat.ble xs.length t.length)
    rw [List.set_cons_zero,putL_zero]
theorem putF_eq:∀ (vs:List AV) (o:Nat) (xs:List AV) (c:List AV→Prop),putF vs o xs c=Bool.rec (motive:=fun _=>Prop) False (c (putL vs o xs)) (Nat.ble (o+xs.length) vs.length)
  | [],0,xs,c=>by
    show overK xs [] c=_
    rw [overK_eq,Nat.zero_add]
  | [],o+1,xs,c=>by
    have h:Nat.ble (o+1+xs.length) ([]:List AV).length=false:=Bool.eq_false_iff.2 fun e=>by have:=Nat.le_of_ble_eq_true e; simp at this
    rw [h]; rfl
  | v :: t,0,xs,c=>by
    show overK xs (v :: t) c=_
    rw [overK_eq,Nat.zero_add]
  | v :: t,o+1,xs,c=>by
    have h:putF (v :: t) (o+1) xs c=putF t o xs (consC v c):=rfl
    rw [h,putF_eq t o xs]
    have e:o+1+xs.length=(o+xs.length)+1:=by omega
    rw [e,putL_zero]
    rfl
theorem brec_and {a b:Bool} {p:Prop}:(Bool.rec (motive:=fun _=>Prop) False p (a&&b))=Bool.rec (motive:=fun _=>Prop) False (Bool.rec (motive:=fun _=>Prop) False p b) a:=by
  cases a <;> cases b <;> rfl
theorem beq_rw {l:List AV} {n:Nat} {p q:Prop} (h:l.length=n→p=q):(Bool.rec (motive:=fun _=>Prop) False p (Nat.beq l.length n))=Bool.rec (motive:=fun _=>Prop) False q (Nat.beq l.length n):=by
  cases hb:Nat.beq l.length n with
  | false=>rfl
  | true=>exact h (Nat.eq_of_beq_eq_true hb)
def flE:Bool:=true
def flC (v:AV) (_:List AV) (ih:Bool):Bool:=flat1 v&&ih
noncomputable def flatF (l:List AV):Bool:=List.rec (motive:=fun _=>Bool) flE flC l
theorem flatF_eq:∀ l:List AV,flatF l=flatB l
  | []=>rfl
  | v :: l=>by
    show (flat1 v&&flatF l)=(flat1 v&&flatB l)
    rw [flatF_eq l]
def fSt (n:Nat) (a x:AX):VO:=fun tm h nx K=>evK tm a fun a=>ptrK a fun k o=>evK tm x fun x=>h.getK k fun b=>cellsK b fun vs e =>
  Bool.rec (motive:=fun _=>Prop) False (putF vs o (cellsA x) fun us=>h.setK (.cells us e) k fun h'=>K (.tup []) h' nx) (lenIs (cellsA x) n&&flatF (cellsA x))
theorem fSt_eq:fSt=oSt:=by
  funext n a x tm h nx K
  refine evF_congr fun v=>?_
  cases v <;> first | rfl | skip
  refine evF_congr fun x=>?_
  refine getF_congr fun b=>?_
  cases b <;> first | rfl | skip
  rename_i k o vs e
  show (Bool.rec (motive:=fun _=>Prop) False (putF vs o (cellsA x) fun us=>h.setK (.cells us e) k fun h'=>K (.tup []) h' nx) (lenIs (cellsA x) n&&flatF (cellsA x)))=Bool.rec (motive:=fun _=>Prop) False (forceL (putL vs o (cellsA x)) fun us=>h.setK (.cells us e) k fun h'=>K (.tup []) h' nx) (Nat.beq (cellsA x).length n&&Nat.ble (o+n) vs.length&&flatB (cellsA x))
  rw [lenIs_eq,flatF_eq,putF_eq,brec_and,Bool.and_assoc,brec_and]
  refine beq_rw fun hl=>?_
  rw [hl,brec_and,propext (forceL_iff _ _)]
  cases flatB (cellsA x) <;> cases Nat.ble (o+n) vs.length <;> rfl
def fillS (tm:S) (p:Nat × Nat × AX) (_:List (Nat × Nat × AX)) (ih:List AV→(List AV→Prop)→Prop) (z:List AV) (c:List AV→Prop):Prop :=
  evK tm p.2.2 fun v=>Bool.rec (motive:=fun _=>Prop) False (putF z p.1 (cellsA v) fun z=>ih z c) (lenIs (cellsA v) p.2.1)
def fillF (tm:S) (l:List (Nat × Nat × AX)) (z:List AV) (c:List AV→Prop):Prop:=List.rec (motive:=fun _=>List AV→(List AV→Prop)→Prop) ovN (fillS tm) l z c
theorem fillF_eq {tm:S}:∀ (l:List (Nat × Nat × AX)) (z:List AV) (c:List AV→Prop),fillF tm l z c=fillK tm l z c
  | [],z,c=>rfl
  | p :: l,z,c=>by
    have h:fillK tm (p :: l) z c=evK tm p.2.2 fun v=>forceB (Nat.beq (cellsA v).length p.2.1&&Nat.ble (p.1+p.2.1) z.length) fun b=>Bool.rec (motive:=fun _=>Prop) False (fillK tm l (putL z p.1 (cellsA v)) c) b:=rfl
    rw [h]
    show (evK tm p.2.2 fun v=>Bool.rec (motive:=fun _=>Prop) False (putF z p.1 (cellsA v) fun z=>fillF tm l z c) (lenIs (cellsA v) p.2.1))=_
    refine evF_congr fun v=>?_
    rw [lenIs_eq,putF_eq,propext (forceB_iff _ _),brec_and]
    refine beq_rw fun hl=>?_
    rw [hl,fillF_eq l]
def fBuild (z:List AV) (ps:List (Nat × Nat × AX)):VO:=fun tm h nx K=>fillF tm ps z fun vs=>K (.agg vs) h nx
theorem fBuild_eq:fBuild=oBuild:=by
  funext z ps tm h nx K
  show fillF tm ps z _=fillK tm ps z _
  rw [fillF_eq]
  congr 1
  funext vs
  exact (propext (forceL_iff vs fun vs=>K (.agg vs) h nx)).symm
def fBuildS (e:TypeId) (n:Nat) (z:List AV) (ps:List (Nat × Nat × AX)):VO:=fun tm h nx K=>fillF tm ps z fun vs=>h.setK (.cells vs e) nx fun h'=>succK nx fun n'=>K (.sl nx 0 n n false) h' n'
theorem fBuildS_eq:fBuildS=oBuildS:=by
  funext e n z ps tm h nx K
  show fillF tm ps z _=fillK tm ps z _
  rw [fillF_eq]
  congr 1
  funext vs
  exact (propext (forceL_iff vs fun vs=>h.setK (.cells vs e) nx fun h'=>succK nx fun n'=>K (.sl nx 0 n n false) h' n')).symm
def tkE (_:Nat) (c:List AV→Prop):Prop:=c []
def tkC (v:AV) (_:List AV) (ih:Nat→(List AV→Prop)→Prop) (n:Nat) (c:List AV→Prop):Prop:=Nat.rec (motive:=fun _=>Prop) (c []) (fun m _=>ih m (consC v c)) n
def takeF (l:List AV) (n:Nat) (c:List AV→Prop):Prop:=List.rec (motive:=fun _=>Nat→(List AV→Prop)→Prop) tkE tkC l n c
theorem takeF_eq:∀ (l:List AV) (n:Nat) (c:List AV→Prop),takeF l n c=c (l.take n)
  | [],n,c=>by cases n <;> rfl
  | v :: l,0,c=>rfl
  | v :: l,n+1,c=>by
    have h:takeF (v :: l) (n+1) c=takeF l n (consC v c):=rfl
    rw [h,takeF_eq l n]; rfl
def dpE (_:Nat) (c:List AV→Prop):Prop:=c []
def dpC (v:AV) (t:List AV) (ih:Nat→(List AV→Prop)→Prop) (n:Nat) (c:List AV→Prop):Prop:=Nat.rec (motive:=fun _=>Prop) (c (v :: t)) (fun m _=>ih m c) n
def dropF (l:List AV) (n:Nat) (c:List AV→Prop):Prop:=List.rec (motive:=fun _=>Nat→(List AV→Prop)→Prop) dpE dpC l n c
theorem dropF_eq:∀ (l:List AV) (n:Nat) (c:List AV→Prop),dropF l n c=c (l.drop n)
  | [],n,c=>by cases n <;> rfl
  | v :: l,0,c=>rfl
  | v :: l,n+1,c=>dropF_eq l n c
def geE (n:Nat):Bool:=Nat.beq n 0
def geS (_:AV) (_:List AV) (ih:Nat→Bool) (n:Nat):Bool:=Nat.rec (motive:=fun _=>Bool) true (fun m _=>ih m) n
noncomputable def lenGe (l:List AV) (n:Nat):Bool:=List.rec (motive:=fun _=>Nat→Bool) geE geS l n
theorem lenGe_eq:∀ (l:List AV) (n:Nat),lenGe l n=Nat.ble n l.length
  | [],0=>rfl
  | [],n+1=>rfl
  | v :: l,0=>rfl
  | v :: l,n+1=>lenGe_eq l n
def apE (us:List AV) (c:List AV→Prop):Prop:=c us
def apC (v:AV) (_:List AV) (ih:List AV→(List AV→Prop)→Prop) (us:List AV) (c:List AV→Prop):Prop:=ih us (consC v c)
def appF (l us:List AV) (c:List AV→Prop):Prop:=List.rec (motive:=fun _=>List AV→(List AV→Prop)→Prop) apE apC l us c
theorem appF_eq:∀ (l us:List AV) (c:List AV→Prop),appF l us c=c (l ++ us)
  | [],us,c=>rfl
  | v :: l,us,c=>by
    have h:appF (v :: l) us c=appF l us (consC v c):=rfl
    rw [h,appF_eq l us]; rfl
def srcF (h:T AO) (n:Nat) (b:AV) (c:Nat→List AV→Prop):Prop :=
  match b with
  | .nils=>c 0 []
  | .slz _ _ _=>c 0 []
  | .sl k o l _ _=>h.getK k fun x=>match x with
    | .cells vs _=>Bool.rec (motive:=fun _=>Prop) False (dropF vs o fun us=>takeF us (l*n) fun us=>c l us) (lenGe vs (o+l*n))
    | .frz vs _=>Bool.rec (motive:=fun _=>Prop) False (dropF vs o fun us=>takeF us (l*n) fun us=>c l us) (lenGe vs (o+l*n))
    | _=>False
  | .str s=>Bool.rec (motive:=fun _=>Prop) False (forceL (s.map fun b=>AV.int .u8 (.ofNat b)) fun us=>forceN s.length fun m=>c m us) (Nat.beq n 1)
  | _=>False
theorem srcF_eq:srcF=srcK:=by
  funext h n b c
  cases b <;> first | rfl | skip
  refine getF_congr fun x=>?_
  cases x <;> first | rfl | skip
  all_goals
    show (Bool.rec (motive:=fun _=>Prop) False (dropF _ _ fun us=>takeF us _ fun us=>c _ us) (lenGe _ _))=Bool.rec (motive:=fun _=>Prop) False (forceL _ fun us=>c _ us) (Nat.ble _ _)
    rw [dropF_eq,takeF_eq,lenGe_eq,propext (forceL_iff _ _)]
def fAppK (h:T AO) (nx:Pt) (e:TypeId) (n:Nat) (a b:AV) (K:AV→T AO→Pt→Prop):Prop :=
  srcF h n b fun m us=>match a with
    | .nils=>Bool.rec (motive:=fun _=>Prop) (Bool.rec (motive:=fun _=>Prop) False (h.setK (.cells us e) nx fun h'=>succK nx fun n'=>K (.sl nx 0 m m true) h' n') (Nat.ble m 1048576)) (K .nils h nx) (Nat.beq m 0)
    | .sl k o l c op=>h.getK k fun x=>match x with
      | .cells vs e'=>Bool.rec (motive:=fun _=>Prop)
          (Bool.rec (motive:=fun _=>Prop)
            (Bool.rec (motive:=fun _=>Prop) False (dropF vs o fun vs=>takeF vs (l*n) fun vs=>appF vs us fun ws=>h.setK (.cells ws e) nx fun h'=>succK nx fun n'=>forceN (l+m) fun l=>K (.sl nx 0 l l true) h' n') (lenGe vs (o+l*n)&&Nat.ble (l+m) 1048576))
            (Bool.rec (motive:=fun _=>Prop) False (appF vs us fun ws=>(h.del k).setK (.cells ws e) nx fun h'=>succK nx fun n'=>forceN (l+m) fun l=>K (.sl nx 0 l l true) h' n') (Nat.beq o 0&&Nat.beq l c&&lenIs vs (l*n)&&Nat.beq e e'&&flatF us&&Nat.ble (l+m) 1048576)) op)
          (Bool.rec (motive:=fun _=>Prop) False (forceL (putL vs (o+l*n) us) fun ws=>h.setK (.cells ws e') k fun h'=>forceN (l+m) fun l=>K (.sl k o l c op) h' nx) (lenGe vs (o+c*n)&&flatF us))
          (Nat.ble (l+m) c)
      | .frz vs e'=>Bool.rec (motive:=fun _=>Prop) False (appF vs us fun ws=>(h.del k).setK (.frz ws e) nx fun h'=>succK nx fun n'=>forceN (l+m) fun l=>K (.sl nx 0 l l true) h' n')
          (op&&Nat.blt c (l+m)&&Nat.beq o 0&&Nat.beq l c&&lenIs vs (l*n)&&Nat.beq e e'&&flatF us&&Nat.ble (l+m) 1048576)
      | _=>False
    | _=>False
theorem nbeq_comm:∀ a b:Nat,Nat.beq a b=Nat.beq b a
  | 0,0=>rfl
  | 0,_+1=>rfl
  | _+1,0=>rfl
  | a+1,b+1=>nbeq_comm a b
theorem fAppK_eq:fAppK=appK:=by
  funext h nx e n a b K
  unfold fAppK appK
  rw [srcF_eq]
  congr 1
  funext m us
  cases a <;> first | rfl | skip
  refine getF_congr fun x=>?_
  cases x <;> first | rfl | skip
  all_goals rename_i vs _
  · simp only [dropF_eq,takeF_eq,appF_eq,lenGe_eq,lenIs_eq,flatF_eq,propext (forceL_iff _ _),nbeq_comm vs.length]
  · simp only [appF_eq,lenIs_eq,flatF_eq,propext (forceL_iff _ _),nbeq_comm vs.length]
def fApp (e:TypeId) (n:Nat) (x y:AX):VO:=fun tm h nx K=>evK tm x fun a=>evK tm y fun b=>fAppK h nx e n a b K
theorem fApp_eq:fApp=oApp:=by
  funext e n x y tm h nx K
  refine evF_congr fun a=>evF_congr fun b=>?_
  rw [fAppK_eq]
structure Ops where
  ld1:AX→VO
  ldN:Nat→AX→VO
  st1:AX→AX→VO
  fa:Nat→AX→VO
  fld:Nat→Nat→AX→VO
  fld1:Nat→AX→VO
  ext:AX→Nat→VO
  ia:Nat→AX→AX→VO
  iaA:Nat→Nat→AX→AX→VO
  len:AX→VO
  ixS:AX→AX→VO
  slS:AX→Option AX→Option AX→VO
  cond:AX→D→D→D
  not:AX→VO
  add:AX→AX→VO
  sub:AX→AX→VO
  eql:AX→AX→VO
  neq:AX→AX→VO
  lss:AX→AX→VO
  leq:AX→AX→VO
  gtr:AX→AX→VO
  geq:AX→AX→VO
  nchk:AX→VO
  pick:AX→AX→AX→VO
  g:Sl→Bool→Option Sl→(DO→DO)→DO→DO
  eqp:Bool→AX→AX→VO
  mv:Sl→AX→DO→DO
  st:Nat→AX→AX→VO
  build:List AV→List (Nat × Nat × AX)→VO
  buildS:TypeId→Nat→List AV→List (Nat × Nat × AX)→VO
  app:TypeId→Nat→AX→AX→VO
def slowO:Ops:=⟨oLd1,oLdN,oSt 1,oFa,oFld,oFld1,oExt,oIa,oIaA,oLen,oIxS,oSlS,dCond,oUn .not,oAr .add,oAr .sub,oAr .eql,oAr .neq,oAr .lss,oAr .leq,oAr .gtr,oAr .geq,oNchk,oPick,dG,oEq .p,sMv,oSt,oBuild,oBuildS,oApp⟩
def fastO:Ops:=⟨fLd1,fLdN',fSt1,fFa,fFld,fFld1,fExt,fIa,fIaA,fLen,fIxS,fSlS,fCond,fNot,fAdd,fSub,fCmp .eql Nat.beq,fCmpN .neq Nat.beq,fCmp .lss bLss,fCmpN .leq bGtr,fCmp .gtr bGtr,fCmpN .geq bLss,fNchk,fPick,fG,fEqP,fMv,fSt,fBuild,fBuildS,fApp⟩
theorem fast_slow:slowO=fastO:=by
  unfold slowO fastO
  rw [fLd1_eq,fLdN'_eq,fSt1_eq,fFa_eq,fFld_eq,fFld1_eq,fExt_eq,fIa_eq,fIaA_eq,fLen_eq,fIxS_eq,fSlS_eq,fCond_eq,fNot_eq,fAdd_eq,fSub_eq,fEql_eq,fNeq_eq,fLss_eq,fLeq_eq,fGtr_eq,fGeq_eq,fNchk_eq,fPick_eq,fG_eq,fEqP_eq,fMv_eq,fSt_eq,fBuild_eq,fBuildS_eq,fApp_eq]
def lM (p q:Sl) (rest:DS):DS:=fun F ch tm h nx K=>q.rd tm fun v=>p.wr v tm fun tm=>rest F ch tm h nx K
def lC (p:Sl) (v:AV) (rest:DS):DS:=fun F ch tm h nx K=>p.wr v tm fun tm=>rest F ch tm h nx K
def lN (p:Sl) (f:VO) (rest:DS):DS:=fun F ch tm h nx K=>f tm h nx fun v _ _=>tm.setK v p fun tm=>rest F ch tm h nx K
def lG (g:Sl) (b:Bool) (p:Sl) (f:VO) (rest:DS):DS:=fun F ch tm h nx K=>wantK g b tm (f tm h nx fun v _ _=>tm.setK v p fun tm=>rest F ch tm h nx K) (tm.setK (.tup []) p fun tm=>rest F ch tm h nx K)
def lA (i:Nat) (p:Sl) (f:S→Pt→(AV→AO→Prop)→Prop) (rest:DS):DS:=fun F ch tm h nx K=>f tm nx fun v ob=>tm.setK v p fun tm=>succK nx fun nx'=>rest (⟨i,nx,ob⟩ :: F) ch tm h nx' K
def aNew (vs:List AV) (e:TypeId):S→Pt→(AV→AO→Prop)→Prop:=fun _ n c=>c (.ptr n 0) (.cells vs e)
def aBox (e:TypeId) (x:AX):S→Pt→(AV→AO→Prop)→Prop:=fun tm n c=>evK tm x fun v=>c (.ptr n 0) (.cells (cellsA v) e)
def actC (f:Pt) (xs:List AX) (ch:CH) (tm:S) (h:T AO) (nx:Pt) (c:AV→T AO→Pt→Prop):Prop:=evsK tm xs fun args=>ch.go tm f args h nx c
def actV (f:VO) (_:CH) (tm:S) (h:T AO) (nx:Pt) (c:AV→T AO→Pt→Prop):Prop:=f tm h nx c
def gV (x:AOper):VO:=fun tm h nx K=>nK x tm h nx fun v=>K v h nx
def lRc (rc:List (Sl × VO)) (tm:S) (h:T AO) (nx:Pt) (k:Prop):Prop :=
  List.rec (motive:=fun _=>Prop) k (fun q _ ih=>q.2 tm h nx fun v _ _=>tm.getK q.1 fun u=>Bool.rec (motive:=fun _=>Prop) False ih (eqV v u)) rc
def lE (ab:List Nat) (rc:List (Sl × VO)) (d:Option Sl) (act:CH→S→T AO→Pt→(AV→T AO→Pt→Prop)→Prop) (rest:DS):DS:=fun F ch tm h nx K =>
  absK (inB ab) F h [] fun F h=>act ch tm h nx fun v h nx=>lRc rc tm h nx (putD d v tm fun tm=>rest F ch tm h nx K)
end Go.Proofs.YtidggaoacldgkaaGreatDoor.X
