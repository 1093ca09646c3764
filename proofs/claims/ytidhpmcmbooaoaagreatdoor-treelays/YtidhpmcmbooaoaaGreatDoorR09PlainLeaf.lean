/- . -/
import Derived.Test.YtidhpmcmbooaoaaGreatDoorRows
import Derived.Test.YtidhpmcmbooaoaaGreatDoorR08UtfFirst
import Derived.Test.YtidhpmcmbooaoaaGreatDoorR01RowsPlain
import Derived.Laws.StandIn
import Derived.Lib.Bytealg
set_option linter.unusedSimpArgs false
set_option linter.unusedVariables false
set_option maxRecDepth 100000
namespace Go.Proofs.YtidhpmcmbooaoaaGreatDoor
namespace Pln
open Utf Rws
open Go.RowKit
def strLen:Value->Nat
 | .string t=>t.size
 | _=>0
theorem mk_getD (l:List UInt8) (k:Nat) (h:k<(mk l).size):(mk l)[k]'h=l.getD k 0:=by
 rw[mk_get,List.getD_eq_getElem?_getD,List.getElem?_eq_getElem (by rw[mk_size]at h;exact h)];rfl
theorem ret_str {a b:ByteArray} (h:a=b):Ending.returned (.string a)=.returned (.string b):=by rw[h]
theorem snoc_ex (l:List UInt8) (h:l≠[]):∃ r b,l=r++[b]:=⟨l.dropLast,l.getLast h,(List.dropLast_concat_getLast h).symm⟩
theorem has_cons (c b:UInt8) (r:List UInt8):has c (b::r)=(b==c || has c r):=by simp[has]
theorem index_eq (l:List UInt8) (c:UInt8):Lib.indexByte l c=idx c l:=by
 induction l with
 | nil=>rfl
 | cons b r ih =>
  unfold Lib.indexByte;unfold idx;rw[has_cons,List.takeWhile_cons];by_cases hb:b=c
  ·subst hb;simp
  ·have h1:(b==c)=false:=by simpa using hb
   have h2:(b != c)=true:=by simpa using hb
   rw[h1,h2,ih];simp only[Bool.false_or,Bool.false_eq_true,if_false,if_true];unfold idx;cases h:has c r
   ·simp
   ·simp only[if_true,List.length_cons];rw[if_neg (by simp)]
    push_cast
    omega
theorem idx_has (c:UInt8) (l:List UInt8):decide (0<=idx c l)=has c l:=by
 cases h:has c l
 ·rw[idx_no h];rfl
 ·rw[idx_yes h];simp
theorem run_ix (s:ByteArray) (c:UInt8) (w:World):(callFunc 152 #[.string s,.int .u8 c.toNat]).run Tryz.prog w=.ok (.value (.int .i64 (idx c s.data.toList))) w:=by
 rw[run_callFunc_indexByte Tryz.func152 (by kernel_rfl) (by kernel_rfl) (by kernel_rfl) (by kernel_rfl),run_indexByte_string,Lib.firstIdx_eq,index_eq];simp[Result.andThen]
theorem indexByteL_any (s:ByteArray) (c:UInt8) (w:World):Calls Tryz.prog 126 #[.string s,.int .u8 c.toNat] w fun e w'=>e=.returned (.int .i64 (idx c s.data.toList))/\w=w':=by
 have h:=run_ix s c w;go_enter Tryz.func126,Tryz.ntmps126;go_wp2;go_ret;exact⟨rfl,rfl⟩
theorem indexByte_any (s:ByteArray) (c:UInt8) (w:World):Calls Tryz.prog 111 #[.string s,.int .u8 c.toNat] w fun e w'=>e=.returned (.int .i64 (idx c s.data.toList))/\w=w':=by
 go_enter Tryz.func111,Tryz.ntmps111;go_wp2_with (first | (go_at_call 126;refine(indexByteL_any _ _ _).mono ?_;rintro e w' ⟨rfl,rfl⟩));go_ret;exact⟨rfl,rfl⟩
theorem isOneOf_any (s:ByteArray) (c:UInt8) (w:World):Calls Tryz.prog 85 #[.int .u8 c.toNat,.string s] w fun e w'=>e=.returned (.bool (has c s.data.toList))/\w=w':=by
 go_enter Tryz.func85,Tryz.ntmps85;go_wp2_with (first | (go_at_call 111;refine(indexByte_any _ _ _).mono ?_;rintro e w' ⟨rfl,rfl⟩));go_ret;exact⟨by rw[idx_has];rfl,rfl⟩
theorem b32 (b:UInt8):((b.toNat:Int)==32)=is32 b:=by
 unfold is32;rw[Bool.eq_iff_iff];simp only[beq_iff_eq];constructor
 ·intro h;apply UInt8.toNat_inj.1;have:b.toNat=32:=by omega
  rw[this];rfl
 ·rintro rfl;rfl
theorem trimRightByte_any (l:List UInt8) (w:World) (hs:l.length<=562949953421312):Calls Tryz.prog 157 #[.string (mk l),.int .u8 32] w fun e w'=>e=.returned (.string (mk (trR is32 l)))/\w=w':=by
 go_enter Tryz.func157,Tryz.ntmps157;go_wp2
 go_loop [0] (fun u=>∃ m:List UInt8,u=.string (mk m)/\m.length<=l.length/\trR is32 l=trR is32 m) (fun u=>strLen u)
 case atStart=>exact⟨l,rfl,Nat.le_refl _,rfl⟩
 case round =>
  obtain⟨m,rfl,hm,ht⟩:=hrel;have HT:Hid (trR is32 l=trR is32 m):=ht;clear ht;by_cases h0:m=[]
  ·subst h0;have hz:(mk []).size=0:=rfl;go_wp2;go_ret;rw[HT.out];exact⟨rfl,rfl⟩
  ·obtain⟨r,b,rfl⟩:=snoc_ex m h0;have hsz:(mk (r++[b])).size=r.length+1:=by rw[mk_size];simp
   have hsl:r.length+1<=562949953421312:=by simp at hm;omega
   have hg:∀ h,(mk (r++[b]))[r.length]'h=b:=fun h=>by rw[mk_get];simp
   have hb32:=b32 b;cases hb:is32 b
   ·have HN:Hid (trR is32 (r++[b])=r++[b]):=by rw[trR_snoc,hb];rfl
    rw[hb]at hb32;go_wp2;go_ret;rw[HT.out,HN.out];exact⟨rfl,rfl⟩
   ·have HN:Hid (trR is32 (r++[b])=trR is32 r):=by rw[trR_snoc,hb];rfl
    rw[hb]at hb32;go_wp2;go_round
    case rel=>exact⟨r,by rw[mk_ext];simp[mk_size],by simp at hm;omega,HT.out.trans HN.out⟩
    case measure=>simp[strLen,mk_ext,mk_size]
theorem trimRight_any (l:List UInt8) (w:World) (hs:l.length<=562949953421312):Calls Tryz.prog 131 #[.string (mk l),.string ⟨#[32]⟩] w fun e w'=>e=.returned (.string (mk (trR is32 l)))/\w=w':=by
 by_cases h0:l=[]
 ·subst h0;have hz:(mk [])=ByteArray.empty:=rfl;go_enter Tryz.func131,Tryz.ntmps131;go_wp2;go_ret;exact⟨rfl,rfl⟩
 ·have hne:((mk l).toList==[])=false:=by rw[ByteArray.toList_eq,mk_data,beq_eq_false_iff_ne];exact h0
  go_enter Tryz.func131,Tryz.ntmps131;go_wp2_with (first | (go_at_call 157;refine(trimRightByte_any _ _ hs).mono ?_;rintro e w' ⟨rfl,rfl⟩));go_ret;exact⟨rfl,rfl⟩
theorem take2_eq (l:List UInt8) (h:2<=l.length):((mk l).extract 0 2).toList=l.take 2:=by
 rw[ByteArray.toList_eq,mk_ext,mk_data];simp
theorem hasPrefixL_any (l:List UInt8) (w:World):Calls Tryz.prog 74 #[.string (mk l),.string ⟨#[45,32]⟩] w fun e w'=>e=.returned (.bool (l.take 2==[45,32]))/\w=w':=by
 have hsz:=mk_size l;by_cases h:2<=l.length
 ·have ht:=take2_eq l h;go_enter Tryz.func74,Tryz.ntmps74;go_wp2;go_ret;exact⟨by simp[ht],rfl⟩
 ·have hf:(l.take 2==[45,32])=false:=by
   rw[beq_eq_false_iff_ne];intro e;have:=congrArg List.length e;simp at this;omega
  go_enter Tryz.func74,Tryz.ntmps74;go_wp2;go_ret;exact⟨by simp[hf],rfl⟩
theorem hasPrefix_any (l:List UInt8) (w:World):Calls Tryz.prog 52 #[.string (mk l),.string ⟨#[45,32]⟩] w fun e w'=>e=.returned (.bool (l.take 2==[45,32]))/\w=w':=by
 go_enter Tryz.func52,Tryz.ntmps52;go_wp2_with (first | (go_at_call 74;refine(hasPrefixL_any _ _).mono ?_;rintro e w' ⟨rfl,rfl⟩));go_ret;exact⟨rfl,rfl⟩
end Pln
end Go.Proofs.YtidhpmcmbooaoaaGreatDoor
