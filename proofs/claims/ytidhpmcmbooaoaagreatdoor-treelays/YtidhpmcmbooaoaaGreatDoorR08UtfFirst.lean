/- . -/
import Derived.Test.YtidhpmcmbooaoaaGreatDoorR07FlowRnameP
import Derived.Test.YtidhpmcmbooaoaaGreatDoorR00UtfPlain
set_option linter.unusedSimpArgs false
set_option linter.unusedVariables false
namespace Go.Proofs.YtidhpmcmbooaoaaGreatDoor
namespace Utf
open Go.RowKit
theorem getD_byte (s:ByteArray) (k:Nat) (h:k<s.size):s.data.toList.getD k 0=s[k]:=by
 have h':k<s.data.toList.length:=by simpa using h
 rw[List.getD_eq_getElem?_getD,List.getElem?_eq_getElem h'];rfl
theorem len_data (s:ByteArray):s.data.toList.length=s.size:=by simp
theorem wrap_small (n:Nat) (h:n<9223372036854775808):IntKind.i64.wrap (n:Int)=(n:Int):=by
 have e:(n:Int) % 2 ^ 64=n:=Int.emod_eq_of_lt (by omega) (by omega);simp only[IntKind.wrap,IntKind.bits,IntKind.signed,e];rw[if_neg];simp;omega
theorem or_join (x:Int) (b:UInt8) (h0:0<=x) (h1:x<=33554431):bits .or .i64 (x*64) (wrap64 (bits .and .u8 (b.toNat:Int) 63))=x*64+(b.toNat:Int) % 64:=by
 have e1:bits .and .u8 (b.toNat:Int) 63=(b.toNat:Int) % 64:=by
  have:=b.toNat_lt;have h:=u8_and_nat b.toNat 63 (by omega) (by omega);rw[nat_mask6]at h;simpa using h
 have e0:wrap64 ((b.toNat:Int) % 64)=(b.toNat:Int) % 64:=by unfold wrap64;omega
 rw[e1,e0];obtain⟨n,rfl⟩:=Int.eq_ofNat_of_zero_le h0;have e2:((n:Int)*64)=((n*64:Nat):Int):=by omega
 have e3:(b.toNat:Int) % 64=((b.toNat % 64:Nat):Int):=by omega
 rw[e2,e3];show IntKind.i64.wrap ((BitVec.ofInt 64 ((n*64:Nat):Int) ||| BitVec.ofInt 64 ((b.toNat % 64:Nat):Int)).toNat:Int)=_;rw[BitVec.toNat_or,ofInt_u64 _ (by omega),ofInt_u64 _ (by omega),nat_join 6 _ _ (by omega) (by omega),wrap_small _ (by omega)];omega
theorem first_any (s:ByteArray) (w:World) (hs:s.size<=maxLen):Calls Tryz.prog 89 #[.string s] w fun e w'=>e=.returned (.tuple #[.int .i64 (fst s.data.toList).1,.int .i64 (fst s.data.toList).2])/\w=w':=by
 unfold maxLen at hs;by_cases h0:s.size=0
 ·have hie:s.toList.isEmpty=true:=by
   have:=len_data s;rw[ByteArray.toList_eq,List.isEmpty_iff,List.eq_nil_iff_length_eq_zero];omega
  have hf:=fst_nil s.data.toList (by rw[len_data];exact h0);rw[hf];clear hf;go_enter Tryz.func89,Tryz.ntmps89;go_wp2;go_ret2;exact⟨rfl,rfl⟩
 ·have hp:0<s.size:=by omega
  have hie:s.toList.isEmpty=false:=by
   have:=len_data s;rw[ByteArray.toList_eq,Bool.eq_false_iff];intro h;rw[List.isEmpty_iff,List.eq_nil_iff_length_eq_zero]at h;omega
  have hd:=getD_byte s 0 hp;have hno:Hid (hdL s[0]=0\/(s.size:Int)<hdL s[0]->fst s.data.toList=(-1,1)):=fun h=>fst_no _ (by rw[len_data];omega) (by rw[hd,len_data];exact h)
  have hL:=hdL_cases s[0];have hL0:0<=hdL s[0]:=by omega
  have hL4:hdL s[0]<=4:=by omega
  have HD:Hid (s.data.toList.getD 0 0=s[0]):=hd;clear hd hL h0;by_cases c1:hdL s[0]=0
  ·have c1':(hdL s[0]==0)=true:=by simpa using c1
   have hf:=hno.out (.inl c1);rw[hf];clear hf hno c1;go_enter Tryz.func89,Tryz.ntmps89;go_wp2_with (first | (go_at_call 117;refine(head_any _ _).mono ?_;rintro e w' ⟨rfl,rfl⟩));go_ret2;exact⟨rfl,rfl⟩
  have c1':(hdL s[0]==0)=false:=by simpa using c1
  have hL1:1<=hdL s[0]:=by omega
  clear c1;by_cases c2:(s.size:Int)<hdL s[0]
  ·have hf:=hno.out (.inr c2);rw[hf];clear hf hno;go_enter Tryz.func89,Tryz.ntmps89;go_wp2_with (first | (go_at_call 117;refine(head_any _ _).mono ?_;rintro e w' ⟨rfl,rfl⟩));go_ret2;exact⟨rfl,rfl⟩
  clear hno;have hV:=hdV_bd s[0];go_enter Tryz.func89,Tryz.ntmps89;go_wp2_with (first | (go_at_call 117;refine(head_any _ _).mono ?_;rintro e w' ⟨rfl,rfl⟩))
  go_loop [4,6] (fun sg i=>∃ k:Nat,1<=k/\(k:Int)<=hdL s[0]/\i=.int .i64 k/\sg=.int .i64 (accL s.data.toList (k-1))/\okL s.data.toList k=true) (fun _ i=>(4-intOf i).toNat)
  case atStart=>exact⟨1,by omega,by omega,rfl,by rw[<-HD.out];rfl,rfl⟩
  case round =>
   obtain⟨k,hk1,hk2,rfl,rfl,hok⟩:=hrel;have HO:Hid (okL s.data.toList k=true):=hok;clear hok;have hab:=accL_bd s.data.toList
   have hA0:0<=accL s.data.toList (k-1):=by
    rcases(show k=1\/k=2\/k=3\/k=4 by omega)with h | h | h | h<;>subst h<;>simp<;>omega
   have hA1:accL s.data.toList (k-1)<=33554431:=by
    rcases(show k=1\/k=2\/k=3\/k=4 by omega)with h | h | h | h<;>subst h<;>simp<;>omega
   clear hab;by_cases hlt:(k:Int)<hdL s[0]
   ·have hks:k<s.size:=by omega
    cases hr:isRestB s[k]
    ·have hf:fst s.data.toList=(-1,1):=fst_bad _ (by rw[HD.out];exact hL1) (by rw[HD.out,len_data];omega) (.inl (okL_bad _ hk1 (by rw[HD.out];omega) (by rw[getD_byte s k hks];exact hr)));have HF:Hid (fst s.data.toList=(-1,1)):=hf;clear hf;go_wp2_with (first | (go_at_call 118;refine(isRest_any _ _).mono ?_;rintro e w' ⟨rfl,rfl⟩));go_ret2;exact⟨by rw[HF.out];rfl,rfl⟩
    ·have hj:=or_join (accL s.data.toList (k-1)) s[k] hA0 hA1;have HJ:Hid (bits .or .i64 (accL s.data.toList (k-1)*64) (wrap64 (bits .and .u8 (s[k].toNat:Int) 63))=accL s.data.toList (k-1)*64+(s[k].toNat:Int) % 64):=hj;clear hj;go_wp2_with (first | (go_at_call 118;refine(isRest_any _ _).mono ?_;rintro e w' ⟨rfl,rfl⟩));go_round
     case rel =>
      refine⟨k+1,by omega,by omega,by go_num,?_,okL_next _ HO.out (by rw[getD_byte s k hks];exact hr)⟩;rw[HJ.out,<-getD_byte s k hks];obtain⟨m,rfl⟩:∃ m,k=m+1:=⟨k-1,by omega⟩;rfl
     case measure=>simp[intOf];omega
   ·have hkk:(hdL (s.data.toList.getD 0 0)).toNat=k:=by rw[HD.out];omega
    have f1:1<=hdL (s.data.toList.getD 0 0):=by rw[HD.out];exact hL1
    have f2:hdL (s.data.toList.getD 0 0)<=(s.data.toList.length:Int):=by rw[HD.out,len_data];omega
    have HB:Hid (sgn (accL s.data.toList (k-1))=false\/wid (accL s.data.toList (k-1))≠hdL s[0]->fst s.data.toList=(-1,1)) :=
     fun h=>fst_bad _ f1 f2 (.inr (by rw[hkk,HD.out];exact h))
    have HY:Hid (sgn (accL s.data.toList (k-1))=true->wid (accL s.data.toList (k-1))=hdL s[0]->fst s.data.toList=(accL s.data.toList (k-1),hdL s[0])):=by
     intro g1 g2;have:=fst_yes _ f1 f2 (by rw[hkk,HD.out];exact⟨HO.out,g1,g2⟩);rw[this,hkk,HD.out]
    clear hkk f1 f2;go_wp2_with (first | (go_at_call 119;refine(isSign_any _ _).mono ?_;rintro e w' ⟨rfl,rfl⟩) | (go_at_call 120;refine(width_any _ _).mono ?_;rintro e w' ⟨rfl,rfl⟩))
    ·go_ret2;have g:(wid (accL s.data.toList (k-1))!=hdL s[0])=true:=by assumption
     exact⟨by rw[HB.out (.inr (by simpa using g))];rfl,rfl⟩
    ·go_ret2;have g:(wid (accL s.data.toList (k-1))!=hdL s[0])=false:=by assumption
     have g':sgn (accL s.data.toList (k-1))=true:=by assumption
     exact⟨by rw[HY.out g' (by simpa using g)];rfl,rfl⟩
    ·go_ret2;have g': ¬ sgn (accL s.data.toList (k-1))=true:=by assumption
     exact⟨by rw[HB.out (.inl (by simpa using g'))];rfl,rfl⟩
theorem printable_any (n:Int) (w:World):Calls Tryz.prog 109 #[.int .i64 n] w fun e w'=>e=.returned (.bool (prn n))/\w=w':=by
 go_enter Tryz.func109,Tryz.ntmps109;go_wp2_with (go_at_call 140;refine(within_any _ _ _ _).mono ?_;rintro e w' ⟨rfl,rfl⟩)
 all_goals go_ret
 all_goals refine⟨?_,rfl⟩
 all_goals first | (simp_all [prn];done) | skip
 refine congrArg (fun b=>Ending.returned (Value.bool b)) ?_;have e1:(n==9)=false:=by assumption
 have e2:(n==10)=false:=by assumption
 have e3:(n==13)=false:=by assumption
 have e4:(n==133)=false:=by assumption
 have e5:(n==65279)=false:=by assumption
 have e6: ¬ inR n 32 126=true:=by assumption
 have e7: ¬ inR n 160 55295=true:=by assumption
 have e8: ¬ inR n 57344 65533=true:=by assumption
 simp only[Bool.not_eq_true]at e6 e7 e8;unfold prn;rw[e1,e2,e3,e4,e5,e6,e7,e8];simp
end Utf
namespace Utf
open Go.RowKit
theorem below_drewN {B:Nat} {a w:World} (h:Below B a w) (n:Nat):Below B a (w.drewN n):=⟨h.os,h.tape,h.output,h.size,h.block⟩
theorem drop_data (s:ByteArray) (p:Nat):(s.extract p s.size).data.toList=s.data.toList.drop p:=by
 have e:s=⟨s.data.toList.toArray⟩:=by simp
 have h:=ByteArray.extract_mk s.data.toList p s.size;rw[<-e]at h;rw[h,List.take_of_length_le];have:=len_data s;rw[List.length_drop];omega
theorem drop_ne (s:ByteArray) (p:Nat) (h:p<s.size):s.data.toList.drop p≠[]:=by
 intro e;have:=congrArg List.length e;rw[List.length_drop,len_data]at this;simp at this;omega
theorem firstAt_any (s:ByteArray) (p:Nat) (w:World) (hs:s.size<=maxLen):Calls Tryz.prog 89 #[.string (s.extract p s.size)] w fun e w'=>e=.returned (.tuple #[.int .i64 (fst (s.data.toList.drop p)).1,.int .i64 (fst (s.data.toList.drop p)).2])/\w=w':=by
 have h:=first_any (s.extract p s.size) w (by have e:=congrArg List.length (drop_data s p);rw[len_data,List.length_drop,len_data]at e;omega);rw[drop_data]at h;exact h
def why (o:Option Nat):Int:=match o with | none=>0 | some _=>8
def pos (o:Option Nat):Int:=match o with | none=>0 | some p=>p
theorem chk_nil:chk []=none:=rfl
end Utf
end Go.Proofs.YtidhpmcmbooaoaaGreatDoor
