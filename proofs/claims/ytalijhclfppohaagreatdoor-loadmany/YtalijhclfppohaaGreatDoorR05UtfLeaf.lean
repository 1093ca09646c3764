/- . -/
import Derived.Test.YtalijhclfppohaaGreatDoorRows
import Derived.Test.YtalijhclfppohaaGreatDoorR00UtfPlain
import Derived.WalkKit
import Derived.WalkSpells
import Derived.WalkLawsBesides
import Derived.Laws.BitsAllLaws
import Derived.Test.YtalijhclfppohaaGreatDoorR01RowsPlain
import Derived.Laws.StandIn
import Derived.Lib.Bytealg
import Derived.Test.YtalijhclfppohaaGreatDoorR03FlowMem
set_option linter.unusedSimpArgs false
set_option linter.unusedVariables false
set_option maxRecDepth 100000
namespace Go.Proofs.YtalijhclfppohaaGreatDoor
namespace Utf
open Go.RowKit
theorem within_any (n a b:Int) (w:World):Calls Tryz.prog 89 #[.int .i64 n,.int .i64 a,.int .i64 b] w fun e w'=>e=.returned (.bool (inR n a b))/\w=w':=by
 unfold inR;by_cases h1:a<=n
 ·go_enter Tryz.func89,Tryz.ntmps89;go_wp2;go_ret;exact⟨by simp[h1],rfl⟩
 ·have h1':decide (a<=n)=false:=by simpa using h1
  go_enter Tryz.func89,Tryz.ntmps89;go_wp2;go_ret;exact⟨by simp[h1],rfl⟩
theorem isSign_any (n:Int) (w:World):Calls Tryz.prog 87 #[.int .i64 n] w fun e w'=>e=.returned (.bool (sgn n))/\w=w':=by
 unfold sgn;cases h:inR n 0 1114111
 ·go_enter Tryz.func87,Tryz.ntmps87;go_wp2_with (go_at_call 89;refine(within_any _ _ _ _).mono ?_;rintro e w' ⟨rfl,rfl⟩);go_ret;exact⟨by simp,rfl⟩
 ·go_enter Tryz.func87,Tryz.ntmps87;go_wp2_with (go_at_call 89;refine(within_any _ _ _ _).mono ?_;rintro e w' ⟨rfl,rfl⟩);go_ret;exact⟨by simp,rfl⟩
theorem width_any (n:Int) (w:World):Calls Tryz.prog 88 #[.int .i64 n] w fun e w'=>e=.returned (.int .i64 (wid n))/\w=w':=by
 unfold wid;by_cases h1:n<128
 ·go_enter Tryz.func88,Tryz.ntmps88;go_wp2;go_ret;exact⟨by simp,rfl⟩
 by_cases h2:n<2048
 ·go_enter Tryz.func88,Tryz.ntmps88;go_wp2;go_ret;exact⟨by simp,rfl⟩
 by_cases h3:n<65536
 ·go_enter Tryz.func88,Tryz.ntmps88;go_wp2;go_ret;exact⟨by simp,rfl⟩
 ·go_enter Tryz.func88,Tryz.ntmps88;go_wp2;go_ret;exact⟨by simp,rfl⟩
theorem all8 {p:Nat->Bool} (h:∀ n:Fin 256,p n.val=true) (b:UInt8):p b.toNat=true:=h ⟨b.toNat,b.toNat_lt⟩
theorem bit_rest (b:UInt8):(bits .andNot .u8 (b.toNat:Int) 63==128)=isRestB b:=by
 have h:=all8 (p:=fun n=>(bits .andNot .u8 (n:Int) 63==128)==(decide (128<=n) && decide (n<192))) (by decide +kernel) b;simpa [isRestB]using h
theorem bit_h2 (b:UInt8):(bits .andNot .u8 (b.toNat:Int) 31==192)=(decide (192<=b.toNat) && decide (b.toNat<224)):=by
 have h:=all8 (p:=fun n=>(bits .andNot .u8 (n:Int) 31==192)==(decide (192<=n) && decide (n<224))) (by decide +kernel) b;simpa using h
theorem bit_h3 (b:UInt8):(bits .andNot .u8 (b.toNat:Int) 15==224)=(decide (224<=b.toNat) && decide (b.toNat<240)):=by
 have h:=all8 (p:=fun n=>(bits .andNot .u8 (n:Int) 15==224)==(decide (224<=n) && decide (n<240))) (by decide +kernel) b;simpa using h
theorem bit_h4 (b:UInt8):(bits .andNot .u8 (b.toNat:Int) 7==240)=(decide (240<=b.toNat) && decide (b.toNat<248)):=by
 have h:=all8 (p:=fun n=>(bits .andNot .u8 (n:Int) 7==240)==(decide (240<=n) && decide (n<248))) (by decide +kernel) b;simpa using h
theorem isRest_any (b:UInt8) (w:World):Calls Tryz.prog 86 #[.int .u8 b.toNat] w fun e w'=>e=.returned (.bool (isRestB b))/\w=w':=by
 have H:=bit_rest b;go_enter Tryz.func86,Tryz.ntmps86;go_wp2;go_ret;exact⟨rfl,rfl⟩
theorem ret_two {k k':IntKind} {a b c d:Int} (h:a=b) (h':c=d):Ending.returned (.tuple #[.int k a,.int k' c])=.returned (.tuple #[.int k b,.int k' d]):=by rw[h,h']
theorem head_any (b:UInt8) (w:World):Calls Tryz.prog 85 #[.int .u8 b.toNat] w fun e w'=>e=.returned (.tuple #[.int .i64 (hdV b),.int .i64 (hdL b)])/\w=w':=by
 have hb:(b.toNat:Int)<256:=by have:=b.toNat_lt;omega
 have HV:Hid (hdV b=if b.toNat<128 then (b.toNat:Int)else if b.toNat<192 then 0 else if b.toNat<224 then b.toNat-192 else if b.toNat<240 then b.toNat-224 else if b.toNat<248 then b.toNat-240 else 0):=rfl;have HL:Hid (hdL b=if b.toNat<128 then 1 else if b.toNat<192 then 0 else if b.toNat<224 then 2 else if b.toNat<240 then 3 else if b.toNat<248 then 4 else 0):=rfl;have e2:=bit_h2 b;have e3:=bit_h3 b;have e4:=bit_h4 b;by_cases c1:(b.toNat:Int)<128
 ·clear e2 e3 e4;go_enter Tryz.func85,Tryz.ntmps85;go_wp2;go_ret2;exact⟨ret_two (by rw[HV.out,if_pos (by omega)]) (by rw[HL.out,if_pos (by omega)]),rfl⟩
 by_cases c2:b.toNat<192
 ·have f2:(bits .andNot .u8 (b.toNat:Int) 31==192)=false:=by rw[e2];simp;omega
  have f3:(bits .andNot .u8 (b.toNat:Int) 15==224)=false:=by rw[e3];simp;omega
  have f4:(bits .andNot .u8 (b.toNat:Int) 7==240)=false:=by rw[e4];simp;omega
  clear e2 e3 e4;go_enter Tryz.func85,Tryz.ntmps85;go_wp2;go_ret2;exact⟨ret_two (by rw[HV.out,if_neg (by omega),if_pos (by omega)]) (by rw[HL.out,if_neg (by omega),if_pos (by omega)]),rfl⟩
 by_cases c3:b.toNat<224
 ·have f2:(bits .andNot .u8 (b.toNat:Int) 31==192)=true:=by rw[e2];simp;omega
  clear e2 e3 e4;go_enter Tryz.func85,Tryz.ntmps85;go_wp2;go_ret2;exact⟨ret_two (by rw[HV.out,if_neg (by omega),if_neg (by omega),if_pos (by omega)];omega) (by rw[HL.out,if_neg (by omega),if_neg (by omega),if_pos (by omega)]),rfl⟩
 by_cases c4:b.toNat<240
 ·have f2:(bits .andNot .u8 (b.toNat:Int) 31==192)=false:=by rw[e2];simp;omega
  have f3:(bits .andNot .u8 (b.toNat:Int) 15==224)=true:=by rw[e3];simp;omega
  clear e2 e3 e4;go_enter Tryz.func85,Tryz.ntmps85;go_wp2;go_ret2;exact⟨ret_two (by rw[HV.out,if_neg (by omega),if_neg (by omega),if_neg (by omega),if_pos (by omega)];omega) (by rw[HL.out,if_neg (by omega),if_neg (by omega),if_neg (by omega),if_pos (by omega)]),rfl⟩
 by_cases c5:b.toNat<248
 ·have f2:(bits .andNot .u8 (b.toNat:Int) 31==192)=false:=by rw[e2];simp;omega
  have f3:(bits .andNot .u8 (b.toNat:Int) 15==224)=false:=by rw[e3];simp;omega
  have f4:(bits .andNot .u8 (b.toNat:Int) 7==240)=true:=by rw[e4];simp;omega
  clear e2 e3 e4;go_enter Tryz.func85,Tryz.ntmps85;go_wp2;go_ret2;exact⟨ret_two (by rw[HV.out,if_neg (by omega),if_neg (by omega),if_neg (by omega),if_neg (by omega),if_pos (by omega)];omega) (by rw[HL.out,if_neg (by omega),if_neg (by omega),if_neg (by omega),if_neg (by omega),if_pos (by omega)]),rfl⟩
 ·have f2:(bits .andNot .u8 (b.toNat:Int) 31==192)=false:=by rw[e2];simp;omega
  have f3:(bits .andNot .u8 (b.toNat:Int) 15==224)=false:=by rw[e3];simp;omega
  have f4:(bits .andNot .u8 (b.toNat:Int) 7==240)=false:=by rw[e4];simp;omega
  clear e2 e3 e4;go_enter Tryz.func85,Tryz.ntmps85;go_wp2;go_ret2;exact⟨ret_two (by rw[HV.out,if_neg (by omega),if_neg (by omega),if_neg (by omega),if_neg (by omega),if_neg (by omega)]) (by rw[HL.out,if_neg (by omega),if_neg (by omega),if_neg (by omega),if_neg (by omega),if_neg (by omega)]),rfl⟩
end Utf
namespace Utf
open Go.RowKit
theorem getD_byte (s:ByteArray) (k:Nat) (h:k<s.size):s.data.toList.getD k 0=s[k]:=by
 have h':k<s.data.toList.length:=by simpa using h
 rw[List.getD_eq_getElem?_getD,List.getElem?_eq_getElem h'];rfl
theorem len_data (s:ByteArray):s.data.toList.length=s.size:=by simp
theorem wrap_small (n:Nat) (h:n<9223372036854775808):IntKind.i64.wrap (n:Int)=(n:Int):=by
 have e:(n:Int) % 2 ^ 64=n:=Int.emod_eq_of_lt (by omega) (by omega);simp only[IntKind.wrap,IntKind.bits,IntKind.signed,e];rw[if_neg];simp;omega
theorem or_join (x:Int) (b:UInt8) (h0:0<=x) (h1:x<=33554431):bits .or .i64 (x*64) (wrap64 (bits .and .u8 (b.toNat:Int) 63))=x*64+(b.toNat:Int) % 64:=by
 have e1:bits .and .u8 (b.toNat:Int) 63=(b.toNat:Int) % 64:=by
  have:=b.toNat_lt;have h:=u8_and_nat b.toNat 63 (by omega) (by omega);rw[nat_mask6]at h;simpa using h
 have e0:wrap64 ((b.toNat:Int) % 64)=(b.toNat:Int) % 64:=by unfold wrap64;omega
 rw[e1,e0];obtain⟨n,rfl⟩:=Int.eq_ofNat_of_zero_le h0;have e2:((n:Int)*64)=((n*64:Nat):Int):=by omega
 have e3:(b.toNat:Int) % 64=((b.toNat % 64:Nat):Int):=by omega
 rw[e2,e3];show IntKind.i64.wrap ((BitVec.ofInt 64 ((n*64:Nat):Int) ||| BitVec.ofInt 64 ((b.toNat % 64:Nat):Int)).toNat:Int)=_;rw[BitVec.toNat_or,ofInt_u64 _ (by omega),ofInt_u64 _ (by omega),nat_join 6 _ _ (by omega) (by omega),wrap_small _ (by omega)];omega
theorem first_any (s:ByteArray) (w:World) (hs:s.size<=maxLen):Calls Tryz.prog 59 #[.string s] w fun e w'=>e=.returned (.tuple #[.int .i64 (fst s.data.toList).1,.int .i64 (fst s.data.toList).2])/\w=w':=by
 unfold maxLen at hs;by_cases h0:s.size=0
 ·have hie:s.toList.isEmpty=true:=by
   have:=len_data s;rw[ByteArray.toList_eq,List.isEmpty_iff,List.eq_nil_iff_length_eq_zero];omega
  have hf:=fst_nil s.data.toList (by rw[len_data];exact h0);rw[hf];clear hf;go_enter Tryz.func59,Tryz.ntmps59;go_wp2;go_ret2;exact⟨rfl,rfl⟩
 ·have hp:0<s.size:=by omega
  have hie:s.toList.isEmpty=false:=by
   have:=len_data s;rw[ByteArray.toList_eq,Bool.eq_false_iff];intro h;rw[List.isEmpty_iff,List.eq_nil_iff_length_eq_zero]at h;omega
  have hd:=getD_byte s 0 hp;have hno:Hid (hdL s[0]=0\/(s.size:Int)<hdL s[0]->fst s.data.toList=(-1,1)):=fun h=>fst_no _ (by rw[len_data];omega) (by rw[hd,len_data];exact h)
  have hL:=hdL_cases s[0];have hL0:0<=hdL s[0]:=by omega
  have hL4:hdL s[0]<=4:=by omega
  have HD:Hid (s.data.toList.getD 0 0=s[0]):=hd;clear hd hL h0;by_cases c1:hdL s[0]=0
  ·have c1':(hdL s[0]==0)=true:=by simpa using c1
   have hf:=hno.out (.inl c1);rw[hf];clear hf hno c1;go_enter Tryz.func59,Tryz.ntmps59;go_wp2_with (first | (go_at_call 85;refine(head_any _ _).mono ?_;rintro e w' ⟨rfl,rfl⟩));go_ret2;exact⟨rfl,rfl⟩
  have c1':(hdL s[0]==0)=false:=by simpa using c1
  have hL1:1<=hdL s[0]:=by omega
  clear c1;by_cases c2:(s.size:Int)<hdL s[0]
  ·have hf:=hno.out (.inr c2);rw[hf];clear hf hno;go_enter Tryz.func59,Tryz.ntmps59;go_wp2_with (first | (go_at_call 85;refine(head_any _ _).mono ?_;rintro e w' ⟨rfl,rfl⟩));go_ret2;exact⟨rfl,rfl⟩
  clear hno;have hV:=hdV_bd s[0];go_enter Tryz.func59,Tryz.ntmps59;go_wp2_with (first | (go_at_call 85;refine(head_any _ _).mono ?_;rintro e w' ⟨rfl,rfl⟩))
  go_loop [4,6] (fun sg i=>∃ k:Nat,1<=k/\(k:Int)<=hdL s[0]/\i=.int .i64 k/\sg=.int .i64 (accL s.data.toList (k-1))/\okL s.data.toList k=true) (fun _ i=>(4-intOf i).toNat)
  case atStart=>exact⟨1,by omega,by omega,rfl,by rw[<-HD.out];rfl,rfl⟩
  case round =>
   obtain⟨k,hk1,hk2,rfl,rfl,hok⟩:=hrel;have HO:Hid (okL s.data.toList k=true):=hok;clear hok;have hab:=accL_bd s.data.toList
   have hA0:0<=accL s.data.toList (k-1):=by
    rcases(show k=1\/k=2\/k=3\/k=4 by omega)with h | h | h | h<;>subst h<;>simp<;>omega
   have hA1:accL s.data.toList (k-1)<=33554431:=by
    rcases(show k=1\/k=2\/k=3\/k=4 by omega)with h | h | h | h<;>subst h<;>simp<;>omega
   clear hab;by_cases hlt:(k:Int)<hdL s[0]
   ·have hks:k<s.size:=by omega
    cases hr:isRestB s[k]
    ·have hf:fst s.data.toList=(-1,1):=fst_bad _ (by rw[HD.out];exact hL1) (by rw[HD.out,len_data];omega) (.inl (okL_bad _ hk1 (by rw[HD.out];omega) (by rw[getD_byte s k hks];exact hr)));have HF:Hid (fst s.data.toList=(-1,1)):=hf;clear hf;go_wp2_with (first | (go_at_call 86;refine(isRest_any _ _).mono ?_;rintro e w' ⟨rfl,rfl⟩));go_ret2;exact⟨by rw[HF.out];rfl,rfl⟩
    ·have hj:=or_join (accL s.data.toList (k-1)) s[k] hA0 hA1;have HJ:Hid (bits .or .i64 (accL s.data.toList (k-1)*64) (wrap64 (bits .and .u8 (s[k].toNat:Int) 63))=accL s.data.toList (k-1)*64+(s[k].toNat:Int) % 64):=hj;clear hj;go_wp2_with (first | (go_at_call 86;refine(isRest_any _ _).mono ?_;rintro e w' ⟨rfl,rfl⟩));go_round
     case rel =>
      refine⟨k+1,by omega,by omega,by go_num,?_,okL_next _ HO.out (by rw[getD_byte s k hks];exact hr)⟩;rw[HJ.out,<-getD_byte s k hks];obtain⟨m,rfl⟩:∃ m,k=m+1:=⟨k-1,by omega⟩;rfl
     case measure=>simp[intOf];omega
   ·have hkk:(hdL (s.data.toList.getD 0 0)).toNat=k:=by rw[HD.out];omega
    have f1:1<=hdL (s.data.toList.getD 0 0):=by rw[HD.out];exact hL1
    have f2:hdL (s.data.toList.getD 0 0)<=(s.data.toList.length:Int):=by rw[HD.out,len_data];omega
    have HB:Hid (sgn (accL s.data.toList (k-1))=false\/wid (accL s.data.toList (k-1))≠hdL s[0]->fst s.data.toList=(-1,1)) :=
     fun h=>fst_bad _ f1 f2 (.inr (by rw[hkk,HD.out];exact h))
    have HY:Hid (sgn (accL s.data.toList (k-1))=true->wid (accL s.data.toList (k-1))=hdL s[0]->fst s.data.toList=(accL s.data.toList (k-1),hdL s[0])):=by
     intro g1 g2;have:=fst_yes _ f1 f2 (by rw[hkk,HD.out];exact⟨HO.out,g1,g2⟩);rw[this,hkk,HD.out]
    clear hkk f1 f2;go_wp2_with (first | (go_at_call 87;refine(isSign_any _ _).mono ?_;rintro e w' ⟨rfl,rfl⟩) | (go_at_call 88;refine(width_any _ _).mono ?_;rintro e w' ⟨rfl,rfl⟩))
    ·go_ret2;have g:(wid (accL s.data.toList (k-1))!=hdL s[0])=true:=by assumption
     exact⟨by rw[HB.out (.inr (by simpa using g))];rfl,rfl⟩
    ·go_ret2;have g:(wid (accL s.data.toList (k-1))!=hdL s[0])=false:=by assumption
     have g':sgn (accL s.data.toList (k-1))=true:=by assumption
     exact⟨by rw[HY.out g' (by simpa using g)];rfl,rfl⟩
    ·go_ret2;have g': ¬ sgn (accL s.data.toList (k-1))=true:=by assumption
     exact⟨by rw[HB.out (.inl (by simpa using g'))];rfl,rfl⟩
theorem printable_any (n:Int) (w:World):Calls Tryz.prog 60 #[.int .i64 n] w fun e w'=>e=.returned (.bool (prn n))/\w=w':=by
 go_enter Tryz.func60,Tryz.ntmps60;go_wp2_with (go_at_call 89;refine(within_any _ _ _ _).mono ?_;rintro e w' ⟨rfl,rfl⟩)
 all_goals go_ret
 all_goals refine⟨?_,rfl⟩
 all_goals first | (simp_all [prn];done) | skip
 refine congrArg (fun b=>Ending.returned (Value.bool b)) ?_;have e1:(n==9)=false:=by assumption
 have e2:(n==10)=false:=by assumption
 have e3:(n==13)=false:=by assumption
 have e4:(n==133)=false:=by assumption
 have e5:(n==65279)=false:=by assumption
 have e6: ¬ inR n 32 126=true:=by assumption
 have e7: ¬ inR n 160 55295=true:=by assumption
 have e8: ¬ inR n 57344 65533=true:=by assumption
 simp only[Bool.not_eq_true]at e6 e7 e8;unfold prn;rw[e1,e2,e3,e4,e5,e6,e7,e8];simp
end Utf
namespace Utf
open Go.RowKit
theorem below_drewN {B:Nat} {a w:World} (h:Below B a w) (n:Nat):Below B a (w.drewN n):=⟨h.os,h.tape,h.output,h.size,h.block⟩
theorem drop_data (s:ByteArray) (p:Nat):(s.extract p s.size).data.toList=s.data.toList.drop p:=by
 have e:s=⟨s.data.toList.toArray⟩:=by simp
 have h:=ByteArray.extract_mk s.data.toList p s.size;rw[<-e]at h;rw[h,List.take_of_length_le];have:=len_data s;rw[List.length_drop];omega
theorem drop_ne (s:ByteArray) (p:Nat) (h:p<s.size):s.data.toList.drop p≠[]:=by
 intro e;have:=congrArg List.length e;rw[List.length_drop,len_data]at this;simp at this;omega
theorem firstAt_any (s:ByteArray) (p:Nat) (w:World) (hs:s.size<=maxLen):Calls Tryz.prog 59 #[.string (s.extract p s.size)] w fun e w'=>e=.returned (.tuple #[.int .i64 (fst (s.data.toList.drop p)).1,.int .i64 (fst (s.data.toList.drop p)).2])/\w=w':=by
 have h:=first_any (s.extract p s.size) w (by have e:=congrArg List.length (drop_data s p);rw[len_data,List.length_drop,len_data]at e;omega);rw[drop_data]at h;exact h
def why (o:Option Nat):Int:=match o with | none=>0 | some _=>8
def pos (o:Option Nat):Int:=match o with | none=>0 | some p=>p
theorem chk_nil:chk []=none:=rfl
end Utf
namespace Utf
open Go.RowKit
theorem rest0 (n:Int) (h0:0<=n) (h1:n<=1114111) (w:World):Calls Tryz.prog 224 #[.int .i64 n,.int .i64 0] w fun e w'=>e=.returned (.int .u8 (128+n % 64))/\w=w':=by
 go_enter Tryz.func224,Tryz.ntmps224;go_wp2;go_ret;exact⟨rfl,rfl⟩
theorem rest1 (n:Int) (h0:0<=n) (h1:n<=1114111) (w:World):Calls Tryz.prog 224 #[.int .i64 n,.int .i64 1] w fun e w'=>e=.returned (.int .u8 (128+n / 64 % 64))/\w=w':=by
 go_enter Tryz.func224,Tryz.ntmps224;go_wp2;go_ret;exact⟨rfl,rfl⟩
theorem rest2 (n:Int) (h0:0<=n) (h1:n<=1114111) (w:World):Calls Tryz.prog 224 #[.int .i64 n,.int .i64 2] w fun e w'=>e=.returned (.int .u8 (128+n / 4096 % 64))/\w=w':=by
 go_enter Tryz.func224,Tryz.ntmps224;go_wp2;go_ret;exact⟨rfl,rfl⟩
def restV (n j:Int):Int:=if j=0 then 128+n % 64 else if j=1 then 128+n / 64 % 64 else 128+n / 4096 % 64
theorem rest_any (n j:Int) (h0:0<=n) (h1:n<=1114111) (hj0:0<=j) (hj2:j<=2) (w:World):Calls Tryz.prog 224 #[.int .i64 n,.int .i64 j] w fun e w'=>e=.returned (.int .u8 (restV n j))/\w=w':=by
 rcases(show j=0\/j=1\/j=2 by omega)with rfl | rfl | rfl
 ·exact rest0 n h0 h1 w
 ·exact rest1 n h0 h1 w
 ·exact rest2 n h0 h1 w
end Utf
namespace Utf
open Go.RowKit
theorem check_any (s:ByteArray) (w:World) (hs:s.size<=maxLen):Calls Tryz.prog 38 #[.string s] w fun e w'=>e=.returned (.agg #[.int .i64 (why (chk s.data.toList)),.int .i64 (pos (chk s.data.toList))])/\Below w.heap.size w w':=by
 have hs':=hs;unfold maxLen at hs;go_enter Tryz.func38,Tryz.ntmps38;go_wp2
 go_loop [3] (fun i=>∃ p:Nat,p<=s.size/\i=.int .i64 p/\chk s.data.toList=(chk (s.data.toList.drop p)).map (· + p)) (fun i=>s.size-(intOf i).toNat)
 case atStart=>exact⟨0,Nat.zero_le _,rfl,by simp⟩
 case round =>
  obtain⟨p,hp,rfl,hc⟩:=hrel;have HC:Hid (chk s.data.toList=(chk (s.data.toList.drop p)).map (· + p)):=hc;clear hc;by_cases hlt:p<s.size
  ·have hne:=drop_ne s p hlt;have hf:=fk_pos _ hne;have hcn:=chk_next _ hne;rw[List.drop_drop]at hcn;rw[List.length_drop,len_data]at hf;obtain⟨f1,f2,f3,f4⟩:=hf;have hb0:0<=(fst (s.data.toList.drop p)).2:=by omega
   have hb4:(fst (s.data.toList.drop p)).2<=4:=by omega
   have hb5:(p:Int)+(fst (s.data.toList.drop p)).2<=s.size:=by omega
   have H4:Hid (((fk (s.data.toList.drop p):Nat):Int)=(fst (s.data.toList.drop p)).2):=f4;clear f4 hne;cases hpr:prn (fst (s.data.toList.drop p)).1
   ·rw[hpr]at hcn;have HN:Hid (chk s.data.toList=some p):=by have:=HC.out;rw[hcn]at this;simp at this;exact this
    clear hcn;go_wp2_with (first | (go_at_call 59;refine(firstAt_any _ _ _ hs').mono ?_;rintro e w' ⟨rfl,rfl⟩) | (go_at_call 60;refine(printable_any _ _).mono ?_;rintro e w' ⟨rfl,rfl⟩));refine bodyPost_ret (v:=.agg #[.int .i64 8,.int .i64 p]) (by simp[results,Tryz.results38,go_sem]) rfl ⟨by rw[HN.out];rfl,?_⟩;exact(Below.refl _ _).alloc (Nat.le_refl _) _
   ·rw[hpr]at hcn
    have HN:Hid (chk s.data.toList=(chk (s.data.toList.drop (p+fk (s.data.toList.drop p)))).map (· + (p+fk (s.data.toList.drop p)))):=by
     have:=HC.out;rw[hcn]at this;simp[Option.map_map]at this;rw[this];congr 1;funext x;simp;omega
    clear hcn;go_wp2_with (first | (go_at_call 59;refine(firstAt_any _ _ _ hs').mono ?_;rintro e w' ⟨rfl,rfl⟩) | (go_at_call 60;refine(printable_any _ _).mono ?_;rintro e w' ⟨rfl,rfl⟩));have h4:=H4.out;go_round
    case rel=>exact⟨p+fk (s.data.toList.drop p),by omega,by rw[<-H4.out];go_num,HN.out⟩
    case measure=>simp[intOf];omega
  ·have HN:Hid (chk s.data.toList=none):=by
    have:=HC.out;rw[List.drop_of_length_le (by rw[len_data];omega),chk_nil]at this;exact this
   go_wp2;refine bodyPost_ret (v:=.agg #[.int .i64 0,.int .i64 0]) (by simp[results,Tryz.results38,go_sem]) rfl ⟨by rw[HN.out];rfl,?_⟩;exact(Below.refl _ _).alloc (Nat.le_refl _) _
end Utf
namespace Pln
open Utf Rws
open Go.RowKit
def strLen:Value->Nat
 | .string t=>t.size
 | _=>0
theorem mk_getD (l:List UInt8) (k:Nat) (h:k<(mk l).size):(mk l)[k]'h=l.getD k 0:=by
 rw[mk_get,List.getD_eq_getElem?_getD,List.getElem?_eq_getElem (by rw[mk_size]at h;exact h)];rfl
theorem ret_str {a b:ByteArray} (h:a=b):Ending.returned (.string a)=.returned (.string b):=by rw[h]
theorem snoc_ex (l:List UInt8) (h:l≠[]):∃ r b,l=r++[b]:=⟨l.dropLast,l.getLast h,(List.dropLast_concat_getLast h).symm⟩
theorem has_cons (c b:UInt8) (r:List UInt8):has c (b::r)=(b==c || has c r):=by simp[has]
theorem index_eq (l:List UInt8) (c:UInt8):Lib.indexByte l c=idx c l:=by
 induction l with
 | nil=>rfl
 | cons b r ih =>
  unfold Lib.indexByte;unfold idx;rw[has_cons,List.takeWhile_cons];by_cases hb:b=c
  ·subst hb;simp
  ·have h1:(b==c)=false:=by simpa using hb
   have h2:(b != c)=true:=by simpa using hb
   rw[h1,h2,ih];simp only[Bool.false_or,Bool.false_eq_true,if_false,if_true];unfold idx;cases h:has c r
   ·simp
   ·simp only[if_true,List.length_cons];rw[if_neg (by simp)]
    push_cast
    omega
theorem idx_has (c:UInt8) (l:List UInt8):decide (0<=idx c l)=has c l:=by
 cases h:has c l
 ·rw[idx_no h];rfl
 ·rw[idx_yes h];simp
theorem run_ix (s:ByteArray) (c:UInt8) (w:World):(callFunc 84 #[.string s,.int .u8 c.toNat]).run Tryz.prog w=.ok (.value (.int .i64 (idx c s.data.toList))) w:=by
 rw[run_callFunc_indexByte Tryz.func84 (by kernel_rfl) (by kernel_rfl) (by kernel_rfl) (by kernel_rfl),run_indexByte_string,Lib.firstIdx_eq,index_eq];simp[Result.andThen]
theorem indexByteL_any (s:ByteArray) (c:UInt8) (w:World):Calls Tryz.prog 58 #[.string s,.int .u8 c.toNat] w fun e w'=>e=.returned (.int .i64 (idx c s.data.toList))/\w=w':=by
 have h:=run_ix s c w;go_enter Tryz.func58,Tryz.ntmps58;go_wp2;go_ret;exact⟨rfl,rfl⟩
theorem indexByte_any (s:ByteArray) (c:UInt8) (w:World):Calls Tryz.prog 37 #[.string s,.int .u8 c.toNat] w fun e w'=>e=.returned (.int .i64 (idx c s.data.toList))/\w=w':=by
 go_enter Tryz.func37,Tryz.ntmps37;go_wp2_with (first | (go_at_call 58;refine(indexByteL_any _ _ _).mono ?_;rintro e w' ⟨rfl,rfl⟩));go_ret;exact⟨rfl,rfl⟩
theorem isOneOf_any (s:ByteArray) (c:UInt8) (w:World):Calls Tryz.prog 159 #[.int .u8 c.toNat,.string s] w fun e w'=>e=.returned (.bool (has c s.data.toList))/\w=w':=by
 go_enter Tryz.func159,Tryz.ntmps159;go_wp2_with (first | (go_at_call 37;refine(indexByte_any _ _ _).mono ?_;rintro e w' ⟨rfl,rfl⟩));go_ret;exact⟨by rw[idx_has];rfl,rfl⟩
theorem b32 (b:UInt8):((b.toNat:Int)==32)=is32 b:=by
 unfold is32;rw[Bool.eq_iff_iff];simp only[beq_iff_eq];constructor
 ·intro h;apply UInt8.toNat_inj.1;have:b.toNat=32:=by omega
  rw[this];rfl
 ·rintro rfl;rfl
theorem trimRightByte_any (l:List UInt8) (w:World) (hs:l.length<=562949953421312):Calls Tryz.prog 55 #[.string (mk l),.int .u8 32] w fun e w'=>e=.returned (.string (mk (trR is32 l)))/\w=w':=by
 go_enter Tryz.func55,Tryz.ntmps55;go_wp2
 go_loop [0] (fun u=>∃ m:List UInt8,u=.string (mk m)/\m.length<=l.length/\trR is32 l=trR is32 m) (fun u=>strLen u)
 case atStart=>exact⟨l,rfl,Nat.le_refl _,rfl⟩
 case round =>
  obtain⟨m,rfl,hm,ht⟩:=hrel;have HT:Hid (trR is32 l=trR is32 m):=ht;clear ht;by_cases h0:m=[]
  ·subst h0;have hz:(mk []).size=0:=rfl;go_wp2;go_ret;rw[HT.out];exact⟨rfl,rfl⟩
  ·obtain⟨r,b,rfl⟩:=snoc_ex m h0;have hsz:(mk (r++[b])).size=r.length+1:=by rw[mk_size];simp
   have hsl:r.length+1<=562949953421312:=by simp at hm;omega
   have hg:∀ h,(mk (r++[b]))[r.length]'h=b:=fun h=>by rw[mk_get];simp
   have hb32:=b32 b;cases hb:is32 b
   ·have HN:Hid (trR is32 (r++[b])=r++[b]):=by rw[trR_snoc,hb];rfl
    rw[hb]at hb32;go_wp2;go_ret;rw[HT.out,HN.out];exact⟨rfl,rfl⟩
   ·have HN:Hid (trR is32 (r++[b])=trR is32 r):=by rw[trR_snoc,hb];rfl
    rw[hb]at hb32;go_wp2;go_round
    case rel=>exact⟨r,by rw[mk_ext];simp[mk_size],by simp at hm;omega,HT.out.trans HN.out⟩
    case measure=>simp[strLen,mk_ext,mk_size]
theorem trimRight_any (l:List UInt8) (w:World) (hs:l.length<=562949953421312):Calls Tryz.prog 36 #[.string (mk l),.string ⟨#[32]⟩] w fun e w'=>e=.returned (.string (mk (trR is32 l)))/\w=w':=by
 by_cases h0:l=[]
 ·subst h0;have hz:(mk [])=ByteArray.empty:=rfl;go_enter Tryz.func36,Tryz.ntmps36;go_wp2;go_ret;exact⟨rfl,rfl⟩
 ·have hne:((mk l).toList==[])=false:=by rw[ByteArray.toList_eq,mk_data,beq_eq_false_iff_ne];exact h0
  go_enter Tryz.func36,Tryz.ntmps36;go_wp2_with (first | (go_at_call 55;refine(trimRightByte_any _ _ hs).mono ?_;rintro e w' ⟨rfl,rfl⟩));go_ret;exact⟨rfl,rfl⟩
theorem take2_eq (l:List UInt8) (h:2<=l.length):((mk l).extract 0 2).toList=l.take 2:=by
 rw[ByteArray.toList_eq,mk_ext,mk_data];simp
theorem hasPrefixL_any (l:List UInt8) (w:World):Calls Tryz.prog 77 #[.string (mk l),.string ⟨#[45,32]⟩] w fun e w'=>e=.returned (.bool (l.take 2==[45,32]))/\w=w':=by
 have hsz:=mk_size l;by_cases h:2<=l.length
 ·have ht:=take2_eq l h;go_enter Tryz.func77,Tryz.ntmps77;go_wp2;go_ret;exact⟨by simp[ht],rfl⟩
 ·have hf:(l.take 2==[45,32])=false:=by
   rw[beq_eq_false_iff_ne];intro e;have:=congrArg List.length e;simp at this;omega
  go_enter Tryz.func77,Tryz.ntmps77;go_wp2;go_ret;exact⟨by simp[hf],rfl⟩
theorem hasPrefix_any (l:List UInt8) (w:World):Calls Tryz.prog 48 #[.string (mk l),.string ⟨#[45,32]⟩] w fun e w'=>e=.returned (.bool (l.take 2==[45,32]))/\w=w':=by
 go_enter Tryz.func48,Tryz.ntmps48;go_wp2_with (first | (go_at_call 77;refine(hasPrefixL_any _ _).mono ?_;rintro e w' ⟨rfl,rfl⟩));go_ret;exact⟨rfl,rfl⟩
end Pln
namespace Flw
open Utf Rws Pln
open Go.RowKit
theorem letter_num {c:UInt8} {x:Nat} (hx:x=c.toNat):letter c=(decide (97<=x/\x<=122) || decide (65<=x/\x<=90) || decide (48<=x/\x<=57) || decide (x=45) || decide (x=95)):=by
 subst hx;unfold letter
 have e1:(c==45)=decide (c.toNat=45):=by
  rw[Bool.eq_iff_iff,beq_iff_eq,decide_eq_true_eq];exact⟨fun h=>by rw[h];rfl,fun h=>UInt8.toNat_inj.1 h⟩
 have e2:(c==95)=decide (c.toNat=95):=by
  rw[Bool.eq_iff_iff,beq_iff_eq,decide_eq_true_eq];exact⟨fun h=>by rw[h];rfl,fun h=>UInt8.toNat_inj.1 h⟩
 rw[e1,e2];simp only[Bool.decide_and]
theorem all_take (l:Ln) (n:Nat) (h:n<l.length):(l.take (n+1)).all letter=((l.take n).all letter && letter (l.getD n 0)):=by
 rw[List.take_add_one,List.getElem?_eq_getElem h,List.getD_eq_getElem?_getD,List.getElem?_eq_getElem h,List.all_append];simp
theorem getD_mk (l:Ln) (n:Nat) (h:n<(mk l).size):(mk l)[n]'h=l.getD n 0:=by
 have h':n<l.length:=by rw[mk_size]at h;exact h
 rw[List.getD_eq_getElem?_getD,List.getElem?_eq_getElem h'];rfl
end Flw
namespace Flw
open Utf Rws Pln
open Go.RowKit
theorem inName_any (c:UInt8) (w:World):Calls Tryz.prog 137 #[.int .u8 (c.toNat:Int)] w fun e w'=>e=.returned (.bool (letter c))/\w=w':=by
 have hb:c.toNat<256:=c.toNat_lt;obtain⟨x,hx⟩:∃ x,x=c.toNat:=⟨_,rfl⟩;have HX:Hid (letter c=(decide (97<=x/\x<=122) || decide (65<=x/\x<=90) || decide (48<=x/\x<=57) || decide (x=45) || decide (x=95))):=letter_num hx;rw[<-hx]at hb |-;clear hx;by_cases a1:x<48
 ·go_enter Tryz.func137,Tryz.ntmps137;go_wp2
  all_goals
   go_ret;refine⟨congrArg (fun q=>Ending.returned (.bool q)) ?_,rfl⟩;rw[HX.out,Bool.eq_iff_iff];simp;omega
 by_cases a2:x<65
 ·go_enter Tryz.func137,Tryz.ntmps137;go_wp2
  all_goals
   go_ret;refine⟨congrArg (fun q=>Ending.returned (.bool q)) ?_,rfl⟩;rw[HX.out,Bool.eq_iff_iff];simp;omega
 by_cases a3:x<97
 ·go_enter Tryz.func137,Tryz.ntmps137;go_wp2
  all_goals
   go_ret;refine⟨congrArg (fun q=>Ending.returned (.bool q)) ?_,rfl⟩;rw[HX.out,Bool.eq_iff_iff];simp;omega
 go_enter Tryz.func137,Tryz.ntmps137;go_wp2
 all_goals
  go_ret;refine⟨congrArg (fun q=>Ending.returned (.bool q)) ?_,rfl⟩;rw[HX.out,Bool.eq_iff_iff];simp;omega
def nb (l:Ln):Nat:=(l.takeWhile letter).length
theorem nb_le (l:Ln):nb l<=l.length:=tw_len letter l
theorem tw_take (l:Ln) (n:Nat) (h:(l.take n).all letter=true) (hn:n<l.length) (hb:letter (l.getD n 0)=false):nb l=n:=by
 have e:l=l.take n++l.drop n:=(List.take_append_drop n l).symm;have h2:hd (l.drop n)=l.getD n 0:=by unfold hd;simp[List.getD_eq_getElem?_getD]
 unfold nb;rw[e,takeWhile_app letter _ _ h (.inl (by rw[h2];exact hb)),List.length_take];omega
theorem tw_whole (l:Ln) (h:l.all letter=true):nb l=l.length:=by
 have:=takeWhile_app letter l [] h (.inr rfl);rw[List.append_nil]at this;unfold nb;rw[this]
theorem nameBytes_any (l:Ln) (w:World) (hs:l.length<=562949953421312):Calls Tryz.prog 125 #[.string (mk l)] w fun e w'=>e=.returned (.int .i64 (nb l:Nat))/\w=w':=by
 have hsz:=mk_size l;go_enter Tryz.func125,Tryz.ntmps125;go_wp2
 go_loop [6] (fun i=>∃ n:Nat,n<=l.length/\i=.int .i64 n/\(l.take n).all letter=true) (fun i=>l.length-(intOf i).toNat)
 case atStart=>exact⟨0,Nat.zero_le _,rfl,rfl⟩
 case round =>
  obtain⟨n,hn1,rfl,ht⟩:=hrel;have HT:Hid ((l.take n).all letter=true):=ht;clear ht;by_cases hlt:n<l.length
  ·have hg:∀ h,(mk l)[n]'h=l.getD n 0:=fun h=>getD_mk l n h
   have hlt':n<(mk l).size:=by rw[mk_size];exact hlt
   have hsn:=all_take l n hlt;rw[HT.out,Bool.true_and]at hsn;have HSN:Hid ((l.take (n+1)).all letter=letter (l.getD n 0)):=hsn;have HH:Hid (letter (l.getD n 0)=false->nb l=n):=tw_take l n HT.out hlt;clear hsn;generalize l.getD n 0=b at hg HSN HH;have HC:=fun w=>inName_any b w
   cases hbc:letter b
   ·rw[hbc]at HC;go_wp2_with (go_at_call 137;refine(HC _).mono ?_;rintro e w' ⟨rfl,rfl⟩);go_ret;rw[HH.out hbc];exact⟨rfl,rfl⟩
   ·rw[hbc]at HC HSN;go_wp2_with (go_at_call 137;refine(HC _).mono ?_;rintro e w' ⟨rfl,rfl⟩);go_round
    case rel=>exact⟨n+1,by omega,by go_num,HSN.out⟩
    case measure=>simp[intOf];omega
  ·have HN:Hid (nb l=l.length):=by
    have:=HT.out;rw[List.take_of_length_le (by omega)]at this;exact tw_whole l this
   have e:n=l.length:=by omega
   subst e;go_wp2;go_ret;rw[HN.out];exact⟨rfl,rfl⟩
theorem nb_name (l:Ln):isName l=(!(l==[]) && decide (l.length<=32) && decide (nb l=l.length)):=by
 unfold isName
 cases h:l.all letter with
 | true =>
  rw[tw_whole l h];cases l<;>simp
 | false =>
  have: ¬ nb l=l.length:=by
   intro e;have h2:=tw_all letter l
   have h3:l.takeWhile letter=l:=by
    have:=List.takeWhile_prefix letter (l:=l);exact this.eq_of_length e
   rw[h3,h]at h2;cases h2
  simp[this]
theorem name0_any (l:Ln) (w:World) (hs:l.length<=562949953421312):Calls Tryz.prog 110 #[.string (mk l)] w fun e w'=>e=.returned (.bool (isName l))/\w=w':=by
 have hsz:=mk_size l;have hn:=nb_le l;have HC:Hid (∀ w,Calls Tryz.prog 125 #[.string (mk l)] w fun e w'=>e=.returned (.int .i64 (nb l:Nat))/\w=w'):=fun w=>nameBytes_any l w hs
 have HE:Hid (isName l=(!(l==[]) && decide (l.length<=32) && decide (nb l=l.length))):=nb_name l;have h0:((mk l).toList==[])=(l==[]):=by rw[ByteArray.toList_eq,mk_data]
 generalize nb l=n at *;cases e0:(l==[])
 ·rw[e0]at h0 HE;have hp:0<l.length:=by rw[List.length_pos_iff];simpa using e0
  by_cases e1:l.length<=32
  ·go_enter Tryz.func110,Tryz.ntmps110;go_wp2_with (go_at_call 125;refine(HC.out _).mono ?_;rintro e w' ⟨rfl,rfl⟩);go_ret;rw[HE.out];refine⟨?_,rfl⟩;simp[e1];rw[Bool.eq_iff_iff];simp;omega
  ·go_enter Tryz.func110,Tryz.ntmps110;go_wp2;go_ret;rw[HE.out];exact⟨by simp[e1],rfl⟩
 ·rw[e0]at h0 HE;go_enter Tryz.func110,Tryz.ntmps110;go_wp2;go_ret;rw[HE.out];exact⟨by simp,rfl⟩
variable {b p dp:Nat} {s:Ln} {w:World}
def f0:Value:=.agg #[.int .i64 0,.int .i64 0]
def NamRes (b:Nat) (s:Ln) (dp:Nat) (w:World) (r:Ot (Ln × Ln)) (e:Ending) (w':World):Prop:=match r with
 | .ok x=>e=.returned (.tuple #[.string (mk x.1),f0])/\(∃ q,q<=s.length/\x.2=s.drop q/\Rd w' b s q dp)/\Fr b w w'
 | .error f=>e=.returned (.tuple #[.string (mk []),fv s.length f])/\Fr b w w'
theorem nam_no0 {l:Ln} (h:nb l=0):nam l=.error (stands l):=by
 unfold nam;have e:((l.takeWhile letter).take 32).length=0:=by rw[List.length_take];unfold nb at h;omega
 rw[if_pos (.inl e),e,List.drop_zero]
theorem nb_hd (l:Ln) {k:Nat} (h:k<nb l):letter (hd (l.drop k))=true:=by
 have h2:=List.takeWhile_append_dropWhile (p:=letter) (l:=l)
 have hk:hd (l.drop k)=(l.takeWhile letter)[k]'h:=by
  have hl:k<l.length:=Nat.lt_of_lt_of_le h (nb_le l);have e1:hd (l.drop k)=l[k]:=by unfold hd;rw[List.getD_eq_getElem?_getD,List.getElem?_drop,Nat.add_zero,List.getElem?_eq_getElem hl];rfl
  rw[e1]
  have e2:l[k]?=(l.takeWhile letter)[k]?:=by
   have h3:(l.takeWhile letter++l.dropWhile letter)[k]?=(l.takeWhile letter)[k]?:=List.getElem?_append_left h
   rwa [h2]at h3
  rw[List.getElem?_eq_getElem hl,List.getElem?_eq_getElem h]at e2;exact Option.some.inj e2
 rw[hk];exact List.all_eq_true.1 (tw_all letter l) _ (List.getElem_mem h)
theorem nb_end (l:Ln):letter (hd (l.drop (nb l)))=false:=by
 induction l with
 | nil=>rfl
 | cons c r ih =>
  unfold nb at *;rw[List.takeWhile_cons]
  cases h:letter c with
  | true=>simpa using ih
  | false=>exact h
theorem tw_nb (l:Ln):l.takeWhile letter=l.take (nb l):=by
 have h2:=List.takeWhile_append_dropWhile (p:=letter) (l:=l);have h3:(l.takeWhile letter++l.dropWhile letter).take (nb l)=l.takeWhile letter:=List.take_left;rw[h2]at h3;exact h3.symm
theorem nam_no1 {l:Ln} (h:32<nb l):nam l=.error (stands (l.drop 32)):=by
 unfold nam;have e:((l.takeWhile letter).take 32).length=32:=by rw[List.length_take];unfold nb at h;omega
 rw[e,if_pos (.inr (nb_hd l h))]
theorem nam_yes {l:Ln} (h0:0<nb l) (h1:nb l<=32):nam l=.ok (l.take (nb l),l.drop (nb l)):=by
 unfold nam;have e1:(l.takeWhile letter).take 32=l.take (nb l):=by rw[List.take_of_length_le (by exact h1),tw_nb]
 have e:(l.take (nb l)).length=nb l:=by rw[List.length_take];have:=nb_le l;omega
 rw[e1,e,if_neg (fun h=>h.elim (fun h=>by omega) (fun h=>by rw[nb_end]at h;cases h))]
theorem name_any (h:Rd w b s p dp) (hp:p<=s.length) (hs:s.length<=65536) :
  Calls Tryz.prog 148 #[.pointer (some ⟨b,0,none⟩)] w fun e w'=>NamRes b s dp w (nam (s.drop p)) e w':=by
 obtain⟨W,hW⟩:∃ W,w.alloc (.cells #[.int .i64 0,.int .i64 0] 32)=W:=⟨_,rfl⟩;have hbW:Below w.heap.size w W:=by rw[<-hW];exact below_alloc _ _
 have hRW:Rd W b s p dp:=h.later hbW;have hcW:W.heap[w.heap.size]?=some (.cells #[.int .i64 0,.int .i64 0] 32 (0,0)):=by rw[<-hW];exact heap_alloc_new w _
 have hlt:=h.lt;have hsz:=mk_size s;have hex:(mk s).extract p s.length=mk (s.drop p):=by rw[mk_ext,List.take_of_length_le (by rw[List.length_drop];omega)]
 have hnl:=nb_le (s.drop p);rw[List.length_drop]at hnl;have HB:Hid (∀ w,Calls Tryz.prog 125 #[.string (mk (s.drop p))] w fun e w'=>e=.returned (.int .i64 (nb (s.drop p):Nat))/\w=w'):=fun w=>nameBytes_any _ w (by rw[List.length_drop];omega)
 have c0:=hRW.c0;have c1:=hRW.c1;have HR:Hid (Rd W b s p dp):=hRW;have HCW:Hid (W.heap[w.heap.size]?=some (.cells #[.int .i64 0,.int .i64 0] 32 (0,0))):=hcW;have HBW:Hid (Below w.heap.size w W):=hbW;clear h hRW hcW hbW;go_enter Tryz.func148,Tryz.ntmps148;go_wp2_with fail;go_quiet ((go_at_call 125;exact(HB.out _).mono (fun _ _ ⟨he,hw⟩=>⟨he,_,hw.symm⟩)));clear HB;obtain⟨W1,hW1⟩:∃ W1,W1=W.drewN nq:=⟨_,rfl⟩;have HB1:Hid (Below w.heap.size w W1):=by rw[hW1];exact below_drewN HBW.out nq
 have hR1:Rd W1 b s p dp:=by rw[hW1];exact HR.out.drew nq
 have HC1:Hid (W1.heap[w.heap.size]?=some (.cells #[.int .i64 0,.int .i64 0] 32 (0,0))):=by rw[hW1];exact HCW.out
 rw[<-hW1];clear hW1 HR HBW HCW c0 c1 hW;clear W;have s1:=HB1.out.size
 have HX:Hid (∀ W2,Below W1.heap.size W1 W2->W2.cell? ⟨w.heap.size,0,none⟩=some (.int .i64 0)/\W2.cell? ⟨w.heap.size,1,none⟩=some (.int .i64 0)/\W2.frozen? ⟨w.heap.size,0,none⟩=false/\W2.frozen? ⟨w.heap.size,1,none⟩=false/\Hid (Below w.heap.size w W2)):=fun W2 hb=>by
  have hk:W2.heap[w.heap.size]?=some (.cells #[.int .i64 0,.int .i64 0] 32 (0,0)):=(hb.block _ (Array.getElem?_eq_some_iff.1 HC1.out).1).trans HC1.out;exact⟨by rw[Lib.cell_of_heap hk];rfl,by rw[Lib.cell_of_heap hk];rfl,Lib.frozen_of_heap hk 0,Lib.frozen_of_heap hk 1,HB1.out.trans (hb.mono s1)⟩
 by_cases e0:nb (s.drop p)=0
 ·have HE:Hid (nam (s.drop p)=.error (stands (s.drop p))):=nam_no0 e0;obtain⟨F,hF⟩:∃ F,F=stands (s.drop p):=⟨_,rfl⟩
  have HW:Hid (Calls Tryz.prog 166 #[.pointer (some ⟨b,0,none⟩),.int .i64 (p:Int)] W1 fun e w'=>e=.returned (.agg #[.int .i64 (F.1:Int),.int .i64 ((s.length-F.2:Nat):Int)])/\Below W1.heap.size W1 w'):=by
   have:=wrongAt_any p hR1 hp hs;rw[<-hF]at this;exact this
  rw[<-hF]at HE;have c1:=hR1.c1;clear hF hR1;go_wp2_with (go_at_call 166;refine HW.out.mono ?_;rintro e W2 ⟨rfl,hb2⟩;obtain⟨d0,d1,d2,d3,d4⟩:=HX.out W2 hb2;clear hb2);refine bodyPost_ret (v:=.tuple #[.string ⟨#[]⟩,.agg #[.int .i64 (F.1:Int),.int .i64 ((s.length-F.2:Nat):Int)]]) (by simp[results,Tryz.results148,go_sem,d0,d1]) rfl ?_;rw[HE.out];exact⟨rfl,Fr.of ((d4.out.setCell (p:=⟨w.heap.size,0,none⟩) (Nat.le_refl _) _).setCell (p:=⟨w.heap.size,1,none⟩) (Nat.le_refl _) _) hlt⟩
 by_cases e1:32<nb (s.drop p)
 ·have HE:Hid (nam (s.drop p)=.error (stands ((s.drop p).drop 32))):=nam_no1 e1;obtain⟨F,hF⟩:∃ F,F=stands ((s.drop p).drop 32):=⟨_,rfl⟩
  have HW:Hid (Calls Tryz.prog 166 #[.pointer (some ⟨b,0,none⟩),.int .i64 ((p:Int)+32)] W1 fun e w'=>e=.returned (.agg #[.int .i64 (F.1:Int),.int .i64 ((s.length-F.2:Nat):Int)])/\Below W1.heap.size W1 w'):=by
   have:=wrongAt_any (p+32) hR1 (by omega) hs;rw[<-List.drop_drop,<-hF]at this;exact this
  rw[<-hF]at HE;have c1:=hR1.c1;clear hF hR1;go_wp2_with (go_at_call 166;refine HW.out.mono ?_;rintro e W2 ⟨rfl,hb2⟩;obtain⟨d0,d1,d2,d3,d4⟩:=HX.out W2 hb2;clear hb2);refine bodyPost_ret (v:=.tuple #[.string ⟨#[]⟩,.agg #[.int .i64 (F.1:Int),.int .i64 ((s.length-F.2:Nat):Int)]]) (by simp[results,Tryz.results148,go_sem,d0,d1]) rfl ?_;rw[HE.out];exact⟨rfl,Fr.of ((d4.out.setCell (p:=⟨w.heap.size,0,none⟩) (Nat.le_refl _) _).setCell (p:=⟨w.heap.size,1,none⟩) (Nat.le_refl _) _) hlt⟩
 ·have HE:Hid (nam (s.drop p)=.ok ((s.drop p).take (nb (s.drop p)),(s.drop p).drop (nb (s.drop p)))):=nam_yes (by omega) (by omega);have hx2:(mk s).extract p (p+nb (s.drop p))=mk ((s.drop p).take (nb (s.drop p))):=by rw[mk_ext];simp
  have HD:Hid ((s.drop p).drop (nb (s.drop p))=s.drop (p+nb (s.drop p))):=by rw[List.drop_drop];exact rfl
  generalize nb (s.drop p)=n at *;generalize (s.drop p).take n=M at *
  have HRS:Hid (∀ k,Rd ((W1.drewN k).setCell ⟨b,1,none⟩ (.int .i64 ((p+n:Nat):Int))) b s (p+n) dp/\Fr b w ((W1.drewN k).setCell ⟨b,1,none⟩ (.int .i64 ((p+n:Nat):Int)))/\((W1.drewN k).setCell ⟨b,1,none⟩ (.int .i64 ((p+n:Nat):Int))).heap[w.heap.size]?=some (.cells #[.int .i64 0,.int .i64 0] 32 (0,0))):=fun k =>
   ⟨(hR1.drew k).set1 (p+n),(Fr.of (below_drewN HB1.out k) hlt).set 1 _,by rw[Below.heap_setCell _ _ _ _ (fun e=>by simp at e;omega)];exact HC1.out⟩
  have c0:=hR1.c0;have c1:=hR1.c1;have z1:=hR1.fz 1;clear hR1 HX;go_wp2_with fail;go_quiet (fail);obtain⟨hR3,hF3,hC3⟩:=HRS.out nq;clear HRS;obtain⟨W3,hW3⟩:∃ W3,(W1.drewN nq).setCell ⟨b,1,none⟩ (.int .i64 ((p+n:Nat):Int))=W3:=⟨_,rfl⟩;rw[hW3]at hR3 hF3 hC3;rw[Int.natCast_add]at hW3;have HR3:Hid (Rd W3 b s (p+n) dp):=hR3;have HF3:Hid (Fr b w W3):=hF3;have d0:W3.cell? ⟨w.heap.size,0,none⟩=some (.int .i64 0):=by rw[Lib.cell_of_heap hC3];rfl
  have d1:W3.cell? ⟨w.heap.size,1,none⟩=some (.int .i64 0):=by rw[Lib.cell_of_heap hC3];rfl
  have d2:W3.frozen? ⟨w.heap.size,0,none⟩=false:=Lib.frozen_of_heap hC3 0;have d3:W3.frozen? ⟨w.heap.size,1,none⟩=false:=Lib.frozen_of_heap hC3 1;clear hR3 hF3 hC3;go_wp2;refine bodyPost_ret (v:=.tuple #[.string (mk M),.agg #[.int .i64 0,.int .i64 0]]) (by simp[results,Tryz.results148,go_sem,d0,d1,hx2]) rfl ?_;rw[HE.out];exact⟨rfl,⟨p+n,by omega,HD.out,HR3.out.box (by omega) _ _⟩,HF3.out.box (Nat.le_refl _) hlt _ _⟩
theorem kindOf_any (l:Ln) (w:World) (hs:l.length<=65536):Calls Tryz.prog 187 #[.string (mk l)] w fun e w'=>e=.returned (.int .i64 (word l))/\w=w':=by
 have q1:((mk l).toList==[110,117,108,108])=(l==[110,117,108,108]):=by rw[ByteArray.toList_eq,mk_data]
 have q2:((mk l).toList==[98,111,111,108])=(l==[98,111,111,108]):=by rw[ByteArray.toList_eq,mk_data]
 have q3:((mk l).toList==[105,110,116])=(l==[105,110,116]):=by rw[ByteArray.toList_eq,mk_data]
 have q4:((mk l).toList==[115,116,114])=(l==[115,116,114]):=by rw[ByteArray.toList_eq,mk_data]
 have q5:((mk l).toList==[115,101,113])=(l==[115,101,113]):=by rw[ByteArray.toList_eq,mk_data]
 have q6:((mk l).toList==[109,97,112])=(l==[109,97,112]):=by rw[ByteArray.toList_eq,mk_data]
 by_cases c1:l=[110,117,108,108]
 ·subst c1;go_enter Tryz.func187,Tryz.ntmps187;go_wp2;go_ret;exact⟨rfl,rfl⟩
 by_cases c2:l=[98,111,111,108]
 ·subst c2;go_enter Tryz.func187,Tryz.ntmps187;go_wp2;go_ret;exact⟨rfl,rfl⟩
 by_cases c3:l=[105,110,116]
 ·subst c3;go_enter Tryz.func187,Tryz.ntmps187;go_wp2;go_ret;exact⟨rfl,rfl⟩
 by_cases c4:l=[115,116,114]
 ·subst c4;go_enter Tryz.func187,Tryz.ntmps187;go_wp2;go_ret;exact⟨rfl,rfl⟩
 by_cases c5:l=[115,101,113]
 ·subst c5;go_enter Tryz.func187,Tryz.ntmps187;go_wp2;go_ret;exact⟨rfl,rfl⟩
 by_cases c6:l=[109,97,112]
 ·subst c6;go_enter Tryz.func187,Tryz.ntmps187;go_wp2;go_ret;exact⟨rfl,rfl⟩
 have HE:Hid (word l=0):=by unfold word;rw[if_neg c1,if_neg c2,if_neg c3,if_neg c4,if_neg c5,if_neg c6];exact rfl
 rw[beq_eq_false_iff_ne.2 c1]at q1;rw[beq_eq_false_iff_ne.2 c2]at q2;rw[beq_eq_false_iff_ne.2 c3]at q3;rw[beq_eq_false_iff_ne.2 c4]at q4;rw[beq_eq_false_iff_ne.2 c5]at q5;rw[beq_eq_false_iff_ne.2 c6]at q6;clear c1 c2 c3 c4 c5 c6;go_enter Tryz.func187,Tryz.ntmps187;go_wp2;go_ret;rw[HE.out];exact⟨rfl,rfl⟩
def TagRes (b:Nat) (s:Ln) (dp:Nat) (w:World) (r:Ot (Int × Ln)) (e:Ending) (w':World):Prop:=match r with
 | .ok x=>e=.returned (.tuple #[.int .i64 x.1,f0])/\(∃ q,q<=s.length/\x.2=s.drop q/\Rd w' b s q dp)/\Fr b w w'
 | .error f=>e=.returned (.tuple #[.int .i64 0,fv s.length f])/\Fr b w w'
theorem tag_any (h:Rd w b s p dp) (hp:p<=s.length) (hs:s.length<=65536) :
  Calls Tryz.prog 167 #[.pointer (some ⟨b,0,none⟩)] w fun e w'=>TagRes b s dp w (tag (s.drop p)) e w':=by
 obtain⟨W,hW⟩:∃ W,w.alloc (.cells #[.int .i64 0,.int .i64 0] 32)=W:=⟨_,rfl⟩;have hbW:Below w.heap.size w W:=by rw[<-hW];exact below_alloc _ _
 have hRW:Rd W b s p dp:=h.later hbW;have hcW:W.heap[w.heap.size]?=some (.cells #[.int .i64 0,.int .i64 0] 32 (0,0)):=by rw[<-hW];exact heap_alloc_new w _
 have hlt:=h.lt;have hsz:=mk_size s;have hex:(mk s).extract p s.length=mk (s.drop p):=by rw[mk_ext,List.take_of_length_le (by rw[List.length_drop];omega)]
 have hnl:=nb_le (s.drop p);rw[List.length_drop]at hnl;have HB:Hid (∀ w,Calls Tryz.prog 125 #[.string (mk (s.drop p))] w fun e w'=>e=.returned (.int .i64 (nb (s.drop p):Nat))/\w=w'):=fun w=>nameBytes_any _ w (by rw[List.length_drop];omega)
 have hx2:(mk s).extract p (p+nb (s.drop p))=mk ((s.drop p).take (nb (s.drop p))):=by rw[mk_ext];simp
 have HT:Hid (tag (s.drop p)=if word ((s.drop p).take (nb (s.drop p)))=0 then .error (stands (s.drop p))else .ok (word ((s.drop p).take (nb (s.drop p))),s.drop (p+nb (s.drop p)))):=by
  unfold tag;rw[tw_nb,List.length_take,Nat.min_eq_left (nb_le _),List.drop_drop];exact rfl
 have hML:((s.drop p).take (nb (s.drop p))).length=nb (s.drop p):=by rw[List.length_take,Nat.min_eq_left (nb_le _)]
 have HK:Hid (∀ w,Calls Tryz.prog 187 #[.string (mk ((s.drop p).take (nb (s.drop p))))] w fun e w'=>e=.returned (.int .i64 (word ((s.drop p).take (nb (s.drop p)))))/\w=w'):=fun w=>kindOf_any _ w (by rw[hML];omega)
 have hmz:=mk_size ((s.drop p).take (nb (s.drop p)));rw[hML]at hmz;have hwb:=word_bd ((s.drop p).take (nb (s.drop p)));generalize nb (s.drop p)=n at *;generalize (s.drop p).take n=M at *;generalize word M=g at *;have c0:=hRW.c0;have c1:=hRW.c1;have HR:Hid (Rd W b s p dp):=hRW;have HCW:Hid (W.heap[w.heap.size]?=some (.cells #[.int .i64 0,.int .i64 0] 32 (0,0))):=hcW;have HBW:Hid (Below w.heap.size w W):=hbW;clear h hRW hcW hbW hML;go_enter Tryz.func167,Tryz.ntmps167;go_wp2_with fail;go_quiet ((go_at_call 125;exact(HB.out _).mono (fun _ _ ⟨he,hw⟩=>⟨he,_,hw.symm⟩)));clear HB;obtain⟨W1,hW1⟩:∃ W1,W1=W.drewN nq:=⟨_,rfl⟩;have HB1:Hid (Below w.heap.size w W1):=by rw[hW1];exact below_drewN HBW.out nq
 have hR1:Rd W1 b s p dp:=by rw[hW1];exact HR.out.drew nq
 have HC1:Hid (W1.heap[w.heap.size]?=some (.cells #[.int .i64 0,.int .i64 0] 32 (0,0))):=by rw[hW1];exact HCW.out
 rw[<-hW1];clear hW1 HR HBW HCW c0 c1 hW;clear W;have s1:=HB1.out.size
 have HX:Hid (∀ W2,Below W1.heap.size W1 W2->W2.cell? ⟨w.heap.size,0,none⟩=some (.int .i64 0)/\W2.cell? ⟨w.heap.size,1,none⟩=some (.int .i64 0)/\W2.frozen? ⟨w.heap.size,0,none⟩=false/\W2.frozen? ⟨w.heap.size,1,none⟩=false/\Hid (Below w.heap.size w W2)):=fun W2 hb=>by
  have hk:W2.heap[w.heap.size]?=some (.cells #[.int .i64 0,.int .i64 0] 32 (0,0)):=(hb.block _ (Array.getElem?_eq_some_iff.1 HC1.out).1).trans HC1.out;exact⟨by rw[Lib.cell_of_heap hk];rfl,by rw[Lib.cell_of_heap hk];rfl,Lib.frozen_of_heap hk 0,Lib.frozen_of_heap hk 1,HB1.out.trans (hb.mono s1)⟩
 by_cases e0:g=0
 ·subst e0;have HE:Hid (tag (s.drop p)=.error (stands (s.drop p))):=HT.out;obtain⟨F,hF⟩:∃ F,F=stands (s.drop p):=⟨_,rfl⟩
  have HW:Hid (Calls Tryz.prog 166 #[.pointer (some ⟨b,0,none⟩),.int .i64 (p:Int)] W1 fun e w'=>e=.returned (.agg #[.int .i64 (F.1:Int),.int .i64 ((s.length-F.2:Nat):Int)])/\Below W1.heap.size W1 w'):=by
   have:=wrongAt_any p hR1 hp hs;rw[<-hF]at this;exact this
  rw[<-hF]at HE;have c1:=hR1.c1;clear hF hR1 HT;go_wp2_with (first | (go_at_call 187;refine(HK.out _).mono ?_;rintro e w' ⟨rfl,rfl⟩) | (go_at_call 166;refine HW.out.mono ?_;rintro e W2 ⟨rfl,hb2⟩;obtain⟨d0,d1,d2,d3,d4⟩:=HX.out W2 hb2;clear hb2));refine bodyPost_ret (v:=.tuple #[.int .i64 0,.agg #[.int .i64 (F.1:Int),.int .i64 ((s.length-F.2:Nat):Int)]]) (by simp[results,Tryz.results167,go_sem,d0,d1]) rfl ?_;rw[HE.out];exact⟨rfl,Fr.of ((d4.out.setCell (p:=⟨w.heap.size,0,none⟩) (Nat.le_refl _) _).setCell (p:=⟨w.heap.size,1,none⟩) (Nat.le_refl _) _) hlt⟩
 ·have HE:Hid (tag (s.drop p)=.ok (g,s.drop (p+n))):=by have:=HT.out;rw[if_neg e0]at this;exact this
  have hR3:=hR1.set1 (p+n);have hF3:Fr b w (W1.setCell ⟨b,1,none⟩ (.int .i64 ((p+n:Nat):Int))):=(Fr.of HB1.out hlt).set 1 _;have hC3:(W1.setCell ⟨b,1,none⟩ (.int .i64 ((p+n:Nat):Int))).heap[w.heap.size]?=some (.cells #[.int .i64 0,.int .i64 0] 32 (0,0)):=by rw[Below.heap_setCell _ _ _ _ (fun e=>by simp at e;omega)];exact HC1.out
  obtain⟨W3,hW3⟩:∃ W3,W1.setCell ⟨b,1,none⟩ (.int .i64 ((p+n:Nat):Int))=W3:=⟨_,rfl⟩;rw[hW3]at hR3 hF3 hC3;rw[Int.natCast_add]at hW3;have HR3:Hid (Rd W3 b s (p+n) dp):=hR3;have HF3:Hid (Fr b w W3):=hF3;have d0:W3.cell? ⟨w.heap.size,0,none⟩=some (.int .i64 0):=by rw[Lib.cell_of_heap hC3];rfl
  have d1:W3.cell? ⟨w.heap.size,1,none⟩=some (.int .i64 0):=by rw[Lib.cell_of_heap hC3];rfl
  have d2:W3.frozen? ⟨w.heap.size,0,none⟩=false:=Lib.frozen_of_heap hC3 0;have d3:W3.frozen? ⟨w.heap.size,1,none⟩=false:=Lib.frozen_of_heap hC3 1;have c1:=hR1.c1;have z1:=hR1.fz 1;clear hR3 hF3 hC3 hR1 HX HT;go_wp2_with (first | (go_at_call 187;refine(HK.out _).mono ?_;rintro e w' ⟨rfl,rfl⟩));refine bodyPost_ret (v:=.tuple #[.int .i64 g,.agg #[.int .i64 0,.int .i64 0]]) (by simp[results,Tryz.results167,go_sem,d0,d1]) rfl ?_;rw[HE.out];exact⟨rfl,⟨p+n,by omega,rfl,HR3.out.box (by omega) _ _⟩,HF3.out.box (Nat.le_refl _) hlt _ _⟩
theorem fl_idx (c:UInt8):decide (0<=idx c [32,44,91,93,123,125])=(c==32 || fl c):=by
 rw[idx_has];unfold fl flows;rw[show ([32,44,91,93,123,125]:Ln)=32::[44,91,93,123,125]from rfl,has_cons,show ((32:UInt8)==c)=(c==32)from Bool.beq_comm]
theorem bl_idx (c:UInt8):decide (0<=idx c [32])=(c==32):=by
 rw[idx_has,has_cons,show ((32:UInt8)==c)=(c==32)from Bool.beq_comm];simp[has]
theorem endsWord_any (f:Bool) (h:Rd w b s p dp) (hp:p<=s.length) (hs:s.length<=65536) :
  Calls Tryz.prog 168 #[.pointer (some ⟨b,0,none⟩),.bool f] w fun e w'=>e=.returned (.bool (ends f (s.drop p)))/\∃ n,w'=w.drewN n:=by
 have hsz:=mk_size s;have c0:=h.c0;have c1:=h.c1;clear h;by_cases e:p=s.length
 ·subst e;have HE:Hid (ends f (s.drop s.length)=true):=by rw[List.drop_length];exact rfl
  cases f <;>
  ·go_enter Tryz.func168,Tryz.ntmps168;go_wp2_with fail;go_quiet (fail);go_wp2;go_ret;rw[HE.out];exact⟨rfl,nq,rfl⟩
 ·have hlt:p<(mk s).size:=by omega
  have hlt2:p<s.length:=by omega
  have hpe:((p:Int)==(s.length:Int))=false:=by rw[beq_eq_false_iff_ne];omega
  have hg:∀ h,(mk s)[p]'h=s.getD p 0:=fun h=>getD_mk s p h
  have h2:hd (s.drop p)=s.getD p 0:=by unfold hd;simp[List.getD_eq_getElem?_getD]
  have hne:(s.drop p==[])=false:=by
   rw[beq_eq_false_iff_ne];intro q;have:=congrArg List.length q;rw[List.length_drop]at this;simp at this;omega
  have HE:Hid (ends f (s.drop p)=(s.getD p 0==32 || (f && fl (s.getD p 0)))):=by unfold ends;rw[hne,h2];exact rfl
  generalize s.getD p 0=c at *;cases f
  ·have HI:Hid (∀ w,Calls Tryz.prog 37 #[.string ⟨#[32]⟩,.int .u8 c.toNat] w fun e w'=>e=.returned (.int .i64 (idx c [32]))/\w=w'):=fun w=>Pln.indexByte_any ⟨#[32]⟩ c w
   have HQ:Hid (decide (0<=idx c [32])=(c==32)):=bl_idx c;generalize idx c [32]=I at *;go_enter Tryz.func168,Tryz.ntmps168;go_wp2_with fail;go_quiet ((go_at_call 37;exact(HI.out _).mono (fun _ _ ⟨he,hw⟩=>⟨he,_,hw.symm⟩)));go_wp2;go_ret;rw[HE.out,<-HQ.out];exact⟨by simp,nq,rfl⟩
  ·have HI:Hid (∀ w,Calls Tryz.prog 37 #[.string ⟨#[32,44,91,93,123,125]⟩,.int .u8 c.toNat] w fun e w'=>e=.returned (.int .i64 (idx c [32,44,91,93,123,125]))/\w=w'):=fun w=>Pln.indexByte_any ⟨#[32,44,91,93,123,125]⟩ c w
   have HQ:Hid (decide (0<=idx c [32,44,91,93,123,125])=(c==32 || fl c)):=fl_idx c;generalize idx c [32,44,91,93,123,125]=I at *;go_enter Tryz.func168,Tryz.ntmps168;go_wp2_with fail;go_quiet ((go_at_call 37;exact(HI.out _).mono (fun _ _ ⟨he,hw⟩=>⟨he,_,hw.symm⟩)));go_wp2;go_ret;rw[HE.out];refine⟨?_,nq,rfl⟩;rw[Bool.true_and,<-HQ.out];rfl
end Flw
end Go.Proofs.YtalijhclfppohaaGreatDoor
