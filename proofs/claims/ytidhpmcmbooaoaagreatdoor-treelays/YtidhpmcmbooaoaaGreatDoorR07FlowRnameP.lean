/- . -/
import Derived.Test.YtidhpmcmbooaoaaGreatDoorRows
import Derived.Test.YtidhpmcmbooaoaaGreatDoorR01RowsPlain
import Derived.WalkKit
import Derived.WalkSpells
import Derived.WalkLawsBesides
import Derived.Laws.BitsAllLaws
import Derived.Test.YtidhpmcmbooaoaaGreatDoorR00UtfPlain
set_option linter.unusedSimpArgs false
set_option linter.unusedVariables false
set_option maxRecDepth 100000
namespace Go.Proofs.YtidhpmcmbooaoaaGreatDoor
namespace Flw
open Utf Rws Pln
open Go.RowKit
theorem letter_num {c:UInt8} {x:Nat} (hx:x=c.toNat):letter c=(decide (97<=x/\x<=122) || decide (65<=x/\x<=90) || decide (48<=x/\x<=57) || decide (x=45) || decide (x=95)):=by
 subst hx;unfold letter
 have e1:(c==45)=decide (c.toNat=45):=by
  rw[Bool.eq_iff_iff,beq_iff_eq,decide_eq_true_eq];exact⟨fun h=>by rw[h];rfl,fun h=>UInt8.toNat_inj.1 h⟩
 have e2:(c==95)=decide (c.toNat=95):=by
  rw[Bool.eq_iff_iff,beq_iff_eq,decide_eq_true_eq];exact⟨fun h=>by rw[h];rfl,fun h=>UInt8.toNat_inj.1 h⟩
 rw[e1,e2];simp only[Bool.decide_and]
theorem all_take (l:Ln) (n:Nat) (h:n<l.length):(l.take (n+1)).all letter=((l.take n).all letter && letter (l.getD n 0)):=by
 rw[List.take_add_one,List.getElem?_eq_getElem h,List.getD_eq_getElem?_getD,List.getElem?_eq_getElem h,List.all_append];simp
theorem getD_mk (l:Ln) (n:Nat) (h:n<(mk l).size):(mk l)[n]'h=l.getD n 0:=by
 have h':n<l.length:=by rw[mk_size]at h;exact h
 rw[List.getD_eq_getElem?_getD,List.getElem?_eq_getElem h'];rfl
end Flw
namespace Utf
open Go.RowKit
theorem within_any (n a b:Int) (w:World):Calls Tryz.prog 140 #[.int .i64 n,.int .i64 a,.int .i64 b] w fun e w'=>e=.returned (.bool (inR n a b))/\w=w':=by
 unfold inR;by_cases h1:a<=n
 ·go_enter Tryz.func140,Tryz.ntmps140;go_wp2;go_ret;exact⟨by simp[h1],rfl⟩
 ·have h1':decide (a<=n)=false:=by simpa using h1
  go_enter Tryz.func140,Tryz.ntmps140;go_wp2;go_ret;exact⟨by simp[h1],rfl⟩
theorem isSign_any (n:Int) (w:World):Calls Tryz.prog 119 #[.int .i64 n] w fun e w'=>e=.returned (.bool (sgn n))/\w=w':=by
 unfold sgn;cases h:inR n 0 1114111
 ·go_enter Tryz.func119,Tryz.ntmps119;go_wp2_with (go_at_call 140;refine(within_any _ _ _ _).mono ?_;rintro e w' ⟨rfl,rfl⟩);go_ret;exact⟨by simp,rfl⟩
 ·go_enter Tryz.func119,Tryz.ntmps119;go_wp2_with (go_at_call 140;refine(within_any _ _ _ _).mono ?_;rintro e w' ⟨rfl,rfl⟩);go_ret;exact⟨by simp,rfl⟩
theorem width_any (n:Int) (w:World):Calls Tryz.prog 120 #[.int .i64 n] w fun e w'=>e=.returned (.int .i64 (wid n))/\w=w':=by
 unfold wid;by_cases h1:n<128
 ·go_enter Tryz.func120,Tryz.ntmps120;go_wp2;go_ret;exact⟨by simp,rfl⟩
 by_cases h2:n<2048
 ·go_enter Tryz.func120,Tryz.ntmps120;go_wp2;go_ret;exact⟨by simp,rfl⟩
 by_cases h3:n<65536
 ·go_enter Tryz.func120,Tryz.ntmps120;go_wp2;go_ret;exact⟨by simp,rfl⟩
 ·go_enter Tryz.func120,Tryz.ntmps120;go_wp2;go_ret;exact⟨by simp,rfl⟩
theorem all8 {p:Nat->Bool} (h:∀ n:Fin 256,p n.val=true) (b:UInt8):p b.toNat=true:=h ⟨b.toNat,b.toNat_lt⟩
theorem bit_rest (b:UInt8):(bits .andNot .u8 (b.toNat:Int) 63==128)=isRestB b:=by
 have h:=all8 (p:=fun n=>(bits .andNot .u8 (n:Int) 63==128)==(decide (128<=n) && decide (n<192))) (by decide +kernel) b;simpa [isRestB]using h
theorem bit_h2 (b:UInt8):(bits .andNot .u8 (b.toNat:Int) 31==192)=(decide (192<=b.toNat) && decide (b.toNat<224)):=by
 have h:=all8 (p:=fun n=>(bits .andNot .u8 (n:Int) 31==192)==(decide (192<=n) && decide (n<224))) (by decide +kernel) b;simpa using h
theorem bit_h3 (b:UInt8):(bits .andNot .u8 (b.toNat:Int) 15==224)=(decide (224<=b.toNat) && decide (b.toNat<240)):=by
 have h:=all8 (p:=fun n=>(bits .andNot .u8 (n:Int) 15==224)==(decide (224<=n) && decide (n<240))) (by decide +kernel) b;simpa using h
theorem bit_h4 (b:UInt8):(bits .andNot .u8 (b.toNat:Int) 7==240)=(decide (240<=b.toNat) && decide (b.toNat<248)):=by
 have h:=all8 (p:=fun n=>(bits .andNot .u8 (n:Int) 7==240)==(decide (240<=n) && decide (n<248))) (by decide +kernel) b;simpa using h
theorem isRest_any (b:UInt8) (w:World):Calls Tryz.prog 118 #[.int .u8 b.toNat] w fun e w'=>e=.returned (.bool (isRestB b))/\w=w':=by
 have H:=bit_rest b;go_enter Tryz.func118,Tryz.ntmps118;go_wp2;go_ret;exact⟨rfl,rfl⟩
theorem ret_two {k k':IntKind} {a b c d:Int} (h:a=b) (h':c=d):Ending.returned (.tuple #[.int k a,.int k' c])=.returned (.tuple #[.int k b,.int k' d]):=by rw[h,h']
theorem head_any (b:UInt8) (w:World):Calls Tryz.prog 117 #[.int .u8 b.toNat] w fun e w'=>e=.returned (.tuple #[.int .i64 (hdV b),.int .i64 (hdL b)])/\w=w':=by
 have hb:(b.toNat:Int)<256:=by have:=b.toNat_lt;omega
 have HV:Hid (hdV b=if b.toNat<128 then (b.toNat:Int)else if b.toNat<192 then 0 else if b.toNat<224 then b.toNat-192 else if b.toNat<240 then b.toNat-224 else if b.toNat<248 then b.toNat-240 else 0):=rfl;have HL:Hid (hdL b=if b.toNat<128 then 1 else if b.toNat<192 then 0 else if b.toNat<224 then 2 else if b.toNat<240 then 3 else if b.toNat<248 then 4 else 0):=rfl;have e2:=bit_h2 b;have e3:=bit_h3 b;have e4:=bit_h4 b;by_cases c1:(b.toNat:Int)<128
 ·clear e2 e3 e4;go_enter Tryz.func117,Tryz.ntmps117;go_wp2;go_ret2;exact⟨ret_two (by rw[HV.out,if_pos (by omega)]) (by rw[HL.out,if_pos (by omega)]),rfl⟩
 by_cases c2:b.toNat<192
 ·have f2:(bits .andNot .u8 (b.toNat:Int) 31==192)=false:=by rw[e2];simp;omega
  have f3:(bits .andNot .u8 (b.toNat:Int) 15==224)=false:=by rw[e3];simp;omega
  have f4:(bits .andNot .u8 (b.toNat:Int) 7==240)=false:=by rw[e4];simp;omega
  clear e2 e3 e4;go_enter Tryz.func117,Tryz.ntmps117;go_wp2;go_ret2;exact⟨ret_two (by rw[HV.out,if_neg (by omega),if_pos (by omega)]) (by rw[HL.out,if_neg (by omega),if_pos (by omega)]),rfl⟩
 by_cases c3:b.toNat<224
 ·have f2:(bits .andNot .u8 (b.toNat:Int) 31==192)=true:=by rw[e2];simp;omega
  clear e2 e3 e4;go_enter Tryz.func117,Tryz.ntmps117;go_wp2;go_ret2;exact⟨ret_two (by rw[HV.out,if_neg (by omega),if_neg (by omega),if_pos (by omega)];omega) (by rw[HL.out,if_neg (by omega),if_neg (by omega),if_pos (by omega)]),rfl⟩
 by_cases c4:b.toNat<240
 ·have f2:(bits .andNot .u8 (b.toNat:Int) 31==192)=false:=by rw[e2];simp;omega
  have f3:(bits .andNot .u8 (b.toNat:Int) 15==224)=true:=by rw[e3];simp;omega
  clear e2 e3 e4;go_enter Tryz.func117,Tryz.ntmps117;go_wp2;go_ret2;exact⟨ret_two (by rw[HV.out,if_neg (by omega),if_neg (by omega),if_neg (by omega),if_pos (by omega)];omega) (by rw[HL.out,if_neg (by omega),if_neg (by omega),if_neg (by omega),if_pos (by omega)]),rfl⟩
 by_cases c5:b.toNat<248
 ·have f2:(bits .andNot .u8 (b.toNat:Int) 31==192)=false:=by rw[e2];simp;omega
  have f3:(bits .andNot .u8 (b.toNat:Int) 15==224)=false:=by rw[e3];simp;omega
  have f4:(bits .andNot .u8 (b.toNat:Int) 7==240)=true:=by rw[e4];simp;omega
  clear e2 e3 e4;go_enter Tryz.func117,Tryz.ntmps117;go_wp2;go_ret2;exact⟨ret_two (by rw[HV.out,if_neg (by omega),if_neg (by omega),if_neg (by omega),if_neg (by omega),if_pos (by omega)];omega) (by rw[HL.out,if_neg (by omega),if_neg (by omega),if_neg (by omega),if_neg (by omega),if_pos (by omega)]),rfl⟩
 ·have f2:(bits .andNot .u8 (b.toNat:Int) 31==192)=false:=by rw[e2];simp;omega
  have f3:(bits .andNot .u8 (b.toNat:Int) 15==224)=false:=by rw[e3];simp;omega
  have f4:(bits .andNot .u8 (b.toNat:Int) 7==240)=false:=by rw[e4];simp;omega
  clear e2 e3 e4;go_enter Tryz.func117,Tryz.ntmps117;go_wp2;go_ret2;exact⟨ret_two (by rw[HV.out,if_neg (by omega),if_neg (by omega),if_neg (by omega),if_neg (by omega),if_neg (by omega)]) (by rw[HL.out,if_neg (by omega),if_neg (by omega),if_neg (by omega),if_neg (by omega),if_neg (by omega)]),rfl⟩
end Utf
end Go.Proofs.YtidhpmcmbooaoaaGreatDoor
