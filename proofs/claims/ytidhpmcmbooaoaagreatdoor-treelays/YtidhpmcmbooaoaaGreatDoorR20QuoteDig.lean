/- . -/
import Derived.Test.YtidhpmcmbooaoaaGreatDoorR19QuoteTab
set_option linter.unusedSimpArgs false
set_option linter.unusedVariables false
set_option maxRecDepth 100000
namespace Go.Proofs.YtidhpmcmbooaoaaGreatDoor
namespace Quo
open Utf Rws
open Go.RowKit
theorem dig_bd (c:UInt8): -1<=dig c/\dig c<=15:=by
 unfold dig;split
 ·omega
 split
 ·omega
 split<;>omega
theorem digit_any (c:UInt8) (w:World):Calls Tryz.prog 207 #[.int .u8 (c.toNat:Int)] w fun e w'=>e=.returned (.int .i64 (dig c))/\w=w':=by
 have hb:c.toNat<256:=c.toNat_lt;obtain⟨x,hx⟩:∃ x,x=c.toNat:=⟨_,rfl⟩;have HX:Hid (dig c=if 48<=x/\x<=57 then (x:Int)-48 else if 97<=x/\x<=102 then (x:Int)-87 else if 65<=x/\x<=70 then (x:Int)-55 else -1):=by rw[hx];exact rfl
 rw[<-hx]at hb |-;clear hx;by_cases a:x<48
 ·have HV:Hid (dig c= -1):=by rw[HX.out,if_neg (by omega),if_neg (by omega),if_neg (by omega)];exact rfl
  go_enter Tryz.func207,Tryz.ntmps207;go_wp2;go_ret;exact⟨by rw[HV.out];rfl,rfl⟩
 by_cases a2:x<=57
 ·have HV:Hid (dig c=(x:Int)-48):=by rw[HX.out,if_pos (by omega)];exact rfl
  go_enter Tryz.func207,Tryz.ntmps207;go_wp2;go_ret;exact⟨by rw[HV.out];simp,rfl⟩
 by_cases a3:x<65
 ·have HV:Hid (dig c= -1):=by rw[HX.out,if_neg (by omega),if_neg (by omega),if_neg (by omega)];exact rfl
  go_enter Tryz.func207,Tryz.ntmps207;go_wp2;go_ret;exact⟨by rw[HV.out];rfl,rfl⟩
 by_cases a4:x<=70
 ·have HV:Hid (dig c=(x:Int)-65+10):=by rw[HX.out,if_neg (by omega),if_neg (by omega),if_pos (by omega)];unfold Hid;omega
  go_enter Tryz.func207,Tryz.ntmps207;go_wp2;go_ret;exact⟨by rw[HV.out];simp,rfl⟩
 by_cases a5:x<97
 ·have HV:Hid (dig c= -1):=by rw[HX.out,if_neg (by omega),if_neg (by omega),if_neg (by omega)];exact rfl
  go_enter Tryz.func207,Tryz.ntmps207;go_wp2;go_ret;exact⟨by rw[HV.out];rfl,rfl⟩
 by_cases a6:x<=102
 ·have HV:Hid (dig c=(x:Int)-97+10):=by rw[HX.out,if_neg (by omega),if_pos (by omega)];unfold Hid;omega
  go_enter Tryz.func207,Tryz.ntmps207;go_wp2;go_ret;exact⟨by rw[HV.out];simp,rfl⟩
 ·have HV:Hid (dig c= -1):=by rw[HX.out,if_neg (by omega),if_neg (by omega),if_neg (by omega)];exact rfl
  go_enter Tryz.func207,Tryz.ntmps207;go_wp2;go_ret;exact⟨by rw[HV.out];rfl,rfl⟩
theorem or16 (x d:Int) (h0:0<=x) (h1:x<=68719476735) (d0:0<=d) (d1:d<=15):bits .or .i64 (x*16) d=x*16+d:=by
 obtain⟨n,rfl⟩:=Int.eq_ofNat_of_zero_le h0;obtain⟨m,rfl⟩:=Int.eq_ofNat_of_zero_le d0;have e2:((n:Int)*16)=((n*16:Nat):Int):=by omega
 rw[e2];show IntKind.i64.wrap ((BitVec.ofInt 64 ((n*16:Nat):Int) ||| BitVec.ofInt 64 ((m:Nat):Int)).toNat:Int)=_;rw[BitVec.toNat_or,ofInt_u64 _ (by omega),ofInt_u64 _ (by omega),nat_join 4 _ _ (by omega) (by omega),Utf.wrap_small _ (by omega)];omega
theorem drop_cons {l:List UInt8} {j:Nat} (h:j<l.length):l.drop j=l.getD j 0::l.drop (j+1):=by
 rw[List.drop_eq_getElem_cons h,List.getD_eq_getElem?_getD,List.getElem?_eq_getElem h];rfl
theorem getD_mk (l:List UInt8) (k:Nat) (h:k<(mk l).size):(mk l)[k]'h=l.getD k 0:=by
 rw[mk_get,List.getD_eq_getElem?_getD,List.getElem?_eq_getElem (by rw[mk_size]at h;exact h)];rfl
theorem numberOf_any (l:List UInt8) (k:Nat) (w:World) (hk:k<=8) (hs:l.length<=9223372036854775000) :
  Calls Tryz.prog 200 #[.string (mk l),.int .i64 (k:Int)] w fun e w'=>e=.returned (.tuple #[.int .i64 (hexR k l 0).1,.int .i64 ((hexR k l 0).2:Int)])/\w=w':=by
 have hsz:=mk_size l;obtain⟨N,hN⟩:∃ N,N=l.length:=⟨_,rfl⟩;rw[<-hN]at hsz hs;have HN:Hid (N=l.length):=hN;clear hN;go_enter Tryz.func200,Tryz.ntmps200;go_wp2
 go_loop [6,10] (fun n i=>∃ (j:Nat) (x:Int),j<=k/\j<=N/\0<=x/\x+1<=16 ^ j/\i=.int .i64 (j:Int)/\n=.int .i64 x/\hexR k l 0=hexR (k-j) (l.drop j) x) (fun _ i=>k-(intOf i).toNat)
 case atStart=>exact⟨0,0,Nat.zero_le _,Nat.zero_le _,by decide,by decide,rfl,rfl,by simp⟩
 case round =>
  obtain⟨j,x,hj,hjN,hx0,hx1,rfl,rfl,hc⟩:=hrel;have HC:Hid (hexR k l 0=hexR (k-j) (l.drop j) x):=hc
  have hx2:x<=68719476735:=by
   have:(16:Int) ^ j<=16 ^ 8:=by
    rcases(show j=0\/j=1\/j=2\/j=3\/j=4\/j=5\/j=6\/j=7\/j=8 by omega)with rfl | rfl | rfl | rfl | rfl | rfl | rfl | rfl | rfl<;>decide
   omega
  have HX1:Hid (x+1<=16 ^ j):=hx1;clear hc hx1;by_cases hlt:j<k
  ·by_cases hj2:j=N
   ·have HV:Hid (hexR k l 0=(0,4)):=by
     rw[HC.out,List.drop_of_length_le (by rw[<-HN.out];omega)];obtain⟨m,hm⟩:∃ m,k-j=m+1:=⟨k-j-1,by omega⟩;rw[hm];exact rfl
    have hq:((j:Int)==(N:Int))=true:=by simp;omega
    have HJ:Hid (j=N):=hj2;clear hj2;go_wp2;go_ret2;exact⟨by rw[HV.out];rfl,rfl⟩
   ·have hjl:j<N:=by omega
    have hq:((j:Int)==(N:Int))=false:=by simp;omega
    have hg:∀ h,(mk l)[j]'h=l.getD j 0:=fun h=>getD_mk l j h
    have hdr:l.drop j=l.getD j 0::l.drop (j+1):=drop_cons (by rw[<-HN.out];exact hjl);obtain⟨m,hm⟩:∃ m,k-j=m+1:=⟨k-j-1,by omega⟩
    have hstep:hexR (k-j) (l.drop j) x=if dig (l.getD j 0)<0 then (0,3)else hexR m (l.drop (j+1)) (x*16+dig (l.getD j 0)):=by
     rw[hm,hdr];rfl
    have hmm:m=k-(j+1):=by omega
    rw[hmm]at hstep;generalize l.getD j 0=c at hg hstep;have hbd:=dig_bd c;obtain⟨D,hD⟩:∃ D,D=dig c:=⟨_,rfl⟩;have HDG:Hid (∀ w,Calls Tryz.prog 207 #[.int .u8 (c.toNat:Int)] w fun e w'=>e=.returned (.int .i64 D)/\w=w'):=fun w=>by rw[hD];exact digit_any c w
    rw[<-hD]at hstep hbd;clear hD hdr hm hmm;by_cases hneg:D<0
    ·have HV:Hid (hexR k l 0=(0,3)):=by rw[HC.out,hstep,if_pos hneg];exact rfl
     clear hstep;go_wp2_with (first | (go_at_call 207;refine(HDG.out _).mono ?_;rintro e w' ⟨rfl,rfl⟩));go_ret2;exact⟨by rw[HV.out];rfl,rfl⟩
    ·have HV:Hid (hexR k l 0=hexR (k-(j+1)) (l.drop (j+1)) (x*16+D)):=by rw[HC.out,hstep,if_neg hneg];exact rfl
     have hO:=or16 x D hx0 hx2 (by omega) (by omega);have HO:Hid (bits .or .i64 (x*16) D=x*16+D):=hO;clear hstep hO;go_wp2_with (first | (go_at_call 207;refine(HDG.out _).mono ?_;rintro e w' ⟨rfl,rfl⟩));go_round
     case rel=>exact⟨j+1,x*16+D,by omega,by omega,by omega,by have:=HX1.out;rw[Int.pow_succ];omega,by go_num,by rw[HO.out],HV.out⟩
     case measure=>simp[intOf];omega
  ·have HV:Hid (hexR k l 0=(x,0)):=by
    rw[HC.out,show k-j=0 by omega];exact rfl
   go_wp2;go_ret2;exact⟨by rw[HV.out];rfl,rfl⟩
end Quo
end Go.Proofs.YtidhpmcmbooaoaaGreatDoor
