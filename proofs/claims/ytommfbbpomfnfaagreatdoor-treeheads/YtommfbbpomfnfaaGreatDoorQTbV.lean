/- . -/
import Derived.Test.YtommfbbpomfnfaaGreatDoorQFbK
import Derived.Test.YtommfbbpomfnfaaGreatDoorQFbL
import Derived.Test.YtommfbbpomfnfaaGreatDoorQTbS
import Derived.Test.YtommfbbpomfnfaaGreatDoorQFbM
import Derived.Lib.AppendStr
import Derived.BigQuiet
import Derived.Deep.QuietTactic
set_option linter.unusedSimpArgs false
set_option linter.unusedVariables false
set_option maxRecDepth 100000
namespace Go.Proofs.YtommfbbpomfnfaaGreatDoor
namespace Quo
open Utf Rws
open Go.RowKit
theorem rmay_any (n:Int) (w:World):Calls Tryz.prog 51 #[.int .i64 n] w fun e w'=>e=.returned (.bool (may n))/\w=w':=by
 have HM:Hid (may n=(prn n && !(n==9) && !(n==10) && !(n==13))):=rfl;cases c0:prn n
 ·go_enter Tryz.func51,Tryz.ntmps51;go_wp2_with (first | (go_at_call 90;refine(rprintable_any _ _).mono ?_;rintro e w' ⟨rfl,rfl⟩));go_ret;exact⟨by rw[HM.out,c0];rfl,rfl⟩
 cases c1:(n==9)
 ·have d1:(n != 9)=true:=by rw[bne,c1];rfl
  cases c2:(n==10)
  ·have d2:(n != 10)=true:=by rw[bne,c2];rfl
   cases c3:(n==13)
   ·have d3:(n != 13)=true:=by rw[bne,c3];rfl
    go_enter Tryz.func51,Tryz.ntmps51;go_wp2_with (first | (go_at_call 90;refine(rprintable_any _ _).mono ?_;rintro e w' ⟨rfl,rfl⟩));go_ret;exact⟨by rw[HM.out,c0,c1,c2,c3];rfl,rfl⟩
   ·have d3:(n != 13)=false:=by rw[bne,c3];rfl
    go_enter Tryz.func51,Tryz.ntmps51;go_wp2_with (first | (go_at_call 90;refine(rprintable_any _ _).mono ?_;rintro e w' ⟨rfl,rfl⟩));go_ret;exact⟨by rw[HM.out,c0,c1,c2,c3];rfl,rfl⟩
  ·have d2:(n != 10)=false:=by rw[bne,c2];rfl
   go_enter Tryz.func51,Tryz.ntmps51;go_wp2_with (first | (go_at_call 90;refine(rprintable_any _ _).mono ?_;rintro e w' ⟨rfl,rfl⟩));go_ret;exact⟨by rw[HM.out,c0,c1,c2];rfl,rfl⟩
 ·have d1:(n != 9)=false:=by rw[bne,c1];rfl
  go_enter Tryz.func51,Tryz.ntmps51;go_wp2_with (first | (go_at_call 90;refine(rprintable_any _ _).mono ?_;rintro e w' ⟨rfl,rfl⟩));go_ret;exact⟨by rw[HM.out,c0,c1];rfl,rfl⟩
theorem rdigit_any (c:UInt8) (w:World):Calls Tryz.prog 84 #[.int .u8 (c.toNat:Int)] w fun e w'=>e=.returned (.int .i64 (dig c))/\w=w':=by
 have hb:c.toNat<256:=c.toNat_lt;obtain⟨x,hx⟩:∃ x,x=c.toNat:=⟨_,rfl⟩;have HX:Hid (dig c=if 48<=x/\x<=57 then (x:Int)-48 else if 97<=x/\x<=102 then (x:Int)-87 else if 65<=x/\x<=70 then (x:Int)-55 else -1):=by rw[hx];exact rfl
 rw[<-hx]at hb |-;clear hx;by_cases a:x<48
 ·have HV:Hid (dig c= -1):=by rw[HX.out,if_neg (by omega),if_neg (by omega),if_neg (by omega)];exact rfl
  go_enter Tryz.func84,Tryz.ntmps84;go_wp2;go_ret;exact⟨by rw[HV.out];rfl,rfl⟩
 by_cases a2:x<=57
 ·have HV:Hid (dig c=(x:Int)-48):=by rw[HX.out,if_pos (by omega)];exact rfl
  go_enter Tryz.func84,Tryz.ntmps84;go_wp2;go_ret;exact⟨by rw[HV.out];simp,rfl⟩
 by_cases a3:x<65
 ·have HV:Hid (dig c= -1):=by rw[HX.out,if_neg (by omega),if_neg (by omega),if_neg (by omega)];exact rfl
  go_enter Tryz.func84,Tryz.ntmps84;go_wp2;go_ret;exact⟨by rw[HV.out];rfl,rfl⟩
 by_cases a4:x<=70
 ·have HV:Hid (dig c=(x:Int)-65+10):=by rw[HX.out,if_neg (by omega),if_neg (by omega),if_pos (by omega)];unfold Hid;omega
  go_enter Tryz.func84,Tryz.ntmps84;go_wp2;go_ret;exact⟨by rw[HV.out];simp,rfl⟩
 by_cases a5:x<97
 ·have HV:Hid (dig c= -1):=by rw[HX.out,if_neg (by omega),if_neg (by omega),if_neg (by omega)];exact rfl
  go_enter Tryz.func84,Tryz.ntmps84;go_wp2;go_ret;exact⟨by rw[HV.out];rfl,rfl⟩
 by_cases a6:x<=102
 ·have HV:Hid (dig c=(x:Int)-97+10):=by rw[HX.out,if_neg (by omega),if_pos (by omega)];unfold Hid;omega
  go_enter Tryz.func84,Tryz.ntmps84;go_wp2;go_ret;exact⟨by rw[HV.out];simp,rfl⟩
 ·have HV:Hid (dig c= -1):=by rw[HX.out,if_neg (by omega),if_neg (by omega),if_neg (by omega)];exact rfl
  go_enter Tryz.func84,Tryz.ntmps84;go_wp2;go_ret;exact⟨by rw[HV.out];rfl,rfl⟩
theorem rtext_any (n:Int) (w:World):Calls Tryz.prog 49 #[.int .i64 n] w fun e w'=>e=.returned (.string (mk (sgb n)))/\Below w.heap.size w w':=by
 have HE:=rencode_any (some ⟨w.heap.size,0,none⟩) 1 1 [n] (w.alloc (.cells #[.int .i64 n] 3)) (ints_one w n 3) (by decide);have hb0:Below w.heap.size w (w.alloc (.cells #[.int .i64 n] 3)):=below_alloc _ _
 have e1:encS [n]=mk (sgb n):=by
  unfold encS sgb;rw[allS_one,bytes_one];split<;>rfl
 rw[e1]at HE
 have HC:Hid (Calls Tryz.prog 86 #[.slice (some ⟨w.heap.size,0,none⟩) 1 1] (w.alloc (.cells #[.int .i64 n] 3)) fun e w'=>e=.returned (.tuple #[.string (mk (sgb n)),.int .i64 (encE [n])])/\Below w.heap.size w w'):=HE.mono (by
  rintro e w' ⟨h1,h2⟩;exact⟨h1,hb0.trans (h2.mono (by simp))⟩)
 clear HE hb0 e1;go_enter Tryz.func49,Tryz.ntmps49;go_wp2_with (first | (go_at_call 86;refine HC.out.mono ?_;rintro e w1 ⟨rfl,hb1⟩));go_ret;exact⟨rfl,hb1⟩
theorem blit (c d:UInt8):((c.toNat:Int)==(d.toNat:Int))=(c==d):=by
 rw[Bool.eq_iff_iff,beq_iff_eq,beq_iff_eq,<-UInt8.toNat_inj];omega
theorem getD_dropR (l:List UInt8) (p i:Nat):(l.drop p).getD i 0=l.getD (p+i) 0:=by
 rw[List.getD_eq_getElem?_getD,List.getD_eq_getElem?_getD,List.getElem?_drop]
set_option maxHeartbeats 4000000 in
theorem rescape_any (m:List UInt8) (w:World) (hl:m.length<=9223372036854775000) :
  Calls Tryz.prog 48 #[.string (mk m)] w fun e w'=>e=.returned (.tuple #[.int .i64 (escR m).1,.int .i64 ((escR m).2.1:Int),.int .i64 ((escR m).2.2:Int)])/\w=w':=by
 have hsz:=mk_size m;obtain⟨N,hN⟩:∃ N,N=m.length:=⟨_,rfl⟩;rw[<-hN]at hsz hl;by_cases h2:N<2
 ·have HV:Hid (escR m=(0,0,4)):=by unfold escR;rw[if_pos (by omega)];exact rfl
  clear hN;go_enter Tryz.func48,Tryz.ntmps48;go_wp2;refine bodyPost_ret (v:=.tuple #[.int .i64 0,.int .i64 0,.int .i64 4]) (by simp[results,Tryz.results48,go_sem]) rfl ⟨?_,rfl⟩;rw[HV.out];rfl
 have hg:∀ h,(mk m)[1]'h=m.getD 1 0:=fun h=>getD_mk m 1 h
 have hVm:∀ n,mnt (m.getD 1 0)=some n->escR m=(n,2,0):=fun n hn=>mnt_esc (by omega) hn
 have hVd:mnt (m.getD 1 0)=none->escR m=if dgs (m.getD 1 0)=0 then (0,0,3)else escH m (dgs (m.getD 1 0)):=fun hn=>dgs_esc (by omega) hn
 generalize m.getD 1 0=c at *;by_cases h34:c=34
 ·have hc:=h34;have q34:((c.toNat:Int)==34)=true:=(blit c 34).trans (by rw[hc];rfl);have HV:Hid (escR m=(34,2,0)):=hVm 34 (by rw[hc];rfl);have hct:(c.toNat:Int)=34:=by rw[hc];rfl
  clear hVm hVd hN hc h34;go_enter Tryz.func48,Tryz.ntmps48;go_wp2;refine bodyPost_ret (v:=.tuple #[.int .i64 34,.int .i64 2,.int .i64 0]) (by simp[results,Tryz.results48,go_sem,hct]) rfl ⟨?_,rfl⟩;rw[HV.out];rfl
 by_cases h92:c=92
 ·have hc:=h92;have q34:((c.toNat:Int)==34)=false:=(blit c 34).trans (by rw[beq_eq_false_iff_ne];exact h34);have q92:((c.toNat:Int)==92)=true:=(blit c 92).trans (by rw[hc];rfl);have HV:Hid (escR m=(92,2,0)):=hVm 92 (by rw[hc];rfl);have hct:(c.toNat:Int)=92:=by rw[hc];rfl
  clear hVm hVd hN hc h34 h92;go_enter Tryz.func48,Tryz.ntmps48;go_wp2;refine bodyPost_ret (v:=.tuple #[.int .i64 92,.int .i64 2,.int .i64 0]) (by simp[results,Tryz.results48,go_sem,hct]) rfl ⟨?_,rfl⟩;rw[HV.out];rfl
 by_cases h110:c=110
 ·have hc:=h110;have q34:((c.toNat:Int)==34)=false:=(blit c 34).trans (by rw[beq_eq_false_iff_ne];exact h34);have q92:((c.toNat:Int)==92)=false:=(blit c 92).trans (by rw[beq_eq_false_iff_ne];exact h92);have q110:((c.toNat:Int)==110)=true:=(blit c 110).trans (by rw[hc];rfl);have HV:Hid (escR m=(10,2,0)):=hVm 10 (by rw[hc];rfl);clear hVm hVd hN hc h34 h92 h110;go_enter Tryz.func48,Tryz.ntmps48;go_wp2;refine bodyPost_ret (v:=.tuple #[.int .i64 10,.int .i64 2,.int .i64 0]) (by simp[results,Tryz.results48,go_sem]) rfl ⟨?_,rfl⟩;rw[HV.out];rfl
 by_cases h116:c=116
 ·have hc:=h116;have q34:((c.toNat:Int)==34)=false:=(blit c 34).trans (by rw[beq_eq_false_iff_ne];exact h34);have q92:((c.toNat:Int)==92)=false:=(blit c 92).trans (by rw[beq_eq_false_iff_ne];exact h92);have q110:((c.toNat:Int)==110)=false:=(blit c 110).trans (by rw[beq_eq_false_iff_ne];exact h110);have q116:((c.toNat:Int)==116)=true:=(blit c 116).trans (by rw[hc];rfl);have HV:Hid (escR m=(9,2,0)):=hVm 9 (by rw[hc];rfl);clear hVm hVd hN hc h34 h92 h110 h116;go_enter Tryz.func48,Tryz.ntmps48;go_wp2;refine bodyPost_ret (v:=.tuple #[.int .i64 9,.int .i64 2,.int .i64 0]) (by simp[results,Tryz.results48,go_sem]) rfl ⟨?_,rfl⟩;rw[HV.out];rfl
 by_cases h114:c=114
 ·have hc:=h114;have q34:((c.toNat:Int)==34)=false:=(blit c 34).trans (by rw[beq_eq_false_iff_ne];exact h34);have q92:((c.toNat:Int)==92)=false:=(blit c 92).trans (by rw[beq_eq_false_iff_ne];exact h92);have q110:((c.toNat:Int)==110)=false:=(blit c 110).trans (by rw[beq_eq_false_iff_ne];exact h110);have q116:((c.toNat:Int)==116)=false:=(blit c 116).trans (by rw[beq_eq_false_iff_ne];exact h116);have q114:((c.toNat:Int)==114)=true:=(blit c 114).trans (by rw[hc];rfl);have HV:Hid (escR m=(13,2,0)):=hVm 13 (by rw[hc];rfl);clear hVm hVd hN hc h34 h92 h110 h116 h114;go_enter Tryz.func48,Tryz.ntmps48;go_wp2;refine bodyPost_ret (v:=.tuple #[.int .i64 13,.int .i64 2,.int .i64 0]) (by simp[results,Tryz.results48,go_sem]) rfl ⟨?_,rfl⟩;rw[HV.out];rfl
 by_cases h48:c=48
 ·have hc:=h48;have q34:((c.toNat:Int)==34)=false:=(blit c 34).trans (by rw[beq_eq_false_iff_ne];exact h34);have q92:((c.toNat:Int)==92)=false:=(blit c 92).trans (by rw[beq_eq_false_iff_ne];exact h92);have q110:((c.toNat:Int)==110)=false:=(blit c 110).trans (by rw[beq_eq_false_iff_ne];exact h110);have q116:((c.toNat:Int)==116)=false:=(blit c 116).trans (by rw[beq_eq_false_iff_ne];exact h116);have q114:((c.toNat:Int)==114)=false:=(blit c 114).trans (by rw[beq_eq_false_iff_ne];exact h114);have q48:((c.toNat:Int)==48)=true:=(blit c 48).trans (by rw[hc];rfl);have HV:Hid (escR m=(0,2,0)):=hVm 0 (by rw[hc];rfl);clear hVm hVd hN hc h34 h92 h110 h116 h114 h48;go_enter Tryz.func48,Tryz.ntmps48;go_wp2;refine bodyPost_ret (v:=.tuple #[.int .i64 0,.int .i64 2,.int .i64 0]) (by simp[results,Tryz.results48,go_sem]) rfl ⟨?_,rfl⟩;rw[HV.out];rfl
 have hmn:mnt c=none:=by unfold mnt;rw[if_neg h34,if_neg h92,if_neg h110,if_neg h116,if_neg h114,if_neg h48]
 have hV:=hVd hmn;clear hVm hVd hmn;obtain⟨t,ht⟩:∃ t,t=m.drop 2:=⟨_,rfl⟩;have htl:t.length=N-2:=by rw[ht,List.length_drop,hN]
 have hgt:∀ i,m.getD (2+i) 0=t.getD i 0:=fun i=>by rw[ht,getD_dropR m 2 i]
 have hE:∀ k,escH m k=if (hexR k t 0).2=0 then (if sgn (hexR k t 0).1=true then ((hexR k t 0).1,2+k,0)else (0,0,3))else (0,0,(hexR k t 0).2):=fun k=>by unfold escH;rw[ht]
 have hgm:∀ i h,(mk m)[i]'h=m.getD i 0:=fun i h=>getD_mk m i h
 by_cases h120:c=120
 ·have hc:=h120;have q34:((c.toNat:Int)==34)=false:=(blit c 34).trans (by rw[beq_eq_false_iff_ne];exact h34);have q92:((c.toNat:Int)==92)=false:=(blit c 92).trans (by rw[beq_eq_false_iff_ne];exact h92);have q110:((c.toNat:Int)==110)=false:=(blit c 110).trans (by rw[beq_eq_false_iff_ne];exact h110);have q116:((c.toNat:Int)==116)=false:=(blit c 116).trans (by rw[beq_eq_false_iff_ne];exact h116);have q114:((c.toNat:Int)==114)=false:=(blit c 114).trans (by rw[beq_eq_false_iff_ne];exact h114);have q48:((c.toNat:Int)==48)=false:=(blit c 48).trans (by rw[beq_eq_false_iff_ne];exact h48);have q120:((c.toNat:Int)==120)=true:=(blit c 120).trans (by rw[hc];rfl);have HVV:Hid (escR m=escH m 2):=by rw[hV,hc];exact rfl
  have HEE:Hid (∀ k,escH m k=if (hexR k t 0).2=0 then (if sgn (hexR k t 0).1=true then ((hexR k t 0).1,2+k,0)else (0,0,3))else (0,0,(hexR k t 0).2)):=hE;have HGT:Hid (∀ i,m.getD (2+i) 0=t.getD i 0):=hgt;have HTL:Hid (t.length=N-2):=htl;have HGM:Hid (∀ i h,(mk m)[i]'h=m.getD i 0):=hgm;clear hV hN hc hE hgt htl hgm ht h34 h92 h110 h116 h114 h48 h120;go_enter Tryz.func48,Tryz.ntmps48;go_wp2
  go_loop [6,7] (fun y i=>∃ (j:Nat) (x:Int),j<=2/\j+2<=N/\0<=x/\x+1<=16 ^ j/\i=.int .i64 ((j:Int)+2)/\y=.int .i64 x/\hexR 2 t 0=hexR (2-j) (t.drop j) x) (fun _ i=>2+2-(intOf i).toNat)
  case atStart=>exact⟨0,0,Nat.zero_le _,by omega,by decide,by decide,rfl,rfl,by simp⟩
  case round =>
   obtain⟨j,x,hj,hjN,hx0,hx1,rfl,rfl,hcc⟩:=hrel;have HC:Hid (hexR 2 t 0=hexR (2-j) (t.drop j) x):=hcc
   have hx2:x<=68719476735:=by
    have:(16:Int) ^ j<=16 ^ 8:=by
     rcases(show j=0\/j=1\/j=2\/j=3\/j=4\/j=5\/j=6\/j=7\/j=8 by omega)with rfl | rfl | rfl | rfl | rfl | rfl | rfl | rfl | rfl<;>decide
    omega
   have HX1:Hid (x+1<=16 ^ j):=hx1;clear hcc hx1;by_cases hlt:j<2
   ·by_cases hj2:j+2=N
    ·have HR:Hid (hexR 2 t 0=(0,4)):=by
      rw[HC.out,List.drop_of_length_le (by rw[HTL.out];omega)];obtain⟨r,hr⟩:∃ r,2-j=r+1:=⟨2-j-1,by omega⟩;rw[hr];exact rfl
     go_wp2;refine bodyPost_ret (v:=.tuple #[.int .i64 0,.int .i64 0,.int .i64 4]) (by simp[results,Tryz.results48,go_sem]) rfl ⟨?_,rfl⟩;rw[HVV.out,HEE.out,HR.out];rfl
    ·have hg2:∀ h,(mk m)[j+2]'h=m.getD (j+2) 0:=fun h=>HGM.out (j+2) h
     have hdr:t.drop j=t.getD j 0::t.drop (j+1):=drop_cons (by rw[HTL.out];omega);rw[Nat.add_comm j 2,HGT.out j]at hg2;obtain⟨r,hr⟩:∃ r,2-j=r+1:=⟨2-j-1,by omega⟩
     have hstep:hexR (2-j) (t.drop j) x=if dig (t.getD j 0)<0 then (0,3)else hexR r (t.drop (j+1)) (x*16+dig (t.getD j 0)):=by
      rw[hr,hdr];rfl
     have hmm:r=2-(j+1):=by omega
     rw[hmm]at hstep;generalize t.getD j 0=d at hg2 hstep;have hbd:=dig_bd d;obtain⟨D,hD⟩:∃ D,D=dig d:=⟨_,rfl⟩;have HDG:Hid (∀ w,Calls Tryz.prog 84 #[.int .u8 (d.toNat:Int)] w fun e w'=>e=.returned (.int .i64 D)/\w=w'):=fun w=>by rw[hD];exact rdigit_any d w
     rw[<-hD]at hstep hbd;clear hD hdr hr hmm
     have hg3:∀ h,(mk m)[((j:Int)+2).toNat]'h=d:=fun h=>by
      have e:((j:Int)+2).toNat=2+j:=by omega
      simp only[e]at h |-;exact hg2 h
     by_cases hneg:D<0
     ·have HR:Hid (hexR 2 t 0=(0,3)):=by rw[HC.out,hstep,if_pos hneg];exact rfl
      clear hstep;go_wp2_with (first | (go_at_call 84;refine(HDG.out _).mono ?_;rintro e w' ⟨rfl,rfl⟩));refine bodyPost_ret (v:=.tuple #[.int .i64 0,.int .i64 0,.int .i64 3]) (by simp[results,Tryz.results48,go_sem]) rfl ⟨?_,rfl⟩;rw[HVV.out,HEE.out,HR.out];rfl
     ·have HR:Hid (hexR 2 t 0=hexR (2-(j+1)) (t.drop (j+1)) (x*16+D)):=by rw[HC.out,hstep,if_neg hneg];exact rfl
      clear hstep;go_wp2_with (first | (go_at_call 84;refine(HDG.out _).mono ?_;rintro e w' ⟨rfl,rfl⟩));go_round
      case rel=>exact⟨j+1,x*16+D,by omega,by omega,by omega,by have:=HX1.out;rw[Int.pow_succ];omega,by go_num,rfl,HR.out⟩
      case measure=>simp[intOf];omega
   ·have HR:Hid (hexR 2 t 0=(x,0)):=by
     rw[HC.out,show 2-j=0 by omega];exact rfl
    cases hs:sgn x
    ·have HS:Hid (sgn x=false):=hs;go_wp2_with (first | (go_at_call 85;refine(rsign_any _ _).mono ?_;rintro e w' ⟨rfl,rfl⟩));refine bodyPost_ret (v:=.tuple #[.int .i64 0,.int .i64 0,.int .i64 3]) (by simp[results,Tryz.results48,go_sem]) rfl ⟨?_,rfl⟩;rw[HVV.out,HEE.out,HR.out];simp only[HS.out];rfl
    ·have HS:Hid (sgn x=true):=hs;go_wp2_with (first | (go_at_call 85;refine(rsign_any _ _).mono ?_;rintro e w' ⟨rfl,rfl⟩));refine bodyPost_ret (v:=.tuple #[.int .i64 x,.int .i64 (2+2),.int .i64 0]) (by simp[results,Tryz.results48,go_sem]) rfl ⟨?_,rfl⟩;rw[HVV.out,HEE.out,HR.out];simp only[HS.out];rfl
 by_cases h117:c=117
 ·have hc:=h117;have q34:((c.toNat:Int)==34)=false:=(blit c 34).trans (by rw[beq_eq_false_iff_ne];exact h34);have q92:((c.toNat:Int)==92)=false:=(blit c 92).trans (by rw[beq_eq_false_iff_ne];exact h92);have q110:((c.toNat:Int)==110)=false:=(blit c 110).trans (by rw[beq_eq_false_iff_ne];exact h110);have q116:((c.toNat:Int)==116)=false:=(blit c 116).trans (by rw[beq_eq_false_iff_ne];exact h116);have q114:((c.toNat:Int)==114)=false:=(blit c 114).trans (by rw[beq_eq_false_iff_ne];exact h114);have q48:((c.toNat:Int)==48)=false:=(blit c 48).trans (by rw[beq_eq_false_iff_ne];exact h48);have q120:((c.toNat:Int)==120)=false:=(blit c 120).trans (by rw[beq_eq_false_iff_ne];exact h120);have q117:((c.toNat:Int)==117)=true:=(blit c 117).trans (by rw[hc];rfl);have HVV:Hid (escR m=escH m 4):=by rw[hV,hc];exact rfl
  have HEE:Hid (∀ k,escH m k=if (hexR k t 0).2=0 then (if sgn (hexR k t 0).1=true then ((hexR k t 0).1,2+k,0)else (0,0,3))else (0,0,(hexR k t 0).2)):=hE;have HGT:Hid (∀ i,m.getD (2+i) 0=t.getD i 0):=hgt;have HTL:Hid (t.length=N-2):=htl;have HGM:Hid (∀ i h,(mk m)[i]'h=m.getD i 0):=hgm;clear hV hN hc hE hgt htl hgm ht h34 h92 h110 h116 h114 h48 h120 h117;go_enter Tryz.func48,Tryz.ntmps48;go_wp2
  go_loop [6,7] (fun y i=>∃ (j:Nat) (x:Int),j<=4/\j+2<=N/\0<=x/\x+1<=16 ^ j/\i=.int .i64 ((j:Int)+2)/\y=.int .i64 x/\hexR 4 t 0=hexR (4-j) (t.drop j) x) (fun _ i=>4+2-(intOf i).toNat)
  case atStart=>exact⟨0,0,Nat.zero_le _,by omega,by decide,by decide,rfl,rfl,by simp⟩
  case round =>
   obtain⟨j,x,hj,hjN,hx0,hx1,rfl,rfl,hcc⟩:=hrel;have HC:Hid (hexR 4 t 0=hexR (4-j) (t.drop j) x):=hcc
   have hx2:x<=68719476735:=by
    have:(16:Int) ^ j<=16 ^ 8:=by
     rcases(show j=0\/j=1\/j=2\/j=3\/j=4\/j=5\/j=6\/j=7\/j=8 by omega)with rfl | rfl | rfl | rfl | rfl | rfl | rfl | rfl | rfl<;>decide
    omega
   have HX1:Hid (x+1<=16 ^ j):=hx1;clear hcc hx1;by_cases hlt:j<4
   ·by_cases hj2:j+2=N
    ·have HR:Hid (hexR 4 t 0=(0,4)):=by
      rw[HC.out,List.drop_of_length_le (by rw[HTL.out];omega)];obtain⟨r,hr⟩:∃ r,4-j=r+1:=⟨4-j-1,by omega⟩;rw[hr];exact rfl
     go_wp2;refine bodyPost_ret (v:=.tuple #[.int .i64 0,.int .i64 0,.int .i64 4]) (by simp[results,Tryz.results48,go_sem]) rfl ⟨?_,rfl⟩;rw[HVV.out,HEE.out,HR.out];rfl
    ·have hg2:∀ h,(mk m)[j+2]'h=m.getD (j+2) 0:=fun h=>HGM.out (j+2) h
     have hdr:t.drop j=t.getD j 0::t.drop (j+1):=drop_cons (by rw[HTL.out];omega);rw[Nat.add_comm j 2,HGT.out j]at hg2;obtain⟨r,hr⟩:∃ r,4-j=r+1:=⟨4-j-1,by omega⟩
     have hstep:hexR (4-j) (t.drop j) x=if dig (t.getD j 0)<0 then (0,3)else hexR r (t.drop (j+1)) (x*16+dig (t.getD j 0)):=by
      rw[hr,hdr];rfl
     have hmm:r=4-(j+1):=by omega
     rw[hmm]at hstep;generalize t.getD j 0=d at hg2 hstep;have hbd:=dig_bd d;obtain⟨D,hD⟩:∃ D,D=dig d:=⟨_,rfl⟩;have HDG:Hid (∀ w,Calls Tryz.prog 84 #[.int .u8 (d.toNat:Int)] w fun e w'=>e=.returned (.int .i64 D)/\w=w'):=fun w=>by rw[hD];exact rdigit_any d w
     rw[<-hD]at hstep hbd;clear hD hdr hr hmm
     have hg3:∀ h,(mk m)[((j:Int)+2).toNat]'h=d:=fun h=>by
      have e:((j:Int)+2).toNat=2+j:=by omega
      simp only[e]at h |-;exact hg2 h
     by_cases hneg:D<0
     ·have HR:Hid (hexR 4 t 0=(0,3)):=by rw[HC.out,hstep,if_pos hneg];exact rfl
      clear hstep;go_wp2_with (first | (go_at_call 84;refine(HDG.out _).mono ?_;rintro e w' ⟨rfl,rfl⟩));refine bodyPost_ret (v:=.tuple #[.int .i64 0,.int .i64 0,.int .i64 3]) (by simp[results,Tryz.results48,go_sem]) rfl ⟨?_,rfl⟩;rw[HVV.out,HEE.out,HR.out];rfl
     ·have HR:Hid (hexR 4 t 0=hexR (4-(j+1)) (t.drop (j+1)) (x*16+D)):=by rw[HC.out,hstep,if_neg hneg];exact rfl
      clear hstep;go_wp2_with (first | (go_at_call 84;refine(HDG.out _).mono ?_;rintro e w' ⟨rfl,rfl⟩));go_round
      case rel=>exact⟨j+1,x*16+D,by omega,by omega,by omega,by have:=HX1.out;rw[Int.pow_succ];omega,by go_num,rfl,HR.out⟩
      case measure=>simp[intOf];omega
   ·have HR:Hid (hexR 4 t 0=(x,0)):=by
     rw[HC.out,show 4-j=0 by omega];exact rfl
    cases hs:sgn x
    ·have HS:Hid (sgn x=false):=hs;go_wp2_with (first | (go_at_call 85;refine(rsign_any _ _).mono ?_;rintro e w' ⟨rfl,rfl⟩));refine bodyPost_ret (v:=.tuple #[.int .i64 0,.int .i64 0,.int .i64 3]) (by simp[results,Tryz.results48,go_sem]) rfl ⟨?_,rfl⟩;rw[HVV.out,HEE.out,HR.out];simp only[HS.out];rfl
    ·have HS:Hid (sgn x=true):=hs;go_wp2_with (first | (go_at_call 85;refine(rsign_any _ _).mono ?_;rintro e w' ⟨rfl,rfl⟩));refine bodyPost_ret (v:=.tuple #[.int .i64 x,.int .i64 (2+4),.int .i64 0]) (by simp[results,Tryz.results48,go_sem]) rfl ⟨?_,rfl⟩;rw[HVV.out,HEE.out,HR.out];simp only[HS.out];rfl
 by_cases h85:c=85
 ·have hc:=h85;have q34:((c.toNat:Int)==34)=false:=(blit c 34).trans (by rw[beq_eq_false_iff_ne];exact h34);have q92:((c.toNat:Int)==92)=false:=(blit c 92).trans (by rw[beq_eq_false_iff_ne];exact h92);have q110:((c.toNat:Int)==110)=false:=(blit c 110).trans (by rw[beq_eq_false_iff_ne];exact h110);have q116:((c.toNat:Int)==116)=false:=(blit c 116).trans (by rw[beq_eq_false_iff_ne];exact h116);have q114:((c.toNat:Int)==114)=false:=(blit c 114).trans (by rw[beq_eq_false_iff_ne];exact h114);have q48:((c.toNat:Int)==48)=false:=(blit c 48).trans (by rw[beq_eq_false_iff_ne];exact h48);have q120:((c.toNat:Int)==120)=false:=(blit c 120).trans (by rw[beq_eq_false_iff_ne];exact h120);have q117:((c.toNat:Int)==117)=false:=(blit c 117).trans (by rw[beq_eq_false_iff_ne];exact h117);have q85:((c.toNat:Int)==85)=true:=(blit c 85).trans (by rw[hc];rfl);have HVV:Hid (escR m=escH m 8):=by rw[hV,hc];exact rfl
  have HEE:Hid (∀ k,escH m k=if (hexR k t 0).2=0 then (if sgn (hexR k t 0).1=true then ((hexR k t 0).1,2+k,0)else (0,0,3))else (0,0,(hexR k t 0).2)):=hE;have HGT:Hid (∀ i,m.getD (2+i) 0=t.getD i 0):=hgt;have HTL:Hid (t.length=N-2):=htl;have HGM:Hid (∀ i h,(mk m)[i]'h=m.getD i 0):=hgm;clear hV hN hc hE hgt htl hgm ht h34 h92 h110 h116 h114 h48 h120 h117 h85;go_enter Tryz.func48,Tryz.ntmps48;go_wp2
  go_loop [6,7] (fun y i=>∃ (j:Nat) (x:Int),j<=8/\j+2<=N/\0<=x/\x+1<=16 ^ j/\i=.int .i64 ((j:Int)+2)/\y=.int .i64 x/\hexR 8 t 0=hexR (8-j) (t.drop j) x) (fun _ i=>8+2-(intOf i).toNat)
  case atStart=>exact⟨0,0,Nat.zero_le _,by omega,by decide,by decide,rfl,rfl,by simp⟩
  case round =>
   obtain⟨j,x,hj,hjN,hx0,hx1,rfl,rfl,hcc⟩:=hrel;have HC:Hid (hexR 8 t 0=hexR (8-j) (t.drop j) x):=hcc
   have hx2:x<=68719476735:=by
    have:(16:Int) ^ j<=16 ^ 8:=by
     rcases(show j=0\/j=1\/j=2\/j=3\/j=4\/j=5\/j=6\/j=7\/j=8 by omega)with rfl | rfl | rfl | rfl | rfl | rfl | rfl | rfl | rfl<;>decide
    omega
   have HX1:Hid (x+1<=16 ^ j):=hx1;clear hcc hx1;by_cases hlt:j<8
   ·by_cases hj2:j+2=N
    ·have HR:Hid (hexR 8 t 0=(0,4)):=by
      rw[HC.out,List.drop_of_length_le (by rw[HTL.out];omega)];obtain⟨r,hr⟩:∃ r,8-j=r+1:=⟨8-j-1,by omega⟩;rw[hr];exact rfl
     go_wp2;refine bodyPost_ret (v:=.tuple #[.int .i64 0,.int .i64 0,.int .i64 4]) (by simp[results,Tryz.results48,go_sem]) rfl ⟨?_,rfl⟩;rw[HVV.out,HEE.out,HR.out];rfl
    ·have hg2:∀ h,(mk m)[j+2]'h=m.getD (j+2) 0:=fun h=>HGM.out (j+2) h
     have hdr:t.drop j=t.getD j 0::t.drop (j+1):=drop_cons (by rw[HTL.out];omega);rw[Nat.add_comm j 2,HGT.out j]at hg2;obtain⟨r,hr⟩:∃ r,8-j=r+1:=⟨8-j-1,by omega⟩
     have hstep:hexR (8-j) (t.drop j) x=if dig (t.getD j 0)<0 then (0,3)else hexR r (t.drop (j+1)) (x*16+dig (t.getD j 0)):=by
      rw[hr,hdr];rfl
     have hmm:r=8-(j+1):=by omega
     rw[hmm]at hstep;generalize t.getD j 0=d at hg2 hstep;have hbd:=dig_bd d;obtain⟨D,hD⟩:∃ D,D=dig d:=⟨_,rfl⟩;have HDG:Hid (∀ w,Calls Tryz.prog 84 #[.int .u8 (d.toNat:Int)] w fun e w'=>e=.returned (.int .i64 D)/\w=w'):=fun w=>by rw[hD];exact rdigit_any d w
     rw[<-hD]at hstep hbd;clear hD hdr hr hmm
     have hg3:∀ h,(mk m)[((j:Int)+2).toNat]'h=d:=fun h=>by
      have e:((j:Int)+2).toNat=2+j:=by omega
      simp only[e]at h |-;exact hg2 h
     by_cases hneg:D<0
     ·have HR:Hid (hexR 8 t 0=(0,3)):=by rw[HC.out,hstep,if_pos hneg];exact rfl
      clear hstep;go_wp2_with (first | (go_at_call 84;refine(HDG.out _).mono ?_;rintro e w' ⟨rfl,rfl⟩));refine bodyPost_ret (v:=.tuple #[.int .i64 0,.int .i64 0,.int .i64 3]) (by simp[results,Tryz.results48,go_sem]) rfl ⟨?_,rfl⟩;rw[HVV.out,HEE.out,HR.out];rfl
     ·have HR:Hid (hexR 8 t 0=hexR (8-(j+1)) (t.drop (j+1)) (x*16+D)):=by rw[HC.out,hstep,if_neg hneg];exact rfl
      clear hstep;go_wp2_with (first | (go_at_call 84;refine(HDG.out _).mono ?_;rintro e w' ⟨rfl,rfl⟩));go_round
      case rel=>exact⟨j+1,x*16+D,by omega,by omega,by omega,by have:=HX1.out;rw[Int.pow_succ];omega,by go_num,rfl,HR.out⟩
      case measure=>simp[intOf];omega
   ·have HR:Hid (hexR 8 t 0=(x,0)):=by
     rw[HC.out,show 8-j=0 by omega];exact rfl
    cases hs:sgn x
    ·have HS:Hid (sgn x=false):=hs;go_wp2_with (first | (go_at_call 85;refine(rsign_any _ _).mono ?_;rintro e w' ⟨rfl,rfl⟩));refine bodyPost_ret (v:=.tuple #[.int .i64 0,.int .i64 0,.int .i64 3]) (by simp[results,Tryz.results48,go_sem]) rfl ⟨?_,rfl⟩;rw[HVV.out,HEE.out,HR.out];simp only[HS.out];rfl
    ·have HS:Hid (sgn x=true):=hs;go_wp2_with (first | (go_at_call 85;refine(rsign_any _ _).mono ?_;rintro e w' ⟨rfl,rfl⟩));refine bodyPost_ret (v:=.tuple #[.int .i64 x,.int .i64 (2+8),.int .i64 0]) (by simp[results,Tryz.results48,go_sem]) rfl ⟨?_,rfl⟩;rw[HVV.out,HEE.out,HR.out];simp only[HS.out];rfl
 have q34:((c.toNat:Int)==34)=false:=(blit c 34).trans (by rw[beq_eq_false_iff_ne];exact h34);have q92:((c.toNat:Int)==92)=false:=(blit c 92).trans (by rw[beq_eq_false_iff_ne];exact h92);have q110:((c.toNat:Int)==110)=false:=(blit c 110).trans (by rw[beq_eq_false_iff_ne];exact h110);have q116:((c.toNat:Int)==116)=false:=(blit c 116).trans (by rw[beq_eq_false_iff_ne];exact h116);have q114:((c.toNat:Int)==114)=false:=(blit c 114).trans (by rw[beq_eq_false_iff_ne];exact h114);have q48:((c.toNat:Int)==48)=false:=(blit c 48).trans (by rw[beq_eq_false_iff_ne];exact h48);have q120:((c.toNat:Int)==120)=false:=(blit c 120).trans (by rw[beq_eq_false_iff_ne];exact h120);have q117:((c.toNat:Int)==117)=false:=(blit c 117).trans (by rw[beq_eq_false_iff_ne];exact h117);have q85:((c.toNat:Int)==85)=false:=(blit c 85).trans (by rw[beq_eq_false_iff_ne];exact h85);have hd0:dgs c=0:=by unfold dgs;rw[if_neg h120,if_neg h117,if_neg h85]
 have HV:Hid (escR m=(0,0,3)):=by rw[hV,if_pos hd0];exact rfl
 clear hV hN hE hgt htl hgm ht hd0 h34 h92 h110 h116 h114 h48 h120 h117 h85;go_enter Tryz.func48,Tryz.ntmps48;go_wp2;refine bodyPost_ret (v:=.tuple #[.int .i64 0,.int .i64 0,.int .i64 3]) (by simp[results,Tryz.results48,go_sem]) rfl ⟨?_,rfl⟩;rw[HV.out];rfl
end Quo
namespace Quo
open Utf Rws
open Go.RowKit
def Ob (B:Nat) (v:Value) (out:List UInt8) (w:World):Prop:=w.ownsRow B 5 1 v out.length (Lib.byteCells out)
variable {B:Nat} {v:Value} {out:List UInt8} {w w1 w2:World}
theorem cells_nums (l:List UInt8):Lib.byteCells l=(l.map fun b=>(b.toNat:Int)).map (Value.int .u8):=by simp[Lib.byteCells]
theorem str_bytes (l:List UInt8):strOfNums (l.map fun b=>(b.toNat:Int))=mk l:=by
 unfold strOfNums mk;rw[List.map_map];congr 2
 conv=>rhs;rw[<-List.map_id l]
 refine List.map_congr_left fun b _=> ?_
 simp
theorem Ob.conv (h:Ob B v out w):(convert 82 9 v).run Tryz.prog w=.ok (.string (mk out)) w:=by
 unfold Ob at h;rw[cells_nums]at h;rw[<-str_bytes];exact conv_own h
theorem Ob.later (h:Ob B v out w) (hb:Below w.heap.size w w1):Ob B v out w1:=own_later h hb
theorem Ob.shape (h:Ob B v out w):∃ a cap,v=.slice a out.length cap:=by
 rcases h.2 with ⟨rfl,h0⟩ | ⟨g,cap,cur,rfl,_⟩
 ·exact⟨none,0,by rw[h0]⟩
 ·exact⟨_,_,rfl⟩
theorem Ob.set (h:Ob B v out w) {k:Nat} (hk:k<B) (i:Nat) (x:Value):Ob B v out (w.setCell ⟨k,i,none⟩ x):=ownsRow_setCell_below h hk x
theorem Ob.snoc {u':Value} {o:Obj} {c:UInt8} (h:Ob B v out w) (hbe:Below B w1 w) (hB:B<=w.heap.size) (hown':w2.ownsRow B 5 1 u' (out.length+1) (Lib.byteCells out++[.int .u8 (c.toNat:Int)])) (hg:(w.alloc o).grownBy w2 v.ownBlock) :
  Ob B u' (out++[c]) w2/\Below B w1 w2/\B<=w2.heap.size:=by
 refine⟨?_,(hbe.alloc hB o).grown hg (by simp;omega) (fun k hk=>(h.lt k hk).1),?_⟩
 ·unfold Ob;rw[cells_app,List.length_append];exact hown'
 ·have:=hg.size;simp at this;omega
theorem Ob.more {u':Value} {s:List UInt8} (h:Ob B v out w) (hbe:Below B w1 w) (hB:B<=w.heap.size) (hown':w2.ownsRow B 5 1 u' (out.length+(mk s).size) (Lib.byteCells out++Lib.strCells (mk s))) (hg:w.grownBy w2 v.ownBlock) :
  Ob B u' (out++s) w2/\Below B w1 w2/\B<=w2.heap.size:=by
 refine⟨?_,hbe.grown hg hB (fun k hk=>(h.lt k hk).1),?_⟩
 ·unfold Ob;rw[cells_app,List.length_append];rw[mk_size,strCells_mk]at hown';exact hown'
 ·have:=hg.size;omega
theorem escR_two' (m:List UInt8):(escR m).2.2=0\/(escR m).2.2=3\/(escR m).2.2=4:=by
 by_cases h:m.length<2
 ·unfold escR;rw[if_pos h];exact .inr (.inr rfl)
 cases hm:mnt (m.getD 1 0)with
 | some n=>rw[mnt_esc (n:=n) (by omega) hm];exact .inl rfl
 | none =>
  rw[dgs_esc (by omega) hm];split
  ·exact .inr (.inl rfl)
  ·unfold escH;split
   ·split
    ·exact .inl rfl
    ·exact .inr (.inl rfl)
   ·exact hexR_two _ _ _
end Quo
namespace Quo
open Utf Rws
open Go.RowKit
set_option maxHeartbeats 8000000 in
theorem rread_s (l:List UInt8) (w:World) (N:Nat) (hl:N<=140737488351232) (hsz:(mk l).size=N) (HN:Hid (N=l.length)) (hl1:1<=N) (c:UInt8) (hc:c=39) (hg0:∀ h,(mk l)[0]'h=c) (R:List UInt8 × Nat × Nat × Nat) (HRD:Hid (R=rdA c (l.drop 1) 1 [])) :
  Calls Tryz.prog 27 #[.string (mk l)] w fun e w'=>e=.returned (.tuple #[.string (mk R.1),.int .i64 (R.2.1:Int),.agg #[.int .i64 (R.2.2.1:Int),.int .i64 (R.2.2.2:Int)]])/\Below w.heap.size w w':=by
 obtain⟨i0,hi,hz0,hz1,hz2⟩:=info_parts Tryz.info5;have hs':(mk l).size<=maxLen:=by rw[hsz];unfold maxLen;omega
 have h0:l≠[]:=by intro e;have:=HN.out;rw[e]at this;simp at this;omega
 have hq:((mk l).toList==[])=false:=by rw[ByteArray.toList_eq,mk_data];simpa using h0
 have HGM:Hid (∀ i h,(mk l)[i]'h=l.getD i 0):=fun i h=>getD_mk l i h
 have hn39:((c.toNat:Int)!=39)= !(c==39):=congrArg (!·) (blit c 39);have hn34:((c.toNat:Int)!=34)= !(c==34):=congrArg (!·) (blit c 34);have hb39:((c.toNat:Int)==39)=(c==39):=blit c 39;have hb34:((c.toNat:Int)==34)=(c==34):=blit c 34;clear h0;obtain⟨W,hW⟩:∃ W,w.alloc (.cells #[.int .i64 0,.int .i64 0] 34)=W:=⟨_,rfl⟩;have hbW:Below w.heap.size w W:=by rw[<-hW];exact below_alloc _ _
 have hWs:W.heap.size=w.heap.size+1:=by rw[<-hW];simp
 have hcW:W.heap[w.heap.size]?=some (.cells #[.int .i64 0,.int .i64 0] 34 (0,0)):=by rw[<-hW];exact heap_alloc_new w _
 have HKK:Hid (∀ W2,Below (w.heap.size+1) W W2->Below w.heap.size w W2/\W2.cell? ⟨w.heap.size,0,none⟩=some (.int .i64 0)/\W2.cell? ⟨w.heap.size,1,none⟩=some (.int .i64 0)/\W2.frozen? ⟨w.heap.size,0,none⟩=false/\W2.frozen? ⟨w.heap.size,1,none⟩=false):=fun W2 hb=>by
  have hk:W2.heap[w.heap.size]?=some (.cells #[.int .i64 0,.int .i64 0] 34 (0,0)):=(hb.block _ (by omega)).trans hcW;exact⟨hbW.trans (hb.mono (by omega)),by rw[Lib.cell_of_heap hk];rfl,by rw[Lib.cell_of_heap hk];rfl,Lib.frozen_of_heap hk 0,Lib.frozen_of_heap hk 1⟩
 have HWS:Hid (W.heap.size=w.heap.size+1):=hWs;clear hbW hcW hWs;have c1:(c==39)=true:=by rw[hc];rfl
 have c2:(c==34)=false:=by rw[hc];rfl
 rw[c1]at hn39 hb39;rw[c2]at hn34 hb34;rw[hc]at HRD;have HCC:Hid (c=39):=hc;clear hc c1 c2;go_enter Tryz.func27,Tryz.ntmps27;go_wp2
 go_loopw [5,6] (fun v i wr=>∃ (p:Nat) (out:List UInt8),1<=p/\p<=N/\out.length<=p/\i=.int .i64 (p:Int)/\Ob (w.heap.size+1) v out wr/\Below (w.heap.size+1) W wr/\w.heap.size+1<=wr.heap.size/\R=rdA 39 (l.drop p) p out) (fun _ i _=>N-(intOf i).toNat)
 case atStart=>exact⟨1,[],Nat.le_refl _,hl1,by simp,rfl,World.ownsRow_nil _ _ _ _,Below.refl _ _,by rw[HWS.out];exact Nat.le_refl _,HRD.out⟩
 case round =>
  clear HRD hW;obtain⟨p,out,hp1,hp,ho,rfl,hO,hBe,hB,hE⟩:=hrel;have HO:Hid (Ob (w.heap.size+1) u5 out wr):=hO;have HBe:Hid (Below (w.heap.size+1) W wr):=hBe;have HE:Hid (R=rdA 39 (l.drop p) p out):=hE;clear hO hBe hE;by_cases hlt:p<N
  ·have hlt2:p<l.length:=by rw[<-HN.out];exact hlt
   have hne:l.drop p≠[]:=by intro e;have:=congrArg List.length e;rw[List.length_drop]at this;simp at this;omega
   have hg:∀ h,(mk l)[p]'h=l.getD p 0:=fun h=>HGM.out p h
   have h0d:(l.drop p).getD 0 0=l.getD p 0:=getD_dropR l p 0;have h1d:(l.drop p).getD 1 0=l.getD (p+1) 0:=getD_dropR l p 1;have hg1:∀ h,(mk l)[p+1]'h=l.getD (p+1) 0:=fun h=>HGM.out (p+1) h
   generalize l.getD p 0=x at *;generalize l.getD (p+1) 0=y at *;have hbx:=blit x c;go_wp2;go_quiet (fail);obtain⟨w1,hw1⟩:∃ w1,w1=wr.drewN nq:=⟨_,rfl⟩;have HO1:Hid (Ob (w.heap.size+1) u5 out w1):=by rw[hw1];exact HO.out.later (below_drewN (Below.refl _ _) nq)
   have HBe1:Hid (Below (w.heap.size+1) W w1):=by rw[hw1];exact below_drewN HBe.out nq
   have hB1:w.heap.size+1<=w1.heap.size:=by rw[hw1];exact hB
   rw[<-hw1];clear hw1 HO HBe hB;cases hxc:(x==c)
   ·rw[hxc]at hbx;have hxq:(l.drop p).getD 0 0≠39:=by rw[h0d,<-HCC.out];simpa using hxc
    have hst:=stp_other 39 (l.drop p) hne hxq (by rintro⟨q,_⟩;cases q);have hfk:=fk_pos _ hne;rw[List.length_drop,<-HN.out]at hfk;obtain⟨f1,f2,f3,f4⟩:=hfk;have htk:(l.drop p).take (fk (l.drop p))=(l.drop p).take (fk (l.drop p)):=rfl;have hext:(mk l).extract p (p+fk (l.drop p))=mk ((l.drop p).take (fk (l.drop p))):=by rw[mk_ext,show p+fk (l.drop p)-p=fk (l.drop p) by omega]
    have htl:((l.drop p).take (fk (l.drop p))).length=fk (l.drop p):=by rw[List.length_take,List.length_drop,<-HN.out];omega
    have hneg:(fst (l.drop p)).1<0->may (fst (l.drop p)).1=false:=fun h=>by
     cases hm:may (fst (l.drop p)).1
     ·rfl
     ·have:=may_fst hm;omega
    obtain⟨n,hn⟩:∃ n,n=(fst (l.drop p)).1:=⟨_,rfl⟩;obtain⟨k,hk⟩:∃ k,k=fk (l.drop p):=⟨_,rfl⟩
    have HF:Hid (Calls Tryz.prog 50 #[.string ((mk l).extract p N)] w1 fun e w'=>e=.returned (.tuple #[.int .i64 n,.int .i64 (k:Int)])/\Below w1.heap.size w1 w'):=by
     have q:=rfirstAt_any (mk l) p w1 hs';rw[mk_data,<-f4,<-hn,<-hk,hsz]at q;exact q
    rw[<-hn]at hst hneg;rw[<-hk]at hst f1 f2 f3 hext htl;generalize (l.drop p).take k=o at *;clear f4 hn hk htk hxq h0d h1d hg1 hg;cases hm:may n
    ·rw[hm]at hst;have hst':stp 39 (l.drop p)=(8,[],0):=by simpa using hst
     have HV:Hid (R=([],0,8,p)):=by rw[HE.out,rdA_bad hne (by rw[hst'];decide) (by rw[hst'];decide) (by rw[hst'];decide),hst'];exact rfl
     clear hst hst' HE hne hneg;go_wp2_with (first | (go_at_call 50;refine HF.out.mono ?_;rintro e w2 ⟨rfl,hb2⟩;obtain⟨e0,d0,d1,d2,d3⟩:=HKK.out _ (HBe1.out.trans (hb2.mono hB1));clear hb2) | (go_at_call 51;refine(rmay_any _ _).mono ?_;rintro e w' ⟨rfl,rfl⟩))
     all_goals
      refine bodyPost_ret (v:=.tuple #[.string ⟨#[]⟩,.int .i64 0,.agg #[.int .i64 8,.int .i64 (p:Int)]]) (by simp[results,Tryz.results27,go_sem,d0,d1]) rfl ⟨?_,(e0.setCell (p:=⟨w.heap.size,0,none⟩) (Nat.le_refl _) _).setCell (p:=⟨w.heap.size,1,none⟩) (Nat.le_refl _) _⟩;rw[HV.out];rfl
    ·rw[hm]at hst;have hst':stp 39 (l.drop p)=(1,o,k):=by simpa using hst
     have HV:Hid (R=rdA 39 (l.drop (p+k)) (p+k) (out++o)):=by rw[HE.out,rdA_step (by rw[hst']),hst',List.drop_drop];exact rfl
     have hn0:0<=n:=by
      rcases Int.lt_or_le n 0 with h | h
      ·rw[hneg h]at hm;cases hm
      ·exact h
     clear hst hst' HE hne hneg;go_wp2_with (first | (go_at_call 50;refine HF.out.mono ?_;rintro e w2 ⟨rfl,hb2⟩) | (go_at_call 51;refine(rmay_any _ _).mono ?_;rintro e w' ⟨rfl,rfl⟩) | (at_builtin;refine Lib.wpList_append_own_string _ rfl _ _ 82 9 rfl (w.heap.size+1) 5 i0 Tryz.underlying82 Tryz.underlying9 hi hz0 hz1 hz2 _ _ _ rfl (HO1.out.later hb2) (mk o) (by first | rfl | exact congrArg Value.string hext) ?_ ?_ ?_ ?_))
     ·rw[mk_size];unfold maxLen;omega
     ·rw[mk_size];omega
     ·have:=hb2.size;omega
     intro v' w3 hown' hgrow _;obtain⟨R1,R2,R3⟩:=Ob.more (HO1.out.later hb2) (HBe1.out.trans (hb2.mono hB1)) (by have:=hb2.size;omega) hown' hgrow;have HR1:Hid (Ob (w.heap.size+1) v' (out++o) w3):=R1;have HR2:Hid (Below (w.heap.size+1) W w3):=R2;clear hown' hgrow HO1 HBe1 R1 R2 hb2;go_wp2;go_roundw
     case rel=>exact⟨p+k,out++o,by omega,by omega,by rw[List.length_append,htl];omega,by go_num,HR1.out,HR2.out,R3,HV.out⟩
     case measure=>simp[intOf];omega
   ·rw[hxc]at hbx;have hxq:(l.drop p).getD 0 0=39:=by rw[h0d,<-HCC.out];simpa using hxc
    by_cases hN1:p+1<N
    ·have hby:((y.toNat:Int)==39)=(y==39):=blit y 39;cases hy:(y==39)
     ·rw[hy]at hby
      have HV:Hid (R=(out,p+1,0,0)):=by
       rw[HE.out,rdA_end (by rw[stp_quote 39 _ hne hxq (by rintro⟨_,_,q⟩;rw[h1d]at q;rw[q]at hy;simp at hy)])];exact rfl
      clear HE hne hxq h0d h1d hg;have hcv:=HO1.out.conv;obtain⟨e0,d0,d1,d2,d3⟩:=HKK.out _ HBe1.out;clear HBe1 HO1;go_wp2;refine bodyPost_ret (v:=.tuple #[.string (mk out),.int .i64 ((p:Int)+1),.agg #[.int .i64 0,.int .i64 0]]) (by simp[results,Tryz.results27,go_sem,d0,d1]) rfl ⟨?_,(e0.setCell (p:=⟨w.heap.size,0,none⟩) (Nat.le_refl _) _).setCell (p:=⟨w.heap.size,1,none⟩) (Nat.le_refl _) _⟩;rw[HV.out];rfl
     ·rw[hy]at hby
      have hy39:y=39:=by simpa using hy
      have hst:=stp_twice (l.drop p) hne hxq (by rw[List.length_drop,<-HN.out];omega) (by rw[h1d];exact hy39);have HV:Hid (R=rdA 39 (l.drop (p+2)) (p+2) (out++[39])):=by rw[HE.out,rdA_step (by rw[hst]),hst,List.drop_drop];exact rfl
      clear HE hne hxq h0d h1d hg hst hy39;go_wp2_with (first | (at_builtin;refine wpList_append_own _ rfl _ _ 82 rfl (w.heap.size+1) 5 i0 (.int .u8 0) 1 1 Tryz.underlying82 hi hz0 hz1 hz2 rfl (by decide) _ _ _ rfl (World.ownsRow.alloc HO1.out _) ⟨w1.heap.size,0,none⟩ 1 1 ([(39:Int)].map (Value.int .u8)) rfl rfl (news_cells _ _ _) (news_one _) ?_ ?_ ?_ ?_))
      ·unfold maxLen;omega
      ·omega
      ·simp;omega
      intro v' w3 hown' hgrow _;obtain⟨R1,R2,R3⟩:=Ob.snoc (c:=39) HO1.out HBe1.out hB1 hown' hgrow;have HR1:Hid (Ob (w.heap.size+1) v' (out++[39]) w3):=R1;have HR2:Hid (Below (w.heap.size+1) W w3):=R2;clear hown' hgrow HO1 HBe1 R1 R2;go_wp2;go_roundw
      case rel=>exact⟨p+2,out++[39],by omega,by omega,by rw[List.length_append];simp;omega,by go_num,HR1.out,HR2.out,R3,HV.out⟩
      case measure=>simp[intOf];omega
    ·have HV:Hid (R=(out,p+1,0,0)):=by
      rw[HE.out,rdA_end (by rw[stp_quote 39 _ hne hxq (by rintro⟨_,q,_⟩;rw[List.length_drop,<-HN.out]at q;omega)])];exact rfl
     clear HE hne hxq h0d h1d hg;have hcv:=HO1.out.conv;obtain⟨e0,d0,d1,d2,d3⟩:=HKK.out _ HBe1.out;clear HBe1 HO1;go_wp2;refine bodyPost_ret (v:=.tuple #[.string (mk out),.int .i64 ((p:Int)+1),.agg #[.int .i64 0,.int .i64 0]]) (by simp[results,Tryz.results27,go_sem,d0,d1]) rfl ⟨?_,(e0.setCell (p:=⟨w.heap.size,0,none⟩) (Nat.le_refl _) _).setCell (p:=⟨w.heap.size,1,none⟩) (Nat.le_refl _) _⟩;rw[HV.out];rfl
  ·have HV:Hid (R=([],0,4,N)):=by rw[HE.out,List.drop_of_length_le (by rw[<-HN.out];omega),rdA_nil,show p=N by omega];exact rfl
   have HO1:=HO;have HBe1:=HBe;clear HO HBe HE;obtain⟨e0,d0,d1,d2,d3⟩:=HKK.out _ HBe1.out;clear HBe1 HO1;go_wp2;refine bodyPost_ret (v:=.tuple #[.string ⟨#[]⟩,.int .i64 0,.agg #[.int .i64 4,.int .i64 (N:Int)]]) (by simp[results,Tryz.results27,go_sem,d0,d1]) rfl ⟨?_,(e0.setCell (p:=⟨w.heap.size,0,none⟩) (Nat.le_refl _) _).setCell (p:=⟨w.heap.size,1,none⟩) (Nat.le_refl _) _⟩;rw[HV.out];rfl
end Quo
namespace Quo
open Utf Rws
open Go.RowKit
set_option maxHeartbeats 8000000 in
theorem rread_d (l:List UInt8) (w:World) (N:Nat) (hl:N<=140737488351232) (hsz:(mk l).size=N) (HN:Hid (N=l.length)) (hl1:1<=N) (c:UInt8) (hc:c=34) (hg0:∀ h,(mk l)[0]'h=c) (R:List UInt8 × Nat × Nat × Nat) (HRD:Hid (R=rdA c (l.drop 1) 1 [])) :
  Calls Tryz.prog 27 #[.string (mk l)] w fun e w'=>e=.returned (.tuple #[.string (mk R.1),.int .i64 (R.2.1:Int),.agg #[.int .i64 (R.2.2.1:Int),.int .i64 (R.2.2.2:Int)]])/\Below w.heap.size w w':=by
 obtain⟨i0,hi,hz0,hz1,hz2⟩:=info_parts Tryz.info5;have hs':(mk l).size<=maxLen:=by rw[hsz];unfold maxLen;omega
 have h0:l≠[]:=by intro e;have:=HN.out;rw[e]at this;simp at this;omega
 have hq:((mk l).toList==[])=false:=by rw[ByteArray.toList_eq,mk_data];simpa using h0
 have HGM:Hid (∀ i h,(mk l)[i]'h=l.getD i 0):=fun i h=>getD_mk l i h
 have hn39:((c.toNat:Int)!=39)= !(c==39):=congrArg (!·) (blit c 39);have hn34:((c.toNat:Int)!=34)= !(c==34):=congrArg (!·) (blit c 34);have hb39:((c.toNat:Int)==39)=(c==39):=blit c 39;have hb34:((c.toNat:Int)==34)=(c==34):=blit c 34;clear h0;obtain⟨W,hW⟩:∃ W,w.alloc (.cells #[.int .i64 0,.int .i64 0] 34)=W:=⟨_,rfl⟩;have hbW:Below w.heap.size w W:=by rw[<-hW];exact below_alloc _ _
 have hWs:W.heap.size=w.heap.size+1:=by rw[<-hW];simp
 have hcW:W.heap[w.heap.size]?=some (.cells #[.int .i64 0,.int .i64 0] 34 (0,0)):=by rw[<-hW];exact heap_alloc_new w _
 have HKK:Hid (∀ W2,Below (w.heap.size+1) W W2->Below w.heap.size w W2/\W2.cell? ⟨w.heap.size,0,none⟩=some (.int .i64 0)/\W2.cell? ⟨w.heap.size,1,none⟩=some (.int .i64 0)/\W2.frozen? ⟨w.heap.size,0,none⟩=false/\W2.frozen? ⟨w.heap.size,1,none⟩=false):=fun W2 hb=>by
  have hk:W2.heap[w.heap.size]?=some (.cells #[.int .i64 0,.int .i64 0] 34 (0,0)):=(hb.block _ (by omega)).trans hcW;exact⟨hbW.trans (hb.mono (by omega)),by rw[Lib.cell_of_heap hk];rfl,by rw[Lib.cell_of_heap hk];rfl,Lib.frozen_of_heap hk 0,Lib.frozen_of_heap hk 1⟩
 have HWS:Hid (W.heap.size=w.heap.size+1):=hWs;clear hbW hcW hWs;have c1:(c==39)=false:=by rw[hc];rfl
 have c2:(c==34)=true:=by rw[hc];rfl
 rw[c1]at hn39 hb39;rw[c2]at hn34 hb34;rw[hc]at HRD;have HCC:Hid (c=34):=hc;clear hc c1 c2;go_enter Tryz.func27,Tryz.ntmps27;go_wp2
 go_loopw [5,6] (fun v i wr=>∃ (p:Nat) (out:List UInt8),1<=p/\p<=N/\out.length<=p/\i=.int .i64 (p:Int)/\Ob (w.heap.size+1) v out wr/\Below (w.heap.size+1) W wr/\w.heap.size+1<=wr.heap.size/\R=rdA 34 (l.drop p) p out) (fun _ i _=>N-(intOf i).toNat)
 case atStart=>exact⟨1,[],Nat.le_refl _,hl1,by simp,rfl,World.ownsRow_nil _ _ _ _,Below.refl _ _,by rw[HWS.out];exact Nat.le_refl _,HRD.out⟩
 case round =>
  clear HRD hW;obtain⟨p,out,hp1,hp,ho,rfl,hO,hBe,hB,hE⟩:=hrel;have HO:Hid (Ob (w.heap.size+1) u5 out wr):=hO;have HBe:Hid (Below (w.heap.size+1) W wr):=hBe;have HE:Hid (R=rdA 34 (l.drop p) p out):=hE;clear hO hBe hE;by_cases hlt:p<N
  ·have hlt2:p<l.length:=by rw[<-HN.out];exact hlt
   have hne:l.drop p≠[]:=by intro e;have:=congrArg List.length e;rw[List.length_drop]at this;simp at this;omega
   have hg:∀ h,(mk l)[p]'h=l.getD p 0:=fun h=>HGM.out p h
   have h0d:(l.drop p).getD 0 0=l.getD p 0:=getD_dropR l p 0;have h1d:(l.drop p).getD 1 0=l.getD (p+1) 0:=getD_dropR l p 1;have hg1:∀ h,(mk l)[p+1]'h=l.getD (p+1) 0:=fun h=>HGM.out (p+1) h
   generalize l.getD p 0=x at *;generalize l.getD (p+1) 0=y at *;have hbx:=blit x c;go_wp2;go_quiet (fail);obtain⟨w1,hw1⟩:∃ w1,w1=wr.drewN nq:=⟨_,rfl⟩;have HO1:Hid (Ob (w.heap.size+1) u5 out w1):=by rw[hw1];exact HO.out.later (below_drewN (Below.refl _ _) nq)
   have HBe1:Hid (Below (w.heap.size+1) W w1):=by rw[hw1];exact below_drewN HBe.out nq
   have hB1:w.heap.size+1<=w1.heap.size:=by rw[hw1];exact hB
   rw[<-hw1];clear hw1 HO HBe hB;cases hxc:(x==c)
   ·rw[hxc]at hbx;have hxq:(l.drop p).getD 0 0≠34:=by rw[h0d,<-HCC.out];simpa using hxc
    have hb92:((x.toNat:Int)==92)=(x==92):=blit x 92;cases hx92:(x==92)
    ·rw[hx92]at hb92;have hst:=stp_other 34 (l.drop p) hne hxq (by rintro⟨_,q⟩;rw[h0d]at q;rw[q]at hx92;simp at hx92);have hfk:=fk_pos _ hne;rw[List.length_drop,<-HN.out]at hfk;obtain⟨f1,f2,f3,f4⟩:=hfk;have htk:(l.drop p).take (fk (l.drop p))=(l.drop p).take (fk (l.drop p)):=rfl;have hext:(mk l).extract p (p+fk (l.drop p))=mk ((l.drop p).take (fk (l.drop p))):=by rw[mk_ext,show p+fk (l.drop p)-p=fk (l.drop p) by omega]
     have htl:((l.drop p).take (fk (l.drop p))).length=fk (l.drop p):=by rw[List.length_take,List.length_drop,<-HN.out];omega
     have hneg:(fst (l.drop p)).1<0->may (fst (l.drop p)).1=false:=fun h=>by
      cases hm:may (fst (l.drop p)).1
      ·rfl
      ·have:=may_fst hm;omega
     obtain⟨n,hn⟩:∃ n,n=(fst (l.drop p)).1:=⟨_,rfl⟩;obtain⟨k,hk⟩:∃ k,k=fk (l.drop p):=⟨_,rfl⟩
     have HF:Hid (Calls Tryz.prog 50 #[.string ((mk l).extract p N)] w1 fun e w'=>e=.returned (.tuple #[.int .i64 n,.int .i64 (k:Int)])/\Below w1.heap.size w1 w'):=by
      have q:=rfirstAt_any (mk l) p w1 hs';rw[mk_data,<-f4,<-hn,<-hk,hsz]at q;exact q
     rw[<-hn]at hst hneg;rw[<-hk]at hst f1 f2 f3 hext htl;generalize (l.drop p).take k=o at *;clear f4 hn hk htk hxq h0d h1d hg1;cases hm:may n
     ·rw[hm]at hst;have hst':stp 34 (l.drop p)=(8,[],0):=by simpa using hst
      have HV:Hid (R=([],0,8,p)):=by rw[HE.out,rdA_bad hne (by rw[hst'];decide) (by rw[hst'];decide) (by rw[hst'];decide),hst'];exact rfl
      clear hst hst' HE hne hneg;go_wp2_with (first | (go_at_call 50;refine HF.out.mono ?_;rintro e w2 ⟨rfl,hb2⟩;obtain⟨e0,d0,d1,d2,d3⟩:=HKK.out _ (HBe1.out.trans (hb2.mono hB1));clear hb2) | (go_at_call 51;refine(rmay_any _ _).mono ?_;rintro e w' ⟨rfl,rfl⟩))
      all_goals
       refine bodyPost_ret (v:=.tuple #[.string ⟨#[]⟩,.int .i64 0,.agg #[.int .i64 8,.int .i64 (p:Int)]]) (by simp[results,Tryz.results27,go_sem,d0,d1]) rfl ⟨?_,(e0.setCell (p:=⟨w.heap.size,0,none⟩) (Nat.le_refl _) _).setCell (p:=⟨w.heap.size,1,none⟩) (Nat.le_refl _) _⟩;rw[HV.out];rfl
     ·rw[hm]at hst;have hst':stp 34 (l.drop p)=(1,o,k):=by simpa using hst
      have HV:Hid (R=rdA 34 (l.drop (p+k)) (p+k) (out++o)):=by rw[HE.out,rdA_step (by rw[hst']),hst',List.drop_drop];exact rfl
      have hn0:0<=n:=by
       rcases Int.lt_or_le n 0 with h | h
       ·rw[hneg h]at hm;cases hm
       ·exact h
      clear hst hst' HE hne hneg;go_wp2_with (first | (go_at_call 50;refine HF.out.mono ?_;rintro e w2 ⟨rfl,hb2⟩) | (go_at_call 51;refine(rmay_any _ _).mono ?_;rintro e w' ⟨rfl,rfl⟩) | (at_builtin;refine Lib.wpList_append_own_string _ rfl _ _ 82 9 rfl (w.heap.size+1) 5 i0 Tryz.underlying82 Tryz.underlying9 hi hz0 hz1 hz2 _ _ _ rfl (HO1.out.later hb2) (mk o) (by first | rfl | exact congrArg Value.string hext) ?_ ?_ ?_ ?_))
      ·rw[mk_size];unfold maxLen;omega
      ·rw[mk_size];omega
      ·have:=hb2.size;omega
      intro v' w3 hown' hgrow _;obtain⟨R1,R2,R3⟩:=Ob.more (HO1.out.later hb2) (HBe1.out.trans (hb2.mono hB1)) (by have:=hb2.size;omega) hown' hgrow;have HR1:Hid (Ob (w.heap.size+1) v' (out++o) w3):=R1;have HR2:Hid (Below (w.heap.size+1) W w3):=R2;clear hown' hgrow HO1 HBe1 R1 R2 hb2;go_wp2;go_roundw
      case rel=>exact⟨p+k,out++o,by omega,by omega,by rw[List.length_append,htl];omega,by go_num,HR1.out,HR2.out,R3,HV.out⟩
      case measure=>simp[intOf];omega
    ·rw[hx92]at hb92;have hst:=stp_escape (l.drop p) hne (by rw[h0d];simpa using hx92);have hok:=escR_ok (l:=l.drop p);rw[List.length_drop,<-HN.out]at hok;have hle:=stp_le (q:=34) (l:=l.drop p);have hES:=rescape_any (l.drop p);have hext:(mk l).extract p N=mk (l.drop p):=by rw[HN.out];exact ext_drop l p
     have h3:=escR_two' (l.drop p);have hdl:(l.drop p).length<=9223372036854775000:=by rw[List.length_drop,<-HN.out];omega
     generalize escR (l.drop p)=E at *;obtain⟨n,k,e⟩:=E;simp only at hst hok hES h3;have HES:Hid (∀ w,Calls Tryz.prog 48 #[.string (mk (l.drop p))] w fun r w'=>r=.returned (.tuple #[.int .i64 n,.int .i64 (k:Int),.int .i64 (e:Int)])/\w=w'):=fun w=>hES w hdl
     obtain⟨m,hm⟩:∃ m,m=l.drop p:=⟨_,rfl⟩;rw[<-hm]at hext HES hst hle;clear hES h0d h1d hg1 hxq hdl;rcases h3 with rfl | rfl | rfl
     ·have hst':stp 34 m=(1,u8s (byt n),k):=by simpa using hst
      have HV:Hid (R=rdA 34 (l.drop (p+k)) (p+k) (out++u8s (byt n))):=by rw[HE.out,<-hm,rdA_step (by rw[hst']),hst',hm,List.drop_drop];exact rfl
      have hle2:=hle (by rw[hst']);rw[hst']at hle2;simp only at hle2;obtain⟨k1,k2,k3⟩:=hok rfl;have HSB:Hid (sgb n=u8s (byt n)):=by unfold sgb;rw[if_pos k1];exact rfl
      generalize u8s (byt n)=o at *;clear hst hst' hle hok hm HE hne k1;go_wp2_with (first | (go_at_call 48;refine(HES.out _).mono ?_;rintro r w' ⟨rfl,rfl⟩) | (go_at_call 49;refine(rtext_any _ _).mono ?_;rintro r w2 ⟨rfl,hb2⟩;rw[HSB.out]) | (at_builtin;refine Lib.wpList_append_own_string _ rfl _ _ 82 9 rfl (w.heap.size+1) 5 i0 Tryz.underlying82 Tryz.underlying9 hi hz0 hz1 hz2 _ _ _ rfl (HO1.out.later hb2) (mk o) (by first | rfl | exact congrArg Value.string hext) ?_ ?_ ?_ ?_))
      ·rw[mk_size];unfold maxLen;omega
      ·rw[mk_size];omega
      ·have:=hb2.size;omega
      intro v' w3 hown' hgrow _;obtain⟨R1,R2,R3⟩:=Ob.more (HO1.out.later hb2) (HBe1.out.trans (hb2.mono hB1)) (by have:=hb2.size;omega) hown' hgrow;have HR1:Hid (Ob (w.heap.size+1) v' (out++o) w3):=R1;have HR2:Hid (Below (w.heap.size+1) W w3):=R2;clear hown' hgrow HO1 HBe1 R1 R2 hb2;go_wp2;go_roundw
      case rel=>exact⟨p+k,out++o,by omega,by omega,by rw[List.length_append];omega,by go_num,HR1.out,HR2.out,R3,HV.out⟩
      case measure=>simp[intOf];omega
     ·have hst':stp 34 m=(3,[],0):=by simpa using hst
      have HV:Hid (R=([],0,3,p)):=by rw[HE.out,<-hm,rdA_bad (by rw[hm];exact hne) (by rw[hst'];decide) (by rw[hst'];decide) (by rw[hst'];decide),hst'];exact rfl
      obtain⟨e0,d0,d1,d2,d3⟩:=HKK.out _ HBe1.out;clear hst hst' hle hok hm HE hne HBe1 HO1;go_wp2_with (first | (go_at_call 48;refine(HES.out _).mono ?_;rintro r w' ⟨rfl,rfl⟩));refine bodyPost_ret (v:=.tuple #[.string ⟨#[]⟩,.int .i64 0,.agg #[.int .i64 3,.int .i64 (p:Int)]]) (by simp[results,Tryz.results27,go_sem,d0,d1]) rfl ⟨?_,(e0.setCell (p:=⟨w.heap.size,0,none⟩) (Nat.le_refl _) _).setCell (p:=⟨w.heap.size,1,none⟩) (Nat.le_refl _) _⟩;rw[HV.out];rfl
     ·have hst':stp 34 m=(4,[],0):=by simpa using hst
      have HV:Hid (R=([],0,4,N)):=by rw[HE.out,<-hm,rdA_four (by rw[hst']),hm,List.length_drop,<-HN.out,show p+(N-p)=N by omega];exact rfl
      obtain⟨e0,d0,d1,d2,d3⟩:=HKK.out _ HBe1.out;clear hst hst' hle hok hm HE hne HBe1 HO1;go_wp2_with (first | (go_at_call 48;refine(HES.out _).mono ?_;rintro r w' ⟨rfl,rfl⟩));refine bodyPost_ret (v:=.tuple #[.string ⟨#[]⟩,.int .i64 0,.agg #[.int .i64 4,.int .i64 (N:Int)]]) (by simp[results,Tryz.results27,go_sem,d0,d1]) rfl ⟨?_,(e0.setCell (p:=⟨w.heap.size,0,none⟩) (Nat.le_refl _) _).setCell (p:=⟨w.heap.size,1,none⟩) (Nat.le_refl _) _⟩;rw[HV.out];rfl
   ·rw[hxc]at hbx;have hxq:(l.drop p).getD 0 0=34:=by rw[h0d,<-HCC.out];simpa using hxc
    have HV:Hid (R=(out,p+1,0,0)):=by
     rw[HE.out,rdA_end (by rw[stp_quote 34 _ hne hxq (by rintro⟨q,_⟩;cases q)])];exact rfl
    clear HE hne hxq h0d h1d hg;have hcv:=HO1.out.conv;obtain⟨e0,d0,d1,d2,d3⟩:=HKK.out _ HBe1.out;clear HBe1 HO1;go_wp2;refine bodyPost_ret (v:=.tuple #[.string (mk out),.int .i64 ((p:Int)+1),.agg #[.int .i64 0,.int .i64 0]]) (by simp[results,Tryz.results27,go_sem,d0,d1]) rfl ⟨?_,(e0.setCell (p:=⟨w.heap.size,0,none⟩) (Nat.le_refl _) _).setCell (p:=⟨w.heap.size,1,none⟩) (Nat.le_refl _) _⟩;rw[HV.out];rfl
  ·have HV:Hid (R=([],0,4,N)):=by rw[HE.out,List.drop_of_length_le (by rw[<-HN.out];omega),rdA_nil,show p=N by omega];exact rfl
   have HO1:=HO;have HBe1:=HBe;clear HO HBe HE;obtain⟨e0,d0,d1,d2,d3⟩:=HKK.out _ HBe1.out;clear HBe1 HO1;go_wp2;refine bodyPost_ret (v:=.tuple #[.string ⟨#[]⟩,.int .i64 0,.agg #[.int .i64 4,.int .i64 (N:Int)]]) (by simp[results,Tryz.results27,go_sem,d0,d1]) rfl ⟨?_,(e0.setCell (p:=⟨w.heap.size,0,none⟩) (Nat.le_refl _) _).setCell (p:=⟨w.heap.size,1,none⟩) (Nat.le_refl _) _⟩;rw[HV.out];rfl
end Quo
namespace Quo
open Utf Rws
open Go.RowKit
set_option maxHeartbeats 8000000 in
theorem rread_any (l:List UInt8) (w:World) (hl:l.length<=140737488351232) :
  Calls Tryz.prog 27 #[.string (mk l)] w fun e w'=>e=.returned (.tuple #[.string (mk (rd l).1),.int .i64 ((rd l).2.1:Int),.agg #[.int .i64 ((rd l).2.2.1:Int),.int .i64 ((rd l).2.2.2:Int)]])/\Below w.heap.size w w':=by
 obtain⟨i0,hi,hz0,hz1,hz2⟩:=info_parts Tryz.info5;have hsz:=mk_size l;have hs':(mk l).size<=maxLen:=by rw[mk_size];unfold maxLen;omega
 obtain⟨R,hR⟩:∃ R,R=rd l:=⟨_,rfl⟩;have hrd:=rd_A l;rw[<-hR]at hrd |-;have hq0:((mk l).toList==[])=(l==[]):=by rw[ByteArray.toList_eq,mk_data]
 obtain⟨N,hN⟩:∃ N,N=l.length:=⟨_,rfl⟩;rw[<-hN]at hsz hl;by_cases h0:l=[]
 ·have HV:Hid (R=([],0,3,0)):=by rw[hrd,if_pos h0];exact rfl
  have hq:((mk l).toList==[])=true:=by rw[hq0,h0];rfl
  clear hrd h0 hq0 hR hN;go_enter Tryz.func27,Tryz.ntmps27;go_wp2;refine bodyPost_ret (v:=.tuple #[.string ⟨#[]⟩,.int .i64 0,.agg #[.int .i64 3,.int .i64 0]]) (by simp[results,Tryz.results27,go_sem]) rfl ⟨?_,below_alloc _ _⟩;rw[HV.out];rfl
 have hl1:1<=N:=by rw[hN];exact List.length_pos_iff.2 h0
 rw[if_neg h0]at hrd;have hq:((mk l).toList==[])=false:=by rw[hq0];simpa using h0
 have hg0:∀ h,(mk l)[0]'h=l.getD 0 0:=fun h=>getD_mk l 0 h
 have hgm:∀ i h,(mk l)[i]'h=l.getD i 0:=fun i h=>getD_mk l i h
 obtain⟨c,hc⟩:∃ c,c=l.getD 0 0:=⟨_,rfl⟩;rw[<-hc]at hg0 hrd;have HGM:Hid (∀ i h,(mk l)[i]'h=l.getD i 0):=hgm;have HN:Hid (N=l.length):=hN;clear hq0 hR hc h0 hgm hN;have hn39:((c.toNat:Int)!=39)= !(c==39):=congrArg (!·) (blit c 39);have hn34:((c.toNat:Int)!=34)= !(c==34):=congrArg (!·) (blit c 34);have hb39:((c.toNat:Int)==39)=(c==39):=blit c 39;have hb34:((c.toNat:Int)==34)=(c==34):=blit c 34;by_cases hqq:c=39\/c=34
 ·rw[if_pos hqq]at hrd;rcases hqq with hc | hc
  ·exact rread_s l w N hl hsz HN hl1 c hc hg0 R hrd
  ·exact rread_d l w N hl hsz HN hl1 c hc hg0 R hrd
 ·have HV:Hid (R=([],0,3,0)):=by rw[hrd,if_neg hqq];exact rfl
  have c1:(c==39)=false:=by simp;exact fun h=>hqq (.inl h)
  have c2:(c==34)=false:=by simp;exact fun h=>hqq (.inr h)
  rw[c1]at hn39 hb39;rw[c2]at hn34 hb34;clear hrd hqq c1 c2;go_enter Tryz.func27,Tryz.ntmps27;go_wp2;refine bodyPost_ret (v:=.tuple #[.string ⟨#[]⟩,.int .i64 0,.agg #[.int .i64 3,.int .i64 0]]) (by simp[results,Tryz.results27,go_sem]) rfl ⟨?_,below_alloc _ _⟩;rw[HV.out];rfl
end Quo
end Go.Proofs.YtommfbbpomfnfaaGreatDoor
