/- . -/
import Derived.Test.YtommfbbpomfnfaaGreatDoorQFbI
import Derived.Test.YtommfbbpomfnfaaGreatDoorQTbS
set_option linter.unusedSimpArgs false
set_option linter.unusedVariables false
set_option maxRecDepth 100000
namespace Go.Proofs.YtommfbbpomfnfaaGreatDoor
namespace Pln
open Utf Rws
open Go.RowKit
theorem beq_toNat (a b:UInt8):((a.toNat:Int)==(b.toNat:Int))=(a==b):=by
 rw[Bool.eq_iff_iff];simp only[beq_iff_eq];constructor
 ·intro h;apply UInt8.toNat_inj.1;omega
 ·rintro rfl;rfl
theorem has_take_snoc (c:UInt8) (l:List UInt8) (n:Nat) (h:n<l.length):has c (l.take (n+1))=(has c (l.take n) || l.getD n 0==c):=by
 unfold has;rw[List.take_succ_eq_append_getElem h,List.any_append,List.getD_eq_getElem?_getD,List.getElem?_eq_getElem h];simp
theorem has_hit (c:UInt8) (l:List UInt8) (n:Nat) (h:n<l.length) (hc:(l.getD n 0==c)=true):has c l=true:=by
 unfold has;rw[List.any_eq_true];rw[List.getD_eq_getElem?_getD,List.getElem?_eq_getElem h]at hc;exact⟨l[n],List.getElem_mem h,hc⟩
theorem rhas_any (l:List UInt8) (c:UInt8) (w:World) (hs:l.length<=562949953421312):Calls Tryz.prog 54 #[.string (mk l),.int .u8 c.toNat] w fun e w'=>e=.returned (.bool (has c l))/\w=w':=by
 have hsz:=mk_size l;go_enter Tryz.func54,Tryz.ntmps54;go_wp2
 go_loop [5] (fun i=>∃ n:Nat,n<=l.length/\i=.int .i64 n/\has c (l.take n)=false) (fun i=>l.length-(intOf i).toNat)
 case atStart=>exact⟨0,Nat.zero_le _,rfl,rfl⟩
 case round =>
  obtain⟨n,hn1,rfl,ht⟩:=hrel;have HT:Hid (has c (l.take n)=false):=ht;clear ht;by_cases hlt:n<l.length
  ·have hg:∀ h,(mk l)[n]'h=l.getD n 0:=fun h=>mk_getD l n h
   have hlt':n<(mk l).size:=by rw[mk_size];exact hlt
   have hb:=beq_toNat (l.getD n 0) c;have hsn:=has_take_snoc c l n hlt;rw[HT.out,Bool.false_or]at hsn;have HSN:Hid (has c (l.take (n+1))=(l.getD n 0==c)):=hsn;have HH:Hid ((l.getD n 0==c)=true->has c l=true):=has_hit c l n hlt;clear hsn;generalize l.getD n 0=b at hg hb HSN HH;cases hbc:(b==c)
   ·rw[hbc]at hb HSN;go_wp2;go_round
    case rel=>exact⟨n+1,by omega,by go_num,HSN.out⟩
    case measure=>simp[intOf];omega
   ·rw[hbc]at hb;go_wp2;go_ret;rw[HH.out hbc];exact⟨rfl,rfl⟩
  ·have HN:Hid (has c l=false):=by
    have:=HT.out;rw[List.take_of_length_le (by omega)]at this;exact this
   go_wp2;go_ret;rw[HN.out];exact⟨rfl,rfl⟩
def coB (l:List UInt8) (f:Bool) (i:Nat):Bool:=l.getD i 0==58 && (i+1==l.length || l.getD (i+1) 0==32 || (f && fl (l.getD (i+1) 0)))
theorem rhas_fl (b:UInt8) (w:World):Calls Tryz.prog 54 #[.string ⟨#[44,91,93,123,125]⟩,.int .u8 b.toNat] w fun e w'=>e=.returned (.bool (fl b))/\w=w':=rhas_any flows b w (by decide)
theorem rhas_mrk (b:UInt8) (w:World):Calls Tryz.prog 54 #[.string ⟨#[63,58,44,91,93,123,125,35,38,42,33,124,62,39,34,37,64,96]⟩,.int .u8 b.toNat] w fun e w'=>e=.returned (.bool (mrk b))/\w=w':=rhas_any marks b w (by decide)
theorem rcolon_any (l:List UInt8) (f:Bool) (i:Nat) (w:World) (hs:l.length<=562949953421312) (hi:i<l.length):Calls Tryz.prog 91 #[.string (mk l),.int .i64 i,.bool f] w fun e w'=>e=.returned (.bool (coB l f i))/\w=w':=by
 have hsz:=mk_size l;have hg:∀ h,(mk l)[i]'h=l.getD i 0:=fun h=>mk_getD l i h
 have hlt:i<(mk l).size:=by rw[mk_size];exact hi
 have hb:=b58 (l.getD i 0);cases c1:(l.getD i 0==58)
 ·have HE:Hid (coB l f i=false):=by unfold coB;rw[c1];rfl
  rw[c1]at hb;clear c1;generalize l.getD i 0=b at hg hb;go_enter Tryz.func91,Tryz.ntmps91;go_wp2;go_ret;rw[HE.out];exact⟨rfl,rfl⟩
 ·have HE:Hid (coB l f i=(i+1==l.length || l.getD (i+1) 0==32 || (f && fl (l.getD (i+1) 0)))):=by unfold coB;rw[c1];rfl
  rw[c1]at hb;clear c1;generalize l.getD i 0=b at hg hb;by_cases h1:i+1=l.length
  ·have HE2:Hid (coB l f i=true):=by rw[HE.out];simp[h1,Hid]
   have hq:((i:Int)+1==(l.length:Int))=true:=by rw[beq_iff_eq];omega
   clear h1;go_enter Tryz.func91,Tryz.ntmps91;go_wp2;go_ret;rw[HE2.out];exact⟨rfl,rfl⟩
  ·have hq:((i:Int)+1==(l.length:Int))=false:=by rw[beq_eq_false_iff_ne];omega
   have h2:i+1<l.length:=by omega
   have hlm:i+1<(mk l).size:=by omega
   have hg2:∀ h,(mk l)[i+1]'h=l.getD (i+1) 0:=fun h=>mk_getD l (i+1) h
   have hb2:=b32 (l.getD (i+1) 0)
   have HE2:Hid (coB l f i=(is32 (l.getD (i+1) 0) || (f && fl (l.getD (i+1) 0)))):=by
    rw[HE.out];have e:(i+1==l.length)=false:=by simp;omega
    rw[e];rfl
   clear HE h1;generalize l.getD (i+1) 0=b2 at hg2 hb2 HE2;cases e3:is32 b2
   ·rw[e3]at hb2 HE2;cases f
    ·go_enter Tryz.func91,Tryz.ntmps91;go_wp2;go_ret;rw[HE2.out];exact⟨rfl,rfl⟩
    ·go_enter Tryz.func91,Tryz.ntmps91;go_wp2_with (first | (go_at_call 54;refine(rhas_fl _ _).mono ?_;rintro e w' ⟨rfl,rfl⟩));go_ret;rw[HE2.out];exact⟨rfl,rfl⟩
   ·rw[e3]at hb2 HE2;go_enter Tryz.func91,Tryz.ntmps91;go_wp2;go_ret;rw[HE2.out];exact⟨rfl,rfl⟩
theorem en_colon (l:List UInt8) (f:Bool) (i:Nat):en l f i=(coB l f i || ((l.getD i 0==35) && decide (0<i) && (l.getD (i-1) 0==32)) || (f && fl (l.getD i 0))):=by
 unfold en coB;generalize l.getD i 0=b;generalize l.getD (i+1) 0=b1;generalize l.getD (i-1) 0=b2;by_cases c1:b=58
 ·subst c1;have e2:((58:UInt8)==35)=false:=by decide
  rw[e2,fl_58];simp
 ·have e1:(b==58)=false:=by simpa using c1
  rw[e1];by_cases c2:b=35
  ·subst c2;rw[fl_35];simp
  ·have e2:(b==35)=false:=by simpa using c2
   rw[e2];simp
theorem rends_any (l:List UInt8) (f:Bool) (i:Nat) (w:World) (hs:l.length<=562949953421312) (hi:i<l.length):Calls Tryz.prog 52 #[.string (mk l),.int .i64 i,.bool f] w fun e w'=>e=.returned (.bool (en l f i))/\w=w':=by
 have hsz:=mk_size l;have hg:∀ h,(mk l)[i]'h=l.getD i 0:=fun h=>mk_getD l i h
 have hlt:i<(mk l).size:=by rw[mk_size];exact hi
 have HE0:=en_colon l f i;have hC:=rcolon_any l f i w hs hi;cases c0:coB l f i
 ·rw[c0]at HE0 hC;have HC:Hid (Calls Tryz.prog 91 #[.string (mk l),.int .i64 i,.bool f] w fun e w'=>e=.returned (.bool false)/\w=w'):=hC;clear hC c0;have hb:=b35 (l.getD i 0);have HF:=rhas_fl (l.getD i 0) w;have HFF:Hid (Calls Tryz.prog 54 #[.string ⟨#[44,91,93,123,125]⟩,.int .u8 ((l.getD i 0).toNat:Int)] w fun e w'=>e=.returned (.bool (fl (l.getD i 0)))/\w=w'):=HF;clear HF;cases c1:(l.getD i 0==35)
  ·rw[c1]at HE0 hb;have HE:Hid (en l f i=(f && fl (l.getD i 0))):=by rw[HE0];simp[Hid]
   clear HE0 c1;generalize l.getD i 0=b at hg hb HE HFF;cases f
   ·go_enter Tryz.func52,Tryz.ntmps52;go_wp2_with (first | (go_at_call 91;refine HC.out.mono ?_;rintro e w' ⟨rfl,rfl⟩));go_ret;rw[HE.out];exact⟨rfl,rfl⟩
   ·go_enter Tryz.func52,Tryz.ntmps52;go_wp2_with (first | (go_at_call 91;refine HC.out.mono ?_;rintro e w' ⟨rfl,rfl⟩) | (go_at_call 54;refine HFF.out.mono ?_;rintro e w' ⟨rfl,rfl⟩));go_ret;rw[HE.out];exact⟨rfl,rfl⟩
  ·have e35:l.getD i 0=35:=by simpa using c1
   have hfl:fl (l.getD i 0)=false:=by rw[e35];exact fl_35
   rw[hfl]at HFF HE0;rw[c1]at HE0 hb;clear c1 e35 hfl;generalize l.getD i 0=b at hg hb HFF;by_cases h0:0<i
   ·obtain⟨m,rfl⟩:∃ m,i=m+1:=⟨i-1,by omega⟩;have hlm:m<(mk l).size:=by omega
    have hg2:∀ h,(mk l)[m]'h=l.getD m 0:=fun h=>mk_getD l m h
    have hb2:=b32 (l.getD m 0);have HE:Hid (en l f (m+1)=is32 (l.getD m 0)):=by rw[HE0];simp;rfl
    clear HE0;generalize l.getD m 0=b2 at hg2 hb2 HE;cases e2:is32 b2
    ·rw[e2]at hb2 HE;cases f
     ·go_enter Tryz.func52,Tryz.ntmps52;go_wp2_with (first | (go_at_call 91;refine HC.out.mono ?_;rintro e w' ⟨rfl,rfl⟩));go_ret;rw[HE.out];exact⟨rfl,rfl⟩
     ·go_enter Tryz.func52,Tryz.ntmps52;go_wp2_with (first | (go_at_call 91;refine HC.out.mono ?_;rintro e w' ⟨rfl,rfl⟩) | (go_at_call 54;refine HFF.out.mono ?_;rintro e w' ⟨rfl,rfl⟩));go_ret;rw[HE.out];exact⟨rfl,rfl⟩
    ·rw[e2]at hb2 HE;go_enter Tryz.func52,Tryz.ntmps52;go_wp2_with (first | (go_at_call 91;refine HC.out.mono ?_;rintro e w' ⟨rfl,rfl⟩));go_ret;rw[HE.out];exact⟨rfl,rfl⟩
   ·obtain rfl:i=0:=by omega
    have HE:Hid (en l f 0=false):=by rw[HE0];simp[Hid]
    clear HE0;cases f
    ·go_enter Tryz.func52,Tryz.ntmps52;go_wp2_with (first | (go_at_call 91;refine HC.out.mono ?_;rintro e w' ⟨rfl,rfl⟩));go_ret;rw[HE.out];exact⟨rfl,rfl⟩
    ·go_enter Tryz.func52,Tryz.ntmps52;go_wp2_with (first | (go_at_call 91;refine HC.out.mono ?_;rintro e w' ⟨rfl,rfl⟩) | (go_at_call 54;refine HFF.out.mono ?_;rintro e w' ⟨rfl,rfl⟩));go_ret;rw[HE.out];exact⟨rfl,rfl⟩
 ·rw[c0]at HE0 hC;have HC:Hid (Calls Tryz.prog 91 #[.string (mk l),.int .i64 i,.bool f] w fun e w'=>e=.returned (.bool true)/\w=w'):=hC;have HE:Hid (en l f i=true):=by rw[HE0];rfl
  clear hC c0 HE0;go_enter Tryz.func52,Tryz.ntmps52;go_wp2_with (first | (go_at_call 91;refine HC.out.mono ?_;rintro e w' ⟨rfl,rfl⟩));go_ret;rw[HE.out];exact⟨rfl,rfl⟩
theorem take_snoc (l:List UInt8) (e:Nat) (h:e<l.length):l.take (e+1)=l.take e++[l.getD e 0]:=by
 rw[List.take_succ_eq_append_getElem h,List.getD_eq_getElem?_getD,List.getElem?_eq_getElem h];rfl
theorem rcut_any (l:List UInt8) (f:Bool) (w:World) (hs:l.length<=562949953421312):Calls Tryz.prog 28 #[.string (mk l),.bool f] w fun e w'=>e=.returned (.tuple #[.string (mk (cutT l f)),.int .i64 (fin l f)])/\w=w':=by
 have hsz:=mk_size l;have hfl:=fin_le l f;go_enter Tryz.func28,Tryz.ntmps28;go_wp2
 go_loop [6] (fun i=>∃ n:Nat,n<=l.length/\i=.int .i64 n/\fin l f=fro l f (l.length-n) n) (fun i=>l.length-(intOf i).toNat)
 case atStart=>exact⟨0,Nat.zero_le _,rfl,rfl⟩
 case round =>
  obtain⟨n,hn1,rfl,ht⟩:=hrel;have HT:Hid (fin l f=fro l f (l.length-n) n):=ht;clear ht;by_cases hgo:n<l.length/\en l f n=false
  ·obtain⟨hlt,he⟩:=hgo;obtain⟨k,hk⟩:∃ k,l.length-n=k+1:=⟨l.length-n-1,by omega⟩;have hkn:k=l.length-(n+1):=by omega
   have HN:Hid (fin l f=fro l f (l.length-(n+1)) (n+1)):=by rw[HT.out,hk,fro,if_neg (by rw[he];simp),hkn];rfl
   clear hk hkn;go_wp2_with (first | (go_at_call 52;refine(rends_any _ _ _ _ hs hlt).mono ?_;rintro e w' ⟨rfl,rfl⟩));go_round
   case rel=>exact⟨n+1,by omega,by go_num,HN.out⟩
   case measure=>simp[intOf];omega
  ·have hfn:fin l f=n:=by
    rw[HT.out];by_cases hlt:n<l.length
    ·obtain⟨k,hk⟩:∃ k,l.length-n=k+1:=⟨l.length-n-1,by omega⟩;rw[hk,fro,if_pos];cases he:en l f n
     ·exact absurd ⟨hlt,he⟩ hgo
     ·rfl
    ·rw[show l.length-n=0 by omega,fro]
   have HFN:Hid (fin l f=n):=hfn;have HR:Hid (cutT l f=trR is32 (l.take n)):=by unfold cutT;rw[hfn];rfl
   clear HT hfn hfl;by_cases hlt:n<l.length
   ·have he:en l f n=true:=by
     cases he:en l f n
     ·exact absurd ⟨hlt,he⟩ hgo
     ·rfl
    clear hgo;go_wp2_with (first | (go_at_call 52;refine(rends_any _ _ _ _ hs hlt).mono ?_;rintro e w' ⟨rfl,rfl⟩));clear he hlt
    go_loop [7] (fun e=>∃ q:Nat,q<=n/\e=.int .i64 q/\trR is32 (l.take n)=trR is32 (l.take q)) (fun e=>(intOf e).toNat)
    case atStart=>exact⟨n,Nat.le_refl _,rfl,rfl⟩
    case round =>
     obtain⟨q,hq,rfl,ht⟩:=hrel;have HT:Hid (trR is32 (l.take n)=trR is32 (l.take q)):=ht;clear ht
     cases q with
     | zero =>
      go_wp2;go_ret2;have e2:cutT l f=[]:=by rw[HR.out,HT.out];rfl
      rw[e2,HFN.out];exact⟨rfl,rfl⟩
     | succ q =>
      have hlt:q<(mk l).size:=by rw[mk_size];omega
      have hle2:q+1<=562949953421312:=by omega
      have hg:∀ h,(mk l)[q]'h=l.getD q 0:=fun h=>mk_getD l q h
      have hte:=take_snoc l q (by omega);have hb:=b32 (l.getD q 0);have HG:Hid (l.take (q+1)=l.take q++[l.getD q 0]):=hte;clear hte;generalize l.getD q 0=b at hg HG hb;cases hb2:is32 b
      ·have HN:Hid (trR is32 (l.take q++[b])=l.take q++[b]):=by rw[trR_snoc,hb2];rfl
       rw[hb2]at hb;go_wp2;go_ret2;have e1:(mk l).extract 0 (q+1)=mk (l.take (q+1)):=by rw[mk_ext];simp
       have e2:cutT l f=l.take (q+1):=by rw[HR.out,HT.out,HG.out,HN.out]
       rw[e2,HFN.out,<-e1];exact⟨rfl,rfl⟩
      ·have HN:Hid (trR is32 (l.take q++[b])=trR is32 (l.take q)):=by rw[trR_snoc,hb2];rfl
       rw[hb2]at hb;go_wp2;go_round
       case rel=>exact⟨q,by omega,by go_num,by rw[HT.out,HG.out,HN.out]⟩
       case measure=>simp[intOf]
   ·clear hgo;go_wp2;clear hlt
    go_loop [7] (fun e=>∃ q:Nat,q<=n/\e=.int .i64 q/\trR is32 (l.take n)=trR is32 (l.take q)) (fun e=>(intOf e).toNat)
    case atStart=>exact⟨n,Nat.le_refl _,rfl,rfl⟩
    case round =>
     obtain⟨q,hq,rfl,ht⟩:=hrel;have HT:Hid (trR is32 (l.take n)=trR is32 (l.take q)):=ht;clear ht
     cases q with
     | zero =>
      go_wp2;go_ret2;have e2:cutT l f=[]:=by rw[HR.out,HT.out];rfl
      rw[e2,HFN.out];exact⟨rfl,rfl⟩
     | succ q =>
      have hlt:q<(mk l).size:=by rw[mk_size];omega
      have hle2:q+1<=562949953421312:=by omega
      have hg:∀ h,(mk l)[q]'h=l.getD q 0:=fun h=>mk_getD l q h
      have hte:=take_snoc l q (by omega);have hb:=b32 (l.getD q 0);have HG:Hid (l.take (q+1)=l.take q++[l.getD q 0]):=hte;clear hte;generalize l.getD q 0=b at hg HG hb;cases hb2:is32 b
      ·have HN:Hid (trR is32 (l.take q++[b])=l.take q++[b]):=by rw[trR_snoc,hb2];rfl
       rw[hb2]at hb;go_wp2;go_ret2;have e1:(mk l).extract 0 (q+1)=mk (l.take (q+1)):=by rw[mk_ext];simp
       have e2:cutT l f=l.take (q+1):=by rw[HR.out,HT.out,HG.out,HN.out]
       rw[e2,HFN.out,<-e1];exact⟨rfl,rfl⟩
      ·have HN:Hid (trR is32 (l.take q++[b])=trR is32 (l.take q)):=by rw[trR_snoc,hb2];rfl
       rw[hb2]at hb;go_wp2;go_round
       case rel=>exact⟨q,by omega,by go_num,by rw[HT.out,HG.out,HN.out]⟩
       case measure=>simp[intOf]
end Pln
namespace Pln
open Utf Rws
open Go.RowKit
theorem b45 (b:UInt8):((b.toNat:Int)==45)=(b==45):=beq_toNat b 45
theorem b9 (b:UInt8):((b.toNat:Int)==9)=(b==9):=beq_toNat b 9
theorem b10 (b:UInt8):((b.toNat:Int)==10)=(b==10):=beq_toNat b 10
theorem b13 (b:UInt8):((b.toNat:Int)==13)=(b==13):=beq_toNat b 13
def okk (l:List UInt8) (f:Bool) (n:Nat):Prop:=∀ j,j<n->c3 (l.getD j 0)=false/\en l f j=false
theorem okk_succ {l:List UInt8} {f:Bool} {n:Nat} (h:okk l f n) (h1:c3 (l.getD n 0)=false) (h2:en l f n=false):okk l f (n+1):=by
 intro j hj;by_cases e:j=n
 ·subst e;exact⟨h1,h2⟩
 ·exact h j (by omega)
theorem anyB_getD (l:List UInt8):anyB l=true ↔ ∃ j,j<l.length/\c3 (l.getD j 0)=true:=by
 unfold anyB;rw[List.any_eq_true];constructor
 ·rintro⟨x,hx,hf⟩;obtain⟨j,hj,rfl⟩:=List.getElem_of_mem hx;exact⟨j,hj,by rw[List.getD_eq_getElem?_getD,List.getElem?_eq_getElem hj];exact hf⟩
 ·rintro⟨j,hj,hf⟩;rw[List.getD_eq_getElem?_getD,List.getElem?_eq_getElem hj]at hf;exact⟨l[j],List.getElem_mem hj,hf⟩
theorem okk_all {l:List UInt8} {f:Bool} (h:okk l f l.length):(!anyB l && (fin l f==l.length))=true:=by
 rw[Bool.and_eq_true];refine⟨?_,?_⟩
 ·cases e:anyB l
  ·rfl
  ·obtain⟨j,hj,hc⟩:=(anyB_getD l).1 e;rw[(h j hj).1]at hc;cases hc
 ·rw[fin_len];exact fun j hj=>(h j hj).2
theorem okk_hit {l:List UInt8} {f:Bool} {n:Nat} (hn:n<l.length) (h:(c3 (l.getD n 0) || en l f n)=true):(!anyB l && (fin l f==l.length))=false:=by
 rw[Bool.eq_false_iff];intro h2;rw[Bool.and_eq_true,fin_len]at h2;rw[Bool.or_eq_true]at h;rcases h with h | h
 ·rw[(anyB_getD l).2 ⟨n,hn,h⟩]at h2;cases h2.1
 ·rw[h2.2 n hn]at h;cases h
theorem isP_no1 {l:List UInt8} {f:Bool} (h:pri l=false):isP l f=false:=by unfold isP;rw[h];rfl
theorem isP_no2 {l:List UInt8} {f:Bool} (h:bg l=false):isP l f=false:=by unfold isP;rw[h];simp
theorem isP_no3 {l:List UInt8} {f:Bool} (h:is32 (l.getD (l.length-1) 0)=true):isP l f=false:=by
 unfold isP;rw[show (l.getD (l.length-1) 0==32)=is32 (l.getD (l.length-1) 0)from rfl,h];simp
theorem isP_no4 {l:List UInt8} {f:Bool} {n:Nat} (hn:n<l.length) (h:en l f n=true):isP l f=false:=by
 rw[Bool.eq_false_iff];intro h2;have:=(fin_len l f).1 (by rw[isP_fin h2];simp) n hn;rw[h]at this;cases this
theorem isP_pass {l:List UInt8} {f:Bool} (h1:chk l=none) (h2:bg l=true) (h3:is32 (l.getD (l.length-1) 0)=false):isP l f=(!anyB l && (fin l f==l.length)):=by
 unfold isP pri;rw[h1,h2,show (l.getD (l.length-1) 0==32)=is32 (l.getD (l.length-1) 0)from rfl,h3,anyB_has];simp
theorem head2 {l:List UInt8} (h0:l≠[]) (h1:l≠[45]) (hh:l.getD 0 0=45):2<=l.length:=by
 match l,h0,h1,hh with
 | [],h0,_,_=>exact absurd rfl h0
 | [b],_,h1,hh =>
  have:b=45:=hh;subst this;exact absurd rfl h1
 | _::_::r,_,_,_=>simp
theorem take2_ne {l:List UInt8} (h:l.getD 0 0=45->l.getD 1 0≠32):(l.take 2==[45,32])=false:=by
 rw[beq_eq_false_iff_ne];intro e
 match l,h,e with
 | [],_,e=>simp at e
 | [b],_,e=>simp at e
 | b::c::r,h,e =>
  simp only[List.take_succ_cons,List.take_zero,List.cons.injEq,and_true]at e;obtain⟨rfl,rfl⟩:=e;exact h rfl rfl
theorem take2_eq' {l:List UInt8} (hl:2<=l.length) (h0:l.getD 0 0=45) (h1:l.getD 1 0=32):(l.take 2==[45,32])=true:=by
 match l,hl,h0,h1 with
 | b::c::r,_,h0,h1 =>
  have e0:b=45:=h0;have e1:c=32:=h1;subst e0 e1;rfl
set_option maxHeartbeats 4000000 in
theorem ris_any (l:List UInt8) (f:Bool) (w:World) (hs:l.length<=140737488351232):Calls Tryz.prog 29 #[.string (mk l),.bool f] w fun e w'=>e=.returned (.bool (isP l f))/\Below w.heap.size w w':=by
 have hs':(mk l).size<=maxLen:=by rw[mk_size];unfold maxLen;omega
 have hK:=rcheck_any (mk l) w hs';rw[mk_data]at hK;have hsl:l.length<=562949953421312:=by omega
 have q1:=eq_l l [];have q2:=eq_l l [45];have q3:=eq_l l [45,45,45]
 cases hc:chk l with
 | some p =>
  have HE:Hid (isP l f=false):=isP_no1 (by unfold pri;rw[hc];rfl);rw[hc]at hK;have HK:Hid (Calls Tryz.prog 53 #[.string (mk l)] w fun e w'=>e=.returned (.agg #[.int .i64 8,.int .i64 p])/\Below w.heap.size w w'):=hK;clear hK hc q1 q2 q3;go_enter Tryz.func29,Tryz.ntmps29;go_wp2_with (first | (go_at_call 53;refine HK.out.mono ?_;rintro e w1 ⟨rfl,hb1⟩));go_ret;rw[HE.out];exact⟨rfl,hb1.alloc hb1.size _⟩
 | none =>
  rw[hc]at hK;have HK:Hid (Calls Tryz.prog 53 #[.string (mk l)] w fun e w'=>e=.returned (.agg #[.int .i64 0,.int .i64 0])/\Below w.heap.size w w'):=hK;clear hK;cases c1:(l==[])
  ·have h0:l≠[]:=by simpa using c1
   rw[c1]at q1;cases c2:(l==[45])
   ·have h1:l≠[45]:=by simpa using c2
    rw[c2]at q2;cases c3':(l==[45,45,45])
    ·rw[c3']at q3;have hl:0<l.length:=List.length_pos_iff.2 h0;obtain⟨m,hm⟩:∃ m,l.length=m+1:=⟨l.length-1,by omega⟩;have HL:Hid (l.length=m+1):=hm;have hsz:(mk l).size=m+1:=by rw[mk_size];exact hm
     have hmb:m+1<=140737488351232:=by omega
     have hg0:∀ h,(mk l)[0]'h=l.getD 0 0:=fun h=>mk_getD l 0 h
     have hgm:∀ h,(mk l)[m]'h=l.getD m 0:=fun h=>mk_getD l m h
     have z0:=b32 (l.getD 0 0);have zm:=b32 (l.getD m 0);have y0:=b45 (l.getD 0 0);have HM0:=fun w=>rhas_mrk (l.getD 0 0) w
     have hbg:bg l=(!(is32 (l.getD 0 0)) && !(mrk (l.getD 0 0)) && !(l.take 2==[45,32])):=by unfold bg;rw[c1,c2,c3'];rfl
     have hn3:is32 (l.getD m 0)=true->isP l f=false:=fun h=>isP_no3 (by rw[hm,show m+1-1=m by omega];exact h)
     have hps:bg l=true->is32 (l.getD m 0)=false->isP l f=(!anyB l && (fin l f==l.length)):=fun h2 h3=>isP_pass hc h2 (by rw[hm,show m+1-1=m by omega];exact h3)
     have hh2:=head2 h0 h1;clear c1 c2 c3' h0 h1;cases i0:is32 (l.getD 0 0)
     ·rw[i0]at z0 hbg;cases im:is32 (l.getD m 0)
      ·rw[im]at zm hps;cases im0:mrk (l.getD 0 0)
       ·rw[im0]at HM0 hbg;cases i45:(l.getD 0 0==45)
        ·-- no dash
         have HQ:Hid (isP l f=(!anyB l && (fin l f==l.length))):=hps (by rw[hbg,take2_ne (fun e=>by rw[e]at i45;exact absurd i45 (by decide))];rfl) rfl;rw[i45]at y0;generalize l.getD 0 0=b0 at hg0 z0 y0 HM0;generalize l.getD m 0=bm at hgm zm;have HM:Hid (∀ w,Calls Tryz.prog 54 #[.string ⟨#[63,58,44,91,93,123,125,35,38,42,33,124,62,39,34,37,64,96]⟩,.int .u8 (b0.toNat:Int)] w fun e w'=>e=.returned (.bool false)/\w=w'):=HM0;clear hbg hn3 hps hh2 hc hm HM0 i0 im im0 i45 hl hs;go_enter Tryz.func29,Tryz.ntmps29;go_wp2_with (first | (go_at_call 53;refine HK.out.mono ?_;rintro e w1 ⟨rfl,hb1⟩));refine(HM.out _).mono ?_;rintro e w2 ⟨rfl,rfl⟩;go_wp2_with fail
         go_loop [6] (fun i=>∃ n:Nat,n<=m+1/\i=.int .i64 n/\okk l f n) (fun i=>m+1-(intOf i).toNat)
         case atStart=>exact⟨0,Nat.zero_le _,rfl,fun j hj=>absurd hj (by omega)⟩
         case round =>
          obtain⟨n,hn1,rfl,ht⟩:=hrel;have HT:Hid (okk l f n):=ht;clear ht;by_cases hlt:n<m+1
          ·have hltl:n<l.length:=by rw[HL.out];exact hlt
           have hg:∀ h,(mk l)[n]'h=l.getD n 0:=fun h=>mk_getD l n h
           have hlt':n<(mk l).size:=by omega
           have HR:Hid (∀ w,Calls Tryz.prog 52 #[.string (mk l),.int .i64 n,.bool f] w fun e w'=>e=.returned (.bool (en l f n))/\w=w'):=fun w=>rends_any l f n w hsl hltl
           have HH:Hid ((c3 (l.getD n 0) || en l f n)=true->isP l f=false):=fun h=>by rw[HQ.out];exact okk_hit hltl h
           have HS:Hid (c3 (l.getD n 0)=false->en l f n=false->okk l f (n+1)):=okk_succ HT.out;have e9:=b9 (l.getD n 0);have e10:=b10 (l.getD n 0);have e13:=b13 (l.getD n 0);clear HT hltl;generalize l.getD n 0=b at hg HH HS e9 e10 e13;generalize en l f n=V at HR HH HS;have H3:Hid (c3 b=(b==9 || b==10 || b==13)):=rfl;cases x9:(b==9)
           ·rw[x9]at e9 H3;cases x10:(b==10)
            ·rw[x10]at e10 H3;cases x13:(b==13)
             ·rw[x13]at e13 H3;cases V
              ·go_wp2_with (first | (go_at_call 52;refine(HR.out _).mono ?_;rintro e w5 ⟨rfl,rfl⟩));go_round
               case rel=>exact⟨n+1,by omega,by go_num,HS.out H3.out (by first | rfl | trivial)⟩
               case measure=>simp[intOf];omega
              ·go_wp2_with (first | (go_at_call 52;refine(HR.out _).mono ?_;rintro e w5 ⟨rfl,rfl⟩));go_ret;rw[HH.out (by rw[H3.out];rfl)];exact⟨rfl,hb1.alloc hb1.size _⟩
             ·rw[x13]at e13 H3;go_wp2;go_ret;rw[HH.out (by rw[H3.out];rfl)];exact⟨rfl,hb1.alloc hb1.size _⟩
            ·rw[x10]at e10 H3;go_wp2;go_ret;rw[HH.out (by rw[H3.out];rfl)];exact⟨rfl,hb1.alloc hb1.size _⟩
           ·rw[x9]at e9 H3;go_wp2;go_ret;rw[HH.out (by rw[H3.out];rfl)];exact⟨rfl,hb1.alloc hb1.size _⟩
          ·have HN:Hid (isP l f=true):=by
            have hn2:n=l.length:=by rw[HL.out];omega
            have h:=HT.out;rw[hn2]at h;rw[HQ.out];exact okk_all h
           go_wp2;go_ret;rw[HN.out];exact⟨rfl,hb1.alloc hb1.size _⟩
        ·have e45:l.getD 0 0=45:=by simpa using i45
         have h2:=hh2 e45;have hg1:∀ h,(mk l)[1]'h=l.getD 1 0:=fun h=>mk_getD l 1 h
         have h1m:1<(mk l).size:=by omega
         have z1:=b32 (l.getD 1 0);have HF0:=fun w=>rhas_fl (l.getD 1 0) w
         rw[i45]at y0;cases i1:is32 (l.getD 1 0)
         ·rw[i1]at z1
          have hb2:bg l=true:=by
           rw[hbg,take2_ne (fun _ e=>by rw[e]at i1;exact absurd i1 (by decide))];rfl
          have HQ:Hid (isP l f=(!anyB l && (fin l f==l.length))):=hps hb2 rfl;cases f
          ·generalize l.getD 0 0=b0 at hg0 z0 y0 HM0;generalize l.getD m 0=bm at hgm zm;generalize l.getD 1 0=b1 at hg1 z1;have HM:Hid (∀ w,Calls Tryz.prog 54 #[.string ⟨#[63,58,44,91,93,123,125,35,38,42,33,124,62,39,34,37,64,96]⟩,.int .u8 (b0.toNat:Int)] w fun e w'=>e=.returned (.bool false)/\w=w'):=HM0;clear hbg hn3 hps hh2 hc hm HM0 i0 im im0 i45 hl hs e45 hb2 i1 HF0;go_enter Tryz.func29,Tryz.ntmps29;go_wp2_with (first | (go_at_call 53;refine HK.out.mono ?_;rintro e w1 ⟨rfl,hb1⟩));refine(HM.out _).mono ?_;rintro e w2 ⟨rfl,rfl⟩;go_wp2_with fail
           go_loop [6] (fun i=>∃ n:Nat,n<=m+1/\i=.int .i64 n/\okk l false n) (fun i=>m+1-(intOf i).toNat)
           case atStart=>exact⟨0,Nat.zero_le _,rfl,fun j hj=>absurd hj (by omega)⟩
           case round =>
            obtain⟨n,hn1,rfl,ht⟩:=hrel;have HT:Hid (okk l false n):=ht;clear ht;by_cases hlt:n<m+1
            ·have hltl:n<l.length:=by rw[HL.out];exact hlt
             have hg:∀ h,(mk l)[n]'h=l.getD n 0:=fun h=>mk_getD l n h
             have hlt':n<(mk l).size:=by omega
             have HR:Hid (∀ w,Calls Tryz.prog 52 #[.string (mk l),.int .i64 n,.bool false] w fun e w'=>e=.returned (.bool (en l false n))/\w=w'):=fun w=>rends_any l false n w hsl hltl
             have HH:Hid ((c3 (l.getD n 0) || en l false n)=true->isP l false=false):=fun h=>by rw[HQ.out];exact okk_hit hltl h
             have HS:Hid (c3 (l.getD n 0)=false->en l false n=false->okk l false (n+1)):=okk_succ HT.out;have e9:=b9 (l.getD n 0);have e10:=b10 (l.getD n 0);have e13:=b13 (l.getD n 0);clear HT hltl;generalize l.getD n 0=b at hg HH HS e9 e10 e13;generalize en l false n=V at HR HH HS;have H3:Hid (c3 b=(b==9 || b==10 || b==13)):=rfl;cases x9:(b==9)
             ·rw[x9]at e9 H3;cases x10:(b==10)
              ·rw[x10]at e10 H3;cases x13:(b==13)
               ·rw[x13]at e13 H3;cases V
                ·go_wp2_with (first | (go_at_call 52;refine(HR.out _).mono ?_;rintro e w5 ⟨rfl,rfl⟩));go_round
                 case rel=>exact⟨n+1,by omega,by go_num,HS.out H3.out (by first | rfl | trivial)⟩
                 case measure=>simp[intOf];omega
                ·go_wp2_with (first | (go_at_call 52;refine(HR.out _).mono ?_;rintro e w5 ⟨rfl,rfl⟩));go_ret;rw[HH.out (by rw[H3.out];rfl)];exact⟨rfl,hb1.alloc hb1.size _⟩
               ·rw[x13]at e13 H3;go_wp2;go_ret;rw[HH.out (by rw[H3.out];rfl)];exact⟨rfl,hb1.alloc hb1.size _⟩
              ·rw[x10]at e10 H3;go_wp2;go_ret;rw[HH.out (by rw[H3.out];rfl)];exact⟨rfl,hb1.alloc hb1.size _⟩
             ·rw[x9]at e9 H3;go_wp2;go_ret;rw[HH.out (by rw[H3.out];rfl)];exact⟨rfl,hb1.alloc hb1.size _⟩
            ·have HN:Hid (isP l false=true):=by
              have hn2:n=l.length:=by rw[HL.out];omega
              have h:=HT.out;rw[hn2]at h;rw[HQ.out];exact okk_all h
             go_wp2;go_ret;rw[HN.out];exact⟨rfl,hb1.alloc hb1.size _⟩
          ·cases ifl:fl (l.getD 1 0)
           ·rw[ifl]at HF0;generalize l.getD 0 0=b0 at hg0 z0 y0 HM0;generalize l.getD m 0=bm at hgm zm;generalize l.getD 1 0=b1 at hg1 z1 HF0;have HM:Hid (∀ w,Calls Tryz.prog 54 #[.string ⟨#[63,58,44,91,93,123,125,35,38,42,33,124,62,39,34,37,64,96]⟩,.int .u8 (b0.toNat:Int)] w fun e w'=>e=.returned (.bool false)/\w=w'):=HM0;have HF:Hid (∀ w,Calls Tryz.prog 54 #[.string ⟨#[44,91,93,123,125]⟩,.int .u8 (b1.toNat:Int)] w fun e w'=>e=.returned (.bool false)/\w=w'):=HF0;clear hbg hn3 hps hh2 hc hm HM0 i0 im im0 i45 hl hs e45 hb2 i1 HF0 ifl;go_enter Tryz.func29,Tryz.ntmps29;go_wp2_with (first | (go_at_call 53;refine HK.out.mono ?_;rintro e w1 ⟨rfl,hb1⟩));refine(HM.out _).mono ?_;rintro e w2 ⟨rfl,rfl⟩;go_wp2_with fail;refine(HF.out _).mono ?_;rintro e w3 ⟨rfl,rfl⟩;go_wp2_with fail
            go_loop [6] (fun i=>∃ n:Nat,n<=m+1/\i=.int .i64 n/\okk l true n) (fun i=>m+1-(intOf i).toNat)
            case atStart=>exact⟨0,Nat.zero_le _,rfl,fun j hj=>absurd hj (by omega)⟩
            case round =>
             obtain⟨n,hn1,rfl,ht⟩:=hrel;have HT:Hid (okk l true n):=ht;clear ht;by_cases hlt:n<m+1
             ·have hltl:n<l.length:=by rw[HL.out];exact hlt
              have hg:∀ h,(mk l)[n]'h=l.getD n 0:=fun h=>mk_getD l n h
              have hlt':n<(mk l).size:=by omega
              have HR:Hid (∀ w,Calls Tryz.prog 52 #[.string (mk l),.int .i64 n,.bool true] w fun e w'=>e=.returned (.bool (en l true n))/\w=w'):=fun w=>rends_any l true n w hsl hltl
              have HH:Hid ((c3 (l.getD n 0) || en l true n)=true->isP l true=false):=fun h=>by rw[HQ.out];exact okk_hit hltl h
              have HS:Hid (c3 (l.getD n 0)=false->en l true n=false->okk l true (n+1)):=okk_succ HT.out;have e9:=b9 (l.getD n 0);have e10:=b10 (l.getD n 0);have e13:=b13 (l.getD n 0);clear HT hltl;generalize l.getD n 0=b at hg HH HS e9 e10 e13;generalize en l true n=V at HR HH HS;have H3:Hid (c3 b=(b==9 || b==10 || b==13)):=rfl;cases x9:(b==9)
              ·rw[x9]at e9 H3;cases x10:(b==10)
               ·rw[x10]at e10 H3;cases x13:(b==13)
                ·rw[x13]at e13 H3;cases V
                 ·go_wp2_with (first | (go_at_call 52;refine(HR.out _).mono ?_;rintro e w5 ⟨rfl,rfl⟩));go_round
                  case rel=>exact⟨n+1,by omega,by go_num,HS.out H3.out (by first | rfl | trivial)⟩
                  case measure=>simp[intOf];omega
                 ·go_wp2_with (first | (go_at_call 52;refine(HR.out _).mono ?_;rintro e w5 ⟨rfl,rfl⟩));go_ret;rw[HH.out (by rw[H3.out];rfl)];exact⟨rfl,hb1.alloc hb1.size _⟩
                ·rw[x13]at e13 H3;go_wp2;go_ret;rw[HH.out (by rw[H3.out];rfl)];exact⟨rfl,hb1.alloc hb1.size _⟩
               ·rw[x10]at e10 H3;go_wp2;go_ret;rw[HH.out (by rw[H3.out];rfl)];exact⟨rfl,hb1.alloc hb1.size _⟩
              ·rw[x9]at e9 H3;go_wp2;go_ret;rw[HH.out (by rw[H3.out];rfl)];exact⟨rfl,hb1.alloc hb1.size _⟩
             ·have HN:Hid (isP l true=true):=by
               have hn2:n=l.length:=by rw[HL.out];omega
               have h:=HT.out;rw[hn2]at h;rw[HQ.out];exact okk_all h
              go_wp2;go_ret;rw[HN.out];exact⟨rfl,hb1.alloc hb1.size _⟩
           ·have HE:Hid (isP l true=false):=isP_no4 (n:=1) (by omega) (by rw[en_colon,ifl];simp);rw[ifl]at HF0;generalize l.getD 0 0=b0 at hg0 z0 y0 HM0;generalize l.getD m 0=bm at hgm zm;generalize l.getD 1 0=b1 at hg1 z1 HF0;have HM:Hid (∀ w,Calls Tryz.prog 54 #[.string ⟨#[63,58,44,91,93,123,125,35,38,42,33,124,62,39,34,37,64,96]⟩,.int .u8 (b0.toNat:Int)] w fun e w'=>e=.returned (.bool false)/\w=w'):=HM0;have HF:Hid (∀ w,Calls Tryz.prog 54 #[.string ⟨#[44,91,93,123,125]⟩,.int .u8 (b1.toNat:Int)] w fun e w'=>e=.returned (.bool true)/\w=w'):=HF0;clear hbg hn3 hps hh2 hc hm HM0 i0 im im0 i45 hl hs e45 hb2 i1 HF0 ifl HQ;go_enter Tryz.func29,Tryz.ntmps29;go_wp2_with (first | (go_at_call 53;refine HK.out.mono ?_;rintro e w1 ⟨rfl,hb1⟩));refine(HM.out _).mono ?_;rintro e w2 ⟨rfl,rfl⟩;go_wp2_with fail;refine(HF.out _).mono ?_;rintro e w3 ⟨rfl,rfl⟩;go_wp2_with fail;go_ret;rw[HE.out];exact⟨rfl,hb1.alloc hb1.size _⟩
         ·have HE:Hid (isP l f=false):=isP_no2 (by rw[hbg,take2_eq' h2 e45 (by simpa [is32]using i1)];simp);rw[i1]at z1;generalize l.getD 0 0=b0 at hg0 z0 y0 HM0;generalize l.getD m 0=bm at hgm zm;generalize l.getD 1 0=b1 at hg1 z1;have HM:Hid (∀ w,Calls Tryz.prog 54 #[.string ⟨#[63,58,44,91,93,123,125,35,38,42,33,124,62,39,34,37,64,96]⟩,.int .u8 (b0.toNat:Int)] w fun e w'=>e=.returned (.bool false)/\w=w'):=HM0;clear hbg hn3 hps hh2 hc hm HM0 i0 im im0 i45 hl hs e45 i1 HF0;go_enter Tryz.func29,Tryz.ntmps29;go_wp2_with (first | (go_at_call 53;refine HK.out.mono ?_;rintro e w1 ⟨rfl,hb1⟩));refine(HM.out _).mono ?_;rintro e w2 ⟨rfl,rfl⟩;go_wp2_with fail;go_ret;rw[HE.out];exact⟨rfl,hb1.alloc hb1.size _⟩
       ·have HE:Hid (isP l f=false):=isP_no2 (by rw[hbg,im0];rfl);rw[im0]at HM0;generalize l.getD 0 0=b0 at hg0 z0 y0 HM0;generalize l.getD m 0=bm at hgm zm;have HM:Hid (∀ w,Calls Tryz.prog 54 #[.string ⟨#[63,58,44,91,93,123,125,35,38,42,33,124,62,39,34,37,64,96]⟩,.int .u8 (b0.toNat:Int)] w fun e w'=>e=.returned (.bool true)/\w=w'):=HM0;clear hbg hn3 hps hh2 hc hm HM0 i0 im im0 hl hs y0;go_enter Tryz.func29,Tryz.ntmps29;go_wp2_with (first | (go_at_call 53;refine HK.out.mono ?_;rintro e w1 ⟨rfl,hb1⟩));refine(HM.out _).mono ?_;rintro e w2 ⟨rfl,rfl⟩;go_wp2_with fail;go_ret;rw[HE.out];exact⟨rfl,hb1.alloc hb1.size _⟩
      ·have HE:Hid (isP l f=false):=hn3 im;rw[im]at zm;generalize l.getD 0 0=b0 at hg0 z0 y0;generalize l.getD m 0=bm at hgm zm;clear hbg hn3 hps hh2 hc hm HM0 i0 im hl hs y0;go_enter Tryz.func29,Tryz.ntmps29;go_wp2_with (first | (go_at_call 53;refine HK.out.mono ?_;rintro e w1 ⟨rfl,hb1⟩));go_ret;rw[HE.out];exact⟨rfl,hb1.alloc hb1.size _⟩
     ·have HE:Hid (isP l f=false):=isP_no2 (by rw[hbg,i0];rfl);rw[i0]at z0;generalize l.getD 0 0=b0 at hg0 z0 y0;generalize l.getD m 0=bm at hgm zm;clear hbg hn3 hps hh2 hc hm HM0 i0 hl hs y0 zm hgm;go_enter Tryz.func29,Tryz.ntmps29;go_wp2_with (first | (go_at_call 53;refine HK.out.mono ?_;rintro e w1 ⟨rfl,hb1⟩));go_ret;rw[HE.out];exact⟨rfl,hb1.alloc hb1.size _⟩
    ·have HE:Hid (isP l f=false):=isP_no2 (by unfold bg;rw[c1,c2,c3'];rfl);rw[c3']at q3;clear c1 c2 c3' h0 h1 hc;go_enter Tryz.func29,Tryz.ntmps29;go_wp2_with (first | (go_at_call 53;refine HK.out.mono ?_;rintro e w1 ⟨rfl,hb1⟩));go_ret;rw[HE.out];exact⟨rfl,hb1.alloc hb1.size _⟩
   ·have HE:Hid (isP l f=false):=isP_no2 (by unfold bg;rw[c1,c2];rfl);rw[c2]at q2;clear c1 c2 h0 hc q3;go_enter Tryz.func29,Tryz.ntmps29;go_wp2_with (first | (go_at_call 53;refine HK.out.mono ?_;rintro e w1 ⟨rfl,hb1⟩));go_ret;rw[HE.out];exact⟨rfl,hb1.alloc hb1.size _⟩
  ·have HE:Hid (isP l f=false):=isP_no2 (by unfold bg;rw[c1];rfl);rw[c1]at q1;clear c1 hc q2 q3;go_enter Tryz.func29,Tryz.ntmps29;go_wp2_with (first | (go_at_call 53;refine HK.out.mono ?_;rintro e w1 ⟨rfl,hb1⟩));go_ret;rw[HE.out];exact⟨rfl,hb1.alloc hb1.size _⟩
end Pln
end Go.Proofs.YtommfbbpomfnfaaGreatDoor
