/- . -/
set_option linter.unusedSimpArgs false
set_option linter.unusedVariables false
namespace Go.Proofs.YtidhpmcmbooaoaaGreatDoor
namespace Utf
def inR (n a b:Int):Bool:=decide (a<=n) && decide (n<=b)
def sgn (n:Int):Bool:=inR n 0 1114111 && !(inR n 55296 57343)
def wid (n:Int):Int:=if n<128 then 1 else if n<2048 then 2 else if n<65536 then 3 else 4
def isRestB (b:UInt8):Bool:=decide (128<=b.toNat) && decide (b.toNat<192)
def hdL (b:UInt8):Int:=if b.toNat<128 then 1 else if b.toNat<192 then 0 else if b.toNat<224 then 2 else if b.toNat<240 then 3 else if b.toNat<248 then 4 else 0
def hdV (b:UInt8):Int:=if b.toNat<128 then b.toNat else if b.toNat<192 then 0 else if b.toNat<224 then b.toNat-192 else if b.toNat<240 then b.toNat-224 else if b.toNat<248 then b.toNat-240 else 0
def prn (n:Int):Bool:=n==9 || n==10 || n==13 || n==133 || (!(n==65279) && (inR n 32 126 || inR n 160 55295 || inR n 57344 65533 || inR n 65536 1114111))
def byt (n:Int):List Int :=
 if n<128 then [n]else if n<2048 then [192+n / 64,128+n % 64]
 else if n<65536 then [224+n / 4096,128+n / 64 % 64,128+n % 64]
 else [240+n / 262144,128+n / 4096 % 64,128+n / 64 % 64,128+n % 64]
def accL (l:List UInt8):Nat->Int
 | 0=>hdV (l.getD 0 0)
 | k+1=>accL l k*64+((l.getD (k+1) 0).toNat:Int) % 64
def okL (l:List UInt8):Nat->Bool
 | 0=>true
 | k+1=>okL l k && (k==0 || isRestB (l.getD k 0))
def fst (l:List UInt8):Int × Int :=
 if l.length=0 then (-1,0)
 else if hdL (l.getD 0 0)=0\/(l.length:Int)<hdL (l.getD 0 0)then (-1,1)
 else if okL l (hdL (l.getD 0 0)).toNat=true/\sgn (accL l ((hdL (l.getD 0 0)).toNat-1))=true/\wid (accL l ((hdL (l.getD 0 0)).toNat-1))=hdL (l.getD 0 0)
  then (accL l ((hdL (l.getD 0 0)).toNat-1),hdL (l.getD 0 0))else (-1,1)
theorem hdL_cases (b:UInt8):hdL b=0\/hdL b=1\/hdL b=2\/hdL b=3\/hdL b=4:=by
 unfold hdL;split;· simp
 split;· simp
 split;· simp
 split;· simp
 split<;>simp
theorem hdV_bd (b:UInt8):0<=hdV b/\hdV b<=127:=by
 have:=b.toNat_lt;unfold hdV;split;· omega
 split;· omega
 split;· omega
 split;· omega
 split<;>omega
theorem accL_bd (l:List UInt8):0<=accL l 0/\accL l 0<=127/\0<=accL l 1/\accL l 1<=8191/\0<=accL l 2/\accL l 2<=524287/\0<=accL l 3/\accL l 3<=33554431:=by
 have:=hdV_bd (l.getD 0 0);simp only[accL];omega
theorem okL_mono (l:List UInt8) {k m:Nat} (h:k<=m) (hm:okL l m=true):okL l k=true:=by
 induction m with
 | zero =>
  have:k=0:=by omega
  subst this;exact hm
 | succ m ih =>
  by_cases e:k=m+1
  ·subst e;exact hm
  ·simp only[okL,Bool.and_eq_true]at hm;exact ih (by omega) hm.1
theorem okL_bad (l:List UInt8) {k m:Nat} (h1:1<=k) (h:k<m) (hr:isRestB (l.getD k 0)=false):okL l m=false:=by
 rw[Bool.eq_false_iff];intro hm;have h2:=okL_mono l (show k+1<=m by omega) hm;have e:(k==0)=false:=by simp;omega
 simp only[okL,e,hr]at h2;simp at h2
theorem okL_next (l:List UInt8) {k:Nat} (h:okL l k=true) (hr:isRestB (l.getD k 0)=true):okL l (k+1)=true:=by
 simp only[okL,h,hr];simp
theorem fst_nil (l:List UInt8) (h:l.length=0):fst l=(-1,0):=by unfold fst;rw[if_pos h]
theorem fst_no (l:List UInt8) (h:l.length≠0) (h':hdL (l.getD 0 0)=0\/(l.length:Int)<hdL (l.getD 0 0)):fst l=(-1,1):=by unfold fst;rw[if_neg h,if_pos h']
theorem fst_yes (l:List UInt8) (h0:1<=hdL (l.getD 0 0)) (h1:hdL (l.getD 0 0)<=(l.length:Int))
  (h:okL l (hdL (l.getD 0 0)).toNat=true/\sgn (accL l ((hdL (l.getD 0 0)).toNat-1))=true/\wid (accL l ((hdL (l.getD 0 0)).toNat-1))=hdL (l.getD 0 0)) :
  fst l=(accL l ((hdL (l.getD 0 0)).toNat-1),hdL (l.getD 0 0)):=by
 unfold fst;rw[if_neg (by omega),if_neg (by omega),if_pos h]
theorem fst_bad (l:List UInt8) (h0:1<=hdL (l.getD 0 0)) (h1:hdL (l.getD 0 0)<=(l.length:Int))
  (h:okL l (hdL (l.getD 0 0)).toNat=false\/sgn (accL l ((hdL (l.getD 0 0)).toNat-1))=false\/wid (accL l ((hdL (l.getD 0 0)).toNat-1))≠hdL (l.getD 0 0)) :
  fst l=(-1,1):=by
 unfold fst;rw[if_neg (by omega),if_neg (by omega),if_neg];rintro⟨a,b,c⟩;rcases h with h | h | h
 ·rw[a]at h;cases h
 ·rw[b]at h;cases h
 ·exact h c
theorem sgn_bd {n:Int} (h:sgn n=true):0<=n/\n<=1114111/\(n<55296\/57343<n):=by
 unfold sgn inR at h;simp at h;omega
theorem byt_parts {n:Int} (h0:0<=n) (h1:n<=1114111) :
  (byt n=[n]/\n<128)\/(byt n=[192+n / 64,128+n % 64]/\128<=n/\n<2048) \/
  (byt n=[224+n / 4096,128+n / 64 % 64,128+n % 64]/\2048<=n/\n<65536) \/
  (byt n=[240+n / 262144,128+n / 4096 % 64,128+n / 64 % 64,128+n % 64]/\65536<=n):=by
 unfold byt;by_cases c1:n<128
 ·rw[if_pos c1];exact .inl ⟨rfl,c1⟩
 by_cases c2:n<2048
 ·rw[if_neg c1,if_pos c2];exact .inr (.inl ⟨rfl,by omega,c2⟩)
 by_cases c3:n<65536
 ·rw[if_neg c1,if_neg c2,if_pos c3];exact .inr (.inr (.inl ⟨rfl,by omega,c3⟩))
 ·rw[if_neg c1,if_neg c2,if_neg c3];exact .inr (.inr (.inr ⟨rfl,by omega⟩))
end Utf
namespace Utf
def allS (zs:List Int):Bool:=zs.all sgn
theorem allS_take (zs:List Int) (k:Nat) (h:k<zs.length):allS (zs.take (k+1))=(allS (zs.take k) && sgn (zs.getD k 0)):=by
 unfold allS;rw[List.take_succ_eq_append_getElem h,List.all_append,List.getD_eq_getElem?_getD,List.getElem?_eq_getElem h];simp
theorem allS_false (zs:List Int) (k:Nat) (h:k<zs.length) (hn:sgn (zs.getD k 0)=false):allS zs=false:=by
 unfold allS;rw[Bool.eq_false_iff];intro ha;rw[List.all_eq_true]at ha;have:=ha (zs.getD k 0) (by rw[List.getD_eq_getElem?_getD,List.getElem?_eq_getElem h];simp);rw[hn]at this;cases this
def bytes (zs:List Int):List Int:=zs.flatMap byt
theorem bytes_take (zs:List Int) (k:Nat) (h:k<zs.length):bytes (zs.take (k+1))=bytes (zs.take k)++byt (zs.getD k 0):=by
 unfold bytes;rw[List.take_succ_eq_append_getElem h,List.flatMap_append,List.getD_eq_getElem?_getD,List.getElem?_eq_getElem h];simp
theorem byt_len (n:Int):1<=(byt n).length/\(byt n).length<=4:=by
 unfold byt;split;· simp
 split;· simp
 split<;>simp
theorem bytes_len (zs:List Int):zs.length<=(bytes zs).length/\(bytes zs).length<=4*zs.length:=by
 unfold bytes
 induction zs with
 | nil=>simp
 | cons n zs ih=>have:=byt_len n;simp only[List.flatMap_cons,List.length_append,List.length_cons];omega
theorem fst_bd (l:List UInt8): -1<=(fst l).1/\(fst l).1<=1114111/\0<=(fst l).2/\(fst l).2<=4/\(fst l).2<=l.length/\(l≠[]->1<=(fst l).2):=by
 by_cases h0:l.length=0
 ·rw[fst_nil l h0];have e:l=[]:=List.eq_nil_iff_length_eq_zero.2 h0;exact⟨by decide,by decide,by decide,by decide,by simp,fun h=>absurd e h⟩
 by_cases h1:hdL (l.getD 0 0)=0\/(l.length:Int)<hdL (l.getD 0 0)
 ·rw[fst_no l h0 h1];exact⟨by decide,by decide,by decide,by decide,by simp;omega,fun _=>by decide⟩
 have h2:=hdL_cases (l.getD 0 0);by_cases h3:okL l (hdL (l.getD 0 0)).toNat=true/\sgn (accL l ((hdL (l.getD 0 0)).toNat-1))=true/\wid (accL l ((hdL (l.getD 0 0)).toNat-1))=hdL (l.getD 0 0)
 ·rw[fst_yes l (by omega) (by omega) h3];have:=sgn_bd h3.2.1;simp only;omega
 ·have e:fst l=(-1,1):=by unfold fst;rw[if_neg h0,if_neg h1,if_neg h3]
  rw[e];exact⟨by decide,by decide,by decide,by decide,by simp;omega,fun _=>by decide⟩
def fk (l:List UInt8):Nat:=(fst l).2.toNat
theorem fk_pos (l:List UInt8) (h:l≠[]):1<=fk l/\fk l<=l.length/\fk l<=4/\((fk l:Nat):Int)=(fst l).2:=by
 have:=fst_bd l;have:=this.2.2.2.2.2 h;unfold fk;omega
def cntF:Nat->List UInt8->Nat
 | 0,_=>0
 | f+1,l=>if l=[]then 0 else cntF f (l.drop (fk l))+1
def cnt (l:List UInt8):Nat:=cntF l.length l
def chkF:Nat->List UInt8->Option Nat
 | 0,_=>none
 | f+1,l=>if l=[]then none else if prn (fst l).1=true then (chkF f (l.drop (fk l))).map (· + fk l)else some 0
def chk (l:List UInt8):Option Nat:=chkF l.length l
def decF:Nat->List UInt8->List Int × Option Nat
 | 0,_=>([],none)
 | f+1,l=>if l=[]then ([],none)else if (fst l).1<0 then ([],some 0)else ((fst l).1::(decF f (l.drop (fk l))).1,(decF f (l.drop (fk l))).2.map (· + fk l))
def dec (l:List UInt8):List Int × Option Nat:=decF l.length l
theorem cntF_eq (f:Nat):∀ l:List UInt8,l.length<=f->cntF f l=cntF l.length l:=by
 induction f using Nat.strongRecOn with
 | ind f ih =>
  intro l hl;by_cases e:l=[]
  ·subst e;cases f<;>simp[cntF]
  ·have hp:=fk_pos l e;have hlen:0<l.length:=List.length_pos_iff.2 e
   cases f with
   | zero=>omega
   | succ f =>
    obtain⟨m,hm⟩:∃ m,l.length=m+1:=⟨l.length-1,by omega⟩;rw[hm];simp only[cntF,if_neg e];have hd:(l.drop (fk l)).length<=m:=by rw[List.length_drop];omega
    rw[ih f (by omega) _ (by omega)];by_cases hmf:m=f
    ·subst hmf;rw[ih m (by omega) _ hd]
    ·rw[ih m (by omega) _ hd]
theorem cnt_nil:cnt []=0:=rfl
theorem cnt_next (l:List UInt8) (h:l≠[]):cnt l=cnt (l.drop (fk l))+1:=by
 have hp:=fk_pos l h;unfold cnt;obtain⟨m,hm⟩:∃ m,l.length=m+1:=⟨l.length-1,by omega⟩;rw[hm];simp only[cntF,if_neg h];rw[cntF_eq m _ (by rw[List.length_drop];omega)]
theorem chkF_eq (f:Nat):∀ l:List UInt8,l.length<=f->chkF f l=chkF l.length l:=by
 induction f using Nat.strongRecOn with
 | ind f ih =>
  intro l hl;by_cases e:l=[]
  ·subst e;cases f<;>simp[chkF]
  ·have hp:=fk_pos l e;have hlen:0<l.length:=List.length_pos_iff.2 e
   cases f with
   | zero=>omega
   | succ f =>
    obtain⟨m,hm⟩:∃ m,l.length=m+1:=⟨l.length-1,by omega⟩;rw[hm];simp only[chkF,if_neg e];have hd:(l.drop (fk l)).length<=m:=by rw[List.length_drop];omega
    rw[ih f (by omega) _ (by omega)];by_cases hmf:m=f
    ·subst hmf;rw[ih m (by omega) _ hd]
    ·rw[ih m (by omega) _ hd]
theorem chk_next (l:List UInt8) (h:l≠[]):chk l=if prn (fst l).1=true then (chk (l.drop (fk l))).map (· + fk l)else some 0:=by
 have hp:=fk_pos l h;unfold chk;obtain⟨m,hm⟩:∃ m,l.length=m+1:=⟨l.length-1,by omega⟩;rw[hm];simp only[chkF,if_neg h];rw[chkF_eq m _ (by rw[List.length_drop];omega)]
theorem decF_eq (f:Nat):∀ l:List UInt8,l.length<=f->decF f l=decF l.length l:=by
 induction f using Nat.strongRecOn with
 | ind f ih =>
  intro l hl;by_cases e:l=[]
  ·subst e;cases f<;>simp[decF]
  ·have hp:=fk_pos l e;have hlen:0<l.length:=List.length_pos_iff.2 e
   cases f with
   | zero=>omega
   | succ f =>
    obtain⟨m,hm⟩:∃ m,l.length=m+1:=⟨l.length-1,by omega⟩;rw[hm];simp only[decF,if_neg e];have hd:(l.drop (fk l)).length<=m:=by rw[List.length_drop];omega
    rw[ih f (by omega) _ (by omega)];by_cases hmf:m=f
    ·subst hmf;rw[ih m (by omega) _ hd]
    ·rw[ih m (by omega) _ hd]
theorem dec_nil:dec []=([],none):=rfl
theorem dec_bad (l:List UInt8) (h:l≠[]) (hn:(fst l).1<0):dec l=([],some 0):=by
 have hp:=fk_pos l h;unfold dec;obtain⟨m,hm⟩:∃ m,l.length=m+1:=⟨l.length-1,by omega⟩;rw[hm];simp only[decF,if_neg h,if_pos hn]
theorem dec_next (l:List UInt8) (h:l≠[]) (hn: ¬ (fst l).1<0):dec l=((fst l).1::(dec (l.drop (fk l))).1,(dec (l.drop (fk l))).2.map (· + fk l)):=by
 have hp:=fk_pos l h;unfold dec;obtain⟨m,hm⟩:∃ m,l.length=m+1:=⟨l.length-1,by omega⟩;rw[hm];simp only[decF,if_neg h,if_neg hn];rw[decF_eq m _ (by rw[List.length_drop];omega)]
theorem dec_len (n:Nat):∀ l:List UInt8,l.length<=n->(dec l).1.length<=l.length/\cnt l<=l.length:=by
 induction n with
 | zero =>
  intro l hl;have e:l=[]:=List.eq_nil_iff_length_eq_zero.2 (by omega);subst e;exact⟨by simp[dec_nil],by simp[cnt_nil]⟩
 | succ n ih =>
  intro l hl;by_cases e:l=[]
  ·subst e;exact⟨by simp[dec_nil],by simp[cnt_nil]⟩
  ·have hp:=fk_pos l e;have hi:=ih (l.drop (fk l)) (by rw[List.length_drop];omega);rw[List.length_drop]at hi;refine⟨?_,by rw[cnt_next l e];omega⟩;by_cases hn:(fst l).1<0
   ·rw[dec_bad l e hn];simp
   ·rw[dec_next l e hn];simp only[List.length_cons];omega
end Utf
namespace Utf
def u8s (l:List Int):List UInt8:=l.map fun n=>UInt8.ofNat n.toNat
theorem hd_one {b:UInt8} (h:b.toNat<128):hdL b=1/\hdV b=b.toNat:=by
 unfold hdL hdV;rw[if_pos h,if_pos h];exact⟨rfl,rfl⟩
theorem hd_two {b:UInt8} (h:192<=b.toNat) (h':b.toNat<224):hdL b=2/\hdV b=b.toNat-192:=by
 unfold hdL hdV;rw[if_neg (by omega),if_neg (by omega),if_pos h',if_neg (by omega),if_neg (by omega),if_pos h'];exact⟨rfl,rfl⟩
theorem hd_three {b:UInt8} (h:224<=b.toNat) (h':b.toNat<240):hdL b=3/\hdV b=b.toNat-224:=by
 unfold hdL hdV;rw[if_neg (by omega),if_neg (by omega),if_neg (by omega),if_pos h',if_neg (by omega),if_neg (by omega),if_neg (by omega),if_pos h'];exact⟨rfl,rfl⟩
theorem hd_four {b:UInt8} (h:240<=b.toNat) (h':b.toNat<248):hdL b=4/\hdV b=b.toNat-240:=by
 unfold hdL hdV;rw[if_neg (by omega),if_neg (by omega),if_neg (by omega),if_neg (by omega),if_pos h',if_neg (by omega),if_neg (by omega),if_neg (by omega),if_neg (by omega),if_pos h'];exact⟨rfl,rfl⟩
theorem hd_inv (b:UInt8):(hdL b=0)\/(hdL b=1/\b.toNat<128/\hdV b=b.toNat)\/(hdL b=2/\192<=b.toNat/\b.toNat<224/\hdV b=b.toNat-192) \/
  (hdL b=3/\224<=b.toNat/\b.toNat<240/\hdV b=b.toNat-224)\/(hdL b=4/\240<=b.toNat/\b.toNat<248/\hdV b=b.toNat-240):=by
 by_cases h1:b.toNat<128
 ·obtain⟨a,c⟩:=hd_one h1;exact .inr (.inl ⟨a,h1,c⟩)
 by_cases h2:b.toNat<192
 ·left;unfold hdL;rw[if_neg h1,if_pos h2]
 by_cases h3:b.toNat<224
 ·obtain⟨a,c⟩:=hd_two (b:=b) (by omega) h3;exact .inr (.inr (.inl ⟨a,by omega,h3,c⟩))
 by_cases h4:b.toNat<240
 ·obtain⟨a,c⟩:=hd_three (b:=b) (by omega) h4;exact .inr (.inr (.inr (.inl ⟨a,by omega,h4,c⟩)))
 by_cases h5:b.toNat<248
 ·obtain⟨a,c⟩:=hd_four (b:=b) (by omega) h5;exact .inr (.inr (.inr (.inr ⟨a,by omega,h5,c⟩)))
 ·left;unfold hdL;rw[if_neg h1,if_neg h2,if_neg h3,if_neg h4,if_neg h5]
theorem toNat_u8 {x:Int} (h0:0<=x) (h1:x<256):(UInt8.ofNat x.toNat).toNat=x.toNat:=by
 rw[UInt8.toNat_ofNat'];omega
theorem u8_of {b:UInt8} {x:Int} (h:x=b.toNat):UInt8.ofNat x.toNat=b:=by
 subst h;simp
theorem rest_u8 {x:Int} (h0:128<=x) (h1:x<192):isRestB (UInt8.ofNat x.toNat)=true:=by
 unfold isRestB;rw[toNat_u8 (by omega) (by omega)];simp;omega
theorem wid1 {n:Int} (h:n<128):wid n=1:=by unfold wid;rw[if_pos h]
theorem wid2 {n:Int} (h:128<=n) (h':n<2048):wid n=2:=by unfold wid;rw[if_neg (by omega),if_pos h']
theorem wid3 {n:Int} (h:2048<=n) (h':n<65536):wid n=3:=by unfold wid;rw[if_neg (by omega),if_neg (by omega),if_pos h']
theorem wid4 {n:Int} (h:65536<=n):wid n=4:=by unfold wid;rw[if_neg (by omega),if_neg (by omega),if_neg (by omega)]
theorem fst_enc {n:Int} (h:sgn n=true) (r:List UInt8):fst (u8s (byt n)++r)=(n,((byt n).length:Int)):=by
 obtain⟨h0,h1,_⟩:=sgn_bd h;rcases byt_parts h0 h1 with ⟨e,c⟩ | ⟨e,c,c'⟩ | ⟨e,c,c'⟩ | ⟨e,c⟩<;>rw[e]
 ·have hb:(UInt8.ofNat n.toNat).toNat=n.toNat:=toNat_u8 h0 (by omega);obtain⟨hl,hv⟩:=hd_one (b:=UInt8.ofNat n.toNat) (by omega);have ea:accL (u8s [n]++r) 0=n:=by simp only[accL,u8s,List.map_cons,List.map_nil,List.cons_append,List.getD_cons_zero];rw[hv,hb];omega
  have e0:(u8s [n]++r).getD 0 0=UInt8.ofNat n.toNat:=rfl
  have:=fst_yes (u8s [n]++r) (by rw[e0,hl];decide) (by rw[e0,hl];simp[u8s];omega) (by
   rw[e0,hl];refine⟨rfl,?_,?_⟩
   ·show sgn (accL (u8s [n]++r) 0)=true;rw[ea];exact h
   ·show wid (accL (u8s [n]++r) 0)=1;rw[ea];exact wid1 c)
  rw[this,e0,hl];show (accL (u8s [n]++r) 0,(1:Int))=_;rw[ea];rfl
 ·have hb:(UInt8.ofNat (192+n / 64).toNat).toNat=(192+n / 64).toNat:=toNat_u8 (by omega) (by omega);have hb1:(UInt8.ofNat (128+n % 64).toNat).toNat=(128+n % 64).toNat:=toNat_u8 (by omega) (by omega);obtain⟨hl,hv⟩:=hd_two (b:=UInt8.ofNat (192+n / 64).toNat) (by omega) (by omega)
  have ea:accL (u8s [192+n / 64,128+n % 64]++r) 1=n:=by
   simp only[accL,u8s,List.map_cons,List.map_nil,List.cons_append,List.getD_cons_zero,List.getD_cons_succ];rw[hv,hb,hb1];omega
  have e0:(u8s [192+n / 64,128+n % 64]++r).getD 0 0=UInt8.ofNat (192+n / 64).toNat:=rfl;have e1:(u8s [192+n / 64,128+n % 64]++r).getD 1 0=UInt8.ofNat (128+n % 64).toNat:=rfl;have r1:=rest_u8 (x:=128+n % 64) (by omega) (by omega)
  have:=fst_yes (u8s [192+n / 64,128+n % 64]++r) (by rw[e0,hl];decide) (by rw[e0,hl];simp[u8s];omega) (by
   rw[e0,hl];refine⟨?_,?_,?_⟩
   ·show okL (u8s [192+n / 64,128+n % 64]++r) 2=true;simp only[okL,e1,r1];rfl
   ·show sgn (accL (u8s [192+n / 64,128+n % 64]++r) 1)=true;rw[ea];exact h
   ·show wid (accL (u8s [192+n / 64,128+n % 64]++r) 1)=2;rw[ea];exact wid2 c c')
  rw[this,e0,hl];show (accL (u8s [192+n / 64,128+n % 64]++r) 1,(2:Int))=_;rw[ea];rfl
 ·have hb:(UInt8.ofNat (224+n / 4096).toNat).toNat=(224+n / 4096).toNat:=toNat_u8 (by omega) (by omega);have hb1:(UInt8.ofNat (128+n / 64 % 64).toNat).toNat=(128+n / 64 % 64).toNat:=toNat_u8 (by omega) (by omega);have hb2:(UInt8.ofNat (128+n % 64).toNat).toNat=(128+n % 64).toNat:=toNat_u8 (by omega) (by omega);obtain⟨hl,hv⟩:=hd_three (b:=UInt8.ofNat (224+n / 4096).toNat) (by omega) (by omega)
  have ea:accL (u8s [224+n / 4096,128+n / 64 % 64,128+n % 64]++r) 2=n:=by
   simp only[accL,u8s,List.map_cons,List.map_nil,List.cons_append,List.getD_cons_zero,List.getD_cons_succ];rw[hv,hb,hb1,hb2];omega
  have e0:(u8s [224+n / 4096,128+n / 64 % 64,128+n % 64]++r).getD 0 0=UInt8.ofNat (224+n / 4096).toNat:=rfl;have e1:(u8s [224+n / 4096,128+n / 64 % 64,128+n % 64]++r).getD 1 0=UInt8.ofNat (128+n / 64 % 64).toNat:=rfl;have e2:(u8s [224+n / 4096,128+n / 64 % 64,128+n % 64]++r).getD 2 0=UInt8.ofNat (128+n % 64).toNat:=rfl;have r1:=rest_u8 (x:=128+n / 64 % 64) (by omega) (by omega);have r2:=rest_u8 (x:=128+n % 64) (by omega) (by omega)
  have:=fst_yes (u8s [224+n / 4096,128+n / 64 % 64,128+n % 64]++r) (by rw[e0,hl];decide) (by rw[e0,hl];simp[u8s];omega) (by
   rw[e0,hl];refine⟨?_,?_,?_⟩
   ·show okL (u8s [224+n / 4096,128+n / 64 % 64,128+n % 64]++r) 3=true;simp only[okL,e1,e2,r1,r2];rfl
   ·show sgn (accL (u8s [224+n / 4096,128+n / 64 % 64,128+n % 64]++r) 2)=true;rw[ea];exact h
   ·show wid (accL (u8s [224+n / 4096,128+n / 64 % 64,128+n % 64]++r) 2)=3;rw[ea];exact wid3 c c')
  rw[this,e0,hl];show (accL (u8s [224+n / 4096,128+n / 64 % 64,128+n % 64]++r) 2,(3:Int))=_;rw[ea];rfl
 ·have hb:(UInt8.ofNat (240+n / 262144).toNat).toNat=(240+n / 262144).toNat:=toNat_u8 (by omega) (by omega);have hb1:(UInt8.ofNat (128+n / 4096 % 64).toNat).toNat=(128+n / 4096 % 64).toNat:=toNat_u8 (by omega) (by omega);have hb2:(UInt8.ofNat (128+n / 64 % 64).toNat).toNat=(128+n / 64 % 64).toNat:=toNat_u8 (by omega) (by omega);have hb3:(UInt8.ofNat (128+n % 64).toNat).toNat=(128+n % 64).toNat:=toNat_u8 (by omega) (by omega);obtain⟨hl,hv⟩:=hd_four (b:=UInt8.ofNat (240+n / 262144).toNat) (by omega) (by omega)
  have ea:accL (u8s [240+n / 262144,128+n / 4096 % 64,128+n / 64 % 64,128+n % 64]++r) 3=n:=by
   simp only[accL,u8s,List.map_cons,List.map_nil,List.cons_append,List.getD_cons_zero,List.getD_cons_succ];rw[hv,hb,hb1,hb2,hb3];omega
  have e0:(u8s [240+n / 262144,128+n / 4096 % 64,128+n / 64 % 64,128+n % 64]++r).getD 0 0=UInt8.ofNat (240+n / 262144).toNat:=rfl;have e1:(u8s [240+n / 262144,128+n / 4096 % 64,128+n / 64 % 64,128+n % 64]++r).getD 1 0=UInt8.ofNat (128+n / 4096 % 64).toNat:=rfl;have e2:(u8s [240+n / 262144,128+n / 4096 % 64,128+n / 64 % 64,128+n % 64]++r).getD 2 0=UInt8.ofNat (128+n / 64 % 64).toNat:=rfl;have e3:(u8s [240+n / 262144,128+n / 4096 % 64,128+n / 64 % 64,128+n % 64]++r).getD 3 0=UInt8.ofNat (128+n % 64).toNat:=rfl;have r1:=rest_u8 (x:=128+n / 4096 % 64) (by omega) (by omega);have r2:=rest_u8 (x:=128+n / 64 % 64) (by omega) (by omega);have r3:=rest_u8 (x:=128+n % 64) (by omega) (by omega)
  have:=fst_yes (u8s [240+n / 262144,128+n / 4096 % 64,128+n / 64 % 64,128+n % 64]++r) (by rw[e0,hl];decide) (by rw[e0,hl];simp[u8s];omega) (by
   rw[e0,hl];refine⟨?_,?_,?_⟩
   ·show okL (u8s [240+n / 262144,128+n / 4096 % 64,128+n / 64 % 64,128+n % 64]++r) 4=true;simp only[okL,e1,e2,e3,r1,r2,r3];rfl
   ·show sgn (accL (u8s [240+n / 262144,128+n / 4096 % 64,128+n / 64 % 64,128+n % 64]++r) 3)=true;rw[ea];exact h
   ·show wid (accL (u8s [240+n / 262144,128+n / 4096 % 64,128+n / 64 % 64,128+n % 64]++r) 3)=4;rw[ea];exact wid4 c)
  rw[this,e0,hl];show (accL (u8s [240+n / 262144,128+n / 4096 % 64,128+n / 64 % 64,128+n % 64]++r) 3,(4:Int))=_;rw[ea];rfl
theorem isRest_bd {b:UInt8} (h:isRestB b=true):128<=b.toNat/\b.toNat<192:=by
 unfold isRestB at h;simpa using h
theorem wid_inv {n:Int}:(wid n=1->n<128)/\(wid n=2->128<=n/\n<2048)/\(wid n=3->2048<=n/\n<65536)/\(wid n=4->65536<=n):=by
 unfold wid;by_cases c1:n<128
 ·rw[if_pos c1];exact⟨fun _=>c1,fun h=>absurd h (by decide),fun h=>absurd h (by decide),fun h=>absurd h (by decide)⟩
 by_cases c2:n<2048
 ·rw[if_neg c1,if_pos c2];exact⟨fun h=>absurd h (by decide),fun _=>by omega,fun h=>absurd h (by decide),fun h=>absurd h (by decide)⟩
 by_cases c3:n<65536
 ·rw[if_neg c1,if_neg c2,if_pos c3];exact⟨fun h=>absurd h (by decide),fun h=>absurd h (by decide),fun _=>by omega,fun h=>absurd h (by decide)⟩
 ·rw[if_neg c1,if_neg c2,if_neg c3];exact⟨fun h=>absurd h (by decide),fun h=>absurd h (by decide),fun h=>absurd h (by decide),fun _=>by omega⟩
theorem fst_sound (l:List UInt8) (hn:0<=(fst l).1):sgn (fst l).1=true/\(fst l).2=((byt (fst l).1).length:Int)/\l=u8s (byt (fst l).1)++l.drop (byt (fst l).1).length:=by
 by_cases h0:l.length=0
 ·rw[fst_nil l h0]at hn;exact absurd hn (by decide)
 by_cases h1:hdL (l.getD 0 0)=0\/(l.length:Int)<hdL (l.getD 0 0)
 ·rw[fst_no l h0 h1]at hn;exact absurd hn (by decide)
 by_cases h3:okL l (hdL (l.getD 0 0)).toNat=true/\sgn (accL l ((hdL (l.getD 0 0)).toNat-1))=true/\wid (accL l ((hdL (l.getD 0 0)).toNat-1))=hdL (l.getD 0 0)
 case neg =>
  have e:fst l=(-1,1):=by unfold fst;rw[if_neg h0,if_neg h1,if_neg h3]
  rw[e]at hn;exact absurd hn (by decide)
 have hc:=hdL_cases (l.getD 0 0);have hf:=fst_yes l (by omega) (by omega) h3;obtain⟨h3a,h3b,h3c⟩:=h3;rw[hf];simp only;clear hf hn;have hi:=hd_inv (l.getD 0 0)
 match l,h0 with
 | b0::l1,_ =>
  simp only[List.getD_cons_zero]at *;rcases hi with hi | ⟨hL,i1,iv⟩ | ⟨hL,i1,i2,iv⟩ | ⟨hL,i1,i2,iv⟩ | ⟨hL,i1,i2,iv⟩
  ·exact absurd (Or.inl hi) h1
  ·rw[hL]at h3a h3b h3c h1 |-;have ea:accL (b0::l1) ((1:Int).toNat-1)=b0.toNat:=by show accL (b0::l1) 0=_;simp only[accL,List.getD_cons_zero];exact iv
   rw[ea]at h3b h3c |-;have hw:=wid_inv (n:=(b0.toNat:Int)).1 h3c;have e:byt (b0.toNat:Int)=[(b0.toNat:Int)]:=by unfold byt;rw[if_pos hw]
   rw[e];refine⟨h3b,rfl,?_⟩;simp[u8s]
  ·rw[hL]at h3a h3b h3c h1 |-
   match l1,h1 with
   | [],h1=>simp at h1
   | b1::l2,_ =>
    have hr1:isRestB b1=true:=by
     have:okL (b0::b1::l2) 2=true:=h3a;simp[okL]at this;exact this
    have:=isRest_bd hr1
    have ea:accL (b0::b1::l2) ((2:Int).toNat-1)=((b0.toNat:Int)-192)*64+(b1.toNat:Int) % 64:=by
     show accL (b0::b1::l2) 1=_;simp only[accL,List.getD_cons_zero,List.getD_cons_succ];rw[iv]
    generalize hn:accL (b0::b1::l2) ((2:Int).toNat-1)=n at *;have hw:=wid_inv (n:=n).2.1 h3c;have e:byt n=[192+n / 64,128+n % 64]:=by unfold byt;rw[if_neg (by omega),if_pos (by omega)]
    rw[e];refine⟨h3b,rfl,?_⟩;simp only[u8s,List.map_cons,List.map_nil,List.length_cons,List.length_nil,List.cons_append,List.nil_append,List.drop_succ_cons,List.drop_zero];rw[u8_of (b:=b0) (by omega),u8_of (b:=b1) (by omega)]
  ·rw[hL]at h3a h3b h3c h1 |-
   match l1,h1 with
   | [],h1=>simp at h1
   | [b1],h1=>simp at h1
   | b1::b2::l3,_ =>
    have hr:isRestB b1=true/\isRestB b2=true:=by
     have:okL (b0::b1::b2::l3) 3=true:=h3a;simp[okL]at this;exact this
    have:=isRest_bd hr.1;have:=isRest_bd hr.2
    have ea:accL (b0::b1::b2::l3) ((3:Int).toNat-1)=(((b0.toNat:Int)-224)*64+(b1.toNat:Int) % 64)*64+(b2.toNat:Int) % 64:=by
     show accL (b0::b1::b2::l3) 2=_;simp only[accL,List.getD_cons_zero,List.getD_cons_succ];rw[iv]
    generalize hn:accL (b0::b1::b2::l3) ((3:Int).toNat-1)=n at *;have hw:=wid_inv (n:=n).2.2.1 h3c;have e:byt n=[224+n / 4096,128+n / 64 % 64,128+n % 64]:=by unfold byt;rw[if_neg (by omega),if_neg (by omega),if_pos (by omega)]
    rw[e];refine⟨h3b,rfl,?_⟩;simp only[u8s,List.map_cons,List.map_nil,List.length_cons,List.length_nil,List.cons_append,List.nil_append,List.drop_succ_cons,List.drop_zero];rw[u8_of (b:=b0) (by omega),u8_of (b:=b1) (by omega),u8_of (b:=b2) (by omega)]
  ·rw[hL]at h3a h3b h3c h1 |-
   match l1,h1 with
   | [],h1=>simp at h1
   | [b1],h1=>simp at h1
   | [b1,b2],h1=>simp at h1
   | b1::b2::b3::l4,_ =>
    have hr:(isRestB b1=true/\isRestB b2=true)/\isRestB b3=true:=by
     have:okL (b0::b1::b2::b3::l4) 4=true:=h3a;simp[okL]at this;exact this
    have:=isRest_bd hr.1.1;have:=isRest_bd hr.1.2;have:=isRest_bd hr.2
    have ea:accL (b0::b1::b2::b3::l4) ((4:Int).toNat-1)=((((b0.toNat:Int)-240)*64+(b1.toNat:Int) % 64)*64+(b2.toNat:Int) % 64)*64+(b3.toNat:Int) % 64:=by
     show accL (b0::b1::b2::b3::l4) 3=_;simp only[accL,List.getD_cons_zero,List.getD_cons_succ];rw[iv]
    have hsg:=sgn_bd h3b;generalize hn:accL (b0::b1::b2::b3::l4) ((4:Int).toNat-1)=n at *;have hw:=wid_inv (n:=n).2.2.2 h3c;have e:byt n=[240+n / 262144,128+n / 4096 % 64,128+n / 64 % 64,128+n % 64]:=by unfold byt;rw[if_neg (by omega),if_neg (by omega),if_neg (by omega)]
    rw[e];refine⟨h3b,rfl,?_⟩;simp only[u8s,List.map_cons,List.map_nil,List.length_cons,List.length_nil,List.cons_append,List.nil_append,List.drop_succ_cons,List.drop_zero];rw[u8_of (b:=b0) (by omega),u8_of (b:=b1) (by omega),u8_of (b:=b2) (by omega),u8_of (b:=b3) (by omega)]
theorem drop_enc {n:Int} (r:List UInt8):(u8s (byt n)++r).drop (byt n).length=r:=by
 have e:(u8s (byt n)).length=(byt n).length:=by simp[u8s]
 rw[<-e];exact List.drop_left
theorem fk_enc {n:Int} (h:sgn n=true) (r:List UInt8):fk (u8s (byt n)++r)=(byt n).length:=by
 unfold fk;rw[fst_enc h r];simp
theorem enc_ne {n:Int} (r:List UInt8):u8s (byt n)++r≠[]:=by
 intro e;have h1:=congrArg List.length e;have:=byt_len n;simp[u8s]at h1;have h2:byt n=[]:=h1.1;rw[h2]at this;simp at this
theorem dec_bytes (zs:List Int) (h:allS zs=true) (r:List UInt8) :
  dec (u8s (bytes zs)++r)=(zs++(dec r).1,(dec r).2.map (· + (bytes zs).length))/\cnt (u8s (bytes zs)++r)=zs.length+cnt r:=by
 induction zs with
 | nil=>exact⟨by simp[bytes,u8s],by simp[bytes,u8s]⟩
 | cons n zs ih =>
  have hs:sgn n=true/\allS zs=true:=by unfold allS at h |-;simpa using h
  obtain⟨ih1,ih2⟩:=ih hs.2;have e:u8s (bytes (n::zs))++r=u8s (byt n)++(u8s (bytes zs)++r):=by simp[bytes,u8s]
  have hb:=sgn_bd hs.1;have hne:=enc_ne (n:=n) (u8s (bytes zs)++r);rw[e];refine⟨?_,?_⟩
  ·rw[dec_next _ hne (by rw[fst_enc hs.1];simp only;omega),fk_enc hs.1,drop_enc,ih1,fst_enc hs.1];simp only[List.cons_append,Option.map_map];congr 2;funext x;simp[bytes];omega
  ·rw[cnt_next _ hne,fk_enc hs.1,drop_enc,ih2];simp;omega
theorem dec_enc (zs:List Int) (h:allS zs=true):dec (u8s (bytes zs))=(zs,none)/\cnt (u8s (bytes zs))=zs.length:=by
 have:=dec_bytes zs h [];rw[List.append_nil,dec_nil,cnt_nil]at this;simpa using this
theorem dec_sound (m:Nat):∀ l:List UInt8,l.length<=m->((dec l).2=none->allS (dec l).1=true/\u8s (bytes (dec l).1)=l)/\(∀ p,(dec l).2=some p->p<l.length):=by
 induction m with
 | zero =>
  intro l hl;have e:l=[]:=List.eq_nil_iff_length_eq_zero.2 (by omega);subst e;exact⟨fun _=>⟨rfl,rfl⟩,fun p hp=>by simp[dec_nil]at hp⟩
 | succ m ih =>
  intro l hl;by_cases e:l=[]
  ·subst e;exact⟨fun _=>⟨rfl,rfl⟩,fun p hp=>by simp[dec_nil]at hp⟩
  have hp:=fk_pos l e;have hd:(l.drop (fk l)).length=l.length-fk l:=List.length_drop ..;obtain⟨i1,i2⟩:=ih (l.drop (fk l)) (by omega);by_cases hn:(fst l).1<0
  ·rw[dec_bad l e hn];exact⟨fun h=>by simp at h,fun p h=>by simp at h;omega⟩
  ·obtain⟨s1,s2,s3⟩:=fst_sound l (by omega);rw[dec_next l e hn];have hk:fk l=(byt (fst l).1).length:=by unfold fk;rw[s2];simp
   refine⟨fun h=> ?_,fun p h=> ?_⟩
   ·simp only[Option.map_eq_none_iff]at h;obtain⟨j1,j2⟩:=i1 h;refine⟨by unfold allS at j1 |-;simp[s1,j1],?_⟩;have e2:u8s (bytes ((fst l).1::(dec (l.drop (fk l))).1))=u8s (byt (fst l).1)++u8s (bytes (dec (l.drop (fk l))).1):=by simp[bytes,u8s]
    simp only;rw[e2,j2,hk];exact s3.symm
   ·simp only[Option.map_eq_some_iff]at h;obtain⟨q,h1,h2⟩:=h;have:=i2 q h1;omega
end Utf
namespace Quo
open Utf
def may (n:Int):Bool:=prn n && !(n==9) && !(n==10) && !(n==13)
def hxd (n:Nat):UInt8:=if n<10 then UInt8.ofNat (48+n)else UInt8.ofNat (87+n)
def hexL:Nat->Nat->List UInt8
 | 0,_=>[]
 | k+1,n=>hxd (n / 16 ^ k % 16)::hexL k n
def esc (n:Int):List UInt8 :=
 if n=34 then [92,34]else if n=92 then [92,92]else if n=9 then [92,116]else if n=10 then [92,110]else if n=13 then [92,114]else if n=0 then [92,48]
 else if may n=true then u8s (byt n)else if n<256 then 92::120::hexL 2 n.toNat else if n<65536 then 92::117::hexL 4 n.toNat else 92::85::hexL 8 n.toNat
def escs (zs:List Int):List UInt8:=zs.flatMap esc
def dbl (l:List UInt8):List UInt8:=34::(escs (dec l).1++[34])
def dig (c:UInt8):Int :=
 if 48<=c.toNat/\c.toNat<=57 then c.toNat-48 else if 97<=c.toNat/\c.toNat<=102 then c.toNat-87 else if 65<=c.toNat/\c.toNat<=70 then c.toNat-55 else -1
def hexR:Nat->List UInt8->Int->Int × Nat
 | 0,_,acc=>(acc,0)
 | _+1,[],_=>(0,4)
 | k+1,c::r,acc=>if dig c<0 then (0,3)else hexR k r (acc*16+dig c)
def escH (l:List UInt8) (many:Nat):Int × Nat × Nat :=
 if (hexR many (l.drop 2) 0).2=0 then (if sgn (hexR many (l.drop 2) 0).1=true then ((hexR many (l.drop 2) 0).1,2+many,0)else (0,0,3))else (0,0,(hexR many (l.drop 2) 0).2)
def escR (l:List UInt8):Int × Nat × Nat :=
 if l.length<2 then (0,0,4)else
 if l.getD 1 0=34 then (34,2,0)else if l.getD 1 0=92 then (92,2,0)else if l.getD 1 0=110 then (10,2,0)else if l.getD 1 0=116 then (9,2,0)else if l.getD 1 0=114 then (13,2,0)else if l.getD 1 0=48 then (0,2,0)
 else if l.getD 1 0=120 then escH l 2 else if l.getD 1 0=117 then escH l 4 else if l.getD 1 0=85 then escH l 8 else (0,0,3)
def stp (q:UInt8) (l:List UInt8):Nat × List UInt8 × Nat :=
 if l=[]then (4,[],0)
 else if l.getD 0 0=q then (if q=39/\1<l.length/\l.getD 1 0=39 then (1,[39],2)else (0,[],1))
 else if q=34/\l.getD 0 0=92 then (if (escR l).2.2=0 then (1,u8s (byt (escR l).1),(escR l).2.1)else ((escR l).2.2,[],0))
 else if may (fst l).1=true then (1,l.take (fk l),fk l)else (8,[],0)
def rdF (q:UInt8):Nat->List UInt8->Nat->List UInt8->List UInt8 × Nat × Nat × Nat
 | 0,l,at_,_=>([],0,4,at_+l.length)
 | f+1,l,at_,out =>
  if (stp q l).1=0 then (out,at_+1,0,0)
  else if (stp q l).1=1 then rdF q f (l.drop (stp q l).2.2) (at_+(stp q l).2.2) (out++(stp q l).2.1)
  else if (stp q l).1=4 then ([],0,4,at_+l.length)
  else ([],0,(stp q l).1,at_)
def rd (l:List UInt8):List UInt8 × Nat × Nat × Nat :=
 if l=[]then ([],0,3,0)
 else if l.getD 0 0=39\/l.getD 0 0=34 then rdF (l.getD 0 0) l.length (l.drop 1) 1 []else ([],0,3,0)
/-! ### signs' bytes -/
theorem head_byt {n:Int} (h0:0<=n) (h1:n<=1114111):∃ c t,u8s (byt n)=c::t/\(n<128->(c.toNat:Int)=n/\t=[])/\(128<=n->192<=c.toNat/\∀ x∈t,128<=x.toNat/\x.toNat<192):=by
 unfold byt;split
 ·refine⟨_,[],rfl,fun _=>⟨?_,rfl⟩,fun h=>by omega⟩;rw[toNat_u8 h0 (by omega)];omega
 split
 ·refine⟨_,_,rfl,fun h=>by omega,fun _=>⟨?_,?_⟩⟩
  ·rw[toNat_u8 (by omega) (by omega)];omega
  ·intro x hx;simp only[u8s,List.map_cons,List.map_nil,List.mem_cons,List.not_mem_nil,or_false]at hx;subst hx;rw[toNat_u8 (by omega) (by omega)];omega
 split
 ·refine⟨_,_,rfl,fun h=>by omega,fun _=>⟨?_,?_⟩⟩
  ·rw[toNat_u8 (by omega) (by omega)];omega
  ·intro x hx;simp only[u8s,List.map_cons,List.map_nil,List.mem_cons,List.not_mem_nil,or_false]at hx;rcases hx with hx | hx<;>(subst hx;rw[toNat_u8 (by omega) (by omega)];omega)
 ·refine⟨_,_,rfl,fun h=>by omega,fun _=>⟨?_,?_⟩⟩
  ·rw[toNat_u8 (by omega) (by omega)];omega
  ·intro x hx;simp only[u8s,List.map_cons,List.map_nil,List.mem_cons,List.not_mem_nil,or_false]at hx;rcases hx with hx | hx | hx<;>(subst hx;rw[toNat_u8 (by omega) (by omega)];omega)
theorem may_neg:may (-1)=false:=by decide
theorem stp_sign {n:Int} (hs:sgn n=true) (hm:may n=true) (q:UInt8) (hq:q=39\/q=34) (h1:n≠(q.toNat:Int)) (h2:q=34->n≠92) (r:List UInt8):stp q (u8s (byt n)++r)=(1,u8s (byt n),(byt n).length):=by
 have hb:=sgn_bd hs;obtain⟨c,t,e,ha,hc⟩:=head_byt hb.1 hb.2.1;have hq2:q.toNat<128:=by rcases hq with rfl | rfl<;>decide
 have hne:=enc_ne (n:=n) r;have hg:(u8s (byt n)++r).getD 0 0=c:=by rw[e];rfl
 have hcq:c≠q:=by
  rintro rfl;by_cases h:n<128
  ·exact h1 (ha h).1.symm
  ·have:=(hc (by omega)).1;omega
 have hc92: ¬ (q=34/\c=92):=by
  rintro⟨hq34,rfl⟩;by_cases h:n<128
  ·have:=(ha h).1;exact h2 hq34 this.symm
  ·have:=(hc (by omega)).1;have e92:(92:UInt8).toNat=92:=rfl;omega
 unfold stp;rw[if_neg hne,hg,if_neg hcq,if_neg hc92,fst_enc hs r,if_pos hm,fk_enc hs r];have el:(u8s (byt n)).length=(byt n).length:=by simp[u8s]
 rw[<-el,List.take_left]
end Quo
namespace Quo
open Utf
theorem rdF_item {q:UInt8} {e r o:List UInt8} (h:stp q (e++r)=(1,o,e.length)) (f at_:Nat) (out:List UInt8):rdF q (f+1) (e++r) at_ out=rdF q f r (at_+e.length) (out++o):=by
 rw[rdF,h];simp only[if_neg (show ¬ (1=0) by decide),if_pos,List.drop_left]
theorem rdF_end {q:UInt8} {l:List UInt8} (h:(stp q l).1=0) (f at_:Nat) (out:List UInt8):rdF q (f+1) l at_ out=(out,at_+1,0,0):=by
 rw[rdF,if_pos h]
theorem stp_end (q:UInt8) (r:List UInt8) (h:q=39->r.head?≠some 39):stp q (q::r)=(0,[],1):=by
 unfold stp;have hg:(q::r).getD 0 0=q:=rfl;rw[if_neg (by simp),hg,if_pos rfl];rw[if_neg];rintro⟨h1,h2,h3⟩;refine h h1 ?_
 cases r with
 | nil=>simp at h2
 | cons a r=>simp at h3;simp[h3]
/-! ### single quotes -/
theorem u8s_39:u8s (byt 39)=[39]:=by decide
theorem bytes_cons (n:Int) (zs:List Int):u8s (bytes (n::zs))=u8s (byt n)++u8s (bytes zs):=by simp[bytes,u8s]
theorem u8s_len (l:List Int):(u8s l).length=l.length:=by simp[u8s]
/-! ### double quotes -/
theorem dig_hxd:∀ d:Fin 16,dig (hxd d.1)=(d.1:Int):=by decide
theorem hexR_hexL:∀ (k n:Nat) (r:List UInt8) (acc:Nat),hexR k (hexL k n++r) (acc:Int)=(((acc*16 ^ k+n % 16 ^ k:Nat):Int),0)
 | 0,n,r,acc=>by simp[hexR,hexL,Nat.mod_one]
 | k+1,n,r,acc=>by
  have hd:=dig_hxd ⟨n / 16 ^ k % 16,Nat.mod_lt _ (by decide)⟩;simp only at hd;have e:hexL (k+1) n++r=hxd (n / 16 ^ k % 16)::(hexL k n++r):=rfl;rw[e,hexR,hd,if_neg (by omega)];have e2:((acc:Int)*16+((n / 16 ^ k % 16:Nat):Int))=((acc*16+n / 16 ^ k % 16:Nat):Int):=by omega
  rw[e2,hexR_hexL k n r]
  have e3:(acc*16+n / 16 ^ k % 16)*16 ^ k+n % 16 ^ k=acc*16 ^ (k+1)+n % 16 ^ (k+1):=by
   rw[Nat.pow_succ,Nat.mod_mul,Nat.add_mul,Nat.mul_assoc,Nat.mul_comm 16 (16 ^ k),Nat.mul_comm (n / 16 ^ k % 16) (16 ^ k)];omega
  rw[e3]
theorem hexL_len:∀ (k n:Nat),(hexL k n).length=k
 | 0,_=>rfl
 | k+1,n=>by simp[hexL,hexL_len k n]
theorem escH_read {n:Int} (hs:sgn n=true) (k:Nat) (hk:n.toNat<16 ^ k) (c:UInt8) (r:List UInt8):escH (92::c::hexL k n.toNat++r) k=(n,2+k,0):=by
 have hb:=sgn_bd hs;have e:(92::c::hexL k n.toNat++r).drop 2=hexL k n.toNat++r:=rfl;have q:=hexR_hexL k n.toNat r 0;rw[Nat.mod_eq_of_lt hk,Nat.zero_mul,Nat.zero_add]at q
 have q2:hexR k (hexL k n.toNat++r) 0=(n,0):=by
  refine Eq.trans q ?_;rw[Int.toNat_of_nonneg hb.1]
 unfold escH;rw[e,q2];simp[hs]
theorem stp_esc {n:Int} {e r:List UInt8} (h0:e.getD 0 0=92) (h1:2<=e.length) (h:escR (e++r)=(n,e.length,0)):stp 34 (e++r)=(1,u8s (byt n),e.length):=by
 unfold stp;have hne:e++r≠[]:=by intro q;rw[(List.append_eq_nil_iff.1 q).1]at h1;simp at h1
 have hg:(e++r).getD 0 0=92:=by
  cases e with
  | nil=>simp at h1
  | cons a e=>exact h0
 rw[if_neg hne,hg,if_neg (by decide),if_pos ⟨rfl,rfl⟩,h,if_pos rfl]
theorem escR_long (l:List UInt8) (h:2<=l.length): ¬ l.length<2:=by omega
theorem stp_dbl {n:Int} (hs:sgn n=true) (r:List UInt8):stp 34 (esc n++r)=(1,u8s (byt n),(esc n).length):=by
 have hb:=sgn_bd hs;unfold esc;split
 ·rename_i h;subst h;exact stp_esc rfl (by decide) (by unfold escR;simp)
 split
 ·rename_i h;subst h;exact stp_esc rfl (by decide) (by unfold escR;simp)
 split
 ·rename_i h;subst h;exact stp_esc rfl (by decide) (by unfold escR;simp)
 split
 ·rename_i h;subst h;exact stp_esc rfl (by decide) (by unfold escR;simp)
 split
 ·rename_i h;subst h;exact stp_esc rfl (by decide) (by unfold escR;simp)
 split
 ·rename_i h;subst h;exact stp_esc rfl (by decide) (by unfold escR;simp)
 rename_i n34 n92 n9 n10 n13 n0;split
 ·rename_i hm;rw[stp_sign hs hm 34 (.inr rfl) n34 (fun _=>n92),u8s_len]
 split
 ·refine stp_esc rfl (by simp) ?_;unfold escR;rw[if_neg (escR_long _ (by simp))];have hg:(92::120::hexL 2 n.toNat++r).getD 1 0=120:=rfl;rw[hg];simp only[show (120:UInt8)≠34 by decide,show (120:UInt8)≠92 by decide,show (120:UInt8)≠110 by decide,show (120:UInt8)≠116 by decide,show (120:UInt8)≠114 by decide,show (120:UInt8)≠48 by decide,if_false,if_true];rw[escH_read hs 2 (by omega)];simp[hexL_len]
 split
 ·refine stp_esc rfl (by simp) ?_;unfold escR;rw[if_neg (escR_long _ (by simp))];have hg:(92::117::hexL 4 n.toNat++r).getD 1 0=117:=rfl;rw[hg];simp only[show (117:UInt8)≠34 by decide,show (117:UInt8)≠92 by decide,show (117:UInt8)≠110 by decide,show (117:UInt8)≠116 by decide,show (117:UInt8)≠114 by decide,show (117:UInt8)≠48 by decide,show (117:UInt8)≠120 by decide,if_false,if_true];rw[escH_read hs 4 (by omega)];simp[hexL_len]
 ·refine stp_esc rfl (by simp) ?_;unfold escR;rw[if_neg (escR_long _ (by simp))];have hg:(92::85::hexL 8 n.toNat++r).getD 1 0=85:=rfl;rw[hg];simp only[show (85:UInt8)≠34 by decide,show (85:UInt8)≠92 by decide,show (85:UInt8)≠110 by decide,show (85:UInt8)≠116 by decide,show (85:UInt8)≠114 by decide,show (85:UInt8)≠48 by decide,show (85:UInt8)≠120 by decide,show (85:UInt8)≠117 by decide,if_false,if_true];rw[escH_read hs 8 (by omega)];simp[hexL_len]
theorem ite_len {p:Prop} [Decidable p] {a b:List UInt8} (ha:1<=a.length) (hb:1<=b.length):1<=(if p then a else b).length:=by split<;>assumption
theorem esc_len (n:Int):1<=(esc n).length:=by
 unfold esc;exact ite_len (by simp) (ite_len (by simp) (ite_len (by simp) (ite_len (by simp) (ite_len (by simp) (ite_len (by simp) (ite_len (by rw[u8s_len];exact(byt_len n).1) (ite_len (by simp) (ite_len (by simp) (by simp)))))))))
theorem rdF_double:∀ (zs:List Int),(∀ n∈zs,sgn n=true)->∀ (rest:List UInt8) (f at_:Nat) (out:List UInt8),(escs zs).length+1<=f ->
  rdF 34 f (escs zs++34::rest) at_ out=(out++u8s (bytes zs),at_+(escs zs).length+1,0,0)
 | [],_,rest,f,at_,out,hf=>by
  obtain⟨f,rfl⟩:∃ g,f=g+1:=⟨f-1,by omega⟩;have e:escs []=[]:=rfl;rw[e,List.nil_append,rdF_end (by rw[stp_end 34 rest (fun q=>by cases q)])];simp[bytes,u8s]
 | n::zs,h,rest,f,at_,out,hf=>by
  have hs:=h n (by simp);have e:escs (n::zs)=esc n++escs zs:=rfl;rw[e]at hf |-;have h1:=esc_len n;rw[List.length_append]at hf;obtain⟨f,rfl⟩:∃ g,f=g+1:=⟨f-1,by omega⟩;rw[List.append_assoc,rdF_item (stp_dbl hs _),rdF_double zs (fun m hm=>h m (by simp[hm])) rest f _ _ (by omega),bytes_cons];refine Prod.ext (by simp) (Prod.ext ?_ rfl);simp only[List.length_append];omega
theorem rd_double (l rest:List UInt8) (h:(dec l).2=none):rd (dbl l++rest)=(l,(dbl l).length,0,0):=by
 obtain⟨h1,h2⟩:=(dec_sound l.length l (Nat.le_refl _)).1 h;have h3:∀ n∈(dec l).1,sgn n=true:=fun n hn=>by unfold allS at h1;exact List.all_eq_true.1 h1 n hn
 have e:dbl l++rest=34::(escs (dec l).1++34::rest):=by simp[dbl]
 rw[e];have q:=rdF_double _ h3 rest (34::(escs (dec l).1++34::rest)).length 1 [] (by simp);rw[h2]at q;unfold rd;rw[if_neg (by simp),if_pos (.inr rfl)];refine Eq.trans q ?_;simp[dbl];omega
end Quo
namespace Quo
open Utf
/-! ### what is read is a text -/
theorem hexR_len:∀ (k:Nat) (l:List UInt8) (acc:Int),(hexR k l acc).2=0->k<=l.length
 | 0,_,_,_=>Nat.zero_le _
 | k+1,[],acc,h=>by simp[hexR]at h
 | k+1,c::r,acc,h=>by
  rw[hexR]at h;split at h
  ·simp at h
  ·have:=hexR_len k r _ h;simp only[List.length_cons];omega
theorem escH_ok {l:List UInt8} {k:Nat} (hl:2<=l.length) (h:(escH l k).2.2=0):sgn (escH l k).1=true/\1<=(escH l k).2.1/\(escH l k).2.1<=l.length:=by
 unfold escH at h |-;by_cases h1:(hexR k (l.drop 2) 0).2=0
 ·rw[if_pos h1]at h |-;by_cases h2:sgn (hexR k (l.drop 2) 0).1=true
  ·rw[if_pos h2];have:=hexR_len _ _ _ h1;rw[List.length_drop]at this;refine⟨h2,?_,?_⟩<;>simp only<;>omega
  ·rw[if_neg h2]at h;simp at h
 ·rw[if_neg h1]at h;exact absurd h h1
theorem escR_ok {l:List UInt8} (h:(escR l).2.2=0):sgn (escR l).1=true/\1<=(escR l).2.1/\(escR l).2.1<=l.length:=by
 unfold escR at h |-;by_cases hl:l.length<2
 ·rw[if_pos hl]at h;simp at h
 rw[if_neg hl]at h |-;generalize l.getD 1 0=c at *;by_cases h1:c=34
 ·rw[if_pos h1];exact⟨by decide,by decide,by simp only;omega⟩
 rw[if_neg h1]at h |-;by_cases h2:c=92
 ·rw[if_pos h2];exact⟨by decide,by decide,by simp only;omega⟩
 rw[if_neg h2]at h |-;by_cases h3:c=110
 ·rw[if_pos h3];exact⟨by decide,by decide,by simp only;omega⟩
 rw[if_neg h3]at h |-;by_cases h4:c=116
 ·rw[if_pos h4];exact⟨by decide,by decide,by simp only;omega⟩
 rw[if_neg h4]at h |-;by_cases h5:c=114
 ·rw[if_pos h5];exact⟨by decide,by decide,by simp only;omega⟩
 rw[if_neg h5]at h |-;by_cases h6:c=48
 ·rw[if_pos h6];exact⟨by decide,by decide,by simp only;omega⟩
 rw[if_neg h6]at h |-;by_cases h7:c=120
 ·rw[if_pos h7]at h |-;exact escH_ok (by omega) h
 rw[if_neg h7]at h |-;by_cases h8:c=117
 ·rw[if_pos h8]at h |-;exact escH_ok (by omega) h
 rw[if_neg h8]at h |-;by_cases h9:c=85
 ·rw[if_pos h9]at h |-;exact escH_ok (by omega) h
 rw[if_neg h9]at h;simp at h
theorem hexR_ne:∀ (k:Nat) (l:List UInt8) (acc:Int),(hexR k l acc).2≠1
 | 0,l,acc=>by simp[hexR]
 | k+1,[],acc=>by simp[hexR]
 | k+1,c::r,acc=>by
  rw[hexR];split
  ·simp
  ·exact hexR_ne k r _
theorem ite_ne {p:Prop} [Decidable p] {a b:Int × Nat × Nat} (ha:a.2.2≠1) (hb:b.2.2≠1):(if p then a else b).2.2≠1:=by split<;>assumption
theorem escH_ne (l:List UInt8) (k:Nat):(escH l k).2.2≠1:=by
 unfold escH;exact ite_ne (ite_ne (by simp) (by simp)) (hexR_ne k _ _)
theorem escR_ne (l:List UInt8):(escR l).2.2≠1:=by
 unfold escR;exact ite_ne (by simp) (ite_ne (by simp) (ite_ne (by simp) (ite_ne (by simp) (ite_ne (by simp) (ite_ne (by simp) (ite_ne (by simp) (ite_ne (escH_ne l 2) (ite_ne (escH_ne l 4) (ite_ne (escH_ne l 8) (by simp))))))))))
theorem may_fst {l:List UInt8} (h:may (fst l).1=true):0<=(fst l).1:=by
 have:=(fst_bd l).1;by_cases e:(fst l).1= -1
 ·rw[e,may_neg]at h;cases h
 ·omega
theorem stp_out {q:UInt8} {l:List UInt8} (h:(stp q l).1=1):∃ n,sgn n=true/\(stp q l).2.1=u8s (byt n)/\1<=(stp q l).2.2/\(stp q l).2.2<=l.length:=by
 unfold stp at h |-;by_cases h1:l=[]
 ·rw[if_pos h1]at h;simp at h
 rw[if_neg h1]at h |-;by_cases h2:l.getD 0 0=q
 ·rw[if_pos h2]at h |-;by_cases h3:q=39/\1<l.length/\l.getD 1 0=39
  ·rw[if_pos h3];exact⟨39,by decide,u8s_39.symm,by decide,by simp only;omega⟩
  ·rw[if_neg h3]at h;simp at h
 rw[if_neg h2]at h |-;by_cases h4:q=34/\l.getD 0 0=92
 ·rw[if_pos h4]at h |-;by_cases h5:(escR l).2.2=0
  ·rw[if_pos h5];obtain⟨a,b,c⟩:=escR_ok h5;exact⟨_,a,rfl,b,c⟩
  ·rw[if_neg h5]at h;exact absurd h (escR_ne l)
 rw[if_neg h4]at h |-;by_cases h6:may (fst l).1=true
 ·rw[if_pos h6];have h0:=may_fst h6;obtain⟨s1,s2,s3⟩:=fst_sound l h0;have hk:fk l=(byt (fst l).1).length:=by unfold fk;rw[s2];simp
  have hp:=fk_pos l h1;refine⟨_,s1,?_,hp.1,hp.2.1⟩;simp only;rw[hk];have e:(u8s (byt (fst l).1)).length=(byt (fst l).1).length:=u8s_len _;generalize u8s (byt (fst l).1)=U at *;generalize (byt (fst l).1).length=B at *;rw[s3,<-e,List.take_left]
 ·rw[if_neg h6]at h;simp at h
theorem rdF_means (q:UInt8):∀ (f:Nat) (l:List UInt8) (at_:Nat) (out:List UInt8),(∃ zs,allS zs=true/\out=u8s (bytes zs))->(rdF q f l at_ out).2.2.1=0 ->
  (∃ zs,allS zs=true/\(rdF q f l at_ out).1=u8s (bytes zs))/\at_+1<=(rdF q f l at_ out).2.1/\(rdF q f l at_ out).2.1<=at_+l.length
 | 0,l,at_,out,ho,h=>by simp[rdF]at h
 | f+1,l,at_,out,ho,h=>by
  rw[rdF]at h |-;by_cases h1:(stp q l).1=0
  ·rw[if_pos h1];refine⟨ho,Nat.le_refl _,?_⟩;have:l≠[]:=by rintro rfl;simp[stp]at h1
   have:=List.length_pos_iff.2 this;simp only;omega
  rw[if_neg h1]at h |-;by_cases h2:(stp q l).1=1
  ·rw[if_pos h2]at h |-;obtain⟨n,hs,e,k1,k2⟩:=stp_out h2;obtain⟨zs,hz,ho⟩:=ho;obtain⟨a,b,c⟩:=rdF_means q f _ _ _ ⟨zs++[n],by unfold allS at hz |-;simp[hz,hs],by rw[ho,e];simp[bytes,u8s]⟩ h;rw[List.length_drop]at c;exact⟨a,by omega,by omega⟩
  rw[if_neg h2]at h;split at h
  ·simp at h
  ·exact absurd h h1
theorem rd_means (l:List UInt8) (h:(rd l).2.2.1=0):(dec (rd l).1).2=none/\2<=(rd l).2.1/\(rd l).2.1<=l.length:=by
 unfold rd at h |-;by_cases h1:l=[]
 ·rw[if_pos h1]at h;simp at h
 rw[if_neg h1]at h |-;by_cases h2:l.getD 0 0=39\/l.getD 0 0=34
 ·rw[if_pos h2]at h |-;obtain⟨⟨zs,hz,e⟩,b,c⟩:=rdF_means _ _ _ _ [] ⟨[],rfl,rfl⟩ h;have hp:=List.length_pos_iff.2 h1;rw[List.length_drop]at c;refine⟨?_,b,by omega⟩;rw[e,(dec_enc zs hz).1]
 ·rw[if_neg h2]at h;simp at h
theorem rdF_none (q:UInt8):∀ (f:Nat) (l:List UInt8) (at_:Nat) (out:List UInt8),(rdF q f l at_ out).2.2.1≠0->(rdF q f l at_ out).1=[]/\(rdF q f l at_ out).2.1=0
 | 0,l,at_,out,h=>⟨rfl,rfl⟩
 | f+1,l,at_,out,h=>by
  rw[rdF]at h |-;by_cases h1:(stp q l).1=0
  ·rw[if_pos h1]at h;exact absurd rfl h
  rw[if_neg h1]at h |-;by_cases h2:(stp q l).1=1
  ·rw[if_pos h2]at h |-;exact rdF_none q f _ _ _ h
  rw[if_neg h2]at h |-;split<;>exact⟨rfl,rfl⟩
theorem rd_none (l:List UInt8) (h:(rd l).2.2.1≠0):(rd l).1=[]/\(rd l).2.1=0:=by
 unfold rd at h |-;split
 ·exact⟨rfl,rfl⟩
 rename_i h1;rw[if_neg h1]at h;split
 ·rename_i h2;rw[if_pos h2]at h;exact rdF_none _ _ _ _ _ h
 ·exact⟨rfl,rfl⟩
/-! ### printable -/
end Quo
end Go.Proofs.YtidhpmcmbooaoaaGreatDoor
