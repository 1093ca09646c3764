/- . -/
import Derived.Test.YtidhpmcmbooaoaaGreatDoorR00UtfPlain
import Derived.Laws.Strings2
import Derived.Lib.ItoaNum
import Derived.Lib.AtoiAll
set_option linter.unusedSimpArgs false
set_option linter.unusedVariables false
namespace Go.Proofs.YtidhpmcmbooaoaaGreatDoor
namespace Rws
open Utf
def mk (l:List UInt8):ByteArray:=⟨l.toArray⟩
theorem mk_data (l:List UInt8):(mk l).data.toList=l:=by simp[mk]
theorem mk_size (l:List UInt8):(mk l).size=l.length:=by simp[mk,ByteArray.size]
theorem mk_of (s:ByteArray):mk s.data.toList=s:=by simp[mk]
theorem mk_inj {a b:List UInt8} (h:mk a=mk b):a=b:=by rw[<-mk_data a,h,mk_data]
theorem mk_ext (l:List UInt8) (i j:Nat):(mk l).extract i j=mk ((l.drop i).take (j-i)):=by
 have h:=ByteArray.extract_mk l i j;unfold mk;rw[h]
theorem mk_get (l:List UInt8) (k:Nat) (h:k<(mk l).size):(mk l)[k]'h=l[k]'(by rw[mk_size]at h;exact h):=by
 simp[mk,ByteArray.getElem_eq_getElem_data]
def sp (b:UInt8):Bool:=b==32 || b==9
def is32 (b:UInt8):Bool:=b==32
def trL (l:List UInt8):List UInt8:=l.dropWhile is32
def trR (p:UInt8->Bool) (l:List UInt8):List UInt8:=(l.reverse.dropWhile p).reverse
theorem trR_snoc (p:UInt8->Bool) (l:List UInt8) (b:UInt8):trR p (l++[b])=if p b=true then trR p l else l++[b]:=by
 unfold trR;rw[List.reverse_append,List.reverse_cons,List.reverse_nil,List.nil_append,List.singleton_append,List.dropWhile_cons];split
 ·rfl
 ·simp
theorem trR_len (p:UInt8->Bool) (l:List UInt8):(trR p l).length<=l.length:=by
 unfold trR;rw[List.length_reverse];exact Nat.le_trans (List.dropWhile_sublist _).length_le (by simp)
def not10 (b:UInt8):Bool:=b != 10
def bef (l:List UInt8):List UInt8:=l.takeWhile not10
def has (c:UInt8) (l:List UInt8):Bool:=l.any (· == c)
def chop (l:List UInt8):List UInt8:=if l.getLast?=some 13 then l.dropLast else l
def line (l:List UInt8):List UInt8:=if has 10 l=true then chop (bef l)else l
def idx (c:UInt8) (l:List UInt8):Int:=if has c l=true then ((l.takeWhile (· != c)).length:Int)else -1
theorem idx_no {c:UInt8} {l:List UInt8} (h:has c l=false):idx c l= -1:=by unfold idx;rw[h];rfl
theorem idx_yes {c:UInt8} {l:List UInt8} (h:has c l=true):idx c l=((l.takeWhile (· != c)).length:Int):=by unfold idx;rw[h];rfl
theorem take_lt {c:UInt8} {l:List UInt8} (h:has c l=true):(l.takeWhile (· != c)).length<l.length:=by
 induction l with
 | nil=>cases h
 | cons b r ih =>
  rw[List.takeWhile_cons];split
  ·rename_i hb
   have:has c r=true:=by
    simp only[has,List.any_cons,Bool.or_eq_true]at h;rcases h with h | h
    ·have:b=c:=by simpa using h
     subst this;simp at hb
    ·exact h
   have:=ih this;simp;omega
  ·simp
def col (l:List UInt8):Nat:=l.length-(trL l).length
def text (l:List UInt8):List UInt8:=trR is32 (trL l)
def emp (t:List UInt8):Bool:=t.head?==none || t.head?==some 35
def bad (l:List UInt8):Bool:=has 13 l || (chk l).isSome
def wr (l:List UInt8):Int:=if bad l=true then 8 else if (!emp (text l) && (text l).head?==some 9)=true then 9 else 0
def hx:Bool->List UInt8->Nat
 | _,[]=>0
 | q,b::r=>if (b==35 && q)=true then 0 else hx (sp b) r+1
def note (l:List UInt8):List UInt8:=trR sp (l.take (hx true l))
def at0 (l:List UInt8) (i:Nat):Bool:=i==0 || sp (l.getD (i-1) 0)
theorem hx_at (l:List UInt8) (i:Nat) (h:i<l.length):hx (at0 l i) (l.drop i)=if (l.getD i 0==35 && at0 l i)=true then 0 else hx (at0 l (i+1)) (l.drop (i+1))+1:=by
 have e:l.drop i=l.getD i 0::l.drop (i+1):=by
  rw[List.getD_eq_getElem?_getD,List.getElem?_eq_getElem h];simp
 have e2:at0 l (i+1)=sp (l.getD i 0):=by simp[at0]
 rw[e,hx,e2]
end Rws
namespace Pln
open Utf Rws
def flows:List UInt8:=[44,91,93,123,125]
def marks:List UInt8:=[63,58,44,91,93,123,125,35,38,42,33,124,62,39,34,37,64,96]
def fl (b:UInt8):Bool:=has b flows
def mrk (b:UInt8):Bool:=has b marks
def en (l:List UInt8) (f:Bool) (i:Nat):Bool :=
 if (l.getD i 0==58)=true then (i+1==l.length || l.getD (i+1) 0==32 || (f && fl (l.getD (i+1) 0)))
 else if (l.getD i 0==35)=true then (decide (0<i) && l.getD (i-1) 0==32)
 else (f && fl (l.getD i 0))
def fro (l:List UInt8) (f:Bool):Nat->Nat->Nat
 | 0,i=>i
 | k+1,i=>if en l f i=true then i else fro l f k (i+1)
def fin (l:List UInt8) (f:Bool):Nat:=fro l f l.length 0
def cutT (l:List UInt8) (f:Bool):List UInt8:=trR is32 (l.take (fin l f))
def bg (l:List UInt8):Bool:= !(l==[]) && !(l==[45]) && !(l==[45,45,45]) && !(l.getD 0 0==32) && !(mrk (l.getD 0 0)) && !(l.take 2==[45,32])
def pri (l:List UInt8):Bool:=(chk l).isNone && !(has 9 l || has 10 l || has 13 l)
def isP (l:List UInt8) (f:Bool):Bool:=pri l && bg l && !(l.getD (l.length-1) 0==32) && (fin l f==l.length)
theorem fro_le (l:List UInt8) (f:Bool) (k i:Nat):fro l f k i<=i+k:=by
 induction k generalizing i with
 | zero=>exact Nat.le_refl _
 | succ k ih =>
  unfold fro;split
  ·omega
  ·have:=ih (i+1);omega
theorem fin_le (l:List UInt8) (f:Bool):fin l f<=l.length:=by have:=fro_le l f l.length 0;unfold fin;omega
theorem fro_no (l:List UInt8) (f:Bool) (k i:Nat):∀ j,i<=j->j<fro l f k i->en l f j=false:=by
 induction k generalizing i with
 | zero=>intro j h1 h2;unfold fro at h2;omega
 | succ k ih =>
  intro j h1 h2;unfold fro at h2;split at h2
  ·omega
  ·rename_i hn;by_cases e:j=i
   ·subst e;simpa using hn
   ·exact ih (i+1) j (by omega) h2
theorem fin_no (l:List UInt8) (f:Bool) (j:Nat) (h:j<fin l f):en l f j=false:=fro_no l f l.length 0 j (Nat.zero_le _) h
theorem fro_at (l:List UInt8) (f:Bool) (k i:Nat) (h:fro l f k i<i+k):en l f (fro l f k i)=true:=by
 induction k generalizing i with
 | zero=>unfold fro at h;omega
 | succ k ih =>
  unfold fro at h |-;split
  ·rename_i hn;exact hn
  ·rename_i hn;rw[if_neg hn]at h;exact ih (i+1) (by omega)
theorem fin_at (l:List UInt8) (f:Bool) (h:fin l f<l.length):en l f (fin l f)=true:=fro_at l f l.length 0 (by unfold fin at h;omega)
theorem fin_uniq (l:List UInt8) (f:Bool) (e:Nat) (h:e<=l.length) (hn:∀ j,j<e->en l f j=false) (ha:e=l.length\/en l f e=true):fin l f=e:=by
 rcases Nat.lt_trichotomy (fin l f) e with h1 | h1 | h1
 ·have h2:=fin_at l f (by omega);rw[hn _ h1]at h2;cases h2
 ·exact h1
 ·have h2:=fin_le l f;rcases ha with ha | ha
  ·omega
  ·rw[fin_no l f e h1]at ha;cases ha
theorem fin_len (l:List UInt8) (f:Bool):(fin l f==l.length)=true ↔ ∀ j,j<l.length->en l f j=false:=by
 rw[beq_iff_eq];constructor
 ·intro h j hj;exact fin_no l f j (by omega)
 ·intro h;exact fin_uniq l f _ (Nat.le_refl _) h (.inl rfl)
theorem en_flow (l:List UInt8) (i:Nat) (h:en l false i=true):en l true i=true:=by
 unfold en at h |-;by_cases c1:(l.getD i 0==58)=true
 ·rw[if_pos c1]at h |-;simp only[Bool.false_and,Bool.or_false]at h;rw[h];rfl
 ·rw[if_neg c1]at h |-;by_cases c2:(l.getD i 0==35)=true
  ·rw[if_pos c2]at h |-;exact h
  ·rw[if_neg c2]at h |-;simp at h
theorem en_of_flow (l:List UInt8) (i:Nat) (h:en l true i=false):en l false i=false:=by
 cases e:en l false i
 ·rfl
 ·rw[en_flow l i e]at h;cases h
theorem isP_flow (l:List UInt8) (h:isP l true=true):isP l false=true:=by
 unfold isP at h |-;simp only[Bool.and_eq_true]at h |-;refine⟨h.1,?_⟩;rw[fin_len];intro j hj;exact en_of_flow l j ((fin_len l true).1 h.2 j hj)
theorem isP_ne {l:List UInt8} {f:Bool} (h:isP l f=true):l≠[]:=by
 rintro rfl;unfold isP bg at h;simp at h
theorem isP_last {l:List UInt8} {f:Bool} (h:isP l f=true):(l.getD (l.length-1) 0==32)=false:=by
 unfold isP at h;simp only[Bool.and_eq_true]at h;simpa using h.1.2
theorem isP_fin {l:List UInt8} {f:Bool} (h:isP l f=true):fin l f=l.length:=by
 unfold isP at h;simp only[Bool.and_eq_true]at h;simpa using h.2
theorem trR_keep (p:UInt8->Bool) (l:List UInt8) (h0:l≠[]) (h:p (l.getD (l.length-1) 0)=false):trR p l=l:=by
 have e:l=l.dropLast++[l.getLast h0]:=(List.dropLast_concat_getLast h0).symm;have hl:0<l.length:=List.length_pos_iff.2 h0
 have e2:l.getD (l.length-1) 0=l.getLast h0:=by
  rw[List.getD_eq_getElem?_getD,List.getElem?_eq_getElem (by omega),List.getLast_eq_getElem];rfl
 rw[e2]at h;rw[e,trR_snoc,h];simp
theorem cutT_whole {l:List UInt8} {f:Bool} (h:isP l f=true):cutT l f=l:=by
 unfold cutT;rw[isP_fin h,List.take_length];exact trR_keep is32 l (isP_ne h) (isP_last h)
theorem getD_app_left (a b:List UInt8) (i:Nat) (h:i<a.length):(a++b).getD i 0=a.getD i 0:=by
 rw[List.getD_eq_getElem?_getD,List.getD_eq_getElem?_getD,List.getElem?_append_left h]
theorem getD_app_right (a b:List UInt8) (i:Nat):(a++b).getD (a.length+i) 0=b.getD i 0:=by
 rw[List.getD_eq_getElem?_getD,List.getD_eq_getElem?_getD,List.getElem?_append_right (by omega)];congr 2;omega
theorem trR_last (p:UInt8->Bool) (l:List UInt8) (h0:l≠[]):trR p l=if p (l.getLast h0)=true then trR p l.dropLast else l:=by
 have e:l.dropLast++[l.getLast h0]=l:=List.dropLast_concat_getLast h0;have h:=trR_snoc p l.dropLast (l.getLast h0);rw[e]at h;exact h
theorem trR_take (p:UInt8->Bool) (l:List UInt8):∃ n,n<=l.length/\trR p l=l.take n:=by
 generalize hk:l.length=k
 induction k generalizing l with
 | zero =>
  obtain rfl:l=[]:=List.eq_nil_iff_length_eq_zero.2 hk;exact⟨0,Nat.le_refl _,rfl⟩
 | succ k ih =>
  have h0:l≠[]:=by rintro rfl;simp at hk
  have hd:l.dropLast.length=k:=by rw[List.length_dropLast];omega
  rw[trR_last p l h0];cases hp:p (l.getLast h0)
  ·refine⟨k+1,Nat.le_refl _,?_⟩;rw[List.take_of_length_le (by omega)];rfl
  ·obtain⟨n,hn,he⟩:=ih l.dropLast hd;refine⟨n,by omega,?_⟩;rw[if_pos rfl,he,List.dropLast_eq_take,List.take_take];congr 1;omega
theorem cutT_take (l:List UInt8) (f:Bool):∃ n,n<=fin l f/\cutT l f=l.take n:=by
 have hf:=fin_le l f;obtain⟨n,hn,he⟩:=trR_take is32 (l.take (fin l f));rw[List.length_take]at hn;refine⟨n,by omega,?_⟩;unfold cutT;rw[he,List.take_take];congr 1;omega
theorem cutT_len (l:List UInt8) (f:Bool):(cutT l f).length<=fin l f:=by
 obtain⟨n,hn,he⟩:=cutT_take l f;rw[he,List.length_take];omega
theorem cut_ahead (t s:List UInt8) (f:Bool) (h:isP t f=true):fin (t++[58,32]++s) f=t.length/\cutT (t++[58,32]++s) f=t:=by
 have hfin:fin (t++[58,32]++s) f=t.length:=by
  have hf:=isP_fin h
  have g0:(t++[58,32]++s).getD t.length 0=58:=by
   rw[List.append_assoc];exact getD_app_right t ([58,32]++s) 0
  have g1:(t++[58,32]++s).getD (t.length+1) 0=32:=by
   rw[List.append_assoc];exact getD_app_right t ([58,32]++s) 1
  refine fin_uniq _ _ _ (by simp) (fun j hj=> ?_) (.inr ?_)
  ·have hno:en t f j=false:=fin_no t f j (by omega);have g2:(t++[58,32]++s).getD j 0=t.getD j 0:=by rw[List.append_assoc];exact getD_app_left _ _ _ hj
   have g3:(t++[58,32]++s).getD (j-1) 0=t.getD (j-1) 0:=by rw[List.append_assoc];exact getD_app_left _ _ _ (by omega)
   unfold en at hno |-;rw[g2,g3];by_cases c1:(t.getD j 0==58)=true
   ·rw[if_pos c1]at hno |-;simp only[Bool.or_eq_false_iff,Bool.and_eq_false_iff]at hno
    have hj1:j+1<t.length:=by
     have:=hno.1.1;simp at this;omega
    have g4:(t++[58,32]++s).getD (j+1) 0=t.getD (j+1) 0:=by rw[List.append_assoc];exact getD_app_left _ _ _ hj1
    have e1:(j+1==(t++[58,32]++s).length)=false:=by simp;omega
    rw[g4,e1,hno.1.2];simp;rcases hno.2 with h2 | h2
    ·simp[h2]
    ·simp at h2;simp[h2]
   ·rw[if_neg c1]at hno |-;exact hno
  ·unfold en;rw[g0,g1];simp
 refine⟨hfin,?_⟩;unfold cutT;rw[hfin,List.append_assoc,List.take_append_of_le_length (Nat.le_refl _),List.take_length];exact trR_keep is32 t (isP_ne h) (isP_last h)
end Pln
namespace Pln
open Utf Rws
def inI (v:Int):Prop:= -9223372036854775808<=v/\v<=9223372036854775807
def numA (l:List UInt8):Option Int :=
 match Lib.atoiAll l with
 | .ok v=>if Lib.itoa v=l then some v else none
 | _=>none
def numN (l:List UInt8):Int:=(numA l).getD 0
def numB (l:List UInt8):Bool:=(numA l).isSome
def dig (b:UInt8):Bool:=decide (48<=b.toNat) && decide (b.toNat<=57)
theorem numA_ok {l:List UInt8} {v:Int} (h:Lib.atoiAll l=.ok v):numA l=if Lib.itoa v=l then some v else none:=by unfold numA;rw[h]
theorem numA_no {l:List UInt8} (h:∀ v,Lib.atoiAll l≠.ok v):numA l=none:=by
 unfold numA;split
 ·rename_i v hv;exact absurd hv (h v)
 ·rfl
theorem atoi_in {l:List UInt8} {v:Int} (h:Lib.atoiAll l=.ok v):inI v:=by
 unfold Lib.atoiAll at h;split at h
 ·cases h
 ·simp only at h;split at h
  ·cases h
  ·cases h
  ·split at h
   ·cases h
   ·split at h
    ·cases h
    ·injection h with h
     unfold inI;rw[<-h];split<;>omega
theorem numA_some {l:List UInt8} {v:Int} (h:numA l=some v):Lib.itoa v=l/\inI v:=by
 unfold numA at h;split at h
 ·rename_i u hu;split at h
  ·rename_i he;injection h with h
   subst h;exact⟨he,atoi_in hu⟩
  ·cases h
 ·cases h
theorem dd_small {u:Nat} (h:u<10):Lib.decDigits u=[UInt8.ofNat (48+u)]:=by rw[Lib.decDigits,dif_pos h]
theorem dd_big {u:Nat} (h: ¬ u<10):Lib.decDigits u=Lib.decDigits (u / 10)++[UInt8.ofNat (48+u % 10)]:=by rw[Lib.decDigits,dif_neg h]
theorem of48 (d:Nat) (h:d<10):(UInt8.ofNat (48+d)).toNat=48+d:=by
 rw[UInt8.toNat_ofNat'];omega
theorem dd_dig (u:Nat):(Lib.decDigits u).all dig=true/\Lib.decDigits u≠[]:=by
 induction u using Nat.strongRecOn with
 | ind u ih =>
  by_cases hu:u<10
  ·have e:=of48 u hu;rw[dd_small hu];refine⟨?_,by simp⟩;simp only[List.all_cons,List.all_nil,Bool.and_true,dig,e];simp;omega
  ·have e:=of48 (u % 10) (by omega);rw[dd_big hu];refine⟨?_,by simp⟩;rw[List.all_append,(ih (u / 10) (by omega)).1];simp only[List.all_cons,List.all_nil,Bool.and_true,dig,e];simp;omega
theorem dd_head (u:Nat):∃ c r,Lib.decDigits u=c::r/\dig c=true:=by
 obtain⟨h1,h2⟩:=dd_dig u
 cases h:Lib.decDigits u with
 | nil=>exact absurd h h2
 | cons c r=>rw[h]at h1;simp only[List.all_cons,Bool.and_eq_true]at h1;exact⟨c,r,rfl,h1.1⟩
theorem itoa_pos {v:Int} (h:0<=v):Lib.itoa v=Lib.decDigits v.toNat:=by unfold Lib.itoa;rw[if_neg (by omega)]
theorem itoa_neg {v:Int} (h:v<0):Lib.itoa v=45::Lib.decDigits v.natAbs:=by unfold Lib.itoa;rw[if_pos h]
def dg (b:UInt8):Bool:=b==45 || dig b
theorem dg_bd {b:UInt8} (h:dg b=true):45<=b.toNat/\b.toNat<=57/\(b.toNat=45\/48<=b.toNat):=by
 unfold dg dig at h;simp at h;rcases h with rfl | h
 ·decide
 ·omega
theorem dg_prn {b:UInt8} (h:dg b=true):prn (b.toNat:Int)=true:=by
 have:=dg_bd h;unfold prn inR;simp;omega
theorem fst_ascii (b:UInt8) (r:List UInt8) (h:b.toNat<128):fst (b::r)=((b.toNat:Int),1):=by
 have h1:hdL b=1:=by unfold hdL;rw[if_pos h]
 have h2:hdV b=b.toNat:=by unfold hdV;rw[if_pos h]
 have e:(b::r).getD 0 0=b:=rfl
 have:=fst_yes (b::r) (by rw[e,h1];omega) (by rw[e,h1];simp;omega) (by
  rw[e,h1];refine⟨rfl,?_,?_⟩
  ·show sgn (hdV b)=true;rw[h2];unfold sgn inR;simp;omega
  ·show wid (hdV b)=1;rw[h2];unfold wid;rw[if_pos (by omega)])
 rw[this,e,h1];show (hdV b,(1:Int))=_;rw[h2]
theorem chk_ascii (l:List UInt8) (h:∀ b∈l,b.toNat<128/\prn (b.toNat:Int)=true):chk l=none:=by
 induction l with
 | nil=>rfl
 | cons b r ih =>
  obtain⟨h1,h2⟩:=h b (by simp);rw[chk_next (b::r) (by simp)];have hf:=fst_ascii b r h1;have hk:fk (b::r)=1:=by unfold fk;rw[hf];rfl
  rw[hf,if_pos h2,hk];simp only[List.drop_succ_cons,List.drop_zero];rw[ih (fun x hx=>h x (by simp[hx]))];rfl
theorem getD_mem (l:List UInt8) (i:Nat) (h:i<l.length):l.getD i 0∈l:=by
 rw[List.getD_eq_getElem?_getD,List.getElem?_eq_getElem h];exact List.getElem_mem h
theorem has_no (c:UInt8) (l:List UInt8) (h:∀ b∈l,b≠c):has c l=false:=by
 unfold has;rw[List.any_eq_false];intro x hx;simpa using h x hx
theorem dg_fl {b:UInt8} (h:dg b=true):fl b=false:=by
 have hb:=dg_bd h;refine has_no b flows (fun x hx e=> ?_);subst e;unfold flows at hx;simp at hx;rcases hx with rfl | rfl | rfl | rfl | rfl<;>simp at hb
theorem dg_mrk {b:UInt8} (h:dg b=true):mrk b=false:=by
 have hb:=dg_bd h;refine has_no b marks (fun x hx e=> ?_);subst e;unfold marks at hx;simp at hx;rcases hx with rfl | rfl | rfl | rfl | rfl | rfl | rfl | rfl | rfl | rfl | rfl | rfl | rfl | rfl | rfl | rfl | rfl | rfl<;>simp at hb
theorem dg_ne {b:UInt8} (h:dg b=true) (c:UInt8) (hc:c.toNat<45\/57<c.toNat):(b==c)=false:=by
 rw[beq_eq_false_iff_ne];rintro rfl;have:=dg_bd h;omega
theorem isP_dg (l:List UInt8) (f:Bool) (h:∀ b∈l,dg b=true) (h0:l≠[]) (h1:l≠[45]) (h3:l≠[45,45,45]):isP l f=true:=by
 have hl:0<l.length:=List.length_pos_iff.2 h0;have hpos:∀ i,i<l.length->dg (l.getD i 0)=true:=fun i hi=>h _ (getD_mem l i hi)
 have hhas:∀ c:UInt8,(c.toNat<45\/57<c.toNat)->has c l=false:=fun c hc=>has_no c l (fun b hb e=>by
  have:=dg_ne (h b hb) c hc;simp[e]at this)
 unfold isP;simp only[Bool.and_eq_true];refine⟨⟨⟨?_,?_⟩,?_⟩,?_⟩
 ·unfold pri;rw[chk_ascii l (fun b hb=>⟨by have:=dg_bd (h b hb);omega,dg_prn (h b hb)⟩),hhas 9 (by decide),hhas 10 (by decide),hhas 13 (by decide)];rfl
 ·unfold bg;rw[dg_mrk (hpos 0 hl),dg_ne (hpos 0 hl) 32 (by decide)];have e1:(l==[])=false:=by simpa using h0
  have e2:(l==[45])=false:=by simpa using h1
  have e3:(l==[45,45,45])=false:=by simpa using h3
  have e4:(l.take 2==[45,32])=false:=by
   rw[beq_eq_false_iff_ne];intro e;have hm:(32:UInt8)∈l.take 2:=by rw[e];simp
   have:=h 32 (List.mem_of_mem_take hm);revert this;decide
  rw[e1,e2,e3,e4];rfl
 ·rw[dg_ne (hpos _ (by omega)) 32 (by decide)];rfl
 ·rw[fin_len];intro j hj;unfold en;have c1: ¬ (l.getD j 0==58)=true:=by rw[dg_ne (hpos j hj) 58 (by decide)];simp
  have c2: ¬ (l.getD j 0==35)=true:=by rw[dg_ne (hpos j hj) 35 (by decide)];simp
  rw[if_neg c1,if_neg c2,dg_fl (hpos j hj)];simp
theorem itoa_dg (v:Int):(∀ b∈Lib.itoa v,dg b=true)/\Lib.itoa v≠[]/\Lib.itoa v≠[45]/\Lib.itoa v≠[45,45,45]:=by
 have hd:∀ u,∀ b∈Lib.decDigits u,dg b=true:=fun u b hb=>by
  have:=List.all_eq_true.1 (dd_dig u).1 b hb;unfold dg;rw[this];simp
 have h45:∀ u r,Lib.decDigits u≠45::r:=fun u r e=>by
  obtain⟨c,r',e',hc⟩:=dd_head u;rw[e]at e';injection e' with e1 e2
  rw[<-e1]at hc;revert hc;decide
 by_cases hv:0<=v
 ·rw[itoa_pos hv];exact⟨hd _,(dd_dig _).2,h45 _ _,h45 _ _⟩
 ·rw[itoa_neg (by omega)];refine⟨?_,by simp,?_,?_⟩
  ·intro b hb;rcases List.mem_cons.1 hb with rfl | hb
   ·rfl
   ·exact hd _ b hb
  ·intro e;injection e with _ e;exact(dd_dig _).2 e
  ·intro e;injection e with _ e;exact h45 _ _ e
theorem itoa_isP (v:Int) (f:Bool):isP (Lib.itoa v) f=true:=by
 obtain⟨h,h0,h1,h3⟩:=itoa_dg v;exact isP_dg _ f h h0 h1 h3
end Pln
namespace Flw
open Utf Rws Pln
abbrev Ln:=List UInt8
structure Tr where
 kind:Int
 text:List UInt8
 anc:List UInt8
 kids:List Tr
abbrev Fa:=Nat × Nat
abbrev Ot (α:Type):=Except Fa α
def bnd {α β:Type} (x:Ot α) (f:α->Ot β):Ot β:=match x with | .ok a=>f a | .error e=>.error e
theorem bnd_ok {α β:Type} (a:α) (f:α->Ot β):bnd (.ok a) f=f a:=rfl
theorem bnd_inv {α β:Type} {x:Ot α} {f:α->Ot β} {b:β} (h:bnd x f=.ok b):∃ a,x=.ok a/\f a=.ok b:=by
 cases x with
 | ok a=>exact⟨a,rfl,h⟩
 | error e=>cases h
theorem ite_inv {α:Type} {p:Prop} [Decidable p] {e:Fa} {x:Ot α} {b:α} (h:(if p then .error e else x)=.ok b): ¬ p/\x=.ok b:=by
 by_cases c:p
 ·rw[if_pos c]at h;cases h
 ·rw[if_neg c]at h;exact⟨c,h⟩
def letter (c:UInt8):Bool:=(decide (97<=c.toNat) && decide (c.toNat<=122)) || (decide (65<=c.toNat) && decide (c.toNat<=90)) || (decide (48<=c.toNat) && decide (c.toNat<=57)) || c==45 || c==95
def isName (l:Ln):Bool:=l.all letter && decide (1<=l.length) && decide (l.length<=32)
def knd (l:Ln):Int :=
 if (l==[] || l==[126] || l==[110,117,108,108])=true then 1
 else if (l==[116,114,117,101] || l==[102,97,108,115,101])=true then 2
 else if numB l=true then 3 else 4
def hd (l:Ln):UInt8:=l.getD 0 0
def stands (l:Ln):Fa:=if l=[]then (4,0)else (3,l.length)
def gaps (l:Ln):Ln:=l.dropWhile is32
def nam (l:Ln):Ot (Ln × Ln) :=
 if ((l.takeWhile letter).take 32).length=0\/letter (hd (l.drop ((l.takeWhile letter).take 32).length))=true then .error (stands (l.drop ((l.takeWhile letter).take 32).length))
 else .ok ((l.takeWhile letter).take 32,l.drop ((l.takeWhile letter).take 32).length)
def word (l:Ln):Int :=
 if l=[110,117,108,108]then 1 else if l=[98,111,111,108]then 2 else if l=[105,110,116]then 3
 else if l=[115,116,114]then 4 else if l=[115,101,113]then 5 else if l=[109,97,112]then 6 else 0
def tag (l:Ln):Ot (Int × Ln) :=
 if word (l.takeWhile letter)=0 then .error (stands l)else .ok (word (l.takeWhile letter),l.drop (l.takeWhile letter).length)
def gap (f:Bool) (l:Ln):Ot Ln :=
 if l≠[]/\hd l≠32/\ ¬ (f=true/\fl (hd l)=true)then .error (3,l.length)else .ok (gaps l)
structure Pr where
 anc:Ln
 tag:Int
 at_:Nat
 some:Bool
def p0:Pr:=⟨[],0,0,false⟩
def prp (f:Bool):Nat->Pr->Ln->Ot (Pr × Ln)
 | 0,p,l=>.ok (p,l)
 | n+1,p,l =>
  if hd l=38/\p.anc=[]then
   bnd (nam (l.drop 1)) fun x=>bnd (gap f x.2) fun r=>prp f n ⟨x.1,p.tag,p.at_,true⟩ r
  else if hd l=33/\hd (l.drop 1)=33/\p.tag=0 then
   bnd (tag (l.drop 2)) fun x=>bnd (gap f x.2) fun r=>prp f n ⟨p.anc,x.1,l.length,true⟩ r
  else .ok (p,l)
def quoted (l:Ln):Ot (Ln × Ln) :=
 if (Quo.rd l).2.2.1≠0 then .error ((Quo.rd l).2.2.1,l.length-(Quo.rd l).2.2.2)else .ok ((Quo.rd l).1,l.drop (Quo.rd l).2.1)
def plain (f:Bool) (l:Ln):Ot (Ln × Ln) :=
 if cutT l f≠[]/\isP (cutT l f) f=false then .error (3,l.length)else .ok (cutT l f,l.drop (cutT l f).length)
def leaf (k:Int) (s anc:Ln):Tr:=⟨k,if k=1 then []else s,anc,[]⟩
def fits (s:Ln) (q:Bool) (p:Pr):Ot Tr :=
 if p.tag=4 then .ok (leaf 4 s p.anc)
 else if p.tag≠0 then (if knd s≠p.tag then .error (12,p.at_)else .ok (leaf p.tag s p.anc))
 else .ok (leaf (if q then 4 else knd s) s p.anc)
def key (l:Ln):Ot (Tr × Ln) :=
 if hd l=39\/hd l=34 then bnd (quoted l) fun x=>.ok (⟨4,x.1,[],[]⟩,x.2)
 else bnd (plain true l) fun x=>if x.1=[]then .error (stands l)else .ok (leaf (knd x.1) x.1 [],x.2)
def colon (l:Ln):Bool:=hd l==58 && (decide (l.length<=1) || hd (l.drop 1)==32 || fl (hd (l.drop 1)))
def endOf (map:Bool):UInt8:=if map then 125 else 93
def part (v:Ln->Ot (Tr × Ln)) (map:Bool) (l:Ln):Ot (List Tr × Ln) :=
 if map then bnd (key l) fun k=>if colon (gaps k.2)=false then .error (stands (gaps k.2))else bnd (v ((gaps k.2).drop 1)) fun x=>.ok ([k.1,x.1],x.2)
 else if l=[]\/hd l=44 then .error (stands l)else bnd (v l) fun x=>.ok ([x.1],x.2)
def lst (v:Ln->Ot (Tr × Ln)) (map:Bool):Nat->Ln->Ot (List Tr × Ln)
 | 0,l=>.error (stands l)
 | n+1,l =>
  if hd (gaps l)=endOf map then .ok ([],(gaps l).drop 1)
  else bnd (part v map (gaps l)) fun x =>
   if hd (gaps x.2)=44 then bnd (lst v map n ((gaps x.2).drop 1)) fun y=>.ok (x.1++y.1,y.2)
   else if hd (gaps x.2)=endOf map then .ok (x.1,(gaps x.2).drop 1)else .error (stands (gaps x.2))
def kindOf (map:Bool):Int:=if map then 6 else 5
def body (inner:Option (Ln->Ot (Tr × Ln))) (f:Bool) (p:Pr) (l:Ln):Ot (Tr × Ln) :=
 if hd l=42 then (if p.some=true then .error (stands l)else bnd (nam (l.drop 1)) fun x=>.ok (⟨7,[],x.1,[]⟩,x.2))
 else if hd l=91\/hd l=123 then
  match inner with
  | none=>.error (10,l.length)
  | some v=>bnd (lst v (hd l==123) l.length (l.drop 1)) fun x =>
    if p.tag≠0/\p.tag≠kindOf (hd l==123)then .error (12,p.at_)else .ok (⟨kindOf (hd l==123),[],p.anc,x.1⟩,x.2)
 else if hd l=39\/hd l=34 then bnd (quoted l) fun x=>bnd (fits x.1 true p) fun t=>.ok (t,x.2)
 else bnd (plain f l) fun x=>bnd (fits x.1 false p) fun t=>.ok (t,x.2)
def vstep (inner:Option (Ln->Ot (Tr × Ln))) (f:Bool) (l:Ln):Ot (Tr × Ln):=bnd (prp f 3 p0 (gaps l)) fun x=>body inner f x.1 x.2
def val:Nat->Bool->Ln->Ot (Tr × Ln)
 | 0,f,l=>vstep none f l
 | d+1,f,l=>vstep (some fun m=>val d true m) f l
def tr0:Tr:=⟨0,[],[],[]⟩
def read (l:Ln) (f:Bool):Tr × Nat × Nat × Nat :=
 match val 64 f l with
 | .ok x=>(x.1,(trR is32 (l.take (l.length-x.2.length))).length,0,0)
 | .error e=>(tr0,0,e.1,l.length-e.2)
def whole (l:Ln):Tr × Nat × Nat :=
 if l.length>65536 then (tr0,5,0)
 else match val 64 false l with
  | .ok x=>if gaps x.2=[]then (x.1,0,0)else (tr0,3,l.length-(gaps x.2).length)
  | .error e=>(tr0,e.1,l.length-e.2)
def scl (f:Bool) (k:Int) (s:Ln):Ln :=
 if k=1 then [110,117,108,108]else if k=2\/k=3 then s
 else if k=4 then (if isP s f=true/\knd s=4 then s else if (dec s).2=none then Quo.dbl s else [])else []
def sep (map:Bool) (i:Nat):Ln:=if i=0 then []else if map=true/\i % 2=1 then [58,32]else [44,32]
def jn (map:Bool):Nat->List Ln->Ln
 | _,[]=>[]
 | i,k::ks=>sep map i++k++jn map (i+1) ks
def ancW (a:Ln):Ln:=if a=[]then []else 38::(a++[32])
def wstep (inner:Tr->Ln) (t:Tr):Ln :=
 if t.kind=7 then 42::t.anc
 else if 1<=t.kind/\t.kind<=4 then ancW t.anc++scl true t.kind t.text
 else ancW t.anc++((if t.kind=6 then 123 else 91)::(jn (decide (t.kind=6)) 0 (t.kids.map inner)++[if t.kind=6 then 125 else 93]))
def wrt:Nat->Tr->Ln
 | 0,t=>wstep (fun _=>[]) t
 | d+1,t=>wstep (fun k=>wrt d k) t
def txt (k:Int) (s:Ln):Bool :=
 if k=2 then s==[116,114,117,101] || s==[102,97,108,115,101]
 else if k=3 then decide (knd s=3)else if k=4 then (dec s).2.isNone else s==[]
def isKey (t:Tr):Bool:=decide (1<=t.kind) && decide (t.kind<=4) && t.anc==[]
def keysOk:Nat->List Tr->Bool
 | _,[]=>true
 | i,k::ks=>(!(i % 2==0) || isKey k) && keysOk (i+1) ks
def rstep (inner:Option (Tr->Bool)) (t:Tr):Bool :=
 decide (1<=t.kind) && decide (t.kind<=7) && ((t.anc==[] && !decide (t.kind=7)) || isName t.anc) && txt t.kind t.text &&
 (if t.kind≠5/\t.kind≠6 then t.kids.isEmpty
  else match inner with
  | none=>false
  | some v=>(!decide (t.kind=6) || (t.kids.length % 2==0 && keysOk 0 t.kids)) && t.kids.all v)
def rgt:Nat->Tr->Bool
 | 0,t=>rstep none t
 | d+1,t=>rstep (some fun k=>rgt d k) t
def cntT:Nat->Tr->Nat
 | 0,_=>1
 | d+1,t=>1+(t.kids.map fun k=>cntT d k).sum
theorem hd_nil:hd []=0:=rfl
theorem hd_cons (b:UInt8) (r:Ln):hd (b::r)=b:=rfl
theorem gaps_32 (r:Ln):gaps (32::r)=gaps r:=rfl
theorem gaps_cons {b:UInt8} (r:Ln) (h:b≠32):gaps (b::r)=b::r:=by
 have:is32 b=false:=by simpa [is32]using h
 simp[gaps,List.dropWhile,this]
theorem gaps_gaps (l:Ln):gaps (gaps l)=gaps l:=by
 induction l with
 | nil=>rfl
 | cons b r ih =>
  by_cases h:b=32
  ·subst h;rw[gaps_32,ih]
  ·rw[gaps_cons r h,gaps_cons r h]
theorem gaps_len (l:Ln):(gaps l).length<=l.length:=by
 induction l with
 | nil=>exact Nat.le_refl _
 | cons b r ih =>
  by_cases h:b=32
  ·subst h;rw[gaps_32];simp only[List.length_cons];omega
  ·rw[gaps_cons r h];exact Nat.le_refl _
theorem gaps_of {l:Ln} (h:hd l≠32):gaps l=l:=by
 cases l with
 | nil=>rfl
 | cons b r=>exact gaps_cons r h
theorem val_gaps (d:Nat) (f:Bool) (l:Ln):val d f (gaps l)=val d f l:=by
 cases d<;> · unfold val vstep;rw[gaps_gaps]
end Flw
end Go.Proofs.YtidhpmcmbooaoaaGreatDoor
