/- . -/
import Derived.Test.YtalijhclfppohaaGreatDoorR00UtfPlain
import Derived.Laws.Strings2
import Derived.Lib.ItoaNum
import Derived.Lib.AtoiAll
set_option linter.unusedSimpArgs false
set_option linter.unusedVariables false
namespace Go.Proofs.YtalijhclfppohaaGreatDoor
namespace Rws
open Utf
def mk (l:List UInt8):ByteArray:=⟨l.toArray⟩
theorem mk_data (l:List UInt8):(mk l).data.toList=l:=by simp[mk]
theorem mk_size (l:List UInt8):(mk l).size=l.length:=by simp[mk,ByteArray.size]
theorem mk_of (s:ByteArray):mk s.data.toList=s:=by simp[mk]
theorem mk_ex (s:ByteArray):∃ l,s=mk l:=⟨_,(mk_of s).symm⟩
theorem mk_inj {a b:List UInt8} (h:mk a=mk b):a=b:=by rw[<-mk_data a,h,mk_data]
theorem mk_ext (l:List UInt8) (i j:Nat):(mk l).extract i j=mk ((l.drop i).take (j-i)):=by
 have h:=ByteArray.extract_mk l i j;unfold mk;rw[h]
theorem mk_get (l:List UInt8) (k:Nat) (h:k<(mk l).size):(mk l)[k]'h=l[k]'(by rw[mk_size]at h;exact h):=by
 simp[mk,ByteArray.getElem_eq_getElem_data]
def sp (b:UInt8):Bool:=b==32 || b==9
def is32 (b:UInt8):Bool:=b==32
def trL (l:List UInt8):List UInt8:=l.dropWhile is32
def trR (p:UInt8->Bool) (l:List UInt8):List UInt8:=(l.reverse.dropWhile p).reverse
theorem trR_snoc (p:UInt8->Bool) (l:List UInt8) (b:UInt8):trR p (l++[b])=if p b=true then trR p l else l++[b]:=by
 unfold trR;rw[List.reverse_append,List.reverse_cons,List.reverse_nil,List.nil_append,List.singleton_append,List.dropWhile_cons];split
 ·rfl
 ·simp
theorem trL_len (l:List UInt8):(trL l).length<=l.length:=(List.dropWhile_sublist _).length_le
theorem trR_len (p:UInt8->Bool) (l:List UInt8):(trR p l).length<=l.length:=by
 unfold trR;rw[List.length_reverse];exact Nat.le_trans (List.dropWhile_sublist _).length_le (by simp)
def not10 (b:UInt8):Bool:=b != 10
def bef (l:List UInt8):List UInt8:=l.takeWhile not10
def aft (l:List UInt8):List UInt8:=l.drop ((bef l).length+1)
def has (c:UInt8) (l:List UInt8):Bool:=l.any (· == c)
def chop (l:List UInt8):List UInt8:=if l.getLast?=some 13 then l.dropLast else l
def line (l:List UInt8):List UInt8:=if has 10 l=true then chop (bef l)else l
def lnsF:Nat->List UInt8->List (List UInt8)
 | 0,_=>[]
 | f+1,l=>if l=[]then []else line l::lnsF f (aft l)
def lns (l:List UInt8):List (List UInt8):=lnsF l.length l
theorem aft_len (l:List UInt8) (h:l≠[]):(aft l).length<l.length:=by
 have:0<l.length:=List.length_pos_iff.2 h;unfold aft;rw[List.length_drop];omega
theorem lnsF_eq (f:Nat):∀ l:List UInt8,l.length<=f->lnsF f l=lnsF l.length l:=by
 induction f using Nat.strongRecOn with
 | ind f ih =>
  intro l hl;by_cases e:l=[]
  ·subst e;cases f<;>simp[lnsF]
  ·have hp:=aft_len l e
   cases f with
   | zero=>omega
   | succ f =>
    obtain⟨m,hm⟩:∃ m,l.length=m+1:=⟨l.length-1,by omega⟩;rw[hm];simp only[lnsF,if_neg e];rw[ih f (by omega) _ (by omega)];by_cases hmf:m=f
    ·subst hmf;rw[ih m (by omega) _ (by omega)]
    ·rw[ih m (by omega) _ (by omega)]
theorem lns_nil:lns []=[]:=rfl
theorem lns_next (l:List UInt8) (h:l≠[]):lns l=line l::lns (aft l):=by
 have hp:=aft_len l h;unfold lns;obtain⟨m,hm⟩:∃ m,l.length=m+1:=⟨l.length-1,by omega⟩;rw[hm];simp only[lnsF,if_neg h];rw[lnsF_eq m _ (by omega)]
theorem bef_len (l:List UInt8):(bef l).length<=l.length:=(List.takeWhile_sublist _).length_le
theorem chop_len (l:List UInt8):(chop l).length<=l.length:=by unfold chop;split<;>simp
theorem line_len (l:List UInt8):(line l).length<=l.length:=by
 unfold line;split
 ·exact Nat.le_trans (chop_len _) (bef_len _)
 ·exact Nat.le_refl _
theorem lns_len (n:Nat):∀ l:List UInt8,l.length<=n->(lns l).length<=l.length:=by
 induction n with
 | zero=>intro l hl;obtain rfl:l=[]:=List.eq_nil_iff_length_eq_zero.2 (by omega);simp[lns_nil]
 | succ n ih =>
  intro l hl;by_cases e:l=[]
  ·subst e;simp[lns_nil]
  ·have hp:=aft_len l e;have:=ih (aft l) (by omega);rw[lns_next l e,List.length_cons];omega
theorem lns_mem_len (n:Nat):∀ l:List UInt8,l.length<=n->∀ x∈lns l,x.length<=l.length:=by
 induction n with
 | zero=>intro l hl;obtain rfl:l=[]:=List.eq_nil_iff_length_eq_zero.2 (by omega);simp[lns_nil]
 | succ n ih =>
  intro l hl;by_cases e:l=[]
  ·subst e;simp[lns_nil]
  ·have hp:=aft_len l e;intro x hx;rw[lns_next l e]at hx;rcases List.mem_cons.1 hx with rfl | hx
   ·exact line_len l
   ·have:=ih (aft l) (by omega) x hx;omega
theorem bef_take (l:List UInt8):l.take (bef l).length=bef l:=by
 induction l with
 | nil=>rfl
 | cons b r ih =>
  unfold bef at *;rw[List.takeWhile_cons];split
  ·simp[ih]
  ·simp
def idx (c:UInt8) (l:List UInt8):Int:=if has c l=true then ((l.takeWhile (· != c)).length:Int)else -1
theorem idx_no {c:UInt8} {l:List UInt8} (h:has c l=false):idx c l= -1:=by unfold idx;rw[h];rfl
theorem idx_yes {c:UInt8} {l:List UInt8} (h:has c l=true):idx c l=((l.takeWhile (· != c)).length:Int):=by unfold idx;rw[h];rfl
theorem take_lt {c:UInt8} {l:List UInt8} (h:has c l=true):(l.takeWhile (· != c)).length<l.length:=by
 induction l with
 | nil=>cases h
 | cons b r ih =>
  rw[List.takeWhile_cons];split
  ·rename_i hb
   have:has c r=true:=by
    simp only[has,List.any_cons,Bool.or_eq_true]at h;rcases h with h | h
    ·have:b=c:=by simpa using h
     subst this;simp at hb
    ·exact h
   have:=ih this;simp;omega
  ·simp
def col (l:List UInt8):Nat:=l.length-(trL l).length
def text (l:List UInt8):List UInt8:=trR is32 (trL l)
def emp (t:List UInt8):Bool:=t.head?==none || t.head?==some 35
def bad (l:List UInt8):Bool:=has 13 l || (chk l).isSome
def wr (l:List UInt8):Int:=if bad l=true then 8 else if (!emp (text l) && (text l).head?==some 9)=true then 9 else 0
def flt:Nat->List (List UInt8)->Int × Int
 | _,[]=>(0,0)
 | k,l::r=>if wr l=0 then flt (k+1) r else (wr l,k)
def okay (L:List (List UInt8)):Bool:=L.all fun l=>wr l==0
theorem flt_ok (L:List (List UInt8)) (h:okay L=true) (k:Nat):flt k L=(0,0):=by
 induction L generalizing k with
 | nil=>rfl
 | cons l r ih =>
  simp only[okay,List.all_cons,Bool.and_eq_true]at h;rw[flt,if_pos (by simpa using h.1)];exact ih h.2 _
theorem flt_app (A:List (List UInt8)) (hA:okay A=true) (B:List (List UInt8)) (k:Nat):flt k (A++B)=flt (k+A.length) B:=by
 induction A generalizing k with
 | nil=>simp
 | cons l r ih =>
  simp only[okay,List.all_cons,Bool.and_eq_true]at hA;rw[List.cons_append,flt,if_pos (by simpa using hA.1),ih hA.2,List.length_cons];congr 1;omega
theorem flt_bad (A:List (List UInt8)) (hA:okay A=true) (l:List UInt8) (hl:wr l≠0) (B:List (List UInt8)) (k:Nat):flt k (A++l::B)=(wr l,((k+A.length:Nat):Int)):=by
 rw[flt_app A hA,flt,if_neg hl]
def hx:Bool->List UInt8->Nat
 | _,[]=>0
 | q,b::r=>if (b==35 && q)=true then 0 else hx (sp b) r+1
def note (l:List UInt8):List UInt8:=trR sp (l.take (hx true l))
def at0 (l:List UInt8) (i:Nat):Bool:=i==0 || sp (l.getD (i-1) 0)
theorem hx_at (l:List UInt8) (i:Nat) (h:i<l.length):hx (at0 l i) (l.drop i)=if (l.getD i 0==35 && at0 l i)=true then 0 else hx (at0 l (i+1)) (l.drop (i+1))+1:=by
 have e:l.drop i=l.getD i 0::l.drop (i+1):=by
  rw[List.getD_eq_getElem?_getD,List.getElem?_eq_getElem h];simp
 have e2:at0 l (i+1)=sp (l.getD i 0):=by simp[at0]
 rw[e,hx,e2]
end Rws
namespace Pln
open Utf Rws
def flows:List UInt8:=[44,91,93,123,125]
def marks:List UInt8:=[63,58,44,91,93,123,125,35,38,42,33,124,62,39,34,37,64,96]
def fl (b:UInt8):Bool:=has b flows
def mrk (b:UInt8):Bool:=has b marks
def en (l:List UInt8) (f:Bool) (i:Nat):Bool :=
 if (l.getD i 0==58)=true then (i+1==l.length || l.getD (i+1) 0==32 || (f && fl (l.getD (i+1) 0)))
 else if (l.getD i 0==35)=true then (decide (0<i) && l.getD (i-1) 0==32)
 else (f && fl (l.getD i 0))
def fro (l:List UInt8) (f:Bool):Nat->Nat->Nat
 | 0,i=>i
 | k+1,i=>if en l f i=true then i else fro l f k (i+1)
def fin (l:List UInt8) (f:Bool):Nat:=fro l f l.length 0
def cutT (l:List UInt8) (f:Bool):List UInt8:=trR is32 (l.take (fin l f))
def bg (l:List UInt8):Bool:= !(l==[]) && !(l==[45]) && !(l==[45,45,45]) && !(l.getD 0 0==32) && !(mrk (l.getD 0 0)) && !(l.take 2==[45,32])
def pri (l:List UInt8):Bool:=(chk l).isNone && !(has 9 l || has 10 l || has 13 l)
def isP (l:List UInt8) (f:Bool):Bool:=pri l && bg l && !(l.getD (l.length-1) 0==32) && (fin l f==l.length)
theorem fro_le (l:List UInt8) (f:Bool) (k i:Nat):fro l f k i<=i+k:=by
 induction k generalizing i with
 | zero=>exact Nat.le_refl _
 | succ k ih =>
  unfold fro;split
  ·omega
  ·have:=ih (i+1);omega
theorem fin_le (l:List UInt8) (f:Bool):fin l f<=l.length:=by have:=fro_le l f l.length 0;unfold fin;omega
theorem fro_no (l:List UInt8) (f:Bool) (k i:Nat):∀ j,i<=j->j<fro l f k i->en l f j=false:=by
 induction k generalizing i with
 | zero=>intro j h1 h2;unfold fro at h2;omega
 | succ k ih =>
  intro j h1 h2;unfold fro at h2;split at h2
  ·omega
  ·rename_i hn;by_cases e:j=i
   ·subst e;simpa using hn
   ·exact ih (i+1) j (by omega) h2
theorem fin_no (l:List UInt8) (f:Bool) (j:Nat) (h:j<fin l f):en l f j=false:=fro_no l f l.length 0 j (Nat.zero_le _) h
theorem fro_at (l:List UInt8) (f:Bool) (k i:Nat) (h:fro l f k i<i+k):en l f (fro l f k i)=true:=by
 induction k generalizing i with
 | zero=>unfold fro at h;omega
 | succ k ih =>
  unfold fro at h |-;split
  ·rename_i hn;exact hn
  ·rename_i hn;rw[if_neg hn]at h;exact ih (i+1) (by omega)
theorem fin_at (l:List UInt8) (f:Bool) (h:fin l f<l.length):en l f (fin l f)=true:=fro_at l f l.length 0 (by unfold fin at h;omega)
theorem fin_uniq (l:List UInt8) (f:Bool) (e:Nat) (h:e<=l.length) (hn:∀ j,j<e->en l f j=false) (ha:e=l.length\/en l f e=true):fin l f=e:=by
 rcases Nat.lt_trichotomy (fin l f) e with h1 | h1 | h1
 ·have h2:=fin_at l f (by omega);rw[hn _ h1]at h2;cases h2
 ·exact h1
 ·have h2:=fin_le l f;rcases ha with ha | ha
  ·omega
  ·rw[fin_no l f e h1]at ha;cases ha
theorem trR_last (p:UInt8->Bool) (l:List UInt8) (h0:l≠[]):trR p l=if p (l.getLast h0)=true then trR p l.dropLast else l:=by
 have e:l.dropLast++[l.getLast h0]=l:=List.dropLast_concat_getLast h0;have h:=trR_snoc p l.dropLast (l.getLast h0);rw[e]at h;exact h
theorem trR_take (p:UInt8->Bool) (l:List UInt8):∃ n,n<=l.length/\trR p l=l.take n:=by
 generalize hk:l.length=k
 induction k generalizing l with
 | zero =>
  obtain rfl:l=[]:=List.eq_nil_iff_length_eq_zero.2 hk;exact⟨0,Nat.le_refl _,rfl⟩
 | succ k ih =>
  have h0:l≠[]:=by rintro rfl;simp at hk
  have hd:l.dropLast.length=k:=by rw[List.length_dropLast];omega
  rw[trR_last p l h0];cases hp:p (l.getLast h0)
  ·refine⟨k+1,Nat.le_refl _,?_⟩;rw[List.take_of_length_le (by omega)];rfl
  ·obtain⟨n,hn,he⟩:=ih l.dropLast hd;refine⟨n,by omega,?_⟩;rw[if_pos rfl,he,List.dropLast_eq_take,List.take_take];congr 1;omega
theorem cutT_take (l:List UInt8) (f:Bool):∃ n,n<=fin l f/\cutT l f=l.take n:=by
 have hf:=fin_le l f;obtain⟨n,hn,he⟩:=trR_take is32 (l.take (fin l f));rw[List.length_take]at hn;refine⟨n,by omega,?_⟩;unfold cutT;rw[he,List.take_take];congr 1;omega
theorem cutT_len (l:List UInt8) (f:Bool):(cutT l f).length<=fin l f:=by
 obtain⟨n,hn,he⟩:=cutT_take l f;rw[he,List.length_take];omega
end Pln
namespace Pln
open Utf Rws
def inI (v:Int):Prop:= -9223372036854775808<=v/\v<=9223372036854775807
def numA (l:List UInt8):Option Int :=
 match Lib.atoiAll l with
 | .ok v=>if Lib.itoa v=l then some v else none
 | _=>none
def numN (l:List UInt8):Int:=(numA l).getD 0
def numB (l:List UInt8):Bool:=(numA l).isSome
def dig (b:UInt8):Bool:=decide (48<=b.toNat) && decide (b.toNat<=57)
theorem numA_ok {l:List UInt8} {v:Int} (h:Lib.atoiAll l=.ok v):numA l=if Lib.itoa v=l then some v else none:=by unfold numA;rw[h]
theorem numA_no {l:List UInt8} (h:∀ v,Lib.atoiAll l≠.ok v):numA l=none:=by
 unfold numA;split
 ·rename_i v hv;exact absurd hv (h v)
 ·rfl
theorem atoi_in {l:List UInt8} {v:Int} (h:Lib.atoiAll l=.ok v):inI v:=by
 unfold Lib.atoiAll at h;split at h
 ·cases h
 ·simp only at h;split at h
  ·cases h
  ·cases h
  ·split at h
   ·cases h
   ·split at h
    ·cases h
    ·injection h with h
     unfold inI;rw[<-h];split<;>omega
theorem getD_mem (l:List UInt8) (i:Nat) (h:i<l.length):l.getD i 0∈l:=by
 rw[List.getD_eq_getElem?_getD,List.getElem?_eq_getElem h];exact List.getElem_mem h
end Pln
namespace Flw
open Utf Rws Pln
abbrev Ln:=List UInt8
structure Tr where
 kind:Int
 text:List UInt8
 anc:List UInt8
 kids:List Tr
abbrev Fa:=Nat × Nat
abbrev Ot (α:Type):=Except Fa α
def bnd {α β:Type} (x:Ot α) (f:α->Ot β):Ot β:=match x with | .ok a=>f a | .error e=>.error e
theorem bnd_ok {α β:Type} (a:α) (f:α->Ot β):bnd (.ok a) f=f a:=rfl
theorem bnd_inv {α β:Type} {x:Ot α} {f:α->Ot β} {b:β} (h:bnd x f=.ok b):∃ a,x=.ok a/\f a=.ok b:=by
 cases x with
 | ok a=>exact⟨a,rfl,h⟩
 | error e=>cases h
theorem ite_inv {α:Type} {p:Prop} [Decidable p] {e:Fa} {x:Ot α} {b:α} (h:(if p then .error e else x)=.ok b): ¬ p/\x=.ok b:=by
 by_cases c:p
 ·rw[if_pos c]at h;cases h
 ·rw[if_neg c]at h;exact⟨c,h⟩
def letter (c:UInt8):Bool:=(decide (97<=c.toNat) && decide (c.toNat<=122)) || (decide (65<=c.toNat) && decide (c.toNat<=90)) || (decide (48<=c.toNat) && decide (c.toNat<=57)) || c==45 || c==95
def isName (l:Ln):Bool:=l.all letter && decide (1<=l.length) && decide (l.length<=32)
def knd (l:Ln):Int :=
 if (l==[] || l==[126] || l==[110,117,108,108])=true then 1
 else if (l==[116,114,117,101] || l==[102,97,108,115,101])=true then 2
 else if numB l=true then 3 else 4
def hd (l:Ln):UInt8:=l.getD 0 0
def stands (l:Ln):Fa:=if l=[]then (4,0)else (3,l.length)
def gaps (l:Ln):Ln:=l.dropWhile is32
def nam (l:Ln):Ot (Ln × Ln) :=
 if ((l.takeWhile letter).take 32).length=0\/letter (hd (l.drop ((l.takeWhile letter).take 32).length))=true then .error (stands (l.drop ((l.takeWhile letter).take 32).length))
 else .ok ((l.takeWhile letter).take 32,l.drop ((l.takeWhile letter).take 32).length)
def word (l:Ln):Int :=
 if l=[110,117,108,108]then 1 else if l=[98,111,111,108]then 2 else if l=[105,110,116]then 3
 else if l=[115,116,114]then 4 else if l=[115,101,113]then 5 else if l=[109,97,112]then 6 else 0
def tag (l:Ln):Ot (Int × Ln) :=
 if word (l.takeWhile letter)=0 then .error (stands l)else .ok (word (l.takeWhile letter),l.drop (l.takeWhile letter).length)
def gap (f:Bool) (l:Ln):Ot Ln :=
 if l≠[]/\hd l≠32/\ ¬ (f=true/\fl (hd l)=true)then .error (3,l.length)else .ok (gaps l)
structure Pr where
 anc:Ln
 tag:Int
 at_:Nat
 some:Bool
def p0:Pr:=⟨[],0,0,false⟩
def prp (f:Bool):Nat->Pr->Ln->Ot (Pr × Ln)
 | 0,p,l=>.ok (p,l)
 | n+1,p,l =>
  if hd l=38/\p.anc=[]then
   bnd (nam (l.drop 1)) fun x=>bnd (gap f x.2) fun r=>prp f n ⟨x.1,p.tag,p.at_,true⟩ r
  else if hd l=33/\hd (l.drop 1)=33/\p.tag=0 then
   bnd (tag (l.drop 2)) fun x=>bnd (gap f x.2) fun r=>prp f n ⟨p.anc,x.1,l.length,true⟩ r
  else .ok (p,l)
def quoted (l:Ln):Ot (Ln × Ln) :=
 if (Quo.rd l).2.2.1≠0 then .error ((Quo.rd l).2.2.1,l.length-(Quo.rd l).2.2.2)else .ok ((Quo.rd l).1,l.drop (Quo.rd l).2.1)
def plain (f:Bool) (l:Ln):Ot (Ln × Ln) :=
 if cutT l f≠[]/\isP (cutT l f) f=false then .error (3,l.length)else .ok (cutT l f,l.drop (cutT l f).length)
def leaf (k:Int) (s anc:Ln):Tr:=⟨k,if k=1 then []else s,anc,[]⟩
def fits (s:Ln) (q:Bool) (p:Pr):Ot Tr :=
 if p.tag=4 then .ok (leaf 4 s p.anc)
 else if p.tag≠0 then (if knd s≠p.tag then .error (12,p.at_)else .ok (leaf p.tag s p.anc))
 else .ok (leaf (if q then 4 else knd s) s p.anc)
def key (l:Ln):Ot (Tr × Ln) :=
 if hd l=39\/hd l=34 then bnd (quoted l) fun x=>.ok (⟨4,x.1,[],[]⟩,x.2)
 else bnd (plain true l) fun x=>if x.1=[]then .error (stands l)else .ok (leaf (knd x.1) x.1 [],x.2)
def colon (l:Ln):Bool:=hd l==58 && (decide (l.length<=1) || hd (l.drop 1)==32 || fl (hd (l.drop 1)))
def endOf (map:Bool):UInt8:=if map then 125 else 93
def part (v:Ln->Ot (Tr × Ln)) (map:Bool) (l:Ln):Ot (List Tr × Ln) :=
 if map then bnd (key l) fun k=>if colon (gaps k.2)=false then .error (stands (gaps k.2))else bnd (v ((gaps k.2).drop 1)) fun x=>.ok ([k.1,x.1],x.2)
 else if l=[]\/hd l=44 then .error (stands l)else bnd (v l) fun x=>.ok ([x.1],x.2)
def lst (v:Ln->Ot (Tr × Ln)) (map:Bool):Nat->Ln->Ot (List Tr × Ln)
 | 0,l=>.error (stands l)
 | n+1,l =>
  if hd (gaps l)=endOf map then .ok ([],(gaps l).drop 1)
  else bnd (part v map (gaps l)) fun x =>
   if hd (gaps x.2)=44 then bnd (lst v map n ((gaps x.2).drop 1)) fun y=>.ok (x.1++y.1,y.2)
   else if hd (gaps x.2)=endOf map then .ok (x.1,(gaps x.2).drop 1)else .error (stands (gaps x.2))
def kindOf (map:Bool):Int:=if map then 6 else 5
def body (inner:Option (Ln->Ot (Tr × Ln))) (f:Bool) (p:Pr) (l:Ln):Ot (Tr × Ln) :=
 if hd l=42 then (if p.some=true then .error (stands l)else bnd (nam (l.drop 1)) fun x=>.ok (⟨7,[],x.1,[]⟩,x.2))
 else if hd l=91\/hd l=123 then
  match inner with
  | none=>.error (10,l.length)
  | some v=>bnd (lst v (hd l==123) l.length (l.drop 1)) fun x =>
    if p.tag≠0/\p.tag≠kindOf (hd l==123)then .error (12,p.at_)else .ok (⟨kindOf (hd l==123),[],p.anc,x.1⟩,x.2)
 else if hd l=39\/hd l=34 then bnd (quoted l) fun x=>bnd (fits x.1 true p) fun t=>.ok (t,x.2)
 else bnd (plain f l) fun x=>bnd (fits x.1 false p) fun t=>.ok (t,x.2)
def vstep (inner:Option (Ln->Ot (Tr × Ln))) (f:Bool) (l:Ln):Ot (Tr × Ln):=bnd (prp f 3 p0 (gaps l)) fun x=>body inner f x.1 x.2
def val:Nat->Bool->Ln->Ot (Tr × Ln)
 | 0,f,l=>vstep none f l
 | d+1,f,l=>vstep (some fun m=>val d true m) f l
def tr0:Tr:=⟨0,[],[],[]⟩
def read (l:Ln) (f:Bool):Tr × Nat × Nat × Nat :=
 match val 64 f l with
 | .ok x=>(x.1,(trR is32 (l.take (l.length-x.2.length))).length,0,0)
 | .error e=>(tr0,0,e.1,l.length-e.2)
def whole (l:Ln):Tr × Nat × Nat :=
 if l.length>65536 then (tr0,5,0)
 else match val 64 false l with
  | .ok x=>if gaps x.2=[]then (x.1,0,0)else (tr0,3,l.length-(gaps x.2).length)
  | .error e=>(tr0,e.1,l.length-e.2)
def sep (map:Bool) (i:Nat):Ln:=if i=0 then []else if map=true/\i % 2=1 then [58,32]else [44,32]
def txt (k:Int) (s:Ln):Bool :=
 if k=2 then s==[116,114,117,101] || s==[102,97,108,115,101]
 else if k=3 then decide (knd s=3)else if k=4 then (dec s).2.isNone else s==[]
def isKey (t:Tr):Bool:=decide (1<=t.kind) && decide (t.kind<=4) && t.anc==[]
def keysOk:Nat->List Tr->Bool
 | _,[]=>true
 | i,k::ks=>(!(i % 2==0) || isKey k) && keysOk (i+1) ks
def rstep (inner:Option (Tr->Bool)) (t:Tr):Bool :=
 decide (1<=t.kind) && decide (t.kind<=7) && ((t.anc==[] && !decide (t.kind=7)) || isName t.anc) && txt t.kind t.text &&
 (if t.kind≠5/\t.kind≠6 then t.kids.isEmpty
  else match inner with
  | none=>false
  | some v=>(!decide (t.kind=6) || (t.kids.length % 2==0 && keysOk 0 t.kids)) && t.kids.all v)
def rgt:Nat->Tr->Bool
 | 0,t=>rstep none t
 | d+1,t=>rstep (some fun k=>rgt d k) t
def cntT:Nat->Tr->Nat
 | 0,_=>1
 | d+1,t=>1+(t.kids.map fun k=>cntT d k).sum
theorem hd_nil:hd []=0:=rfl
theorem hd_cons (b:UInt8) (r:Ln):hd (b::r)=b:=rfl
theorem gaps_32 (r:Ln):gaps (32::r)=gaps r:=rfl
theorem gaps_cons {b:UInt8} (r:Ln) (h:b≠32):gaps (b::r)=b::r:=by
 have:is32 b=false:=by simpa [is32]using h
 simp[gaps,List.dropWhile,this]
theorem gaps_gaps (l:Ln):gaps (gaps l)=gaps l:=by
 induction l with
 | nil=>rfl
 | cons b r ih =>
  by_cases h:b=32
  ·subst h;rw[gaps_32,ih]
  ·rw[gaps_cons r h,gaps_cons r h]
theorem gaps_len (l:Ln):(gaps l).length<=l.length:=by
 induction l with
 | nil=>exact Nat.le_refl _
 | cons b r ih =>
  by_cases h:b=32
  ·subst h;rw[gaps_32];simp only[List.length_cons];omega
  ·rw[gaps_cons r h];exact Nat.le_refl _
theorem val_gaps (d:Nat) (f:Bool) (l:Ln):val d f (gaps l)=val d f l:=by
 cases d<;> · unfold val vstep;rw[gaps_gaps]
end Flw
end Go.Proofs.YtalijhclfppohaaGreatDoor
