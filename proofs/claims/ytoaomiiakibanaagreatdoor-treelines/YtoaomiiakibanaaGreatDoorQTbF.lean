/- . -/
import Derived.Test.YtoaomiiakibanaaGreatDoorQTreeMean
import Derived.Test.YtoaomiiakibanaaGreatDoorQTreeKey
set_option linter.unusedSimpArgs false
set_option linter.unusedVariables false
set_option maxRecDepth 100000
namespace Go.Proofs.YtoaomiiakibanaaGreatDoor
namespace Tre
open Utf Rws Pln Flw
open Go.RowKit
open Blk (Rw RwAt z3 lo rws joinW trm fld headO hdV)
abbrev Tf:=Tr × Int × Int
abbrev Hd:=Rw × Pp
def hds (dp:Bool):Nat->Int->List Rw->List Hd × List Rw × Int × Int
 | 0,_,_=>([],[],0,0)
 | n+1,c,rs=>match cnt rs with
  | []=>([],[],0,0)
  | r::rest=>if r.1<c then ([],[],9,r.2.2)else
   if (!noth (CP ⟨[],0⟩ r.2.1).2 || dp)=true then ([],r::rest,0,0)else
   ((r,(CP ⟨[],0⟩ r.2.1).1)::(hds dp n r.1 rest).1,(hds dp n r.1 rest).2)
def orM (h:Hd) (t:Tr):Tf :=
 if samePp h.2 ⟨[],0⟩=true then (t,0,0)else if orB h.2 t.kind t.anc=true then (tr0,3,h.1.2.2)else if onB h.2 t.kind=true then (tr0,12,h.1.2.2)else (⟨t.kind,t.text,h.2.anc,t.kids⟩,0,0)
def noM (h:Hd):Tf:=if onB h.2 (nuK h.2)=true then (tr0,12,h.1.2.2)else (⟨nuK h.2,[],h.2.anc,[]⟩,0,0)
def bak:List Hd->Tf->Tf
 | [],r=>r
 | h::hs,r=>if r.2.1≠0 then (tr0,r.2)else bak hs (orM h r.1)
def beM (val:Rw->List Rw->Tf) (dp:Bool) (h:Hd) (rs:List Rw):Tf :=
 let q:=hds dp (rs.length+1) h.1.1 rs
 if q.2.2.1≠0 then (tr0,q.2.2)else match q.2.1 with
  | r::rest=>bak (h::q.1).reverse (val r rest)
  | []=>bak (h::q.1).reverse.tail (noM ((h::q.1).reverse.headD h))
def meM (val:Int->Rw->List Rw->Tf) (ar:Int) (r:Rw) (l:Ln) (u:List Rw):Tf :=
 mnM (fun p=>beM (val ar) (decide (ar=64)) (r,p) u) r.1 r.2.2 l u
def itP (val:Int->Rw->List Rw->Tf) (ar:Int) (r:Rw) (u:List Rw):List Tr × Int × Int :=
 if isIt r.2.1=false then ([],3,r.2.2)else
 if isIt (itR r.2.1)=true\/isEn (itR r.2.1)=true then ([(val ar (mvd r.1 (itN r.2.1),itR r.2.1,r.2.2) u).1],(val ar (mvd r.1 (itN r.2.1),itR r.2.1,r.2.2) u).2)else
 ([(meM val ar r (itR r.2.1) u).1],(meM val ar r (itR r.2.1) u).2)
def enP (val:Int->Rw->List Rw->Tf) (ar:Int) (r:Rw) (u:List Rw):List Tr × Int × Int :=
 if isEn r.2.1=false then ([],3,r.2.2)else if 256<(enT r.2.1).text.length then ([],5,r.2.2)else
 ([⟨(enT r.2.1).kind,(enT r.2.1).text,[],[]⟩,(meM val ar r (enR r.2.1) u).1],(meM val ar r (enR r.2.1) u).2)
def kiM (part:Rw->List Rw->List Tr × Int × Int) (c:Int):Nat->Rw->List Rw->List Tr->List Tr × Int × Int
 | 0,_,_,_=>([],0,0)
 | n+1,r,more,acc =>
  if (part r (more.take (dpn more c))).2.1≠0 then ([],(part r (more.take (dpn more c))).2)else match more.drop (dpn more c)with
   | []=>(acc++(part r (more.take (dpn more c))).1,0,0)
   | r'::rest=>if r'.1<c then ([],9,r'.2.2)else kiM part c n r' rest (acc++(part r (more.take (dpn more c))).1)
def vaM:Nat->Int->Rw->List Rw->Tf
 | 0,_,_,_=>(tr0,0,0)
 | n+1,ar,r,more =>
  if ar=64 then (tr0,10,r.2.2)else
  if isIt r.2.1=true then (⟨5,[],[],(kiM (itP (vaM n) (ar+1)) r.1 (more.length+1) r more []).1⟩,(kiM (itP (vaM n) (ar+1)) r.1 (more.length+1) r more []).2)else
  if isEn r.2.1=true then (⟨6,[],[],(kiM (enP (vaM n) (ar+1)) r.1 (more.length+1) r more []).1⟩,(kiM (enP (vaM n) (ar+1)) r.1 (more.length+1) r more []).2)else
  meM (vaM n) ar r r.2.1 more
def msr (rs:List Rw):Nat:=(rs.map fun r=>r.2.1.length+1).sum
theorem msr_cons (r:Rw) (rs:List Rw):msr (r::rs)=r.2.1.length+1+msr rs:=by simp[msr]
theorem msr_app (a b:List Rw):msr (a++b)=msr a+msr b:=by simp[msr]
theorem cnt_len (rs:List Rw):(cnt rs).length<=rs.length:=by
 unfold cnt;exact(List.dropWhile_suffix _).length_le
end Tre
namespace Tre
open Utf Rws Pln Flw
open Go.RowKit
open Blk (Rw RwAt z3 lo rws joinW trm fld headO hdV)
theorem itR_len {x:Ln} (h:isIt x=true):(itR x).length<x.length:=by
 unfold itR;rw[if_pos h];have h1:=gaps_len (x.drop 1);rw[List.length_drop]at h1
 cases x with
 | nil=>exact absurd h (by decide)
 | cons b r=>simp only[List.length_cons]at *;omega
theorem itN_le (x:Ln):itN x<=x.length:=by
 unfold itN;split<;>omega
theorem enR_len (x:Ln):(enR x).length<=x.length:=by
 unfold enR;split
 ·have h1:=gaps_len ((ckR x).drop 1);have h2:=ckR_len x;rw[List.length_drop]at h1;omega
 ·exact Nat.zero_le _
theorem cpr_len:∀ (n:Nat) (p:Pp) (l:Ln),(cpr n p l).2.length<=l.length
 | 0,p,l=>gaps_len l
 | n+1,p,l=>by
  unfold cpr;split
  ·exact gaps_len l
  ·have h1:=cpr_len n (wth p (wrd (gaps l))) (beh (gaps l));have h2:=beh_le (gaps l);have h3:=gaps_len l;omega
theorem CP_len (p:Pp) (l:Ln):(CP p l).2.length<=l.length:=cpr_len _ p l
theorem wth_anc (p:Pp) (l:Ln):(wth p l).anc.length<=p.anc.length+l.length:=by
 unfold wth;split
 ·split
  ·show (l.drop 1).length<=_;rw[List.length_drop];omega
  ·omega
 ·split<;>exact Nat.le_add_right _ _
theorem cpr_anc:∀ (n:Nat) (p:Pp) (l:Ln),(cpr n p l).1.anc.length<=p.anc.length+l.length
 | 0,p,l=>Nat.le_add_right _ _
 | n+1,p,l=>by
  unfold cpr;split
  ·exact Nat.le_add_right _ _
  ·have h1:=cpr_anc n (wth p (wrd (gaps l))) (beh (gaps l))
   have h2:(beh (gaps l)).length+(wrd (gaps l)).length<=(gaps l).length:=by
    unfold beh;rw[List.length_drop];have:=wrd_le (gaps l);omega
   have h3:=gaps_len l;have h4:=wth_anc p (wrd (gaps l));omega
theorem CP_anc (l:Ln):(CP ⟨[],0⟩ l).1.anc.length<=l.length:=by
 have h:(CP ⟨[],0⟩ l).1.anc.length<=0+l.length:=cpr_anc (mu ⟨[],0⟩+1) ⟨[],0⟩ l;omega
theorem mvd_bd (c:Int) (n:Nat) (h: -9223372036854775808<=c) (h2:c<=9223372036854775807): -9223372036854775808<=mvd c n/\mvd c n<=9223372036854775807:=by
 unfold mvd;split<;>omega
theorem dpn_le (rs:List Rw) (c:Int):dpn rs c<=rs.length:=by
 unfold dpn;exact(List.takeWhile_prefix _).length_le
def BkOk (rs:List Rw):Prop:=∀ us,us <:+: rs->∀ c ls,lo none (rws us c)=.inl ls->(joinW 10 (trm ls)).length<=1000000000/\(fld (trm ls)).length<=1000000000
theorem BkOk.sub {rs us:List Rw} (h:BkOk rs) (hs:us <:+: rs):BkOk us:=fun vs hv=>h vs (hv.trans hs)
structure Good (rs:List Rw):Prop where
 len:rs.length<=1048576
 txt:∀ r∈rs,r.2.1.length<=65536
 col:∀ r∈rs,-9223372036854775808<=r.1/\r.1<=9223372036854775807
 bk:BkOk rs
theorem Good.sub {rs us:List Rw} (h:Good rs) (hs:us <:+: rs):Good us :=
 ⟨Nat.le_trans hs.length_le h.len,fun r hr=>h.txt r (hs.subset hr),fun r hr=>h.col r (hs.subset hr),h.bk.sub hs⟩
theorem msr_sub {rs us:List Rw} (hs:us <:+: rs):msr us<=msr rs:=by
 obtain⟨A,B,rfl⟩:=hs;rw[msr_app,msr_app];omega
theorem cnt_suffix (rs:List Rw):cnt rs <:+ rs:=by
 unfold cnt;exact List.dropWhile_suffix _
theorem hds_suffix (dp:Bool):∀ (n:Nat) (c:Int) (rs:List Rw),(hds dp n c rs).2.1 <:+ rs
 | 0,_,rs=>List.nil_suffix
 | n+1,c,rs=>by
  unfold hds;have h:=cnt_suffix rs
  cases hc:cnt rs with
  | nil=>exact List.nil_suffix
  | cons r rest =>
   rw[hc]at h;dsimp only;split
   ·exact List.nil_suffix
   ·split
    ·exact h
    ·exact((hds_suffix dp n r.1 rest).trans (List.suffix_cons r rest)).trans h
end Tre
end Go.Proofs.YtoaomiiakibanaaGreatDoor
