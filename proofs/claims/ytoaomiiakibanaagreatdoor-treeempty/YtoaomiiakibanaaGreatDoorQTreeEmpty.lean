/- . -/
import Derived.Test.YtoaomiiakibanaaGreatDoorQFbB
import Derived.Test.YtoaomiiakibanaaGreatDoorQTbF
import Derived.Test.YtoaomiiakibanaaGreatDoorQTbQ
import Derived.Test.YtoaomiiakibanaaGreatDoorQTbL
import Derived.Test.YtoaomiiakibanaaGreatDoorQTbC
import Derived.Maps.AppendAt
import Derived.OpenShut
set_option linter.unusedSimpArgs false
set_option linter.unusedVariables false
set_option maxRecDepth 100000
namespace Go.Proofs.YtoaomiiakibanaaGreatDoor
namespace Rws
open Utf
theorem trR_take (p:UInt8->Bool) (l:List UInt8):trR p l=l.take (trR p l).length:=by
 have h:trR p l <+: l:=by
  unfold trR;rw[<-List.reverse_suffix,List.reverse_reverse];exact List.dropWhile_suffix _
 exact(List.prefix_iff_eq_take.1 h)
theorem note_take (l:List UInt8):note l=l.take (note l).length/\(note l).length<=hx true l:=by
 have h1:=trR_take sp (l.take (hx true l));have h2:=trR_len sp (l.take (hx true l));rw[List.length_take]at h2;have h3:(note l).length<=hx true l:=by unfold note;omega
 refine⟨?_,h3⟩;unfold note at h3 |-
 conv=>lhs;rw[h1]
 rw[List.take_take,Nat.min_eq_left h3]
end Rws
namespace Tre
open Utf Rws Pln Flw
open Go.RowKit
open Blk (Rw RwAt z3 lo rws joinW trm fld headO hdV mx addL)
def full (r:Rw):Bool:= !noth r.2.1
abbrev fil (rs:List Rw):List Rw:=rs.filter full
theorem fil_no {r:Rw} {t:List Rw} (h:noth r.2.1=true):fil (r::t)=fil t:=by
 show (r::t).filter full=_;rw[List.filter_cons,if_neg (by unfold full;simp[h])]
theorem fil_yes {r:Rw} {t:List Rw} (h:noth r.2.1=false):fil (r::t)=r::fil t:=by
 show (r::t).filter full=_;rw[List.filter_cons,if_pos (by unfold full;simp[h])]
theorem cnt_yes {r:Rw} {t:List Rw} (h:noth r.2.1=false):cnt (r::t)=r::t:=by
 unfold cnt;rw[List.dropWhile_cons,if_neg (by simp[h])]
theorem cnt_no {r:Rw} {t:List Rw} (h:noth r.2.1=true):cnt (r::t)=cnt t:=by
 unfold cnt;rw[List.dropWhile_cons,if_pos h]
theorem cnt_fil (rs:List Rw):cnt (fil rs)=fil rs/\fil (cnt rs)=fil rs:=by
 induction rs with
 | nil=>exact⟨rfl,rfl⟩
 | cons r t ih =>
  cases h:noth r.2.1
  ·rw[fil_yes h,cnt_yes h,cnt_yes h,fil_yes h];exact⟨rfl,rfl⟩
  ·rw[fil_no h,cnt_no h];exact ih
theorem cnt_cases (rs:List Rw):(cnt rs=[]/\fil rs=[])\/∃ r rest,cnt rs=r::rest/\fil rs=r::fil rest/\noth r.2.1=false/\rest.length<rs.length/\(r::rest) <:+ rs:=by
 cases hc:cnt rs with
 | nil=>refine .inl ⟨rfl,?_⟩;rw[<-(cnt_fil rs).2,hc];rfl
 | cons r rest =>
  have hn:=cnt_head hc;refine .inr ⟨r,rest,rfl,?_,hn,?_,?_⟩
  ·rw[<-(cnt_fil rs).2,hc,fil_yes hn]
  ·have:=cnt_len rs;rw[hc,List.length_cons]at this;omega
  ·rw[<-hc];exact cnt_suffix rs
theorem stE_fil (c:Int) (rs:List Rw):stE c (fil rs)=stE c rs:=by
 unfold stE;rw[(cnt_fil rs).1];rcases cnt_cases rs with ⟨h1,h2⟩ | ⟨r,rest,h1,h2,_⟩<;>rw[h1,h2]
theorem stA_fil (rs:List Rw):stA (fil rs)=stA rs:=by
 unfold stA;rw[(cnt_fil rs).1];rcases cnt_cases rs with ⟨h1,h2⟩ | ⟨r,rest,h1,h2,_⟩<;>rw[h1,h2]
theorem take_dpn (rs:List Rw) (c:Int):rs.take (dpn rs c)=rs.takeWhile (dpr c):=by
 unfold dpn;exact(List.prefix_iff_eq_take.1 (List.takeWhile_prefix (dpr c))).symm
theorem drop_dpn (rs:List Rw) (c:Int):rs.drop (dpn rs c)=rs.dropWhile (dpr c):=by
 have h:=List.takeWhile_append_dropWhile (p:=dpr c) (l:=rs);have h2:=List.take_append_drop (dpn rs c) rs;rw[take_dpn]at h2;exact List.append_cancel_left (h2.trans h.symm)
theorem take_fil (c:Int) (rs:List Rw):(fil rs).takeWhile (dpr c)=fil (rs.takeWhile (dpr c)):=by
 induction rs with
 | nil=>rfl
 | cons r t ih =>
  cases h:noth r.2.1
  ·rw[fil_yes h,List.takeWhile_cons,List.takeWhile_cons];split
   ·rw[fil_yes h,ih]
   ·rfl
  ·have hd:dpr c r=true:=by unfold dpr;rw[h];rfl
   rw[fil_no h,List.takeWhile_cons,if_pos hd,fil_no h,ih]
theorem drop_fil (c:Int) (rs:List Rw):(fil rs).dropWhile (dpr c)=fil (rs.dropWhile (dpr c)):=by
 induction rs with
 | nil=>rfl
 | cons r t ih =>
  cases h:noth r.2.1
  ·rw[fil_yes h,List.dropWhile_cons,List.dropWhile_cons];split
   ·exact ih
   ·rw[fil_yes h]
  ·have hd:dpr c r=true:=by unfold dpr;rw[h];rfl
   rw[fil_no h,List.dropWhile_cons,if_pos hd,ih]
theorem drop_head {rs:List Rw} {c:Int} {r:Rw} {t:List Rw} (h:rs.dropWhile (dpr c)=r::t):noth r.2.1=false:=by
 induction rs with
 | nil=>cases h
 | cons a b ih =>
  rw[List.dropWhile_cons]at h;split at h
  ·exact ih h
  ·rename_i hn;cases h;unfold dpr at hn;cases hq:noth r.2.1
   ·rfl
   ·rw[hq]at hn;exact absurd rfl hn
theorem hds_fil (dp:Bool):∀ (n m:Nat) (c:Int) (rs:List Rw),rs.length<n->(fil rs).length<m->hds dp m c (fil rs)=((hds dp n c rs).1,fil (hds dp n c rs).2.1,(hds dp n c rs).2.2)
 | 0,_,_,_,h,_=>absurd h (Nat.not_lt_zero _)
 | n+1,0,_,_,_,h=>absurd h (Nat.not_lt_zero _)
 | n+1,m+1,c,rs,hn,hm=>by
  unfold hds;rw[(cnt_fil rs).1];rcases cnt_cases rs with ⟨h1,h2⟩ | ⟨r,rest,h1,h2,h3,h4,_⟩
  ·rw[h1,h2];rfl
  ·rw[h1,h2];simp only;split
   ·rfl
   ·split
    ·rw[fil_yes h3]
    ·rw[h2,List.length_cons]at hm;have ih:=hds_fil dp n m r.1 rest (by omega) (by omega);rw[ih]
theorem beM_fil {val val':Rw->List Rw->Tf} {dp:Bool} {h:Hd} {rs:List Rw} (hh:∀ r rest,(r::rest) <:+ rs->noth r.2.1=false->val' r (fil rest)=val r rest):beM val' dp h (fil rs)=beM val dp h rs:=by
 unfold beM;rw[hds_fil dp (rs.length+1) ((fil rs).length+1) h.1.1 rs (by omega) (by omega)];have hs:=hds_suffix dp (rs.length+1) h.1.1 rs
 have hf:∀ (n:Nat) (c:Int) (us:List Rw),∀ r rest,(hds dp n c us).2.1=r::rest->noth r.2.1=false:=by
  intro n
  induction n with
  | zero=>intro c us r rest he;cases he
  | succ n ih =>
   intro c us r rest he;unfold hds at he
   cases hc:cnt us with
   | nil=>rw[hc]at he;cases he
   | cons x xs =>
    rw[hc]at he;simp only at he;split at he
    ·cases he
    ·split at he
     ·cases he;exact cnt_head hc
     ·exact ih _ _ _ _ he
 have hf2:=hf (rs.length+1) h.1.1 rs;generalize hds dp (rs.length+1) h.1.1 rs=q at *;obtain⟨hs',us,y,z⟩:=q;simp only at *;split
 ·rfl
 ·cases us with
  | cons r rest =>
   rw[fil_yes (hf2 r rest rfl)];simp only;rw[hh r rest hs (hf2 r rest rfl)]
  | nil=>rfl
def nb (l:Ln):Prop:=∀ b∈l,b≠124/\b≠62
theorem nb.sub {l m:Ln} (h:nb l) (hs:m ⊆ l):nb m:=fun b hb=>h b (hs hb)
theorem gaps_sub (l:Ln):gaps l ⊆ l:=(List.dropWhile_suffix _).subset
theorem beh_sub (l:Ln):beh l ⊆ l:=by unfold beh;exact List.drop_subset _ _
theorem cpr_sub:∀ (n:Nat) (p:Pp) (l:Ln),(cpr n p l).2 ⊆ l
 | 0,p,l=>gaps_sub l
 | n+1,p,l=>by
  unfold cpr;split
  ·exact gaps_sub l
  ·exact fun b hb=>gaps_sub l (beh_sub _ (cpr_sub n _ _ hb))
theorem itR_sub (l:Ln):itR l ⊆ l:=by
 unfold itR;split
 ·exact fun b hb=>List.drop_subset _ _ (gaps_sub _ hb)
 ·exact List.nil_subset _
theorem ckR_sub (l:Ln):ckR l ⊆ l:=by
 unfold ckR;split
 ·exact fun b hb=>List.drop_subset _ _ (gaps_sub _ hb)
 ·split
  ·exact List.drop_subset _ _
  ·exact List.nil_subset _
theorem enR_sub (l:Ln):enR l ⊆ l:=by
 unfold enR;split
 ·exact fun b hb=>ckR_sub l (List.drop_subset _ _ (gaps_sub _ hb))
 ·exact List.nil_subset _
theorem note_sub (l:Ln):note l ⊆ l:=by
 rw[(note_take l).1];exact List.take_subset _ _
theorem head_nb {l:Ln} (h:nb l):headO (note (CP ⟨[],0⟩ l).2)=none:=by
 cases hq:headO (note (CP ⟨[],0⟩ l).2)with
 | none=>rfl
 | some s =>
  obtain⟨f,c⟩:=s;have h1:=Blk.mark_head _ f c hq;have h2:(if f then (62:UInt8)else 124)∈note (CP ⟨[],0⟩ l).2:=by rw[<-h1];unfold Blk.mark;simp
  have h3:=h _ (cpr_sub _ _ _ (note_sub _ h2));cases f<;>simp at h3
theorem meM_fil {val:Int->Rw->List Rw->Tf} (ar:Int) (r:Rw) (l:Ln) (u:List Rw) (hl:nb l) (hh:∀ q rest,(q::rest) <:+ u->noth q.2.1=false->val ar q (fil rest)=val ar q rest):meM val ar r l (fil u)=meM val ar r l u:=by
 unfold meM mnM;split
 ·exact beM_fil hh
 ·rw[head_nb hl];simp only;unfold lnM;rw[stE_fil,stA_fil]
theorem kiM_fil {part:Rw->List Rw->List Tr × Int × Int} (c:Int):∀ (n m:Nat) (r:Rw) (more:List Rw) (acc:List Tr),more.length<n->(fil more).length<m->nb r.2.1->(∀ q∈more,noth q.2.1=false->nb q.2.1)->(∀ q us,(q::us) <:+: (r::more)->nb q.2.1->part q (fil us)=part q us)->kiM part c m r (fil more) acc=kiM part c n r more acc
 | 0,_,_,_,_,h,_,_,_,_=>absurd h (Nat.not_lt_zero _)
 | n+1,0,_,_,_,_,h,_,_,_=>absurd h (Nat.not_lt_zero _)
 | n+1,m+1,r,more,acc,hn,hm,hr0,hmo,h=>by
  rw[kiM,kiM,take_dpn,take_dpn,drop_dpn,drop_dpn,take_fil,drop_fil,h r (more.takeWhile (dpr c)) ⟨[],more.dropWhile (dpr c),by simp⟩ hr0];split
  ·rfl
  ·cases hd:more.dropWhile (dpr c)with
   | nil=>rfl
   | cons r' rest =>
    have hr:=drop_head hd;rw[fil_yes hr];simp only;have hs0:(r'::rest) <:+ more:=by rw[<-hd];exact List.dropWhile_suffix _
    have hs:(r'::rest) <:+ (r::more):=hs0.trans (List.suffix_cons _ _);have hl1:=hs0.length_le
    have hl2:(r'::fil rest).length<=(fil more).length:=by
     have h5:(r'::fil rest) <:+ fil more:=by
      rw[<-fil_yes hr,<-hd,<-drop_fil];exact List.dropWhile_suffix _
     exact h5.length_le
    simp only[List.length_cons]at hl1 hl2;have ih:=kiM_fil c n m r' rest (acc++(part r (more.takeWhile (dpr c))).1) (by omega) (by omega) (hmo r' (hs0.subset (by simp)) hr) (fun q hq=>hmo q (hs0.subset (by simp[hq]))) (fun q us hq=>h q us (hq.trans hs.isInfix));rw[ih]
theorem itP_fil {val:Int->Rw->List Rw->Tf} (ar:Int) (r:Rw) (u:List Rw) (hr:nb r.2.1) (hv:∀ q,nb q.2.1->val ar q (fil u)=val ar q u) (hh:∀ q rest,(q::rest) <:+ u->noth q.2.1=false->val ar q (fil rest)=val ar q rest) :
  itP val ar r (fil u)=itP val ar r u:=by
 unfold itP;rw[hv (mvd r.1 (itN r.2.1),itR r.2.1,r.2.2) (hr.sub (itR_sub _)),meM_fil ar r (itR r.2.1) u (hr.sub (itR_sub _)) hh]
theorem enP_fil {val:Int->Rw->List Rw->Tf} (ar:Int) (r:Rw) (u:List Rw) (hr:nb r.2.1) (hh:∀ q rest,(q::rest) <:+ u->noth q.2.1=false->val ar q (fil rest)=val ar q rest) :
  enP val ar r (fil u)=enP val ar r u:=by
 unfold enP;rw[meM_fil ar r (enR r.2.1) u (hr.sub (enR_sub _)) hh]
theorem inf_tl {q r:Rw} {us rs:List Rw} (h:(q::us) <:+: (r::rs)):us <:+: rs:=by
 obtain⟨s,t,e⟩:=h
 cases s with
 | nil =>
  simp only[List.nil_append,List.cons_append,List.cons.injEq]at e;exact⟨[],t,by simpa using e.2⟩
 | cons x s =>
  simp only[List.cons_append,List.cons.injEq]at e;exact⟨s++[q],t,by simpa using e.2⟩
theorem vaM_fil:∀ (n:Nat) (ar:Int) (r:Rw) (rs:List Rw),nb r.2.1->(∀ q∈rs,noth q.2.1=false->nb q.2.1)->vaM n ar r (fil rs)=vaM n ar r rs
 | 0,_,_,_,_,_=>rfl
 | n+1,ar,r,rs,hr,h=>by
  have hsub:∀ (a:Int) (us:List Rw),us <:+: rs->∀ q rest,(q::rest) <:+ us->noth q.2.1=false->vaM n a q (fil rest)=vaM n a q rest:=fun a us hs q rest hq hn=>vaM_fil n a q rest (h q (hs.subset (hq.subset (by simp))) hn) (fun x hx=>h x (hs.subset (hq.subset (by simp[hx]))))
  have e1:=kiM_fil (part:=itP (vaM n) (ar+1)) r.1 (rs.length+1) ((fil rs).length+1) r rs [] (by omega) (by omega) hr h (fun q us hs hq=>itP_fil (ar+1) q us hq (fun x hx=>vaM_fil n (ar+1) x us hx (fun y hy=>h y ((inf_tl hs).subset hy))) (hsub (ar+1) us (inf_tl hs)));have e2:=kiM_fil (part:=enP (vaM n) (ar+1)) r.1 (rs.length+1) ((fil rs).length+1) r rs [] (by omega) (by omega) hr h (fun q us hs hq=>enP_fil (ar+1) q us hq (hsub (ar+1) us (inf_tl hs)));rw[vaM,vaM,e1,e2];split
  ·rfl
  ·split
   ·rfl
   ·split
    ·rfl
    ·exact meM_fil ar r r.2.1 rs hr (hsub ar rs (List.infix_refl rs))
theorem beM_fil0 (n:Nat) (h:Hd) (rs:List Rw) (hb:∀ q∈rs,noth q.2.1=false->nb q.2.1):beM (vaM n 0) false h (fil rs)=beM (vaM n 0) false h rs :=
 beM_fil (fun r rest hs hn=>vaM_fil n 0 r rest (hb r (hs.subset (by simp)) hn) (fun x hx=>hb x (hs.subset (by simp[hx]))))
end Tre
namespace Tre
open Utf Rws Pln Flw
open Go.RowKit
open Blk (Rw RwAt z3 StrsAt rC rowV rowV_app rw_own)
set_option maxHeartbeats 4000000
def insR (rs:List Rw) (A:Nat) (nt:Ln):List Rw:=rs.take A++([((nt.length:Int),35::nt,999),(0,[],1000)]++rs.drop A)
theorem ins_fil (rs:List Rw) (A:Nat) (nt:Ln):fil (insR rs A nt)=fil rs:=by
 unfold insR fil;rw[List.filter_append,List.filter_append];show _++([]++_)=_;rw[List.nil_append,<-List.filter_append,List.take_append_drop]
theorem paM_ins (n:Nat) (rs:List Rw) (A:Nat) (nt:Ln) (h:∀ r∈rs,nb r.2.1):paM n (insR rs A nt)=paM n rs:=by
 have e:beM (vaM n 0) false top (insR rs A nt)=beM (vaM n 0) false top rs:=by
  rw[<-beM_fil0 n top rs (fun q hq _=>h q hq),<-beM_fil0 n top (insR rs A nt) (fun q hq hn=> ?_),ins_fil];unfold insR at hq;rcases List.mem_append.1 hq with hq | hq
  ·exact h q (List.mem_of_mem_take hq)
  ·rcases List.mem_append.1 hq with hq | hq
   ·simp only[List.mem_cons,List.not_mem_nil,or_false]at hq;rcases hq with rfl | rfl<;>cases hn
   ·exact h q (List.mem_of_mem_drop hq)
 unfold paM;rw[e]
theorem step_append_any {P:Program} {ops:Array Oper} {o:Oper} {a:Act} {w:World} {K:Act->World->Prop} {Q:Exit->Act->World->Prop} {E:Prop}
  (hg:o.guard=none) (s x:Operand) (t:TypeId) (hop:o.op=Op.call { callee:=Callee.builtin Builtin.append,args:=#[s,x],argTypes:=#[t,t] }) (base:Nat)
  (e:TypeId) (i:TypeInfo) (z:Value) (size bytes:Nat) (h1:P.underlying t=some (.slice e)) (h2:P.info? e=some i) (h3:i.zero=some z) (h4:i.size=size) (h5:i.bytes=bytes) (h6:z.cells.size=size) (h7:0<size)
  (v:Value) (n:Nat) (xs:List Value) (hs:a.eval s=v) (hown:w.ownsRow base e size v n xs)
  (sa:Option Addr) (m c:Nat) (news:List Value) (hx:a.eval x=.slice sa m c) (hnone:sa=none->m=0/\c=0) (hn:news.length=m*size) (hc:∀ ad,sa=some ad->∀ j u,news[j]?=some u->w.cell? (ad.add j)=some u) (h1c:∀ u∈news,u.oneCell'=true)
  (b1:n+m<=maxLen) (b2:(n+m)*bytes<=140737488355328) (hbase:base<=w.heap.size)
  (hK:∀ v' w',w'.ownsRow base e size v' (n+m) (xs++news)->w.grownBy w' v.ownBlock->K (a.put o.dst v') w') :
  if Region.wanted o (yielded ops a.tmps)=true then Oper.wp P o a w K Q else E:=by
 cases sa with
 | some ad=>exact Blk.step_append_own hg s x t hop base e i z size bytes h1 h2 h3 h4 h5 h6 h7 v n xs hs hown ad m c news hx hn (hc ad rfl) h1c b1 b2 hbase hK
 | none =>
  obtain⟨rfl,rfl⟩:=hnone rfl;obtain rfl:news=[]:=List.eq_nil_of_length_eq_zero (by omega);have hw:Region.wanted o (yielded ops a.tmps)=true:=by simp[Region.wanted,hg]
  rw[if_pos hw];have hrun:=run_append_owned_none (P:=P) (w:=w) base t o.type e i size h1 h2 v n xs hown;unfold Oper.wp;simp[execOp,hop,resolve,invoke,builtin,hs,hx,hrun,Result.andThen];exact hK v w (by simpa using hown) (World.grownBy.refl w _)
theorem rowV_one (rs:List Rw):∀ u∈rowV rs,u.oneCell'=true:=by
 intro u hu;obtain⟨r,_,h⟩:=List.mem_flatMap.1 hu;simp only[rC,List.mem_cons,List.not_mem_nil,or_false]at h;rcases h with rfl | rfl | rfl<;>rfl
theorem rowV_in {w:World} {b off len:Nat} {rs:List Rw} (hl:len=rs.length) (hc:∀ i,i<len->w.cell? ⟨b,off+i*3,none⟩=some (.int .i64 (rs.getD i z3).1)/\w.cell? ⟨b,off+i*3+1,none⟩=some (.string (mk (rs.getD i z3).2.1))/\w.cell? ⟨b,off+i*3+2,none⟩=some (.int .i64 (rs.getD i z3).2.2))
  (j:Nat) (u:Value) (hu:(rowV rs)[j]?=some u):w.cell? ((⟨b,off,none⟩:Addr).add j)=some u:=by
 have hj:=(List.getElem?_eq_some_iff.1 hu).1;rw[Blk.rowV_len]at hj;have hi:j / 3<rs.length:=by omega
 obtain⟨e0,e1,e2⟩:=Blk.rowV_at rs (j / 3) hi;obtain⟨c0,c1,c2⟩:=hc (j / 3) (by omega);rw[Blk.add_plain];rcases(by omega:j=j / 3*3\/j=j / 3*3+1\/j=j / 3*3+2)with r | r | r
 ·rw[<-r,hu]at e0;rw[r,c0,e0]
 ·rw[<-r,hu]at e1;rw[r,<-Nat.add_assoc,c1,e1]
 ·rw[<-r,hu]at e2;rw[r,<-Nat.add_assoc,c2,e2]
theorem cellsL {w:World} {t:TypeId} (l:List Value):∀ j u,l[j]?=some u->(w.alloc (.cells l.toArray t)).cell? ((⟨w.heap.size,0,none⟩:Addr).add j)=some u:=by
 intro j u hu;rw[Blk.add_plain,Lib.cell_of_heap (heap_alloc_new w (.cells l.toArray t))];simpa using hu
theorem cellsG {w W w':World} {t:TypeId} {g:Nat} {row:Option Nat} (l:List Value) (hg:W.grownBy w' row) (hW:W.heap=(w.alloc (.cells l.toArray t)).heap) (hr:row=none) (hgg:g=w.heap.size):∀ j u,l[j]?=some u->w'.cell? ((⟨g,0,none⟩:Addr).add j)=some u:=by
 subst hr hgg;intro j u hu
 have h1:w'.heap[w.heap.size]?=some (.cells l.toArray t):=by
  rw[hg.block w.heap.size (by rw[hW,World.size_alloc];omega) (by simp),hW];exact heap_alloc_new w _
 rw[Blk.add_plain,Lib.cell_of_heap h1];simpa using hu
theorem mk_app (a b:List UInt8):mk a++mk b=mk (a++b):=by
 have h:(mk a++mk b).data.toList=a++b:=by
  rw[ByteArray.data_append,Array.toList_append,mk_data,mk_data]
 rw[<-mk_of (mk a++mk b),h]
theorem at_in (n0:Int) (j:Nat) (hj:j<=300):∃ A:Nat,A<=j/\(wrap64 (n0.tmod ((j:Int)+1)+((j:Int)+1))).tmod ((j:Int)+1)=(A:Int):=by
 have h1:=Int.tmod_lt_of_pos n0 (b:=(j:Int)+1) (by omega);have h2:=Int.lt_tmod_of_pos n0 (b:=(j:Int)+1) (by omega);rw[IntWalk.wrap64_in _ (by omega)];have h3:=Int.tmod_lt_of_pos (n0.tmod ((j:Int)+1)+((j:Int)+1)) (b:=(j:Int)+1) (by omega);have h4:=Int.tmod_nonneg (a:=n0.tmod ((j:Int)+1)+((j:Int)+1)) ((j:Int)+1) (by omega);exact⟨((n0.tmod ((j:Int)+1)+((j:Int)+1)).tmod ((j:Int)+1)).toNat,by omega,by omega⟩
theorem empty_go {T:Tr} {q z:Int} (a:Option Addr) (len cap:Nat) (rs:List Rw) (n0:Int) (nt:Ln) (w:World) (hR:RowsIn w a len cap rs) (hcn:a=none->cap=0) (hl:len<=300) (hnt:nt.length<=300) (hn1: -9223372036854775808<=n0) (hn2:n0<=9223372036854775807)
  (HAL:Hid (∀ w0,Below w.heap.size w w0->Calls Tryz.prog 14 #[] w0 fun e w'=>e=.returned (.bool true)/\Hid (Below w.heap.size w w')))
  (HW:Hid (Calls Tryz.prog 20 #[.slice a len cap] w fun e w'=>e=.returned (.bool false)/\Hid (Below w.heap.size w w')))
  (HPA:Hid (∀ w0,Below w.heap.size w w0->Calls Tryz.prog 17 #[.slice a len cap] w0 fun e w'=>TfD 129 (T,q,z) w0 e w'))
  (HPK:Hid ((∀ r∈rs,nb r.2.1)->∀ A a' m cap' w0,A<=len->Below w.heap.size w w0->RowsA w0 a' m cap' (insR rs A nt)->Calls Tryz.prog 17 #[.slice a' m cap'] w0 fun e w'=>TfD 129 (T,q,z) w0 e w')) :
  Calls Tryz.prog 6 #[.slice a len cap,.int .i64 n0,.string (mk nt)] w fun e w'=>e=.returned (.bool true)/\Below w.heap.size w w':=by
 obtain⟨it,hi,hz0,hz1,hz2⟩:=info_parts infoRowT;have HRI:Hid (RowsIn w a len cap rs):=hR;have HCN:Hid (a=none->cap=0):=hcn;have hcl:len<=cap:=hR.2.1;have hcm:cap<=9223372036854775807:=hR.2.2.1;have hsn:(mk nt).size=nt.length:=mk_size nt;clear hR hcn;go_enter Tryz.func6,Tryz.ntmps6;go_wp2_with fail;refine HW.out.mono ?_;rintro e w1 ⟨rfl,H1⟩;clear HW;go_wp2_with fail
 go_loopw [27] (fun ui wr=>∃ j:Nat,j<=len/\ui=.int .i64 (j:Int)/\Hid (Below w.heap.size w wr/\∀ i,i<j->nb (rs.getD i z3).2.1)) (fun ui _=>len-(intOf ui).toNat)
 case atStart=>exact⟨0,Nat.zero_le _,rfl,H1.out,fun i hi=>absurd hi (Nat.not_lt_zero _)⟩
 case round =>
  obtain⟨j,hj,rfl,HL⟩:=hrel;clear H1;by_cases hlt:j<len
  ·obtain⟨b,off,had,hb,hcell⟩:=HRI.out.1.2 (by omega);obtain⟨x0,x1,x2'⟩:=hcell j hlt;subst had;have hjr:j<rs.length:=by have:=HRI.out.1.1;omega
   have c0:=(HL.out.1.cell (p:=⟨b,off+j*3,none⟩) hb).trans x0;have c1:=(HL.out.1.cell (p:=⟨b,off+j*3+1,none⟩) hb).trans x1;have c2:=(HL.out.1.cell (p:=⟨b,off+j*3+2,none⟩) hb).trans x2';have hyl:=HRI.out.2.2.2 _ (getD_memR hjr)
   have HZ:Hid (nb (rs.getD j z3).2.1->∀ i,i<j+1->nb (rs.getD i z3).2.1):=fun h i hi=>by
    by_cases e:i=j
    ·rw[e];exact h
    ·exact HL.out.2 i (by omega)
   obtain⟨x,hx⟩:∃ x,x=rs.getD j z3:=⟨_,rfl⟩;rw[<-hx]at c0 c1 c2 HZ hyl;obtain⟨y1,y2,y3⟩:=x;simp only at c0 c1 c2 HZ hyl;clear x0 x1 x2' hcell hb hx hjr;have HB1:Hid (Below w.heap.size w (wr.alloc (.cells #[.int .i64 y1,.string (mk y2),.int .i64 y3] 40))):=HL.out.1.alloc HL.out.1.size _;have hX:=Bx.new wr #[.int .i64 y1,.string (mk y2),.int .i64 y3] 40;obtain⟨W1,hW1⟩:∃ W1,wr.alloc (.cells #[.int .i64 y1,.string (mk y2),.int .i64 y3] 40)=W1:=⟨_,rfl⟩;obtain⟨KR,hKR⟩:∃ KR,wr.heap.size=KR:=⟨_,rfl⟩;rw[hW1]at HB1;rw[hW1,hKR]at hX;have e1:W1.cell? ⟨KR,1,none⟩=some (.string (mk y2)):=hX.cell 1;have hsz:(mk y2).size=y2.length:=mk_size y2;clear hX;go_wp2_with fail
   go_loop [9] (fun u9=>∃ k:Nat,k<=y2.length/\u9=.int .i64 (k:Int)/\Hid (∀ i,i<k->y2.getD i 0≠124/\y2.getD i 0≠62)) (fun u9=>y2.length-(intOf u9).toNat)
   case atStart=>exact⟨0,Nat.zero_le _,rfl,fun i hi=>absurd hi (Nat.not_lt_zero _)⟩
   case round =>
    obtain⟨k,hk,rfl,HN⟩:=hrel;by_cases hlk:k<y2.length
    ·have hlt':k<(mk y2).size:=by rw[mk_size];exact hlk
     have hg:∀ h,(mk y2)[k]'h=y2.getD k 0:=fun h=>Rws.mk_getD y2 k h
     by_cases h1:y2.getD k 0=124
     ·rw[h1]at hg;have h124:((124:UInt8).toNat:Int)=124:=rfl;clear h1 HN;go_wp2_with fail;refine(HAL.out _ HB1.out).mono ?_;rintro e w8 ⟨rfl,H8⟩;go_wp2;go_ret;exact⟨rfl,H8.out⟩
     by_cases h2:y2.getD k 0=62
     ·rw[h2]at hg;have h62:((62:UInt8).toNat:Int)=62:=rfl;clear h1 h2 HN;go_wp2_with fail;refine(HAL.out _ HB1.out).mono ?_;rintro e w8 ⟨rfl,H8⟩;go_wp2;go_ret;exact⟨rfl,H8.out⟩
     ·have HN2:Hid (∀ i,i<k+1->y2.getD i 0≠124/\y2.getD i 0≠62):=fun i hi=>by
       by_cases e:i=k
       ·rw[e];exact⟨h1,h2⟩
       ·exact HN.out i (by omega)
      have t1:(((y2.getD k 0).toNat:Int)==124)=false:=by
       rw[beq_eq_false_iff_ne];intro e;apply h1;apply UInt8.toNat_inj.1;have:(y2.getD k 0).toNat=124:=by omega
       rw[this];rfl
      have t2:(((y2.getD k 0).toNat:Int)==62)=false:=by
       rw[beq_eq_false_iff_ne];intro e;apply h2;apply UInt8.toNat_inj.1;have:(y2.getD k 0).toNat=62:=by omega
       rw[this];rfl
      clear h1 h2 HN;generalize y2.getD k 0=yy at hg t1 t2;go_wp2;go_round
      case rel=>exact⟨k+1,by omega,by go_num,HN2⟩
      case measure=>(simp[intOf]<;>omega)
    ·have HNB:Hid (nb y2):=fun bb hbb=>by
      obtain⟨i,hi,rfl⟩:=List.getElem_of_mem hbb;have:=HN.out i (by omega)
      rwa [List.getD_eq_getElem?_getD,List.getElem?_eq_getElem hi]at this
     obtain rfl:k=y2.length:=by omega
     have HZ2:=HZ.out HNB.out;clear HN HZ HNB;go_wp2;go_roundw
     case rel=>exact⟨j+1,by omega,by go_num,HB1.out,HZ2⟩
     case measure=>(simp[intOf]<;>omega)
  ·have e:j=len:=by omega
   subst e;have HLN:Hid (j=rs.length):=HRI.out.1.1
   have HNN:Hid (∀ r∈rs,nb r.2.1):=fun r hr=>by
    obtain⟨i,hi,rfl⟩:=List.getElem_of_mem hr;have:=HL.out.2 i (by have:=HLN.out;omega)
    rwa [List.getD_eq_getElem?_getD,List.getElem?_eq_getElem hi]at this
   have HB0:Hid (Below w.heap.size w wr):=HL.out.1;obtain⟨A,hA,hAe⟩:=at_in n0 j hl;clear HL hlt hj;go_upto_region 15 with fail
   clear hAe hn1 hn2
   have HS1:Hid (∀ W,Below wr.heap.size wr W->∀ ad,a=some ad->∀ jj u,(rowV (rs.take A))[jj]?=some u->W.cell? (ad.add jj)=some u):=fun W hW ad ha jj u hu=>by
    have h1:=(List.getElem?_eq_some_iff.1 hu).1;rw[Blk.rowV_len,List.length_take]at h1;have h2:=HLN.out;obtain⟨b,off,had,hb,hc⟩:=HRI.out.1.2 (by omega);rw[had]at ha;cases ha;have hbb:=HB0.out.trans (hW.mono HB0.out.size);refine rowV_in (len:=A) (by rw[List.length_take];omega) (fun i hi=> ?_) jj u hu;obtain⟨c0,c1,c2⟩:=hc i (by omega);have e:(rs.take A).getD i z3=rs.getD i z3:=by rw[List.getD_eq_getElem?_getD,List.getD_eq_getElem?_getD,List.getElem?_take,if_pos hi]
    rw[e];exact⟨(hbb.cell (p:=⟨b,off+i*3,none⟩) hb).trans c0,(hbb.cell (p:=⟨b,off+i*3+1,none⟩) hb).trans c1,(hbb.cell (p:=⟨b,off+i*3+2,none⟩) hb).trans c2⟩
   obtain⟨SA,hSA⟩:∃ SA:Option Addr,(if cap=A then a else Option.map (fun x=>x.add (A*3)) a)=SA:=⟨_,rfl⟩
   have HS3:Hid (∀ W,Below wr.heap.size wr W->∀ ad,SA=some ad->∀ jj u,(rowV (rs.drop A))[jj]?=some u->W.cell? (ad.add jj)=some u):=fun W hW ad ha jj u hu=>by
    have h1:=(List.getElem?_eq_some_iff.1 hu).1;rw[Blk.rowV_len,List.length_drop]at h1;have h2:=HLN.out;obtain⟨b,off,had,hb,hc⟩:=HRI.out.1.2 (by omega);rw[<-hSA,if_neg (by omega),had]at ha;simp only[Option.map_some,Option.some.injEq]at ha;subst ha;rw[Blk.add_plain];have hbb:=HB0.out.trans (hW.mono HB0.out.size);refine rowV_in (len:=j-A) (by rw[List.length_drop];omega) (fun i hi=> ?_) jj u hu;obtain⟨c0,c1,c2⟩:=hc (A+i) (by omega);have e:(rs.drop A).getD i z3=rs.getD (A+i) z3:=by rw[List.getD_eq_getElem?_getD,List.getD_eq_getElem?_getD,List.getElem?_drop]
    rw[e,show off+A*3+i*3=off+(A+i)*3 by omega];exact⟨(hbb.cell (p:=⟨b,off+(A+i)*3,none⟩) hb).trans c0,(hbb.cell (p:=⟨b,off+(A+i)*3+1,none⟩) hb).trans c1,(hbb.cell (p:=⟨b,off+(A+i)*3+2,none⟩) hb).trans c2⟩
   have HL1:Hid ((rowV (rs.take A)).length=A*3):=by
    show _=_;rw[Blk.rowV_len,List.length_take];have:=HLN.out;rw[Nat.min_eq_left (by omega)]
   have HL3:Hid ((rowV (rs.drop A)).length=(j-A)*3):=by
    show _=_;rw[Blk.rowV_len,List.length_drop,HLN.out]
   have HN1:Hid (a=none->A=0/\cap=0):=fun e=>by
    have h1:=HCN.out e;exact⟨by omega,h1⟩
   have HN3:Hid (SA=none->j-A=0/\cap-A=0):=fun e=>by
    have e2:a=none:=by
     rw[<-hSA]at e;split at e
     ·exact e
     ·simpa using e
    have h1:=HCN.out e2;omega
   have hcat:(⟨#[35]⟩:ByteArray)++mk nt=mk (35::nt):=mk_app [35] nt;have hAc:A<=cap:=by omega
   have h35: ¬ (9223372036854775807<1+nt.length):=by omega
   clear HCN
   go_region_law (first
    | (refine step_append_any rfl (.const (.slice none 0 0)) (.tmp 62) 41 rfl wr.heap.size 40 it (.agg #[.int .i64 0,.string ⟨#[]⟩,.int .i64 0]) 3 32 Tryz.underlying41 hi hz0 hz1 hz2 rfl (by decide) (.slice none 0 0) 0 [] (by first | rfl | simp[Act.eval,Act.put]) (World.ownsRow_nil _ _ _ _) a A cap (rowV (rs.take A)) (by simp[Act.eval,Act.put]) HN1.out HL1.out (by first | exact HS1.out _ (Below.refl _ wr).drew | exact HS1.out _ ((Below.refl _ wr).drew.alloc (Nat.le_refl _) _)) (rowV_one _) (by unfold maxLen;omega) (by omega) (by first | exact Nat.le_refl _ | (simp;done)) ?_;intro v3 w3 hown3 hgrow3;have hB3:Below wr.heap.size wr w3:=(by first | exact(Below.refl _ wr).drew.grown hgrow3 (Nat.le_refl _) (fun k hk=>by cases hk) | exact((Below.refl _ wr).drew.alloc (Nat.le_refl _) _).grown hgrow3 (by simp) (fun k hk=>by cases hk)))
    | (refine Blk.step_append_own rfl (.tmp 63) (.tmp 70) 41 rfl wr.heap.size 40 it (.agg #[.int .i64 0,.string ⟨#[]⟩,.int .i64 0]) 3 32 Tryz.underlying41 hi hz0 hz1 hz2 rfl (by decide) v3 (0+A) ([]++rowV (rs.take A)) (by simp[Act.eval,Act.put]) (hown3.alloc _) ⟨w3.heap.size,0,none⟩ 2 2 [.int .i64 (nt.length:Int),.string (mk (35::nt)),.int .i64 999,.int .i64 0,.string ⟨#[]⟩,.int .i64 1000] (by simp[Act.eval,Act.put]) rfl (cellsL _) (by intro u hu;simp only[List.mem_cons,List.not_mem_nil,or_false]at hu;rcases hu with rfl | rfl | rfl | rfl | rfl | rfl<;>rfl) (by unfold maxLen;omega) (by omega) (by have:=hB3.size;simp;omega) ?_;intro v4 w4 hown4 hgrow4;have hB4:Below wr.heap.size wr w4:=(hB3.alloc hB3.size _).grown hgrow4 (by have:=hB3.size;simp;omega) (fun k hk=>Blk.own_block hown3 k hk))
    | (refine Blk.step_append_own rfl (.tmp 63) (.tmp 70) 41 rfl wr.heap.size 40 it (.agg #[.int .i64 0,.string ⟨#[]⟩,.int .i64 0]) 3 32 Tryz.underlying41 hi hz0 hz1 hz2 rfl (by decide) v3 (0+A) ([]++rowV (rs.take A)) (by simp[Act.eval,Act.put]) hown3 ⟨wr.heap.size,0,none⟩ 2 2 [.int .i64 (nt.length:Int),.string (mk (35::nt)),.int .i64 999,.int .i64 0,.string ⟨#[]⟩,.int .i64 1000] (by simp[Act.eval,Act.put]) rfl (cellsG (w:=wr) _ hgrow3 rfl rfl rfl) (by intro u hu;simp only[List.mem_cons,List.not_mem_nil,or_false]at hu;rcases hu with rfl | rfl | rfl | rfl | rfl | rfl<;>rfl) (by unfold maxLen;omega) (by omega) hB3.size ?_;intro v4 w4 hown4 hgrow4;have hB4:Below wr.heap.size wr w4:=hB3.grown hgrow4 hB3.size (fun k hk=>Blk.own_block hown3 k hk))
    | (refine step_append_any rfl (.tmp 71) (.tmp 74) 41 rfl wr.heap.size 40 it (.agg #[.int .i64 0,.string ⟨#[]⟩,.int .i64 0]) 3 32 Tryz.underlying41 hi hz0 hz1 hz2 rfl (by decide) v4 (0+A+2) ([]++rowV (rs.take A)++[.int .i64 (nt.length:Int),.string (mk (35::nt)),.int .i64 999,.int .i64 0,.string ⟨#[]⟩,.int .i64 1000]) (by simp[Act.eval,Act.put]) hown4 SA (j-A) (cap-A) (rowV (rs.drop A)) (by simp[Act.eval,Act.put]) HN3.out HL3.out (HS3.out _ hB4) (rowV_one _) (by unfold maxLen;omega) (by omega) hB4.size ?_;intro v5 wz hown5 hgrowz;have hB5:Below wr.heap.size wr wz:=hB4.grown hgrowz hB4.size (fun k hk=>Blk.own_block hown4 k hk)))
   all_goals
    have hown6:wz.ownsRow w.heap.size 40 3 v5 (insR rs A nt).length (rowV (insR rs A nt)):=by
     have q:=Blk.own_mono hown5 HB0.out.size
     have e1:(insR rs A nt).length=0+A+2+(j-A):=by
      have:=HLN.out;unfold insR;rw[List.length_append,List.length_append,List.length_take,List.length_drop];simp only[List.length_cons,List.length_nil];omega
     rw[e1];unfold insR;rw[rowV_app,rowV_app]
     have e2:∀ x y:List Value,x++(rowV [((nt.length:Int),35::nt,999),(0,[],1000)]++y)=[]++x++[.int .i64 (nt.length:Int),.string (mk (35::nt)),.int .i64 999,.int .i64 0,.string ⟨#[]⟩,.int .i64 1000]++y:=fun x y=>by
      rw[List.nil_append,List.append_assoc];rfl
     rw[e2];exact q
    obtain⟨a',cap',hv,hra⟩:=rows_ownA (rs:=insR rs A nt) hown6 (fun r hr=>by
     unfold insR at hr;rcases List.mem_append.1 hr with hr | hr
     ·exact HRI.out.2.2.2 r (List.mem_of_mem_take hr)
     ·rcases List.mem_append.1 hr with hr | hr
      ·simp only[List.mem_cons,List.not_mem_nil,or_false]at hr;rcases hr with rfl | rfl
       ·show (35::nt).length<=_;rw[List.length_cons];omega
       ·exact Nat.zero_le _
      ·exact HRI.out.2.2.2 r (List.mem_of_mem_drop hr))
    subst hv;have HBW:=HB0.out.trans (hB5.mono HB0.out.size)
    have HPB:Hid (∀ w0,Below wz.heap.size wz w0->Calls Tryz.prog 17 #[.slice a' (insR rs A nt).length cap'] w0 fun e w'=>TfD 129 (T,q,z) w0 e w'):=fun w0 hb =>
     HPK.out HNN.out A a' _ cap' w0 hA (HBW.trans (hb.mono HBW.size)) (hra.later hb)
    have HB0':Hid (Below w.heap.size w wz):=HBW;clear HB0 hown6 hown5 hgrowz hown4 hgrow4 hown3 hgrow3 hB3 hB4 hB5 hra HBW HPK HNN HRI HS1 HS3 HL1 HL3 HN1 HN3 HLN;have HB0:=HB0';clear HB0';generalize (insR rs A nt).length=mm at HPB |-;go_wp2_with fail;refine(HPA.out wz HB0.out).mono ?_;rintro e w3 ⟨v,rfl,ht,hb3⟩;obtain⟨k2,x2,a2,ad2,len2,cap2,rfl⟩:=ht.cells
    have H5:Hid (∀ w5,w5=(w3.alloc (.cells #[.int .i64 k2,.string x2,.string a2,.slice ad2 len2 cap2] 26)).alloc (.cells #[.int .i64 q,.int .i64 z] 34)->Below wz.heap.size wz w5/\Bx w5 w3.heap.size #[.int .i64 k2,.string x2,.string a2,.slice ad2 len2 cap2] 26/\Bx w5 (w3.heap.size+1) #[.int .i64 q,.int .i64 z] 34/\TrV w5 129 (.agg #[.int .i64 k2,.string x2,.string a2,.slice ad2 len2 cap2]) T):=fun w5 e=>by
     subst e;have h2:=two_b w3 #[.int .i64 k2,.string x2,.string a2,.slice ad2 len2 cap2] #[.int .i64 q,.int .i64 z] 26 34;exact⟨hb3.trans (h2.1.mono hb3.size),h2.2.1,h2.2.2,TrP.v (ht.later h2.1)⟩
    clear ht hb3;go_upto_region 17 with fail
    have HS:Hid (_/\_/\_/\_):=H5.out _ rfl;clear H5;generalize (w3.alloc (.cells #[.int .i64 k2,.string x2,.string a2,.slice ad2 len2 cap2] 26)).alloc (.cells #[.int .i64 q,.int .i64 z] 34)=w5 at HS |-;generalize w3.heap.size+1=KF at HS |-;generalize w3.heap.size=KT at HS |-;go_wp2_with fail;refine(HPB.out w5 HS.out.1).mono ?_;rintro e w4 ⟨v,rfl,ht,hb4⟩;obtain⟨k3,x3,a3,ad3,len3,cap3,rfl⟩:=ht.cells
    have H6:Hid (∀ w6,w6=(w4.alloc (.cells #[.int .i64 k3,.string x3,.string a3,.slice ad3 len3 cap3] 26)).alloc (.cells #[.int .i64 q,.int .i64 z] 34)->Below w.heap.size w w6/\Bx w6 KT #[.int .i64 k2,.string x2,.string a2,.slice ad2 len2 cap2] 26/\Bx w6 KF #[.int .i64 q,.int .i64 z] 34/\Bx w6 w4.heap.size #[.int .i64 k3,.string x3,.string a3,.slice ad3 len3 cap3] 26/\Bx w6 (w4.heap.size+1) #[.int .i64 q,.int .i64 z] 34/\TrV w6 129 (.agg #[.int .i64 k2,.string x2,.string a2,.slice ad2 len2 cap2]) T/\TrV w6 129 (.agg #[.int .i64 k3,.string x3,.string a3,.slice ad3 len3 cap3]) T):=fun w6 e=>by
     subst e;have h2:=two_b w4 #[.int .i64 k3,.string x3,.string a3,.slice ad3 len3 cap3] #[.int .i64 q,.int .i64 z] 26 34;have b:=hb4.trans (h2.1.mono hb4.size);have b0:=HB0.out.trans (HS.out.1.mono HB0.out.size);exact⟨b0.trans (b.mono b0.size),HS.out.2.1.later b,HS.out.2.2.1.later b,h2.2.1,h2.2.2,HS.out.2.2.2.later b (Nat.le_refl _),TrP.v (ht.later h2.1)⟩
    clear ht hb4 HS;go_upto_region 18 with fail
    have HS:Hid (_/\_/\_/\_/\_/\_/\_):=H6.out _ rfl;clear H6;generalize (w4.alloc (.cells #[.int .i64 k3,.string x3,.string a3,.slice ad3 len3 cap3] 26)).alloc (.cells #[.int .i64 q,.int .i64 z] 34)=w6 at HS |-;generalize w4.heap.size+1=KG at HS |-;generalize w4.heap.size=KU at HS |-;obtain⟨t0,t1,t2,t3⟩:=HS.out.2.1.c4;obtain⟨u0,u1,u2,u3⟩:=HS.out.2.2.2.1.c4
    have HSA:Hid (Calls Tryz.prog 13 #[.agg #[.int .i64 k2,.string x2,.string a2,.slice ad2 len2 cap2],.agg #[.int .i64 k3,.string x3,.string a3,.slice ad3 len3 cap3]] w6 fun e w'=>e=.returned (.bool true)/\Hid (Below w6.heap.size w6 w')) :=
     (rsame_any _ _ _ _ _ _ w6 HS.out.2.2.2.2.2.1 HS.out.2.2.2.2.2.2).mono (fun e w' g=>by obtain⟨y,e1,hy,hb⟩:=g;rw[hy.2 rfl]at e1;exact⟨e1,hb⟩)
    go_wp2_with fail;refine HSA.out.mono ?_;rintro e w7 ⟨rfl,H7⟩;have B7:Hid (Below w.heap.size w w7):=HS.out.1.trans (H7.out.mono HS.out.1.size);obtain⟨f0,f1⟩:=Bx.c2 ((HS.out.2.2.1.later H7.out));obtain⟨g0,g1⟩:=Bx.c2 ((HS.out.2.2.2.2.1.later H7.out));have he:=eql_flt q q z z w7;have heb:(q==q && z==z)=true:=by simp
    rw[heb]at he;clear HSA t0 t1 t2 t3 u0 u1 u2 u3 HS heb;go_wp2_with fail;refine(HAL.out w7 B7.out).mono ?_;rintro e w8 ⟨rfl,H8⟩;go_wp2;go_ret;exact⟨rfl,H8.out⟩
theorem empty_walk (a:Option Addr) (len cap:Nat) (rs:List Rw) (n0:Int) (s0:ByteArray) (w:World) (h0:TArg w a len cap rs/\(a=none->cap=0)) (hn0:(Lit.int .i64 n0).wf=true) (hs0:s0.size<=140737488351232) (hT:Tb w) :
  Calls Tryz.prog 6 #[.slice a len cap,.int .i64 n0,.string s0] w fun e w'=>e=.returned (.bool true)/\Below w.heap.size w w':=by
 obtain⟨h,hcn⟩:=h0;obtain⟨nt,rfl⟩:=Rws.mk_ex s0;obtain⟨b0,b1⟩:=bounds_i64 hn0;have HAL:Hid (∀ w0,Below w.heap.size w w0->Calls Tryz.prog 14 #[] w0 fun e w'=>e=.returned (.bool true)/\Hid (Below w.heap.size w w')):=fun w0 b=>(alive_any (hT.later b)).mono (fun e w' h=>⟨h.1,b.trans (h.2.mono b.size)⟩)
 have HW:=wide_any a len cap rs w h.1.1 h.1.2.1 h.1.2.2.1 h.1.2.2.2
 cases hw:widR rs with
 | true =>
  rw[hw]at HW;have HW2:Hid (Calls Tryz.prog 20 #[.slice a len cap] w fun e w'=>e=.returned (.bool true)/\Below w.heap.size w w'):=HW;clear HW hw h hT hcn hn0 hs0;go_enter Tryz.func6,Tryz.ntmps6;go_wp2_with fail;refine HW2.out.mono ?_;rintro e w1 ⟨rfl,h1⟩;have B7:Hid (Below w.heap.size w w1):=h1;clear h1;go_wp2_with fail;refine(HAL.out w1 B7.out).mono ?_;rintro e w8 ⟨rfl,H8⟩;go_wp2;go_ret;exact⟨rfl,H8.out⟩
 | false =>
  rw[hw]at HW;obtain⟨hg,hm,h300⟩:=good_wid hw (fun r hr=>(h.2 r hr).1);obtain⟨_,h6,h4⟩:=widR_no hw;have hl:len<=300:=by have:=h.1.1.1;omega
  have hsn:(mk nt).size=nt.length:=mk_size nt;by_cases hnt:nt.length<=300
  ·refine empty_go (T:=(paM 8000 rs).1) (q:=(paM 8000 rs).2.1) (z:=(paM 8000 rs).2.2) a len cap rs n0 nt w h.1 hcn hl hnt b0 b1 HAL (HW.mono (fun e w' g=>⟨g.1,g.2⟩)) (fun w0 hb=>parse_any 8000 a len cap rs w0 (hT.later hb) (h.1.later hb) hg (by omega)) ?_;intro hnb A a' m cap' w0 hA hb hra
   have hlen:(insR rs A nt).length=rs.length+2:=by
    have:=h.1.1.1;unfold insR;rw[List.length_append,List.length_append,List.length_take,List.length_drop];simp only[List.length_cons,List.length_nil];omega
   have hsum:Blk.sumT (insR rs A nt)=Blk.sumT rs+(nt.length+1):=by
    unfold insR;rw[Blk.sumT_app,Blk.sumT_app];have e:Blk.sumT rs=Blk.sumT (rs.take A)+Blk.sumT (rs.drop A):=by rw[<-Blk.sumT_app,List.take_append_drop]
    have e2:Blk.sumT [((nt.length:Int),35::nt,999),(0,[],1000)]=nt.length+1:=by
     rw[Blk.sumT_cons,Blk.sumT_cons];show (35::nt).length+(0+0)=_;rw[List.length_cons]
    omega
   have hg2:Good (insR rs A nt):=good_of (by omega) (by omega) (fun r hr=>by
    unfold insR at hr;rcases List.mem_append.1 hr with hr | hr
    ·have h1:=h4 r (List.mem_of_mem_take hr);have h2:=(h.2 r (List.mem_of_mem_take hr)).1;omega
    ·rcases List.mem_append.1 hr with hr | hr
     ·simp only[List.mem_cons,List.not_mem_nil,or_false]at hr;rcases hr with rfl | rfl
      ·show _<=(nt.length:Int)/\(nt.length:Int)<=_;omega
      ·decide
     ·have h1:=h4 r (List.mem_of_mem_drop hr);have h2:=(h.2 r (List.mem_of_mem_drop hr)).1;omega)
   have hp:=parse_any 8000 a' m cap' (insR rs A nt) w0 (hT.later hb) hra.1 hg2 (by rw[msr_sum,hsum,hlen];rw[msr_sum]at hm;omega);rw[paM_ins 8000 rs A nt hnb]at hp;exact hp
  ·have HW2:Hid (Calls Tryz.prog 20 #[.slice a len cap] w fun e w'=>e=.returned (.bool false)/\Below w.heap.size w w'):=HW;have h3:((nt.length:Int)>300):=by omega
   clear HW hw h hT hcn hn0 hg hm h300 h6 h4 hnt;go_enter Tryz.func6,Tryz.ntmps6;go_wp2_with fail;refine HW2.out.mono ?_;rintro e w1 ⟨rfl,h1⟩;have B7:Hid (Below w.heap.size w w1):=h1;clear h1;go_wp2_with fail;refine(HAL.out w1 B7.out).mono ?_;rintro e w8 ⟨rfl,H8⟩;go_wp2;go_ret;exact⟨rfl,H8.out⟩
end Tre
end Go.Proofs.YtoaomiiakibanaaGreatDoor
