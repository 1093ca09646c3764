/- . -/
import Derived.Test.YtommfbbpomfnfaaGreatDoorQTbK
import Derived.Test.YtommfbbpomfnfaaGreatDoorQTbC
import Derived.Test.YtommfbbpomfnfaaGreatDoorQTbF
import Derived.Maps.AppendAt
import Derived.Test.YtommfbbpomfnfaaGreatDoorQTbM
set_option linter.unusedSimpArgs false
set_option linter.unusedVariables false
set_option maxRecDepth 100000
namespace Go.Proofs.YtommfbbpomfnfaaGreatDoor
namespace Blk
open Go.RowKit
open Rws (mk mk_data mk_size mk_of mk_ext mk_get mk_inj is32)
theorem Tryz.infoRow:(Tryz.prog.info? 40).map (fun i=>(i.zero,i.size,i.bytes))=some (some (.agg #[.int .i64 0,.string ⟨#[]⟩,.int .i64 0]),3,32):=by kernel_rfl
def rC (r:Rw):List Value:=[.int .i64 r.1,.string (mk r.2.1),.int .i64 r.2.2]
def rowV (rs:List Rw):List Value:=rs.flatMap rC
theorem rowV_app (a b:List Rw):rowV (a++b)=rowV a++rowV b:=by simp[rowV]
theorem rowV_at (rs:List Rw) (i:Nat) (h:i<rs.length):(rowV rs)[i*3]?=some (.int .i64 (rs.getD i z3).1)/\(rowV rs)[i*3+1]?=some (.string (mk (rs.getD i z3).2.1))/\(rowV rs)[i*3+2]?=some (.int .i64 (rs.getD i z3).2.2):=by
 induction rs generalizing i with
 | nil=>simp at h
 | cons x r ih =>
  cases i with
  | zero=>simp[rowV,rC]
  | succ i =>
   have:=ih i (by simp at h;omega);have e:rowV (x::r)=rC x++rowV r:=by simp[rowV]
   have e1:(i+1)*3=(rC x).length+i*3:=by simp[rC];omega
   have e2:(i+1)*3+1=(rC x).length+(i*3+1):=by simp[rC];omega
   have e3:(i+1)*3+2=(rC x).length+(i*3+2):=by simp[rC];omega
   rw[e,e3,e2,e1,List.getElem?_append_right (by omega),List.getElem?_append_right (by omega),List.getElem?_append_right (by omega),Nat.add_sub_cancel_left,Nat.add_sub_cancel_left,Nat.add_sub_cancel_left,List.getD_cons_succ];exact this
theorem rw_own {w:World} {base:Nat} {v:Value} {rs:List Rw} (h:w.ownsRow base 40 3 v rs.length (rowV rs)):∃ a cap,v=.slice a rs.length cap/\rs.length<=cap/\RwAt w a rs.length rs/\(0<rs.length->∃ g,a=some ⟨g,0,none⟩):=by
 obtain⟨hl,h⟩:=h;rcases h with ⟨rfl,h0⟩ | ⟨g,cap,cur,rfl,hb,hg,hc,hm,hs,ht⟩
 ·rw[h0];exact⟨_,_,rfl,Nat.le_refl _,⟨by simp[h0],fun h=>absurd h (by decide)⟩,fun h=>absurd h (by decide)⟩
 ·refine⟨_,_,rfl,hc,⟨rfl,fun _=>⟨g,0,rfl,(Array.getElem?_eq_some_iff.1 hg).1,?_⟩⟩,fun _=>⟨g,rfl⟩⟩;intro i hi;have hv:=rowV_at rs i hi;rw[<-ht,List.getElem?_take,if_pos (by omega),List.getElem?_take,if_pos (by omega),List.getElem?_take,if_pos (by omega)]at hv;simp only[Nat.zero_add];rw[cell_of_row w g _ cur 40 (0,0) hg,cell_of_row w g _ cur 40 (0,0) hg,cell_of_row w g _ cur 40 (0,0) hg];simpa using hv
theorem cell_three {w:World} (r:Rw) (t:TypeId):∀ j u,(rC r)[j]?=some u->(w.alloc (.cells #[.int .i64 r.1,.string (mk r.2.1),.int .i64 r.2.2] t)).cell? ((⟨w.heap.size,0,none⟩:Addr).add j)=some u:=by
 intro j u hu;rw[add_plain,Nat.zero_add,Lib.cell_of_heap (heap_alloc_new w _)];rw[<-hu];simp[rC]
theorem row_one (r:Rw):∀ u∈rC r,u.oneCell'=true:=by
 intro u hu;simp only[rC,List.mem_cons,List.not_mem_nil,or_false]at hu;rcases hu with rfl | rfl | rfl<;>rfl
end Blk
namespace Blk
open Go.RowKit
open Rws (mk mk_data mk_size mk_of mk_ext mk_get mk_inj)
def sumL (xs:List Ln):Nat:=(xs.map List.length).sum
theorem sumL_cons (x:Ln) (r:List Ln):sumL (x::r)=x.length+sumL r:=by simp[sumL]
theorem sumL_app (a b:List Ln):sumL (a++b)=sumL a+sumL b:=by simp[sumL]
theorem sumL_take (xs:List Ln) (k:Nat):sumL (xs.take k)<=sumL xs:=by
 conv=>rhs;rw[<-List.take_append_drop k xs]
 rw[sumL_app];omega
theorem join_len (c:UInt8):∀ xs:List Ln,(joinW c xs).length<=sumL xs+xs.length
 | []=>by simp[joinW]
 | [x]=>by simp[joinW,sumL]
 | x::y::t=>by
  have ih:=join_len c (y::t);rw[join_cons,List.length_append,List.length_cons,sumL_cons,List.length_cons];omega
theorem sep_len (x:Ln) (r:List Ln):(sep x r).length<=1:=by
 unfold sep;split
 ·simp
 ·split
  ·split<;>simp
  ·simp
theorem fld_len:∀ xs:List Ln,(fld xs).length<=sumL xs+xs.length
 | []=>by simp[fld]
 | [x]=>by simp[fld,sumL]
 | x::y::t=>by
  have ih:=fld_len (y::t);have hs:=sep_len x (y::t);rw[fld_cons,List.length_append,List.length_append,sumL_cons,List.length_cons];omega
end Blk
namespace Blk
open Go.RowKit
open Rws (mk mk_data mk_size mk_of mk_ext mk_get mk_inj)
def sumT (rs:List Rw):Nat:=(rs.map fun r=>r.2.1.length).sum
theorem sumT_cons (r:Rw) (t:List Rw):sumT (r::t)=r.2.1.length+sumT t:=by simp[sumT]
theorem sumT_app (a b:List Rw):sumT (a++b)=sumT a+sumT b:=by simp[sumT]
def far (rs:List Rw):Bool:=rs.any fun r=>decide (300<r.1)
def wid (rs:List Rw):Bool:=far (rs.take 500) || (decide (500<rs.length) || decide (20000<sumT (rs.take 500)))
theorem lo_sum (C:Nat):∀ (b:Option Nat) (l:List Rw) (m:List Ln),lo b l=.inl m->(∀ r∈l,r.1<=(C:Int))->sumL m<=sumT l+l.length*C
 | b,[],m,h,_=>by cases h;simp[sumL]
 | b,r::t,m,h,hc=>by
  have hc':∀ x∈t,x.1<=(C:Int):=fun x hx=>hc x (by simp[hx])
  have hr:=hc r (by simp);have hm:mx r.1<=C:=by unfold mx;omega
  rw[lo]at h;rw[sumT_cons,List.length_cons,Nat.succ_mul];split at h
  ·cases hq:lo b t with
   | inl k=>rw[hq]at h;cases h;have:=lo_sum C b t k hq hc';rw[sumL_app];simp[sumL]at this |-;omega
   | inr a=>rw[hq]at h;cases h
  ·split at h
   ·cases h
   ·cases hq:lo (some (b.getD (mx r.1))) t with
    | inl k =>
     rw[hq]at h;cases h;have:=lo_sum C _ t k hq hc';rw[sumL_app];have e:sumL [List.replicate (mx r.1-b.getD (mx r.1)) 32++r.2.1]=(mx r.1-b.getD (mx r.1))+r.2.1.length:=by simp[sumL]
     rw[e];omega
    | inr a=>rw[hq]at h;cases h
theorem rws_sub (rs:List Rw) (col:Int):(rws rs col).length<=rs.length/\sumT (rws rs col)<=sumT rs/\∀ r∈rws rs col,r∈rs:=by
 induction rs with
 | nil=>exact⟨Nat.le_refl _,Nat.le_refl _,fun r h=>h⟩
 | cons r t ih =>
  obtain⟨h1,h2,h3⟩:=ih;rw[rws_cons];split
  ·refine⟨by simp;omega,by rw[sumT_cons,sumT_cons];omega,fun x hx=> ?_⟩;rcases List.mem_cons.1 hx with rfl | hx
   ·simp
   ·simp[h3 x hx]
  ·exact⟨by simp,by simp[sumT],fun x hx=>by cases hx⟩
theorem tak_bd {rs:List Rw} {col:Int} {C S:Nat} (hc:∀ r∈rs,r.1<=(C:Int)) (hs:sumT rs+rs.length*C+rs.length<=S):∀ ls,lo none (rws rs col)=.inl ls->(joinW 10 (trm ls)).length<=S/\(fld (trm ls)).length<=S:=by
 intro ls hl;obtain⟨h1,h2,h3⟩:=rws_sub rs col;have h4:=lo_sum C _ _ _ hl (fun r hr=>hc r (h3 r hr));have h5:=lo_len _ _ _ hl;have h6:=trm_le ls;have h7:sumL (trm ls)<=sumL ls:=by rw[<-trm_take ls];exact sumL_take ls _
 have h8:=join_len 10 (trm ls);have h9:=fld_len (trm ls);have h10:(rws rs col).length*C<=rs.length*C:=Nat.mul_le_mul_right _ h1;omega
end Blk
namespace Tre
open Utf Rws Pln Flw
open Go.RowKit
open Blk (Rw RwAt z3 StrsAt rC rowV rowV_app rw_own cell_three row_one)
set_option maxHeartbeats 4000000
theorem infoRowT:(Tryz.prog.info? 40).map (fun i=>(i.zero,i.size,i.bytes))=some (some (.agg #[.int .i64 0,.string ⟨#[]⟩,.int .i64 0]),3,32):=by kernel_rfl
def lnR (i:Nat) (l:Ln):Rw:=(((l.takeWhile is32).length:Int),gaps l,((i+1:Nat):Int))
def lnRs (ls:List Ln):Nat->List Rw
 | 0=>[]
 | k+1=>lnRs ls k++[lnR k (ls.getD k [])]
theorem gaps_drop (l:Ln):gaps l=l.drop (l.takeWhile is32).length:=by
 unfold gaps
 induction l with
 | nil=>rfl
 | cons b r ih =>
  rw[List.dropWhile_cons,List.takeWhile_cons];split
  ·rw[List.length_cons,List.drop_succ_cons];exact ih
  ·rfl
theorem rowsOf_any (a:Option Addr) (len cap:Nat) (ls:List Ln) (w:World) (h:StrsAt w a len ls) (hl:len<=1000000) (hlc:len<=cap) (hcm:cap<=9223372036854775807) (hb:∀ l∈ls,l.length<=65536) :
  Calls Tryz.prog 32 #[.slice a len cap] w fun e w'=>(∃ v,e=.returned v/\w'.ownsRow w.heap.size 40 3 v len (rowV (lnRs ls len)))/\Below w.heap.size w w':=by
 obtain⟨it,hi,hz0,hz1,hz2⟩:=info_parts infoRowT;have HST:Hid (StrsAt w a len ls):=h;have HLB:Hid (∀ l∈ls,l.length<=65536):=hb;clear h hb;go_enter Tryz.func32,Tryz.ntmps32;go_wp2
 go_loopw [3,9] (fun u3 u9 wr=>∃ j:Nat,j<=len/\u9=.int .i64 (j:Int)/\Hid (Below w.heap.size w wr/\wr.ownsRow w.heap.size 40 3 u3 j (rowV (lnRs ls j)))) (fun _ u9 _=>len-(intOf u9).toNat)
 case atStart=>exact⟨0,Nat.zero_le _,rfl,Below.refl _ _,World.ownsRow_nil _ _ _ _⟩
 case round =>
  obtain⟨j,hj,rfl,HL⟩:=hrel;by_cases hlt:j<len
  ·obtain⟨b,off,had,hbw,hcell⟩:=HST.out.2 (by omega);have x0:=hcell j hlt;subst had;replace x0:=(HL.out.1.cell (p:=⟨b,off+j,none⟩) hbw).trans x0;have hjl:j<ls.length:=by have:=HST.out.1;omega
   have hll:(ls.getD j []).length<=65536:=HLB.out _ (by rw[List.getD_eq_getElem?_getD,List.getElem?_eq_getElem hjl];exact List.getElem_mem hjl);obtain⟨l,HLJ⟩:∃ l,Hid (l=ls.getD j []):=⟨_,rfl⟩;rw[<-HLJ.out]at x0 hll;have hsz:=mk_size l;clear hcell hjl;go_wp2
   go_loop [6] (fun u6=>∃ n:Nat,n<=l.length/\u6=.int .i64 (n:Int)/\Hid ((l.takeWhile is32).length=n+((l.drop n).takeWhile is32).length)) (fun u6=>l.length-(intOf u6).toNat)
   case atStart=>exact⟨0,Nat.zero_le _,rfl,by show _=_;rw[List.drop_zero];omega⟩
   case round =>
    obtain⟨n,hn,rfl,HT⟩:=hrel;by_cases hnl:n<l.length
    case' pos =>
     have hlt':n<(mk l).size:=by rw[mk_size];exact hnl
     have hg:∀ h,(mk l)[n]'h=l.getD n 0:=fun h=>Rws.mk_getD l n h
     have hb32:=Pln.b32 (l.getD n 0);have HD:l.drop n=l.getD n 0::l.drop (n+1):=by rw[List.getD_eq_getElem?_getD,List.getElem?_eq_getElem hnl];simp
     cases h32:is32 (l.getD n 0)
     case true =>
      rw[h32]at hb32
      have HE:Hid ((l.takeWhile is32).length=n+1+((l.drop (n+1)).takeWhile is32).length):=by
       show _=_;have:=HT.out;rw[HD,List.takeWhile_cons,h32,if_pos rfl,List.length_cons]at this;omega
      clear h32 HD HT;generalize l.getD n 0=bb at hg hb32;go_wp2;go_round
      case rel=>exact⟨n+1,by omega,by go_num,HE⟩
      case measure=>(simp[intOf]<;>omega)
     rw[h32]at hb32
     have HE:Hid ((l.takeWhile is32).length=n):=by
      show _=_;have:=HT.out;rw[HD,List.takeWhile_cons,h32]at this;simpa using this
     clear h32 HD HT;generalize l.getD n 0=bb at hg hb32
    case' neg =>
     have e:n=l.length:=by omega
     have HE:Hid ((l.takeWhile is32).length=n):=by
      show _=_;have:=HT.out;rw[List.drop_eq_nil_of_le (by omega)]at this;simpa using this
     clear HT;have hnn: ¬ ((n:Int)<(l.length:Int)):=by omega
     have e2:Hid (n=l.length):=e;clear e
    all_goals
     go_upto_region 8 with fail
     have hex:(mk l).extract n l.length=mk (gaps l):=by rw[gaps_drop,HE.out,mk_ext,List.take_of_length_le (by rw[List.length_drop];exact Nat.le_refl _)]
     have HNW:Hid (∀ X:Value,wr.alloc (.cells #[.int .i64 (n:Int),.string (mk (gaps l)),.int .i64 ((j:Int)+1)] 40)=wr.alloc (.cells #[.int .i64 (n:Int),.string (mk (gaps l)),.int .i64 ((j:Int)+1)] 40)):=fun _=>rfl
     have hown2:=Blk.own_later HL.out.2 (below_alloc wr (.cells #[.int .i64 (n:Int),.string (mk (gaps l)),.int .i64 ((j:Int)+1)] 40));have HO2:Hid ((wr.alloc (.cells #[.int .i64 (n:Int),.string (mk (gaps l)),.int .i64 ((j:Int)+1)] 40)).ownsRow w.heap.size 40 3 u3 j (rowV (lnRs ls j))):=hown2;have HX7:Hid (Bx (wr.alloc (.cells #[.int .i64 (n:Int),.string (mk (gaps l)),.int .i64 ((j:Int)+1)] 40)) wr.heap.size #[.int .i64 (n:Int),.string (mk (gaps l)),.int .i64 ((j:Int)+1)] 40):=Bx.new _ _ _;have hbase:w.heap.size<=(wr.alloc (.cells #[.int .i64 (n:Int),.string (mk (gaps l)),.int .i64 ((j:Int)+1)] 40)).heap.size:=by rw[World.size_alloc];have:=HL.out.1.size;omega
     have HB1:Hid (Below w.heap.size w (wr.alloc (.cells #[.int .i64 (n:Int),.string (mk (gaps l)),.int .i64 ((j:Int)+1)] 40))):=HL.out.1.alloc HL.out.1.size _;have hml:j+1<=maxLen:=by unfold maxLen;omega
     have hbs:(j+1)*32<=140737488355328:=by omega
     have hne:∀ u∈[Value.int .i64 (n:Int),.string (mk (gaps l)),.int .i64 ((j:Int)+1)],u.oneCell'=true:=by
      intro u hu;simp only[List.mem_cons,List.not_mem_nil,or_false]at hu;rcases hu with rfl | rfl | rfl<;>rfl
     clear hown2 HNW;go_wp2_with (at_builtin;refine wpList_append_own_at _ rfl _ _ 41 rfl w.heap.size 40 it (.agg #[.int .i64 0,.string ⟨#[]⟩,.int .i64 0]) 3 32 Tryz.underlying41 hi hz0 hz1 hz2 rfl (by decide) u3 j (rowV (lnRs ls j)) rfl HO2.out ⟨wr.heap.size,0,none⟩ 1 1 [.int .i64 (n:Int),.string (mk (gaps l)),.int .i64 ((j:Int)+1)] rfl rfl (fun jj u hjj=>by rw[show (⟨wr.heap.size,0,none⟩:Addr).add jj=⟨wr.heap.size,jj,none⟩from by simp[Addr.add];exact fun h=>h.symm,HX7.out.cell jj];simpa using hjj) hne hml hbs hbase ?_);intro v' w5 hown5 hgr5 _ hat5
     have HB5:Hid (Below w.heap.size w w5/\w5.ownsRow w.heap.size 40 3 v' (j+1) (rowV (lnRs ls (j+1)))):=by
      refine⟨⟨hgr5.os.trans HB1.out.os,hgr5.tape.trans HB1.out.tape,hgr5.output.trans HB1.out.output,Nat.le_trans HB1.out.size hgr5.size,fun k hk=>(hgr5.block k (by have:=HB1.out.size;omega) (fun e=> ?_)).trans (HB1.out.block k hk)⟩,?_⟩
      ·have h2:=HO2.out.2;rcases h2 with ⟨e2,_⟩ | ⟨g,_,_,e2,hg,_⟩
       ·rw[e2]at e;cases e
       ·rw[e2]at e;cases e;exact absurd hk (Nat.not_lt.2 hg)
      ·rw[lnRs,rowV_app,<-HLJ.out]
       have e:rowV [lnR j l]=[.int .i64 (n:Int),.string (mk (gaps l)),.int .i64 ((j:Int)+1)]:=by
        unfold rowV lnR rC;simp[HE.out]
       rw[e];exact hown5
     clear hown5 hgr5 hat5 HO2 HX7 HB1;go_wp2_with fail;go_roundw
     case rel=>exact⟨j+1,by omega,by go_num,HB5⟩
     case measure=>(simp[intOf]<;>omega)
  ·have e:j=len:=by omega
   subst e;have HB:Hid _:=HL.out;go_wp2;go_ret;exact⟨⟨_,rfl,HB.out.2⟩,HB.out.1⟩
end Tre
namespace Tre
open Utf Rws Pln Flw
open Go.RowKit
open Blk (Rw RwAt z3 lo rws joinW trm fld headO hdV sumT)
set_option maxHeartbeats 1000000
theorem bkok_of {rs:List Rw} {C:Nat} (hc:∀ r∈rs,r.1<=(C:Int)) (hs:sumT rs+rs.length*C+rs.length<=1000000000):BkOk rs:=by
 intro us hu c ls hls
 have h1:sumT us<=sumT rs:=by
  obtain⟨A,B,rfl⟩:=hu;rw[Blk.sumT_app,Blk.sumT_app];omega
 have h2:=hu.length_le;have h3:us.length*C<=rs.length*C:=Nat.mul_le_mul_right _ h2;exact Blk.tak_bd (fun r hr=>hc r (hu.subset hr)) (S:=1000000000) (by omega) ls hls
theorem sumT_mem:∀ (rs:List Rw) (r:Rw),r∈rs->r.2.1.length<=sumT rs
 | x::t,r,h=>by
  rw[Blk.sumT_cons];rcases List.mem_cons.1 h with rfl | h
  ·omega
  ·have:=sumT_mem t r h;omega
theorem good_of {rs:List Rw} (h1:rs.length<=1000) (h2:sumT rs<=60000) (h3:∀ r∈rs,-9223372036854775808<=r.1/\r.1<=1000):Good rs:=by
 refine⟨by omega,fun r hr=> ?_,fun r hr=>⟨(h3 r hr).1,by have:=(h3 r hr).2;omega⟩,bkok_of (C:=1000) (fun r hr=>(h3 r hr).2) (by omega)⟩;have:=sumT_mem rs r hr;omega
def rows0:List Rw:=[(0,[97,58],1),(2,[45,32,49],2),(2,[45,32,98,58,32,99],3)]
def liveT:Tr:=⟨6,[],[],[⟨4,[97],[],[]⟩,⟨5,[],[],[⟨3,[49],[],[]⟩,⟨6,[],[],[⟨4,[98],[],[]⟩,⟨4,[99],[],[]⟩]⟩]⟩]⟩
theorem live_rows:lnRs [[97,58],[32,32,45,32,49],[32,32,45,32,98,58,32,99]] 3=rows0:=by kernel_rfl
theorem live_pa:paM 100 rows0=(liveT,0,0):=by kernel_rfl
theorem live_wr:wrt 64 liveT=[123,97,58,32,91,49,44,32,123,98,58,32,99,125,93,125]:=by kernel_rfl
theorem live_rgh:rgh 129 liveT=true:=by kernel_rfl
theorem live_bri:brief 129 liveT:=by
 have l1:∀ (d:Nat) (k:Int) (x:Ln),x.length<=65536->brief (d+1) ⟨k,x,[],[]⟩:=fun d k x hx=>⟨hx,Nat.zero_le _,fun i hi=>absurd hi (Nat.not_lt_zero _)⟩
 have l2:∀ (d:Nat) (k:Int) (s t:Tr),brief (d+1) s->brief (d+1) t->brief (d+2) ⟨k,[],[],[s,t]⟩:=fun d k s t hs ht=>⟨Nat.zero_le _,Nat.zero_le _,fun i hi=>by
  match i,hi with
  | 0,_=>exact hs
  | 1,_=>exact ht
  | n+2,hi=>exact absurd hi (by show ¬ n+2<2;omega)⟩
 exact l2 127 6 _ _ (l1 _ _ _ (by decide)) (l2 126 5 _ _ (l1 _ _ _ (by decide)) (l2 125 6 _ _ (l1 _ _ _ (by decide)) (l1 _ _ _ (by decide))))
theorem live_good:Good rows0:=good_of (by decide) (by decide) (fun r hr=>by
 simp only[rows0,List.mem_cons,List.not_mem_nil,or_false]at hr;rcases hr with rfl | rfl | rfl<;>(constructor<;>decide))
end Tre
end Go.Proofs.YtommfbbpomfnfaaGreatDoor
