/- . -/
import Derived.Test.YtidhpmcmbooaoaaGreatDoorR38FlowAllow
import Derived.Test.YtidhpmcmbooaoaaGreatDoorR44QuotePut
import Derived.Maps.AppendAt
set_option linter.unusedSimpArgs false
set_option linter.unusedVariables false
set_option maxRecDepth 100000
namespace Go.Proofs.YtidhpmcmbooaoaaGreatDoor
namespace Tre
open Utf Rws Pln Flw
open Go.RowKit
open Blk (Rw RwAt z3 StrsAt rC rowV rowV_app rw_own cell_three row_one)
set_option maxHeartbeats 4000000
theorem infoRowT:(Tryz.prog.info? 45).map (fun i=>(i.zero,i.size,i.bytes))=some (some (.agg #[.int .i64 0,.string ⟨#[]⟩,.int .i64 0]),3,32):=by kernel_rfl
def lnR (i:Nat) (l:Ln):Rw:=(((l.takeWhile is32).length:Int),gaps l,((i+1:Nat):Int))
def lnRs (ls:List Ln):Nat->List Rw
 | 0=>[]
 | k+1=>lnRs ls k++[lnR k (ls.getD k [])]
theorem gaps_drop (l:Ln):gaps l=l.drop (l.takeWhile is32).length:=by
 unfold gaps
 induction l with
 | nil=>rfl
 | cons b r ih =>
  rw[List.dropWhile_cons,List.takeWhile_cons];split
  ·rw[List.length_cons,List.drop_succ_cons];exact ih
  ·rfl
theorem rowsOf_any (a:Option Addr) (len cap:Nat) (ls:List Ln) (w:World) (h:StrsAt w a len ls) (hl:len<=1000000) (hlc:len<=cap) (hcm:cap<=9223372036854775807) (hb:∀ l∈ls,l.length<=65536) :
  Calls Tryz.prog 9 #[.slice a len cap] w fun e w'=>(∃ v,e=.returned v/\w'.ownsRow w.heap.size 45 3 v len (rowV (lnRs ls len)))/\Below w.heap.size w w':=by
 obtain⟨it,hi,hz0,hz1,hz2⟩:=info_parts infoRowT;have HST:Hid (StrsAt w a len ls):=h;have HLB:Hid (∀ l∈ls,l.length<=65536):=hb;clear h hb;go_enter Tryz.func9,Tryz.ntmps9;go_wp2
 go_loopw [3,9] (fun u3 u9 wr=>∃ j:Nat,j<=len/\u9=.int .i64 (j:Int)/\Hid (Below w.heap.size w wr/\wr.ownsRow w.heap.size 45 3 u3 j (rowV (lnRs ls j)))) (fun _ u9 _=>len-(intOf u9).toNat)
 case atStart=>exact⟨0,Nat.zero_le _,rfl,Below.refl _ _,World.ownsRow_nil _ _ _ _⟩
 case round =>
  obtain⟨j,hj,rfl,HL⟩:=hrel;by_cases hlt:j<len
  ·obtain⟨b,off,had,hbw,hcell⟩:=HST.out.2 (by omega);have x0:=hcell j hlt;subst had;replace x0:=(HL.out.1.cell (p:=⟨b,off+j,none⟩) hbw).trans x0;have hjl:j<ls.length:=by have:=HST.out.1;omega
   have hll:(ls.getD j []).length<=65536:=HLB.out _ (by rw[List.getD_eq_getElem?_getD,List.getElem?_eq_getElem hjl];exact List.getElem_mem hjl);obtain⟨l,HLJ⟩:∃ l,Hid (l=ls.getD j []):=⟨_,rfl⟩;rw[<-HLJ.out]at x0 hll;have hsz:=mk_size l;clear hcell hjl;go_wp2
   go_loop [6] (fun u6=>∃ n:Nat,n<=l.length/\u6=.int .i64 (n:Int)/\Hid ((l.takeWhile is32).length=n+((l.drop n).takeWhile is32).length)) (fun u6=>l.length-(intOf u6).toNat)
   case atStart=>exact⟨0,Nat.zero_le _,rfl,by show _=_;rw[List.drop_zero];omega⟩
   case round =>
    obtain⟨n,hn,rfl,HT⟩:=hrel;by_cases hnl:n<l.length
    case' pos =>
     have hlt':n<(mk l).size:=by rw[mk_size];exact hnl
     have hg:∀ h,(mk l)[n]'h=l.getD n 0:=fun h=>Rws.mk_getD l n h
     have hb32:=Pln.b32 (l.getD n 0);have HD:l.drop n=l.getD n 0::l.drop (n+1):=by rw[List.getD_eq_getElem?_getD,List.getElem?_eq_getElem hnl];simp
     cases h32:is32 (l.getD n 0)
     case true =>
      rw[h32]at hb32
      have HE:Hid ((l.takeWhile is32).length=n+1+((l.drop (n+1)).takeWhile is32).length):=by
       show _=_;have:=HT.out;rw[HD,List.takeWhile_cons,h32,if_pos rfl,List.length_cons]at this;omega
      clear h32 HD HT;generalize l.getD n 0=bb at hg hb32;go_wp2;go_round
      case rel=>exact⟨n+1,by omega,by go_num,HE⟩
      case measure=>(simp[intOf]<;>omega)
     rw[h32]at hb32
     have HE:Hid ((l.takeWhile is32).length=n):=by
      show _=_;have:=HT.out;rw[HD,List.takeWhile_cons,h32]at this;simpa using this
     clear h32 HD HT;generalize l.getD n 0=bb at hg hb32
    case' neg =>
     have e:n=l.length:=by omega
     have HE:Hid ((l.takeWhile is32).length=n):=by
      show _=_;have:=HT.out;rw[List.drop_eq_nil_of_le (by omega)]at this;simpa using this
     clear HT;have hnn: ¬ ((n:Int)<(l.length:Int)):=by omega
     have e2:Hid (n=l.length):=e;clear e
    all_goals
     go_upto_region 8 with fail
     have hex:(mk l).extract n l.length=mk (gaps l):=by rw[gaps_drop,HE.out,mk_ext,List.take_of_length_le (by rw[List.length_drop];exact Nat.le_refl _)]
     have HNW:Hid (∀ X:Value,wr.alloc (.cells #[.int .i64 (n:Int),.string (mk (gaps l)),.int .i64 ((j:Int)+1)] 45)=wr.alloc (.cells #[.int .i64 (n:Int),.string (mk (gaps l)),.int .i64 ((j:Int)+1)] 45)):=fun _=>rfl
     have hown2:=Blk.own_later HL.out.2 (below_alloc wr (.cells #[.int .i64 (n:Int),.string (mk (gaps l)),.int .i64 ((j:Int)+1)] 45));have HO2:Hid ((wr.alloc (.cells #[.int .i64 (n:Int),.string (mk (gaps l)),.int .i64 ((j:Int)+1)] 45)).ownsRow w.heap.size 45 3 u3 j (rowV (lnRs ls j))):=hown2;have HX7:Hid (Bx (wr.alloc (.cells #[.int .i64 (n:Int),.string (mk (gaps l)),.int .i64 ((j:Int)+1)] 45)) wr.heap.size #[.int .i64 (n:Int),.string (mk (gaps l)),.int .i64 ((j:Int)+1)] 45):=Bx.new _ _ _;have hbase:w.heap.size<=(wr.alloc (.cells #[.int .i64 (n:Int),.string (mk (gaps l)),.int .i64 ((j:Int)+1)] 45)).heap.size:=by rw[World.size_alloc];have:=HL.out.1.size;omega
     have HB1:Hid (Below w.heap.size w (wr.alloc (.cells #[.int .i64 (n:Int),.string (mk (gaps l)),.int .i64 ((j:Int)+1)] 45))):=HL.out.1.alloc HL.out.1.size _;have hml:j+1<=maxLen:=by unfold maxLen;omega
     have hbs:(j+1)*32<=140737488355328:=by omega
     have hne:∀ u∈[Value.int .i64 (n:Int),.string (mk (gaps l)),.int .i64 ((j:Int)+1)],u.oneCell'=true:=by
      intro u hu;simp only[List.mem_cons,List.not_mem_nil,or_false]at hu;rcases hu with rfl | rfl | rfl<;>rfl
     clear hown2 HNW;go_wp2_with (at_builtin;refine wpList_append_own_at _ rfl _ _ 28 rfl w.heap.size 45 it (.agg #[.int .i64 0,.string ⟨#[]⟩,.int .i64 0]) 3 32 Tryz.underlying28 hi hz0 hz1 hz2 rfl (by decide) u3 j (rowV (lnRs ls j)) rfl HO2.out ⟨wr.heap.size,0,none⟩ 1 1 [.int .i64 (n:Int),.string (mk (gaps l)),.int .i64 ((j:Int)+1)] rfl rfl (fun jj u hjj=>by rw[show (⟨wr.heap.size,0,none⟩:Addr).add jj=⟨wr.heap.size,jj,none⟩from by simp[Addr.add];exact fun h=>h.symm,HX7.out.cell jj];simpa using hjj) hne hml hbs hbase ?_);intro v' w5 hown5 hgr5 _ hat5
     have HB5:Hid (Below w.heap.size w w5/\w5.ownsRow w.heap.size 45 3 v' (j+1) (rowV (lnRs ls (j+1)))):=by
      refine⟨⟨hgr5.os.trans HB1.out.os,hgr5.tape.trans HB1.out.tape,hgr5.output.trans HB1.out.output,Nat.le_trans HB1.out.size hgr5.size,fun k hk=>(hgr5.block k (by have:=HB1.out.size;omega) (fun e=> ?_)).trans (HB1.out.block k hk)⟩,?_⟩
      ·have h2:=HO2.out.2;rcases h2 with ⟨e2,_⟩ | ⟨g,_,_,e2,hg,_⟩
       ·rw[e2]at e;cases e
       ·rw[e2]at e;cases e;exact absurd hk (Nat.not_lt.2 hg)
      ·rw[lnRs,rowV_app,<-HLJ.out]
       have e:rowV [lnR j l]=[.int .i64 (n:Int),.string (mk (gaps l)),.int .i64 ((j:Int)+1)]:=by
        unfold rowV lnR rC;simp[HE.out]
       rw[e];exact hown5
     clear hown5 hgr5 hat5 HO2 HX7 HB1;go_wp2_with fail;go_roundw
     case rel=>exact⟨j+1,by omega,by go_num,HB5⟩
     case measure=>(simp[intOf]<;>omega)
  ·have e:j=len:=by omega
   subst e;have HB:Hid _:=HL.out;go_wp2;go_ret;exact⟨⟨_,rfl,HB.out.2⟩,HB.out.1⟩
end Tre
end Go.Proofs.YtidhpmcmbooaoaaGreatDoor
