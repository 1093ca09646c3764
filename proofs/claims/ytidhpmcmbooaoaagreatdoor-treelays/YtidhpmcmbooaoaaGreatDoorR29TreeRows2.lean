/- . -/
import Derived.Test.YtidhpmcmbooaoaaGreatDoorR28TreeRows
import Derived.BigQuiet
import Derived.Deep.QuietTactic
set_option linter.unusedSimpArgs false
set_option linter.unusedVariables false
set_option maxRecDepth 100000
namespace Go.Proofs.YtidhpmcmbooaoaaGreatDoor
namespace Tre
open Utf Rws Pln Flw
open Go.RowKit
open Blk (Rw RwAt z3)
set_option maxHeartbeats 4000000
def dpr (c:Int) (r:Rw):Bool:=noth r.2.1 || decide (c<r.1)
def dpn (rs:List Rw) (c:Int):Nat:=(rs.takeWhile (dpr c)).length
theorem dpn_at:∀ (rs:List Rw) (c:Int) (j:Nat),j<rs.length->(∀ i,i<j->dpr c (rs.getD i z3)=true)->dpr c (rs.getD j z3)=false->dpn rs c=j
 | [],c,j,hj,_,_=>by cases hj
 | r::rs,c,0,hj,_,hn=>by
  have hn2:dpr c r=false:=hn;unfold dpn;rw[List.takeWhile_cons,if_neg (by rw[hn2];decide)];rfl
 | r::rs,c,j+1,hj,h,hn=>by
  have h0:dpr c r=true:=h 0 (by omega);have ih:=dpn_at rs c j (by simpa using hj) (fun i hi=>h (i+1) (by omega)) hn;unfold dpn at *;rw[List.takeWhile_cons,if_pos h0,List.length_cons,ih]
theorem dpn_all:∀ (rs:List Rw) (c:Int),(∀ i,i<rs.length->dpr c (rs.getD i z3)=true)->dpn rs c=rs.length
 | [],c,_=>rfl
 | r::rs,c,h=>by
  have h0:dpr c r=true:=h 0 (by simp);have ih:=dpn_all rs c (fun i hi=>h (i+1) (by simpa using hi));unfold dpn at *;rw[List.takeWhile_cons,if_pos h0,List.length_cons,ih,List.length_cons]
theorem deeper_any (a:Option Addr) (len cap:Nat) (rs:List Rw) (c:Int) (w:World) (h:RowsIn w a len cap rs):Calls Tryz.prog 54 #[.slice a len cap,.int .i64 c] w fun e w'=>e=.returned (.int .i64 (dpn rs c:Int))/\Below w.heap.size w w':=by
 have HR:Hid (RowsIn w a len cap rs):=h;have hm:maxLen=9223372036854775807:=rfl;have hcl:len<=9223372036854775807:=by have:=h.2.1;have:=h.2.2.1;omega
 clear h;go_enter Tryz.func54,Tryz.ntmps54;go_wp2
 go_loopw [9] (fun ui wr=>∃ j:Nat,j<=len/\ui=.int .i64 (j:Int)/\Hid (Below w.heap.size w wr/\∀ i,i<j->dpr c (rs.getD i z3)=true)) (fun ui _=>len-(intOf ui).toNat)
 case atStart=>exact⟨0,Nat.zero_le _,rfl,Below.refl _ _,fun i hi=>absurd hi (Nat.not_lt_zero _)⟩
 case round =>
  obtain⟨j,hj,rfl,HL⟩:=hrel;by_cases hlt:j<len
  ·obtain⟨b,off,had,hb,hcell⟩:=HR.out.1.2 (by omega);obtain⟨x0,x1,x2⟩:=hcell j hlt;subst had;have hjr:j<rs.length:=by have:=HR.out.1.1;omega
   have htl:=HR.out.2.2.2 _ (getD_memR hjr);have HCN:Hid (dpr c (rs.getD j z3)=false->dpn rs c=j):=fun hn=>dpn_at rs c j hjr HL.out.2 hn
   have HDP:Hid (dpr c (rs.getD j z3)=(noth (rs.getD j z3).2.1 || decide (c<(rs.getD j z3).1))):=rfl;replace x0:=(HL.out.1.cell (p:=⟨b,off+j*3,none⟩) hb).trans x0;replace x1:=(HL.out.1.cell (p:=⟨b,off+j*3+1,none⟩) hb).trans x1;replace x2:=(HL.out.1.cell (p:=⟨b,off+j*3+2,none⟩) hb).trans x2;have HIE:Hid (∀ w0,Calls Tryz.prog 33 #[.string (mk (rs.getD j z3).2.1)] w0 fun e w'=>e=.returned (.bool (noth (rs.getD j z3).2.1))/\w0=w'):=fun w0=>isEmpty_any _ w0 (by omega)
   have HBA:Hid (∀ o,Below w.heap.size w (wr.alloc o)):=fun o=>HL.out.1.alloc HL.out.1.size o
   have HNX:Hid (dpr c (rs.getD j z3)=true->∀ i,i<j+1->dpr c (rs.getD i z3)=true):=fun hn i hi=>by
    by_cases e:i=j
    ·rw[e];exact hn
    ·exact HL.out.2 i (by omega)
   clear hcell HR htl hjr HL;generalize dpr c (rs.getD j z3)=dq at *;generalize (rs.getD j z3).1=rc at *;generalize (rs.getD j z3).2.2=ra at *;generalize (rs.getD j z3).2.1=rt at *;cases hn:noth rt
   ·rw[hn]at HIE HDP;by_cases hcc:c<rc
    ·have HNE:Hid (∀ i,i<j+1->dpr c (rs.getD i z3)=true):=HNX.out (by rw[HDP.out,decide_eq_true hcc];rfl);clear HCN HNX hn HDP;go_wp2_with (go_at_call 33;refine(HIE.out _).mono ?_;rintro e w' ⟨rfl,rfl⟩);go_roundw
     case rel=>exact⟨j+1,by omega,by go_num,HBA.out _,HNE.out⟩
     case measure=>simp[intOf];omega
    ·have HCE:Hid (dpn rs c=j):=HCN.out (by rw[HDP.out,decide_eq_false hcc];rfl);have hcc':rc<=c:=by omega
     clear HCN HNX hn HDP hcc;go_wp2_with (go_at_call 33;refine(HIE.out _).mono ?_;rintro e w' ⟨rfl,rfl⟩);go_ret;exact⟨by rw[HCE.out];rfl,HBA.out _⟩
   ·rw[hn]at HIE HDP;have HNE:Hid (∀ i,i<j+1->dpr c (rs.getD i z3)=true):=HNX.out (by rw[HDP.out];rfl);clear HCN HNX hn HDP;go_wp2_with (go_at_call 33;refine(HIE.out _).mono ?_;rintro e w' ⟨rfl,rfl⟩);go_roundw
    case rel=>exact⟨j+1,by omega,by go_num,HBA.out _,HNE.out⟩
    case measure=>simp[intOf];omega
  ·have HLE:Hid (len=rs.length):=HR.out.1.1;have HCE:Hid (dpn rs c=rs.length):=dpn_all rs c (fun i hi=>HL.out.2 i (by have:=HLE.out;omega));have HBB:Hid (Below w.heap.size w wr):=HL.out.1;clear HL HR;go_wp2;go_ret;exact⟨by rw[HCE.out,<-HLE.out];rfl,HBB.out⟩
def stE (c:Int) (rs:List Rw):Int:=match cnt rs with
 | []=>0
 | r::_=>if r.1<c then 9 else 3
def stA (rs:List Rw):Int:=match cnt rs with
 | []=>0
 | r::_=>r.2.2
theorem stray_any (c:Int) (x:Ln) (z:Int) (a:Option Addr) (len cap:Nat) (rs:List Rw) (w:World) (h:RowsIn w a len cap rs):Calls Tryz.prog 80 #[rV c x z,.slice a len cap] w fun e w'=>e=.returned (fV (stE c rs) (stA rs))/\Below w.heap.size w w':=by
 have hm:maxLen=9223372036854775807:=rfl;have HE:Hid (∀ r q,cnt rs=r::q->stE c rs=(if r.1<c then 9 else 3)/\stA rs=r.2.2):=fun r q e=>by unfold stE stA;rw[e];exact⟨rfl,rfl⟩
 have HZ:Hid (cnt rs=[]->stE c rs=0/\stA rs=0):=fun e=>by unfold stE stA;rw[e];exact⟨rfl,rfl⟩
 have HCT:Hid (∀ w0,Below w.heap.size w w0->Calls Tryz.prog 30 #[.slice a len cap] w0 fun e w'=>CntRes rs w0 e w'):=fun w0 b=>counted_any a len cap rs w0 (h.later b)
 have b1:=below_alloc w (.cells #[.int .i64 c,.string (mk x),.int .i64 z] 45);have s1:(w.alloc (.cells #[.int .i64 c,.string (mk x),.int .i64 z] 45)).heap.size=w.heap.size+1:=World.size_alloc _ _;have b2:=below_alloc (w.alloc (.cells #[.int .i64 c,.string (mk x),.int .i64 z] 45)) (.cells #[.int .i64 0,.int .i64 0] 33);have n1:=(Bx.new w #[.int .i64 c,.string (mk x),.int .i64 z] 45).later b2;have n2:=Bx.new (w.alloc (.cells #[.int .i64 c,.string (mk x),.int .i64 z] 45)) #[.int .i64 0,.int .i64 0] 33;rw[s1]at n2;have B0:=b1.trans (b2.mono b1.size);clear h;go_enter Tryz.func80,Tryz.ntmps80;go_wp2_with fail;generalize (w.alloc (.cells #[.int .i64 c,.string (mk x),.int .i64 z] 45)).alloc (.cells #[.int .i64 0,.int .i64 0] 33)=W at n1 n2 B0 |-;obtain⟨K1,hK1⟩:∃ K1,K1=w.heap.size+1:=⟨_,rfl⟩;obtain⟨K0,hK0⟩:∃ K0,K0=w.heap.size:=⟨_,rfl⟩;rw[<-hK1]at n2 |-;rw[<-hK0]at n1 |-;have HM:Hid (Below w.heap.size w W/\Bx W K1 #[.int .i64 0,.int .i64 0] 33/\Bx W K0 #[.int .i64 c,.string (mk x),.int .i64 z] 45):=⟨B0,n2,n1⟩;have hle:w.heap.size<=K1:=by omega
 have hne:K0≠K1:=by omega
 clear n1 n2 B0 b1 b2 s1 hK0 hK1;refine(HCT.out W HM.out.1).mono ?_;rintro e w3 ⟨⟨a',len',cap',rfl,hR⟩,hb3⟩;have HR:Hid (RowsIn w3 a' len' cap' (cnt rs)):=hR;have P3:Hid (Below w.heap.size w w3/\Bx w3 K1 #[.int .i64 0,.int .i64 0] 33):=⟨HM.out.1.trans (hb3.mono HM.out.1.size),HM.out.2.1.later hb3⟩;obtain⟨r0,r1,r2⟩:=Bx.c3 ((HM.out.2.2.later hb3));have hlc:len'<=9223372036854775807:=by have:=hR.2.1;have:=hR.2.2.1;omega
 clear hR hb3 HM HCT
 cases hc:cnt rs with
 | nil =>
  have hl0:len'=0:=by have:=HR.out.1.1;rw[hc]at this;exact this
  have HST:Hid (stE c rs=0/\stA rs=0):=HZ.out hc;subst hl0;clear HR HE HZ hc;obtain⟨w6,hw6⟩:∃ w6,w6=w3:=⟨_,rfl⟩;rw[<-hw6]at P3 r0 r1 r2 |-;clear hw6;have B6:=P3;clear P3;obtain⟨f0,f1,g0,g1⟩:w6.cell? ⟨K1,0,none⟩=some (.int .i64 0)/\w6.cell? ⟨K1,1,none⟩=some (.int .i64 0)/\w6.frozen? ⟨K1,0,none⟩=false/\w6.frozen? ⟨K1,1,none⟩=false:=⟨B6.out.2.cell 0,B6.out.2.cell 1,B6.out.2.fz 0,B6.out.2.fz 1⟩;have HF:Hid (Below w.heap.size w ((w6.setCell ⟨K1,0,none⟩ (.int .i64 0)).setCell ⟨K1,1,none⟩ (.int .i64 0))/\Bx ((w6.setCell ⟨K1,0,none⟩ (.int .i64 0)).setCell ⟨K1,1,none⟩ (.int .i64 0)) K1 #[.int .i64 0,.int .i64 0] 33):=⟨(B6.out.1.setCell (by show _<=K1;omega) _).setCell (by show _<=K1;omega) _,(B6.out.2.set 0 (.int .i64 0)).set 1 (.int .i64 0)⟩;clear B6;go_wp2;generalize (w6.setCell ⟨K1,0,none⟩ (.int .i64 0)).setCell ⟨K1,1,none⟩ (.int .i64 0)=WF at HF |-;obtain⟨j0,j1⟩:=HF.out.2.c2;refine bodyPost_ret (v:=.agg #[.int .i64 0,.int .i64 0]) (by simp[results,Tryz.results80,go_sem,j0,j1]) rfl ⟨?_,HF.out.1⟩;rw[HST.out.1,HST.out.2]
 | cons r q =>
  have hl1:len'=q.length+1:=by have:=HR.out.1.1;rw[hc]at this;exact this
  have hl0:0<len':=by omega
  obtain⟨b,off,had,hb,hcell⟩:=HR.out.1.2 hl0;obtain⟨x0,x1,x2⟩:=hcell 0 hl0;rw[hc]at x0 x1 x2;subst had;obtain⟨rc,rt,ra⟩:=r;have x0':w3.cell? ⟨b,off,none⟩=some (.int .i64 rc):=by simpa using x0
  have x1':w3.cell? ⟨b,off+1,none⟩=some (.string (mk rt)):=by simpa using x1
  have x2':w3.cell? ⟨b,off+2,none⟩=some (.int .i64 ra):=by simpa using x2
  have HS0:=HE.out _ _ hc;have HST0:Hid (stE c rs=(if rc<c then 9 else 3)/\stA rs=ra):=HS0;clear HS0 HE HZ hc HR hcell x0 x1 x2 hl1;by_cases hcc:rc<c
  ·have HST:Hid (stE c rs=9/\stA rs=ra):=⟨HST0.out.1.trans (if_pos hcc),HST0.out.2⟩;clear HST0;go_wp2_with fail;go_quiet (fail);have P4:Hid (Below w.heap.size w (w3.drewN nq)/\Bx (w3.drewN nq) K1 #[.int .i64 0,.int .i64 0] 33):=⟨below_drewN P3.out.1 nq,P3.out.2.drew nq⟩;go_wp2_with fail;refine(faultOf_any 9 rc rt ra _).mono ?_;rintro e w6 ⟨rfl,H6⟩;have B6:Hid (Below w.heap.size w w6/\Bx w6 K1 #[.int .i64 0,.int .i64 0] 33):=⟨P4.out.1.trans (H6.mono P4.out.1.size),P4.out.2.later H6⟩;clear P3 H6;obtain⟨f0,f1,g0,g1⟩:w6.cell? ⟨K1,0,none⟩=some (.int .i64 0)/\w6.cell? ⟨K1,1,none⟩=some (.int .i64 0)/\w6.frozen? ⟨K1,0,none⟩=false/\w6.frozen? ⟨K1,1,none⟩=false:=⟨B6.out.2.cell 0,B6.out.2.cell 1,B6.out.2.fz 0,B6.out.2.fz 1⟩;have HF:Hid (Below w.heap.size w ((w6.setCell ⟨K1,0,none⟩ (.int .i64 9)).setCell ⟨K1,1,none⟩ (.int .i64 ra))/\Bx ((w6.setCell ⟨K1,0,none⟩ (.int .i64 9)).setCell ⟨K1,1,none⟩ (.int .i64 ra)) K1 #[.int .i64 9,.int .i64 ra] 33):=⟨(B6.out.1.setCell (by show _<=K1;omega) _).setCell (by show _<=K1;omega) _,(B6.out.2.set 0 (.int .i64 9)).set 1 (.int .i64 ra)⟩;clear B6;go_wp2;generalize (w6.setCell ⟨K1,0,none⟩ (.int .i64 9)).setCell ⟨K1,1,none⟩ (.int .i64 ra)=WF at HF |-;obtain⟨j0,j1⟩:=HF.out.2.c2;refine bodyPost_ret (v:=.agg #[.int .i64 9,.int .i64 ra]) (by simp[results,Tryz.results80,go_sem,j0,j1]) rfl ⟨?_,HF.out.1⟩;rw[HST.out.1,HST.out.2]
  ·have HST:Hid (stE c rs=3/\stA rs=ra):=⟨HST0.out.1.trans (if_neg hcc),HST0.out.2⟩;have hcc':c<=rc:=by omega
   clear HST0 hcc;go_wp2_with fail;go_quiet (fail);have P4:Hid (Below w.heap.size w (w3.drewN nq)/\Bx (w3.drewN nq) K1 #[.int .i64 0,.int .i64 0] 33):=⟨below_drewN P3.out.1 nq,P3.out.2.drew nq⟩;go_wp2_with fail;refine(faultOf_any 3 rc rt ra _).mono ?_;rintro e w6 ⟨rfl,H6⟩;have B6:Hid (Below w.heap.size w w6/\Bx w6 K1 #[.int .i64 0,.int .i64 0] 33):=⟨P4.out.1.trans (H6.mono P4.out.1.size),P4.out.2.later H6⟩;clear P3 H6;obtain⟨f0,f1,g0,g1⟩:w6.cell? ⟨K1,0,none⟩=some (.int .i64 0)/\w6.cell? ⟨K1,1,none⟩=some (.int .i64 0)/\w6.frozen? ⟨K1,0,none⟩=false/\w6.frozen? ⟨K1,1,none⟩=false:=⟨B6.out.2.cell 0,B6.out.2.cell 1,B6.out.2.fz 0,B6.out.2.fz 1⟩;have HF:Hid (Below w.heap.size w ((w6.setCell ⟨K1,0,none⟩ (.int .i64 3)).setCell ⟨K1,1,none⟩ (.int .i64 ra))/\Bx ((w6.setCell ⟨K1,0,none⟩ (.int .i64 3)).setCell ⟨K1,1,none⟩ (.int .i64 ra)) K1 #[.int .i64 3,.int .i64 ra] 33):=⟨(B6.out.1.setCell (by show _<=K1;omega) _).setCell (by show _<=K1;omega) _,(B6.out.2.set 0 (.int .i64 3)).set 1 (.int .i64 ra)⟩;clear B6;go_wp2;generalize (w6.setCell ⟨K1,0,none⟩ (.int .i64 3)).setCell ⟨K1,1,none⟩ (.int .i64 ra)=WF at HF |-;obtain⟨j0,j1⟩:=HF.out.2.c2;refine bodyPost_ret (v:=.agg #[.int .i64 3,.int .i64 ra]) (by simp[results,Tryz.results80,go_sem,j0,j1]) rfl ⟨?_,HF.out.1⟩;rw[HST.out.1,HST.out.2]
end Tre
end Go.Proofs.YtidhpmcmbooaoaaGreatDoor
