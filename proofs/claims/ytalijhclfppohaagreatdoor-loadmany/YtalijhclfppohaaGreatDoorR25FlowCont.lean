/- . -/
import Derived.Test.YtalijhclfppohaaGreatDoorR24FlowBrk
set_option linter.unusedSimpArgs false
set_option linter.unusedVariables false
set_option maxRecDepth 100000
namespace Go.Proofs.YtalijhclfppohaaGreatDoor
namespace Flw
open Utf Rws Pln
open Go.RowKit
set_option maxHeartbeats 4000000
variable {b p dp d:Nat} {s:Ln} {w w1 w2:World}
def ConRes (b:Nat) (s:Ln) (dp:Nat) (w:World) (d:Nat) (r:Ot ((Tr × Ln) × Ln)) (e:Ending) (w':World):Prop:=match r with
 | .ok x=>∃ v,e=.returned (.tuple #[v,.string (mk x.1.2),f0])/\TrP w.heap.size w' d v x.1.1/\(∃ q,q<=s.length/\x.2=s.drop q/\Rd w' b s q dp)/\Fr b w w'
 | .error f=>∃ (v:Value) (t:Tr) (y:ByteArray),TrP w.heap.size w' 1 v t/\e=.returned (.tuple #[v,.string y,fv s.length f])/\Fr b w w'
def brk (inner:Option (Ln->Ot (Tr × Ln))) (map:Bool) (l:Ln):Ot (List Tr × Ln):=match inner with
 | none=>.error (10,(gaps l).length)
 | some v=>lbr v map (gaps l).length ((gaps l).drop 1)
def BrkOk (b:Nat) (s:Ln) (dp d:Nat) (inner:Option (Ln->Ot (Tr × Ln))):Prop:=∀ (w:World) (p:Nat),Rd w b s p dp->p<=s.length->TbB b w->gaps (s.drop p)≠[] ->
 Calls Tryz.prog 169 #[.pointer (some ⟨b,0,none⟩),.string ⟨#[93]⟩,.func (.func 170) #[.pointer (some ⟨b,0,none⟩)] #[]] w (fun e w'=>BrkRes b s dp w d (brk inner false (s.drop p)) e w') /\
 Calls Tryz.prog 169 #[.pointer (some ⟨b,0,none⟩),.string ⟨#[125]⟩,.func (.func 171) #[.pointer (some ⟨b,0,none⟩)] #[]] w (fun e w'=>BrkRes b s dp w d (brk inner true (s.drop p)) e w')
theorem lcont_brk (inner:Option (Ln->Ot (Tr × Ln))) (f map:Bool) (l:Ln) (h:hd (gaps l)=if map=true then 123 else 91):lcont inner f l=bnd (brk inner map l) fun x=>.ok ((⟨kindOf map,[],[],x.1⟩,[]),x.2):=by
 unfold lcont brk;have hm:(hd (gaps l)==123)=map:=by rw[h];cases map<;>rfl
 rw[if_pos (by rw[h];cases map<;>simp),hm];cases inner<;>rfl
theorem TrP.drew1 {c:Nat} {v:Value} {t:Tr} (h:TrP c w d v t):TrP c w.drew d v t:=h.later ((Below.refl _ _).drew)
theorem content_any {inner:Option (Ln->Ot (Tr × Ln))} (f:Bool) (hbr:BrkOk b s dp d inner) (h:Rd w b s p dp) (hp:p<=s.length) (hs:s.length<=65536) (hT:TbB b w) :
  Calls Tryz.prog 150 #[.pointer (some ⟨b,0,none⟩),.bool f] w fun e w'=>ConRes b s dp w (d+1) (lcont inner f (s.drop p)) e w':=by
 have hS:=S2.new w h.lt;have hr:=h.two;have hT0:=hT.fr hS.fr;have hC1:=hS.k0.lt;have hC2:=hS.k1.lt;have hC3:=hS.fr.size;obtain⟨W,hW⟩:∃ W,(w.alloc (.cells zT 35)).alloc (.cells zF 32)=W:=⟨_,rfl⟩;rw[hW]at hS hr hT0 hC1 hC2 hC3
 have HSE:Hid (∀ (c:UInt8) k,c=91\/c=123->Calls Tryz.prog 164 #[.pointer (some ⟨b,0,none⟩),.string ⟨#[c]⟩] (W.drewN k) fun e w'=>e=.returned (.bool (decide (hd (gaps (s.drop p))=c)))/\∃ n,w'=(W.drewN k).drewN n):=fun c k hc=>by
  have:=sees_any [c] (hr.drew k) hp hs (by simp);rw[see_hd s p (by rcases hc with rfl | rfl<;>decide)]at this;exact this
 have HSC:Hid (∀ k,Calls Tryz.prog 172 #[.pointer (some ⟨b,0,none⟩),.bool f] (W.drewN k) fun e w'=>SclRes b s dp (W.drewN k) (lscl f (s.drop p)) e w'):=fun k=>scalar_any f (hr.drew k) hp hs (hT0.later (below_drewN (Below.refl _ _) k))
 go_enter Tryz.func150,Tryz.ntmps150;go_wp2_with fail;change Calls _ _ _ ((w.alloc (.cells zT 35)).alloc (.cells zF 32)) _;rw[hW];generalize hK1:w.heap.size+1=K1 at hS hC2 |-;generalize hK0:w.heap.size=K0 at hS hC1 |-;have HKC:Hid (K0<W.heap.size/\K1<W.heap.size/\w.heap.size<=W.heap.size):=⟨hC1,hC2,by rw[hK0];rw[hK0]at hC3;exact hC3⟩;clear hK0 hK1 hW hC1 hC2 hC3;by_cases c1:hd (gaps (s.drop p))=91
 ·have hgne:gaps (s.drop p)≠[]:=ne_of_hd c1 (by decide);have HL:Hid (lcont inner f (s.drop p)=bnd (brk inner false (s.drop p)) fun x=>.ok ((⟨5,[],[],x.1⟩,[]),x.2)):=lcont_brk inner f false _ c1;refine(HSE.out 91 0 (.inl rfl)).mono ?_;rintro e w1 ⟨rfl,n1,rfl⟩;rw[decide_eq_true c1];have HBR:Hid (∀ k,Calls Tryz.prog 169 #[.pointer (some ⟨b,0,none⟩),.string ⟨#[93]⟩,.func (.func 170) #[.pointer (some ⟨b,0,none⟩)] #[]] (W.drewN k) fun e w'=>BrkRes b s dp (W.drewN k) d (brk inner false (s.drop p)) e w'):=fun k=>(hbr _ p (hr.drew k) hp (hT0.later (below_drewN (Below.refl _ _) k)) hgne).1
  go_wp2_with fail;refine(HBR.out _).mono ?_;intro e w3 hres;generalize hq:brk inner false (s.drop p)=r at hres HL
  cases r with
  | error F =>
   obtain⟨rfl,hf3⟩:=hres;unfold fv;have HS3:Hid (S2 w w3 b K0 K1):=(hS.drew _).step hf3;clear hf3;go_wp2;have hKF0:K0<w3.heap.size:=HS3.out.k0.lt;have hKF1:K1<w3.heap.size:=HS3.out.k1.lt;have hkf1:w3.heap.size≠K0:=by omega
   have hkf2:K0≠w3.heap.size:=by omega
   have hkf3:w3.heap.size≠K1:=by omega
   have hkf4:K1≠w3.heap.size:=by omega
   obtain⟨w4,hw4⟩:∃ w4,w3.alloc (.cells #[.int .i64 (F.1:Int),.int .i64 ((s.length-F.2:Nat):Int)] 32)=w4:=⟨_,rfl⟩;have hbw4:Below w3.heap.size w3 w4:=by rw[<-hw4];exact below_alloc _ _
   have hxw4:Bx w4 w3.heap.size #[.int .i64 (F.1:Int),.int .i64 ((s.length-F.2:Nat):Int)] 32:=by rw[<-hw4];exact Bx.new _ _ _
   obtain⟨f0_w4,f1_w4⟩:=hxw4.c2;rw[hw4];clear hw4;have HS4:Hid (S2 w w4 b K0 K1):=HS3.out.later hbw4;clear HS3 hbw4 hxw4;obtain⟨X0,X1,X2,X3,Y0,Y1,Z0,Z1,Z2,Z3,V0,V1⟩:=HS4.out.c;have hd10:K1≠K0:=by have:=HS4.out.h1;omega
   have hd01:K0≠K1:=by omega
   go_region
   all_goals
    go_wp2;have hO:=HS4.out.out (.int .i64 5) (.string ⟨#[]⟩) (.string ⟨#[]⟩) (.slice none 0 0) (.int .i64 (F.1:Int)) (.int .i64 ((s.length-F.2:Nat):Int));change bodyPost _ _ _ _ _ (fill6 w4 K0 K1 (.int .i64 5) (.string ⟨#[]⟩) (.string ⟨#[]⟩) (.slice none 0 0) (.int .i64 (F.1:Int)) (.int .i64 ((s.length-F.2:Nat):Int))).drew;generalize fill6 w4 K0 K1 (.int .i64 5) (.string ⟨#[]⟩) (.string ⟨#[]⟩) (.slice none 0 0) (.int .i64 (F.1:Int)) (.int .i64 ((s.length-F.2:Nat):Int))=WF at hO |-;obtain⟨o2,o3,o4⟩:=hO;have j0:WF.drew.cell? ⟨K0,0,none⟩=_:=o3.cell 0;have j1:WF.drew.cell? ⟨K0,1,none⟩=_:=o3.cell 1;have j2:WF.drew.cell? ⟨K0,2,none⟩=_:=o3.cell 2;have j3:WF.drew.cell? ⟨K0,3,none⟩=_:=o3.cell 3;have j4:WF.drew.cell? ⟨K1,0,none⟩=_:=o4.cell 0;have j5:WF.drew.cell? ⟨K1,1,none⟩=_:=o4.cell 1;replace o2:=o2.drew;refine bodyPost_ret (v:=.tuple #[.agg #[.int .i64 5,.string ⟨#[]⟩,.string ⟨#[]⟩,.slice none 0 0],.string ⟨#[]⟩,.agg #[.int .i64 (F.1:Int),.int .i64 ((s.length-F.2:Nat):Int)]]) (by simp[results,Tryz.results150,go_sem,j0,j1,j2,j3,j4,j5]) rfl ?_;rw[HL.out];exact⟨_,⟨5,[],[],[]⟩,_,TrP.leaf 5 [] [] (by decide) (by simp) (by simp) 0,rfl,o2⟩
  | ok x =>
   obtain⟨v,n,xs,rfl,hown,hnx,hkd,⟨q,hq2,hx2,hr3⟩,hf3⟩:=hres;obtain⟨ad,len,cap,rfl,htp⟩:=TrP.node hown hkd hnx 5 (by decide) [] (by simp);unfold f0;have HS3:Hid (S2 w w3 b K0 K1):=(hS.drew _).step hf3;have HX2:Hid (x.2=s.drop q):=hx2;have HR3:Hid (Rd w3 b s q dp):=hr3;have HTP3:Hid (TrP W.heap.size w3 (d+1) (.agg #[.int .i64 5,.string (mk []),.string (mk []),.slice ad len cap]) ⟨5,[],[],x.1⟩):=htp;clear hf3 hx2 hr3 htp hown hkd hnx;go_wp2;have hKF0:K0<w3.heap.size:=HS3.out.k0.lt;have hKF1:K1<w3.heap.size:=HS3.out.k1.lt;have hkf1:w3.heap.size≠K0:=by omega
   have hkf2:K0≠w3.heap.size:=by omega
   have hkf3:w3.heap.size≠K1:=by omega
   have hkf4:K1≠w3.heap.size:=by omega
   obtain⟨w4,hw4⟩:∃ w4,w3.alloc (.cells #[.int .i64 0,.int .i64 0] 32)=w4:=⟨_,rfl⟩;have hbw4:Below w3.heap.size w3 w4:=by rw[<-hw4];exact below_alloc _ _
   have hxw4:Bx w4 w3.heap.size #[.int .i64 0,.int .i64 0] 32:=by rw[<-hw4];exact Bx.new _ _ _
   obtain⟨f0_w4,f1_w4⟩:=hxw4.c2;rw[hw4];clear hw4;have HS4:Hid (S2 w w4 b K0 K1):=HS3.out.later hbw4;have HR4:Hid (Rd w4 b s q dp):=HR3.out.later hbw4;have HTP4:Hid (TrP W.heap.size w4 (d+1) (.agg #[.int .i64 5,.string (mk []),.string (mk []),.slice ad len cap]) ⟨5,[],[],x.1⟩):=HTP3.out.later hbw4;clear HS3 hbw4 hxw4 HR3 HTP3;obtain⟨X0,X1,X2,X3,Y0,Y1,Z0,Z1,Z2,Z3,V0,V1⟩:=HS4.out.c;have hd10:K1≠K0:=by have:=HS4.out.h1;omega
   have hd01:K0≠K1:=by omega
   have HTF:Hid (∀ x0 x1 x2 x3 y0 y1:Value,TrP w.heap.size (fill6 w4 K0 K1 x0 x1 x2 x3 y0 y1) (d+1) (.agg #[.int .i64 5,.string (mk []),.string (mk []),.slice ad len cap]) ⟨5,[],[],x.1⟩):=fun x0 x1 x2 x3 y0 y1 =>
    ((((((HTP4.out.set HKC.out.1).set HKC.out.1).set HKC.out.1).set HKC.out.1).set HKC.out.2.1).set HKC.out.2.1).mono HKC.out.2.2
   go_region
   all_goals
    go_wp2;have htf:=(HTF.out (.int .i64 5) (.string ⟨#[]⟩) (.string ⟨#[]⟩) (.slice ad len cap) (.int .i64 0) (.int .i64 0)).drew1;have hO:=HS4.out.out (.int .i64 5) (.string ⟨#[]⟩) (.string ⟨#[]⟩) (.slice ad len cap) (.int .i64 0) (.int .i64 0);have hrd:=HS4.out.rd HR4.out (.int .i64 5) (.string ⟨#[]⟩) (.string ⟨#[]⟩) (.slice ad len cap) (.int .i64 0) (.int .i64 0);change bodyPost _ _ _ _ _ (fill6 w4 K0 K1 (.int .i64 5) (.string ⟨#[]⟩) (.string ⟨#[]⟩) (.slice ad len cap) (.int .i64 0) (.int .i64 0)).drew;generalize fill6 w4 K0 K1 (.int .i64 5) (.string ⟨#[]⟩) (.string ⟨#[]⟩) (.slice ad len cap) (.int .i64 0) (.int .i64 0)=WF at hO hrd htf |-;obtain⟨o2,o3,o4⟩:=hO;have j0:WF.drew.cell? ⟨K0,0,none⟩=_:=o3.cell 0;have j1:WF.drew.cell? ⟨K0,1,none⟩=_:=o3.cell 1;have j2:WF.drew.cell? ⟨K0,2,none⟩=_:=o3.cell 2;have j3:WF.drew.cell? ⟨K0,3,none⟩=_:=o3.cell 3;have j4:WF.drew.cell? ⟨K1,0,none⟩=_:=o4.cell 0;have j5:WF.drew.cell? ⟨K1,1,none⟩=_:=o4.cell 1;replace hrd:=hrd.drew1;replace o2:=o2.drew;refine bodyPost_ret (v:=.tuple #[.agg #[.int .i64 5,.string ⟨#[]⟩,.string ⟨#[]⟩,.slice ad len cap],.string ⟨#[]⟩,.agg #[.int .i64 0,.int .i64 0]]) (by simp[results,Tryz.results150,go_sem,j0,j1,j2,j3,j4,j5]) rfl ?_;rw[HL.out];exact⟨_,rfl,htf,⟨q,hq2,HX2.out,hrd⟩,o2⟩
 by_cases c2:hd (gaps (s.drop p))=123
 ·have hgne:gaps (s.drop p)≠[]:=ne_of_hd c2 (by decide);have HL:Hid (lcont inner f (s.drop p)=bnd (brk inner true (s.drop p)) fun x=>.ok ((⟨6,[],[],x.1⟩,[]),x.2)):=lcont_brk inner f true _ c2;refine(HSE.out 91 0 (.inl rfl)).mono ?_;rintro e w1 ⟨rfl,n1,rfl⟩;rw[decide_eq_false c1];go_wp2_with fail;refine(HSE.out 123 _ (.inr rfl)).mono ?_;rintro e w1 ⟨rfl,n2,rfl⟩;rw[decide_eq_true c2,World.drewN_drewN];generalize n1+n2=n1;have HBR:Hid (∀ k,Calls Tryz.prog 169 #[.pointer (some ⟨b,0,none⟩),.string ⟨#[125]⟩,.func (.func 171) #[.pointer (some ⟨b,0,none⟩)] #[]] (W.drewN k) fun e w'=>BrkRes b s dp (W.drewN k) d (brk inner true (s.drop p)) e w'):=fun k=>(hbr _ p (hr.drew k) hp (hT0.later (below_drewN (Below.refl _ _) k)) hgne).2
  go_wp2_with fail;refine(HBR.out _).mono ?_;intro e w3 hres;generalize hq:brk inner true (s.drop p)=r at hres HL
  cases r with
  | error F =>
   obtain⟨rfl,hf3⟩:=hres;unfold fv;have HS3:Hid (S2 w w3 b K0 K1):=(hS.drew _).step hf3;clear hf3;go_wp2;have hKF0:K0<w3.heap.size:=HS3.out.k0.lt;have hKF1:K1<w3.heap.size:=HS3.out.k1.lt;have hkf1:w3.heap.size≠K0:=by omega
   have hkf2:K0≠w3.heap.size:=by omega
   have hkf3:w3.heap.size≠K1:=by omega
   have hkf4:K1≠w3.heap.size:=by omega
   obtain⟨w4,hw4⟩:∃ w4,w3.alloc (.cells #[.int .i64 (F.1:Int),.int .i64 ((s.length-F.2:Nat):Int)] 32)=w4:=⟨_,rfl⟩;have hbw4:Below w3.heap.size w3 w4:=by rw[<-hw4];exact below_alloc _ _
   have hxw4:Bx w4 w3.heap.size #[.int .i64 (F.1:Int),.int .i64 ((s.length-F.2:Nat):Int)] 32:=by rw[<-hw4];exact Bx.new _ _ _
   obtain⟨f0_w4,f1_w4⟩:=hxw4.c2;rw[hw4];clear hw4;have HS4:Hid (S2 w w4 b K0 K1):=HS3.out.later hbw4;clear HS3 hbw4 hxw4;obtain⟨X0,X1,X2,X3,Y0,Y1,Z0,Z1,Z2,Z3,V0,V1⟩:=HS4.out.c;have hd10:K1≠K0:=by have:=HS4.out.h1;omega
   have hd01:K0≠K1:=by omega
   go_region
   all_goals
    go_wp2;have hO:=HS4.out.out (.int .i64 6) (.string ⟨#[]⟩) (.string ⟨#[]⟩) (.slice none 0 0) (.int .i64 (F.1:Int)) (.int .i64 ((s.length-F.2:Nat):Int));change bodyPost _ _ _ _ _ (fill6 w4 K0 K1 (.int .i64 6) (.string ⟨#[]⟩) (.string ⟨#[]⟩) (.slice none 0 0) (.int .i64 (F.1:Int)) (.int .i64 ((s.length-F.2:Nat):Int))).drew;generalize fill6 w4 K0 K1 (.int .i64 6) (.string ⟨#[]⟩) (.string ⟨#[]⟩) (.slice none 0 0) (.int .i64 (F.1:Int)) (.int .i64 ((s.length-F.2:Nat):Int))=WF at hO |-;obtain⟨o2,o3,o4⟩:=hO;have j0:WF.drew.cell? ⟨K0,0,none⟩=_:=o3.cell 0;have j1:WF.drew.cell? ⟨K0,1,none⟩=_:=o3.cell 1;have j2:WF.drew.cell? ⟨K0,2,none⟩=_:=o3.cell 2;have j3:WF.drew.cell? ⟨K0,3,none⟩=_:=o3.cell 3;have j4:WF.drew.cell? ⟨K1,0,none⟩=_:=o4.cell 0;have j5:WF.drew.cell? ⟨K1,1,none⟩=_:=o4.cell 1;replace o2:=o2.drew;refine bodyPost_ret (v:=.tuple #[.agg #[.int .i64 6,.string ⟨#[]⟩,.string ⟨#[]⟩,.slice none 0 0],.string ⟨#[]⟩,.agg #[.int .i64 (F.1:Int),.int .i64 ((s.length-F.2:Nat):Int)]]) (by simp[results,Tryz.results150,go_sem,j0,j1,j2,j3,j4,j5]) rfl ?_;rw[HL.out];exact⟨_,⟨6,[],[],[]⟩,_,TrP.leaf 6 [] [] (by decide) (by simp) (by simp) 0,rfl,o2⟩
  | ok x =>
   obtain⟨v,n,xs,rfl,hown,hnx,hkd,⟨q,hq2,hx2,hr3⟩,hf3⟩:=hres;obtain⟨ad,len,cap,rfl,htp⟩:=TrP.node hown hkd hnx 6 (by decide) [] (by simp);unfold f0;have HS3:Hid (S2 w w3 b K0 K1):=(hS.drew _).step hf3;have HX2:Hid (x.2=s.drop q):=hx2;have HR3:Hid (Rd w3 b s q dp):=hr3;have HTP3:Hid (TrP W.heap.size w3 (d+1) (.agg #[.int .i64 6,.string (mk []),.string (mk []),.slice ad len cap]) ⟨6,[],[],x.1⟩):=htp;clear hf3 hx2 hr3 htp hown hkd hnx;go_wp2;have hKF0:K0<w3.heap.size:=HS3.out.k0.lt;have hKF1:K1<w3.heap.size:=HS3.out.k1.lt;have hkf1:w3.heap.size≠K0:=by omega
   have hkf2:K0≠w3.heap.size:=by omega
   have hkf3:w3.heap.size≠K1:=by omega
   have hkf4:K1≠w3.heap.size:=by omega
   obtain⟨w4,hw4⟩:∃ w4,w3.alloc (.cells #[.int .i64 0,.int .i64 0] 32)=w4:=⟨_,rfl⟩;have hbw4:Below w3.heap.size w3 w4:=by rw[<-hw4];exact below_alloc _ _
   have hxw4:Bx w4 w3.heap.size #[.int .i64 0,.int .i64 0] 32:=by rw[<-hw4];exact Bx.new _ _ _
   obtain⟨f0_w4,f1_w4⟩:=hxw4.c2;rw[hw4];clear hw4;have HS4:Hid (S2 w w4 b K0 K1):=HS3.out.later hbw4;have HR4:Hid (Rd w4 b s q dp):=HR3.out.later hbw4;have HTP4:Hid (TrP W.heap.size w4 (d+1) (.agg #[.int .i64 6,.string (mk []),.string (mk []),.slice ad len cap]) ⟨6,[],[],x.1⟩):=HTP3.out.later hbw4;clear HS3 hbw4 hxw4 HR3 HTP3;obtain⟨X0,X1,X2,X3,Y0,Y1,Z0,Z1,Z2,Z3,V0,V1⟩:=HS4.out.c;have hd10:K1≠K0:=by have:=HS4.out.h1;omega
   have hd01:K0≠K1:=by omega
   have HTF:Hid (∀ x0 x1 x2 x3 y0 y1:Value,TrP w.heap.size (fill6 w4 K0 K1 x0 x1 x2 x3 y0 y1) (d+1) (.agg #[.int .i64 6,.string (mk []),.string (mk []),.slice ad len cap]) ⟨6,[],[],x.1⟩):=fun x0 x1 x2 x3 y0 y1 =>
    ((((((HTP4.out.set HKC.out.1).set HKC.out.1).set HKC.out.1).set HKC.out.1).set HKC.out.2.1).set HKC.out.2.1).mono HKC.out.2.2
   go_region
   all_goals
    go_wp2;have htf:=(HTF.out (.int .i64 6) (.string ⟨#[]⟩) (.string ⟨#[]⟩) (.slice ad len cap) (.int .i64 0) (.int .i64 0)).drew1;have hO:=HS4.out.out (.int .i64 6) (.string ⟨#[]⟩) (.string ⟨#[]⟩) (.slice ad len cap) (.int .i64 0) (.int .i64 0);have hrd:=HS4.out.rd HR4.out (.int .i64 6) (.string ⟨#[]⟩) (.string ⟨#[]⟩) (.slice ad len cap) (.int .i64 0) (.int .i64 0);change bodyPost _ _ _ _ _ (fill6 w4 K0 K1 (.int .i64 6) (.string ⟨#[]⟩) (.string ⟨#[]⟩) (.slice ad len cap) (.int .i64 0) (.int .i64 0)).drew;generalize fill6 w4 K0 K1 (.int .i64 6) (.string ⟨#[]⟩) (.string ⟨#[]⟩) (.slice ad len cap) (.int .i64 0) (.int .i64 0)=WF at hO hrd htf |-;obtain⟨o2,o3,o4⟩:=hO;have j0:WF.drew.cell? ⟨K0,0,none⟩=_:=o3.cell 0;have j1:WF.drew.cell? ⟨K0,1,none⟩=_:=o3.cell 1;have j2:WF.drew.cell? ⟨K0,2,none⟩=_:=o3.cell 2;have j3:WF.drew.cell? ⟨K0,3,none⟩=_:=o3.cell 3;have j4:WF.drew.cell? ⟨K1,0,none⟩=_:=o4.cell 0;have j5:WF.drew.cell? ⟨K1,1,none⟩=_:=o4.cell 1;replace hrd:=hrd.drew1;replace o2:=o2.drew;refine bodyPost_ret (v:=.tuple #[.agg #[.int .i64 6,.string ⟨#[]⟩,.string ⟨#[]⟩,.slice ad len cap],.string ⟨#[]⟩,.agg #[.int .i64 0,.int .i64 0]]) (by simp[results,Tryz.results150,go_sem,j0,j1,j2,j3,j4,j5]) rfl ?_;rw[HL.out];exact⟨_,rfl,htf,⟨q,hq2,HX2.out,hrd⟩,o2⟩
 ·have HL:Hid (lcont inner f (s.drop p)=lscl f (s.drop p)):=by unfold lcont;rw[if_neg (fun h=>h.elim c1 c2)];exact rfl
  refine(HSE.out 91 0 (.inl rfl)).mono ?_;rintro e w1 ⟨rfl,n1,rfl⟩;rw[decide_eq_false c1];go_wp2_with fail;refine(HSE.out 123 _ (.inr rfl)).mono ?_;rintro e w1 ⟨rfl,n2,rfl⟩;rw[decide_eq_false c2,World.drewN_drewN];generalize n1+n2=n1;go_wp2_with fail;refine(HSC.out _).mono ?_;intro e w3 hres;have hlf:=fun x (hx:lscl f (s.drop p)=.ok x)=>lscl_leaf hx (by rw[List.length_drop];omega)
  generalize hq:lscl f (s.drop p)=r at hres HL hlf
  cases r with
  | error F =>
   obtain⟨k,hk,rfl,hf3⟩:=hres;unfold fv lfV;have HS3:Hid (S2 w w3 b K0 K1):=(hS.drew _).step hf3;have hkb: -9223372036854775808<=k/\k<=9223372036854775807:=by rcases hk with rfl | rfl<;>decide
   clear hf3 hk;obtain⟨X0,X1,X2,X3,Y0,Y1,Z0,Z1,Z2,Z3,V0,V1⟩:=HS3.out.c;have hd10:K1≠K0:=by have:=HS3.out.h1;omega
   have hd01:K0≠K1:=by omega
   go_wp2;have hO:=HS3.out.out (.int .i64 k) (.string (mk [])) (.string (mk [])) (.slice none 0 0) (.int .i64 (F.1:Int)) (.int .i64 ((s.length-F.2:Nat):Int));change bodyPost _ _ _ _ _ (fill6 w3 K0 K1 (.int .i64 k) (.string (mk [])) (.string (mk [])) (.slice none 0 0) (.int .i64 (F.1:Int)) (.int .i64 ((s.length-F.2:Nat):Int)));generalize fill6 w3 K0 K1 (.int .i64 k) (.string (mk [])) (.string (mk [])) (.slice none 0 0) (.int .i64 (F.1:Int)) (.int .i64 ((s.length-F.2:Nat):Int))=WF at hO |-;obtain⟨o2,o3,o4⟩:=hO;have j0:WF.cell? ⟨K0,0,none⟩=_:=o3.cell 0;have j1:WF.cell? ⟨K0,1,none⟩=_:=o3.cell 1;have j2:WF.cell? ⟨K0,2,none⟩=_:=o3.cell 2;have j3:WF.cell? ⟨K0,3,none⟩=_:=o3.cell 3;have j4:WF.cell? ⟨K1,0,none⟩=_:=o4.cell 0;have j5:WF.cell? ⟨K1,1,none⟩=_:=o4.cell 1;refine bodyPost_ret (v:=.tuple #[.agg #[.int .i64 k,.string (mk []),.string (mk []),.slice none 0 0],.string (mk []),.agg #[.int .i64 (F.1:Int),.int .i64 ((s.length-F.2:Nat):Int)]]) (by simp[results,Tryz.results150,go_sem,j0,j1,j2,j3,j4,j5]) rfl ?_;rw[HL.out];exact⟨_,⟨k,[],[],[]⟩,_,TrP.leaf k [] [] hkb (by simp) (by simp) 0,rfl,o2⟩
  | ok x =>
   obtain⟨⟨t,wr⟩,l'⟩:=x;obtain⟨rfl,⟨q,hq2,hx2,hr3⟩,hf3⟩:=hres;obtain⟨l1,l2,l3,l4⟩:=hlf _ rfl;simp only at l1 l2 l3 l4 hx2;obtain⟨k,tx,ta,tk⟩:=t;simp only[Tr.mk.injEq,true_and]at l1;obtain⟨rfl,rfl⟩:=l1;unfold f0 lfV;have HS3:Hid (S2 w w3 b K0 K1):=(hS.drew _).step hf3;have HX2:Hid (l'=s.drop q):=hx2;have HR3:Hid (Rd w3 b s q dp):=hr3;have HLL:Hid (1<=k/\k<=4):=l2;have HL3:Hid (tx.length<=65536):=l3;clear hf3 hr3 hx2 l2 l3 l4;obtain⟨X0,X1,X2,X3,Y0,Y1,Z0,Z1,Z2,Z3,V0,V1⟩:=HS3.out.c;have hd10:K1≠K0:=by have:=HS3.out.h1;omega
   have hd01:K0≠K1:=by omega
   go_wp2;have hO:=HS3.out.out (.int .i64 k) (.string (mk tx)) (.string (mk [])) (.slice none 0 0) (.int .i64 0) (.int .i64 0);have hrd:=HS3.out.rd HR3.out (.int .i64 k) (.string (mk tx)) (.string (mk [])) (.slice none 0 0) (.int .i64 0) (.int .i64 0);change bodyPost _ _ _ _ _ (fill6 w3 K0 K1 (.int .i64 k) (.string (mk tx)) (.string (mk [])) (.slice none 0 0) (.int .i64 0) (.int .i64 0));generalize fill6 w3 K0 K1 (.int .i64 k) (.string (mk tx)) (.string (mk [])) (.slice none 0 0) (.int .i64 0) (.int .i64 0)=WF at hO hrd |-;obtain⟨o2,o3,o4⟩:=hO;have j0:WF.cell? ⟨K0,0,none⟩=_:=o3.cell 0;have j1:WF.cell? ⟨K0,1,none⟩=_:=o3.cell 1;have j2:WF.cell? ⟨K0,2,none⟩=_:=o3.cell 2;have j3:WF.cell? ⟨K0,3,none⟩=_:=o3.cell 3;have j4:WF.cell? ⟨K1,0,none⟩=_:=o4.cell 0;have j5:WF.cell? ⟨K1,1,none⟩=_:=o4.cell 1;refine bodyPost_ret (v:=.tuple #[.agg #[.int .i64 k,.string (mk tx),.string (mk []),.slice none 0 0],.string (mk wr),.agg #[.int .i64 0,.int .i64 0]]) (by simp[results,Tryz.results150,go_sem,j0,j1,j2,j3,j4,j5]) rfl ?_;rw[HL.out];exact⟨_,rfl,TrP.leaf k tx [] (by have:=HLL.out;omega) HL3.out (by simp) d,⟨q,hq2,HX2.out,hrd⟩,o2⟩
end Flw
namespace Flw
open Utf Rws Pln
open Go.RowKit
set_option maxHeartbeats 4000000
variable {b p dp d:Nat} {s:Ln} {w w1 w2:World}
theorem lpart_bad {v:Ln->Ot (Tr × Ln)} (hv:∀ l,Bad (v l)) (map:Bool) (l:Ln):Bad (lpart v map l):=by
 unfold lpart lentry litem;exact .ite (.bnd (lscl_bad _ _) fun _=>.ite (.err (stands_ne _)) (.bnd (hv _) fun _=>.ok _)) (.bnd (hv _) fun _=>.ite (.err (stands_ne _)) (.ok _))
theorem lbr_bad {v:Ln->Ot (Tr × Ln)} (hv:∀ l,Bad (v l)) (map:Bool):∀ (n:Nat) (l:Ln),Bad (lbr v map n l)
 | 0,l=>.err (stands_ne _)
 | n+1,l=>by
  unfold lbr;exact .ite (.ok _) (.bnd (lpart_bad hv map l) fun x=>.ite (.bnd (lbr_bad hv map n _) fun _=>.ok _) (.ite (.ok _) (.err (stands_ne _))))
theorem lcont_bad {inner:Option (Ln->Ot (Tr × Ln))} (hv:∀ v,inner=some v->∀ l,Bad (v l)) (f:Bool) (l:Ln):Bad (lcont inner f l):=by
 unfold lcont;refine .ite ?_ (lscl_bad f l)
 cases inner with
 | none=>exact .err (show 10≠0 by decide)
 | some v=>exact .bnd (lbr_bad (hv v rfl) _ _ _) fun _=>.ok _
theorem lval_bad (d:Nat) (f:Bool) (l:Ln):Bad (lval d f l):=by
 intro e h;have h1:=val_l d f l
 cases hv:val d f l with
 | error e'=>rw[hv]at h1;have h1:lval d f l=.error e':=h1;rw[h1]at h;cases h;exact val_bad d f l _ hv
 | ok x=>rw[hv]at h1;obtain⟨m,h2,_⟩:=h1;rw[h2]at h;cases h
theorem lprp_ok {f:Bool} {l:Ln} {x:Pr × Ln} (h:lprp f 3 p0 l=.ok x):PrOk x.1:=by
 have h1:=prp_l f 3 p0 l;rw[h,bnd_ok]at h1;exact(prp_inv f 3 p0 _ _ p0_ok h1).1
theorem lprp_bad (f:Bool) (l:Ln):Bad (lprp f 3 p0 l):=by
 intro e h;have h1:=prp_l f 3 p0 l;rw[h]at h1;exact prp_bad f 3 p0 _ _ h1
theorem lcont_wr {inner:Option (Ln->Ot (Tr × Ln))} {f:Bool} {l:Ln} {x:(Tr × Ln) × Ln} (h:lcont inner f l=.ok x) (hl:l.length<=65536):x.1.2.length<=65536:=by
 unfold lcont at h;by_cases c:hd (gaps l)=91\/hd (gaps l)=123
 ·rw[if_pos c]at h
  cases inner with
  | none=>cases h
  | some v=>obtain⟨y,_,h⟩:=bnd_inv h;cases h;exact Nat.zero_le _
 ·rw[if_neg c]at h;exact(lscl_leaf h hl).2.2.2
theorem anc_len {a:Ln} (h:a=[]\/isName a=true):a.length<=65536:=by
 rcases h with rfl | h
 ·exact Nat.zero_le _
 ·unfold isName at h;simp at h;omega
theorem S2.kf {K0 K1 k:Nat} {w0:World} (h:S2 w0 w b K0 K1) (h0:k≠K0) (h1:k≠K1) (hk:w0.heap.size<=k) (i:Nat) (x:Value):S2 w0 (w.setCell ⟨k,i,none⟩ x) b K0 K1 :=
 ⟨h.k0.other (fun e=>h0 e.symm) _ _,h.k1.other (fun e=>h1 e.symm) _ _,h.fr.new hk (by have:=h.hb;omega) _ _,h.hb,h.h0,h.h1⟩
theorem TbB.set {k:Nat} (h:TbB b w) (hk:b<=k) (i:Nat) (x:Value):TbB b (w.setCell ⟨k,i,none⟩ x):=by
 obtain⟨w0,h1,h2,h3⟩:=h;exact⟨w0,h1,h2,h3.setCell (p:=⟨k,i,none⟩) (Nat.le_trans h2 hk) _⟩
theorem TrP.anch {c:Nat} {k x y sl:Value} {t:Tr} (h:TrP c w (d+1) (.agg #[k,x,y,sl]) t) (a:Ln) (ha:a.length<=65536):TrP c w (d+1) (.agg #[k,x,.string (mk a),sl]) (Flw.anch t a):=by
 obtain⟨ad,len,cap,e,hl,hc,hm,hz,hk⟩:=h;simp only[Value.agg.injEq,Array.mk.injEq,List.cons.injEq,and_true]at e;obtain⟨rfl,rfl,rfl,rfl⟩:=e;exact⟨ad,len,cap,rfl,hl,hc,hm,⟨hz.1,hz.2.1,hz.2.2.1,by show a.length<=_;omega⟩,hk⟩
theorem told_val {c:Nat} {ad:Option Addr} {len cap:Nat} {t:Tr} (h:TrP c w (d+1) (.agg #[.int .i64 t.kind,.string (mk t.text),.string (mk t.anc),.slice ad len cap]) t) (l:Ln) (hl:l.length<=65536) (g:Int) :
  ∃ (k':Int) (x' c':ByteArray) (ad':Option Addr) (len' cap':Nat),toldV t.kind (mk t.text) (mk t.anc) (.slice ad len cap) l g=.agg #[.int .i64 k',.string x',.string c',.slice ad' len' cap']/\k'=(told t l g).kind /\
   TrP c w (d+1) (.agg #[.int .i64 k',.string x',.string c',.slice ad' len' cap']) (told t l g):=by
 by_cases h5:t.kind=5\/t.kind=6
 ·have e1:toldV t.kind (mk t.text) (mk t.anc) (.slice ad len cap) l g=.agg #[.int .i64 t.kind,.string (mk t.text),.string (mk t.anc),.slice ad len cap]:=by unfold toldV;rw[if_pos h5]
  have e2:told t l g=t:=by unfold told isLst;rw[if_pos (by rcases h5 with h5 | h5<;>simp[h5])]
  rw[e1,e2];exact⟨_,_,_,_,_,_,rfl,rfl,h⟩
 ·have hL: ¬ isLst t=true:=by unfold isLst;simpa [not_or]using h5
  by_cases h4:g=4
  ·have e1:toldV t.kind (mk t.text) (mk t.anc) (.slice ad len cap) l g=lfV 4 l []:=by unfold toldV;rw[if_neg h5,if_pos h4]
   have e2:told t l g=⟨4,l,[],[]⟩:=by unfold told;rw[if_neg hL,if_pos h4]
   rw[e1,e2];exact⟨_,_,_,_,_,_,rfl,rfl,TrP.leaf 4 l [] (by decide) hl (by simp) d⟩
  ·have e1:toldV t.kind (mk t.text) (mk t.anc) (.slice ad len cap) l g=lfV (knd l) (if knd l=1 then []else l) []:=by unfold toldV;rw[if_neg h5,if_neg h4]
   have e2:told t l g=leaf (knd l) l []:=by unfold told;rw[if_neg hL,if_neg h4]
   rw[e1,e2];have hk:=knd_bd l;refine⟨_,_,_,_,_,_,rfl,rfl,TrP.leaf (knd l) (if knd l=1 then []else l) [] (by omega) ?_ (by simp) d⟩;split
   ·exact Nat.zero_le _
   ·exact hl
theorem value_any {inner:Option (Ln->Ot (Tr × Ln))} (f:Bool) (hbr:BrkOk b s dp d inner) (hbad:∀ v,inner=some v->∀ l,Bad (v l)) (h:Rd w b s p dp) (hp:p<=s.length) (hs:s.length<=65536) (hT:TbB b w) :
  Calls Tryz.prog 135 #[.pointer (some ⟨b,0,none⟩),.bool f] w fun e w'=>ValRes b s dp w (d+1) (lstep inner f (s.drop p)) e w':=by
 have hS:=S2.new w h.lt;have hr:=h.two;have hT0:=hT.fr hS.fr;have hC1:=hS.k0.lt;have hC2:=hS.k1.lt;have hC3:=hS.fr.size;obtain⟨W,hW⟩:∃ W,(w.alloc (.cells zT 35)).alloc (.cells zF 32)=W:=⟨_,rfl⟩;rw[hW]at hS hr hT0 hC1 hC2 hC3;go_enter Tryz.func135,Tryz.ntmps135;go_wp2_with fail;change Calls _ _ _ ((w.alloc (.cells zT 35)).alloc (.cells zF 32)) _;rw[hW];generalize hK1:w.heap.size+1=K1 at hS hC2 |-;generalize hK0:w.heap.size=K0 at hS hC1 |-;have HKC:Hid (K0<W.heap.size/\K1<W.heap.size/\w.heap.size<=W.heap.size):=⟨hC1,hC2,by rw[hK0];rw[hK0]at hC3;exact hC3⟩;clear hK0 hK1 hW hC1 hC2 hC3;by_cases c42:hd (gaps (s.drop p))=42
 ·have HTY:Hid (Calls Tryz.prog 147 #[.pointer (some ⟨b,0,none⟩),.string ⟨#[42]⟩] W fun e w'=>e=.returned (.bool true)/\Hid (Rd w' b s (nx s p+1) dp/\S2 w w' b K0 K1/\W.heap.size<=w'.heap.size)) :=
   (takes_yes [42] hr hp hs (by decide) (by rw[see_hd s p (by decide)];simpa using c42)).mono (fun e w' h=>⟨h.1,h.2.1,hS.step h.2.2,h.2.2.size⟩)
  have hq1:nx s p+1<=s.length:=by
   have h1:=gaps_nx s hp;have:=(hd_ne (l:=gaps (s.drop p)) (by rw[c42];decide)).2;omega
  have hdr:s.drop (nx s p+1)=(gaps (s.drop p)).drop 1:=by rw[<-List.drop_drop,drop_nx s hp]
  have HL:Hid (lstep inner f (s.drop p)=bnd (nam (s.drop (nx s p+1))) fun x=>.ok (⟨7,[],x.1,[]⟩,x.2)):=by unfold lstep;rw[if_pos c42,hdr];exact rfl
  clear hdr c42;refine HTY.out.mono ?_;rintro e w1 ⟨rfl,H1⟩;have HNA:Hid (Calls Tryz.prog 148 #[.pointer (some ⟨b,0,none⟩)] w1 fun e w'=>NamRes b s dp w1 (nam (s.drop (nx s p+1))) e w'):=name_any H1.out.1 hq1 hs;go_wp2_with fail;refine HNA.out.mono ?_;intro e w3 hres;generalize hq:nam (s.drop (nx s p+1))=r at hres HL
  cases r with
  | error F =>
   obtain⟨rfl,hf3⟩:=hres;unfold fv;have HS3:Hid (S2 w w3 b K0 K1):=H1.out.2.1.step hf3;clear hf3;go_wp2;have hKF0:K0<w3.heap.size:=HS3.out.k0.lt;have hKF1:K1<w3.heap.size:=HS3.out.k1.lt;have hkf1:w3.heap.size≠K0:=by omega
   have hkf2:K0≠w3.heap.size:=by omega
   have hkf3:w3.heap.size≠K1:=by omega
   have hkf4:K1≠w3.heap.size:=by omega
   obtain⟨w4,hw4⟩:∃ w4,w3.alloc (.cells #[.int .i64 (F.1:Int),.int .i64 ((s.length-F.2:Nat):Int)] 32)=w4:=⟨_,rfl⟩;have hbw4:Below w3.heap.size w3 w4:=by rw[<-hw4];exact below_alloc _ _
   have hxw4:Bx w4 w3.heap.size #[.int .i64 (F.1:Int),.int .i64 ((s.length-F.2:Nat):Int)] 32:=by rw[<-hw4];exact Bx.new _ _ _
   obtain⟨f0_w4,f1_w4⟩:=hxw4.c2;rw[hw4];clear hw4;have HS4:Hid (S2 w w4 b K0 K1):=HS3.out.later hbw4;clear HS3 hbw4 hxw4;obtain⟨X0,X1,X2,X3,Y0,Y1,Z0,Z1,Z2,Z3,V0,V1⟩:=HS4.out.c;have hd10:K1≠K0:=by have:=HS4.out.h1;omega
   have hd01:K0≠K1:=by omega
   go_region
   all_goals
    go_wp2;have hO:=HS4.out.out (.int .i64 7) (.string ⟨#[]⟩) (.string (mk [])) (.slice none 0 0) (.int .i64 (F.1:Int)) (.int .i64 ((s.length-F.2:Nat):Int));change bodyPost _ _ _ _ _ (fill6 w4 K0 K1 (.int .i64 7) (.string ⟨#[]⟩) (.string (mk [])) (.slice none 0 0) (.int .i64 (F.1:Int)) (.int .i64 ((s.length-F.2:Nat):Int))).drew;generalize fill6 w4 K0 K1 (.int .i64 7) (.string ⟨#[]⟩) (.string (mk [])) (.slice none 0 0) (.int .i64 (F.1:Int)) (.int .i64 ((s.length-F.2:Nat):Int))=WF at hO |-;obtain⟨o2,o3,o4⟩:=hO;have j0:WF.drew.cell? ⟨K0,0,none⟩=_:=o3.cell 0;have j1:WF.drew.cell? ⟨K0,1,none⟩=_:=o3.cell 1;have j2:WF.drew.cell? ⟨K0,2,none⟩=_:=o3.cell 2;have j3:WF.drew.cell? ⟨K0,3,none⟩=_:=o3.cell 3;have j4:WF.drew.cell? ⟨K1,0,none⟩=_:=o4.cell 0;have j5:WF.drew.cell? ⟨K1,1,none⟩=_:=o4.cell 1;replace o2:=o2.drew;refine bodyPost_ret (v:=.tuple #[.agg #[.int .i64 7,.string ⟨#[]⟩,.string (mk []),.slice none 0 0],.agg #[.int .i64 (F.1:Int),.int .i64 ((s.length-F.2:Nat):Int)]]) (by simp[results,Tryz.results135,go_sem,j0,j1,j2,j3,j4,j5]) rfl ?_;rw[HL.out];exact⟨_,⟨7,[],[],[]⟩,TrP.leaf 7 [] [] (by decide) (by simp) (by simp) 0,rfl,o2⟩
  | ok x =>
   obtain⟨rfl,⟨q,hq2,hx2,hr3⟩,hf3⟩:=hres;have hxl:=anc_len (.inr (nam_inv hq).1);unfold f0;have HS3:Hid (S2 w w3 b K0 K1):=H1.out.2.1.step hf3;have HX2:Hid (x.2=s.drop q):=hx2;have HR3:Hid (Rd w3 b s q dp):=hr3;clear hf3 hr3 hx2;go_wp2;have hKF0:K0<w3.heap.size:=HS3.out.k0.lt;have hKF1:K1<w3.heap.size:=HS3.out.k1.lt;have hkf1:w3.heap.size≠K0:=by omega
   have hkf2:K0≠w3.heap.size:=by omega
   have hkf3:w3.heap.size≠K1:=by omega
   have hkf4:K1≠w3.heap.size:=by omega
   obtain⟨w4,hw4⟩:∃ w4,w3.alloc (.cells #[.int .i64 0,.int .i64 0] 32)=w4:=⟨_,rfl⟩;have hbw4:Below w3.heap.size w3 w4:=by rw[<-hw4];exact below_alloc _ _
   have hxw4:Bx w4 w3.heap.size #[.int .i64 0,.int .i64 0] 32:=by rw[<-hw4];exact Bx.new _ _ _
   obtain⟨f0_w4,f1_w4⟩:=hxw4.c2;rw[hw4];clear hw4;have HS4:Hid (S2 w w4 b K0 K1):=HS3.out.later hbw4;have HR4:Hid (Rd w4 b s q dp):=HR3.out.later hbw4;clear HS3 hbw4 hxw4 HR3;obtain⟨X0,X1,X2,X3,Y0,Y1,Z0,Z1,Z2,Z3,V0,V1⟩:=HS4.out.c;have hd10:K1≠K0:=by have:=HS4.out.h1;omega
   have hd01:K0≠K1:=by omega
   go_region
   all_goals
    go_wp2;have hO:=HS4.out.out (.int .i64 7) (.string ⟨#[]⟩) (.string (mk x.1)) (.slice none 0 0) (.int .i64 0) (.int .i64 0);have hrd:=HS4.out.rd HR4.out (.int .i64 7) (.string ⟨#[]⟩) (.string (mk x.1)) (.slice none 0 0) (.int .i64 0) (.int .i64 0);change bodyPost _ _ _ _ _ (fill6 w4 K0 K1 (.int .i64 7) (.string ⟨#[]⟩) (.string (mk x.1)) (.slice none 0 0) (.int .i64 0) (.int .i64 0)).drew;generalize fill6 w4 K0 K1 (.int .i64 7) (.string ⟨#[]⟩) (.string (mk x.1)) (.slice none 0 0) (.int .i64 0) (.int .i64 0)=WF at hO hrd |-;obtain⟨o2,o3,o4⟩:=hO;have j0:WF.drew.cell? ⟨K0,0,none⟩=_:=o3.cell 0;have j1:WF.drew.cell? ⟨K0,1,none⟩=_:=o3.cell 1;have j2:WF.drew.cell? ⟨K0,2,none⟩=_:=o3.cell 2;have j3:WF.drew.cell? ⟨K0,3,none⟩=_:=o3.cell 3;have j4:WF.drew.cell? ⟨K1,0,none⟩=_:=o4.cell 0;have j5:WF.drew.cell? ⟨K1,1,none⟩=_:=o4.cell 1;replace hrd:=hrd.drew1;replace o2:=o2.drew;refine bodyPost_ret (v:=.tuple #[.agg #[.int .i64 7,.string ⟨#[]⟩,.string (mk x.1),.slice none 0 0],.agg #[.int .i64 0,.int .i64 0]]) (by simp[results,Tryz.results135,go_sem,j0,j1,j2,j3,j4,j5]) rfl ?_;rw[HL.out];exact⟨_,rfl,TrP.leaf 7 [] x.1 (by decide) (by simp) hxl d,⟨q,hq2,HX2.out,hrd⟩,o2⟩
 ·have HTN:Hid (Calls Tryz.prog 147 #[.pointer (some ⟨b,0,none⟩),.string ⟨#[42]⟩] W fun e w'=>e=.returned (.bool false)/\∃ n,w'=W.drewN n):=takes_no [42] hr hp hs (by decide) (by rw[see_hd s p (by decide)];simpa using c42);have HL:Hid (lstep inner f (s.drop p)=bnd (lprp f 3 p0 (s.drop p)) fun y=>bnd (lcont inner f y.2) fun z=>bnd (lon y.1 z.1.1 z.1.2) fun t=>.ok (t,z.2)):=by unfold lstep;rw[if_neg c42];exact rfl
  have HPR:Hid (∀ k,Calls Tryz.prog 149 #[.pointer (some ⟨b,0,none⟩),.bool f] (W.drewN k) fun e w'=>PrpRes b s dp (W.drewN k) (lprp f 3 p0 (s.drop p)) e w'):=fun k=>properties_any f (hr.drew k) hp hs
  refine HTN.out.mono ?_;rintro e w1 ⟨rfl,k1,rfl⟩;go_wp2_with fail;refine(HPR.out _).mono ?_;intro e w3 hres;have hpb:=lprp_bad f (s.drop p);generalize hlp:lprp f 3 p0 (s.drop p)=r at hres HL hpb
  cases r with
  | error F =>
   obtain⟨rfl,hf3⟩:=hres;have hF0:=hpb F rfl;unfold fv zP;have HS3:Hid (S2 w w3 b K0 K1):=(hS.drew _).step hf3;clear hf3;go_upto_region 5 with fail
   have hS4:=HS3.out.later ((below_alloc w3 (.cells #[.string ⟨#[]⟩,.int .i64 0,.int .i64 0] 193)).trans ((below_alloc (w3.alloc (.cells #[.string ⟨#[]⟩,.int .i64 0,.int .i64 0] 193)) (.cells #[.int .i64 (F.1:Int),.int .i64 ((s.length-F.2:Nat):Int)] 32)).mono (by simp)));have hB4:Below w3.heap.size w3 ((w3.alloc (.cells #[.string ⟨#[]⟩,.int .i64 0,.int .i64 0] 193)).alloc (.cells #[.int .i64 (F.1:Int),.int .i64 ((s.length-F.2:Nat):Int)] 32)):=(below_alloc _ _).trans ((below_alloc _ _).mono (by simp));have hP4:=(Bx.new w3 #[.string ⟨#[]⟩,.int .i64 0,.int .i64 0] 193).later (below_alloc (w3.alloc (.cells #[.string ⟨#[]⟩,.int .i64 0,.int .i64 0] 193)) (.cells #[.int .i64 (F.1:Int),.int .i64 ((s.length-F.2:Nat):Int)] 32));have hF4:=Bx.new (w3.alloc (.cells #[.string ⟨#[]⟩,.int .i64 0,.int .i64 0] 193)) #[.int .i64 (F.1:Int),.int .i64 ((s.length-F.2:Nat):Int)] 32;rw[show (w3.alloc (.cells #[.string ⟨#[]⟩,.int .i64 0,.int .i64 0] 193)).heap.size=w3.heap.size+1 by simp]at hF4;have hk0:K0<w3.heap.size:=HS3.out.k0.lt;have hk1:K1<w3.heap.size:=HS3.out.k1.lt;generalize (w3.alloc (.cells #[.string ⟨#[]⟩,.int .i64 0,.int .i64 0] 193)).alloc (.cells #[.int .i64 (F.1:Int),.int .i64 ((s.length-F.2:Nat):Int)] 32)=w4 at hS4 hB4 hP4 hF4 |-;have HB4:Hid (Below w3.heap.size w3 w4):=hB4;have HW4:Hid (∀ c,c<=w3.heap.size->c<=w4.heap.size):=fun c hc=>Nat.le_trans hc hB4.size
   clear hB4;have hkk:w3.heap.size<w3.heap.size+1:=by omega
   generalize w3.heap.size+1=KF at hF4 hkk |-;generalize hKP:w3.heap.size=KP at hP4 hk0 hk1 hkk |-;clear hKP;have HS4:Hid (S2 w w4 b K0 K1):=hS4;have HP4:Hid (Bx w4 KP #[.string ⟨#[]⟩,.int .i64 0,.int .i64 0] 193):=hP4;have HF4:Hid (Bx w4 KF #[.int .i64 (F.1:Int),.int .i64 ((s.length-F.2:Nat):Int)] 32):=hF4;obtain⟨i0,i1⟩:=hF4.c2;have hkf1:KF≠K0:=by omega
   have hkf2:K0≠KF:=by omega
   have hkf3:KF≠K1:=by omega
   have hkf4:K1≠KF:=by omega
   clear hS4 hP4 hF4;obtain⟨X0,X1,X2,X3,Y0,Y1,Z0,Z1,Z2,Z3,V0,V1⟩:=HS4.out.c;have hd10:K1≠K0:=by have:=HS4.out.h1;omega
   have hd01:K0≠K1:=by omega
   have hF2:((F.1:Int)!=0)=true:=by simpa using hF0
   clear hF0 hpb;go_wp2;go_region
   all_goals
    go_wp2;have hO:=HS4.out.out (.int .i64 0) (.string ⟨#[]⟩) (.string ⟨#[]⟩) (.slice none 0 0) (.int .i64 (F.1:Int)) (.int .i64 ((s.length-F.2:Nat):Int));change bodyPost _ _ _ _ _ (fill6 w4 K0 K1 (.int .i64 0) (.string ⟨#[]⟩) (.string ⟨#[]⟩) (.slice none 0 0) (.int .i64 (F.1:Int)) (.int .i64 ((s.length-F.2:Nat):Int))).drew;generalize fill6 w4 K0 K1 (.int .i64 0) (.string ⟨#[]⟩) (.string ⟨#[]⟩) (.slice none 0 0) (.int .i64 (F.1:Int)) (.int .i64 ((s.length-F.2:Nat):Int))=WF at hO |-;obtain⟨o2,o3,o4⟩:=hO;have j0:WF.drew.cell? ⟨K0,0,none⟩=_:=o3.cell 0;have j1:WF.drew.cell? ⟨K0,1,none⟩=_:=o3.cell 1;have j2:WF.drew.cell? ⟨K0,2,none⟩=_:=o3.cell 2;have j3:WF.drew.cell? ⟨K0,3,none⟩=_:=o3.cell 3;have j4:WF.drew.cell? ⟨K1,0,none⟩=_:=o4.cell 0;have j5:WF.drew.cell? ⟨K1,1,none⟩=_:=o4.cell 1;replace o2:=o2.drew;refine bodyPost_ret (v:=.tuple #[.agg #[.int .i64 0,.string ⟨#[]⟩,.string ⟨#[]⟩,.slice none 0 0],.agg #[.int .i64 (F.1:Int),.int .i64 ((s.length-F.2:Nat):Int)]]) (by simp[results,Tryz.results135,go_sem,j0,j1,j2,j3,j4,j5]) rfl ?_;rw[HL.out];exact⟨_,⟨0,[],[],[]⟩,TrP.leaf 0 [] [] (by decide) (by simp) (by simp) 0,rfl,o2⟩
  | ok y =>
   obtain⟨⟨a,tg,at_,sm⟩,l2⟩:=y;obtain⟨⟨T,hT1,hT2,rfl⟩,⟨q,hq,hl2,hr3⟩,hf3⟩:=hres;have hpo:=lprp_ok hlp;simp only at hl2 hT2;subst hl2;have hal:=anc_len hpo.1;have htg:0<=tg/\tg<=6:=hpo.2;have HAT:Hid (tg≠0->T=s.length-at_):=hT2;unfold prC f0;simp only[];have HS3:Hid (S2 w w3 b K0 K1):=(hS.drew _).step hf3;have HR3:Hid (Rd w3 b s q dp):=hr3;have HT3:Hid (TbB b w3):=(hT0.later (below_drewN (Below.refl _ _) _)).fr hf3;have HW3:Hid (W.heap.size<=w3.heap.size):=hf3.size;clear hf3 hr3 hT2 hpo hpb;go_upto_region 5 with fail
   have hS4:=HS3.out.later ((below_alloc w3 (.cells #[.string (mk a),.int .i64 tg,.int .i64 (T:Int)] 193)).trans ((below_alloc (w3.alloc (.cells #[.string (mk a),.int .i64 tg,.int .i64 (T:Int)] 193)) (.cells #[.int .i64 0,.int .i64 0] 32)).mono (by simp)));have hB4:Below w3.heap.size w3 ((w3.alloc (.cells #[.string (mk a),.int .i64 tg,.int .i64 (T:Int)] 193)).alloc (.cells #[.int .i64 0,.int .i64 0] 32)):=(below_alloc _ _).trans ((below_alloc _ _).mono (by simp));have hP4:=(Bx.new w3 #[.string (mk a),.int .i64 tg,.int .i64 (T:Int)] 193).later (below_alloc (w3.alloc (.cells #[.string (mk a),.int .i64 tg,.int .i64 (T:Int)] 193)) (.cells #[.int .i64 0,.int .i64 0] 32));have hF4:=Bx.new (w3.alloc (.cells #[.string (mk a),.int .i64 tg,.int .i64 (T:Int)] 193)) #[.int .i64 0,.int .i64 0] 32;rw[show (w3.alloc (.cells #[.string (mk a),.int .i64 tg,.int .i64 (T:Int)] 193)).heap.size=w3.heap.size+1 by simp]at hF4;have hk0:K0<w3.heap.size:=HS3.out.k0.lt;have hk1:K1<w3.heap.size:=HS3.out.k1.lt;generalize (w3.alloc (.cells #[.string (mk a),.int .i64 tg,.int .i64 (T:Int)] 193)).alloc (.cells #[.int .i64 0,.int .i64 0] 32)=w4 at hS4 hB4 hP4 hF4 |-;have HB4:Hid (Below w3.heap.size w3 w4):=hB4;have HW4:Hid (∀ c,c<=w3.heap.size->c<=w4.heap.size):=fun c hc=>Nat.le_trans hc hB4.size
   clear hB4;have hkk:w3.heap.size<w3.heap.size+1:=by omega
   generalize w3.heap.size+1=KF at hF4 hkk |-;generalize hKP:w3.heap.size=KP at hP4 hk0 hk1 hkk |-;clear hKP;have HS4:Hid (S2 w w4 b K0 K1):=hS4;have HP4:Hid (Bx w4 KP #[.string (mk a),.int .i64 tg,.int .i64 (T:Int)] 193):=hP4;have HF4:Hid (Bx w4 KF #[.int .i64 0,.int .i64 0] 32):=hF4;obtain⟨i0,i1⟩:=hF4.c2;have hkf1:KF≠K0:=by omega
   have hkf2:K0≠KF:=by omega
   have hkf3:KF≠K1:=by omega
   have hkf4:K1≠KF:=by omega
   clear hS4 hP4 hF4;obtain⟨X0,X1,X2,X3,Y0,Y1,Z0,Z1,Z2,Z3,V0,V1⟩:=HS4.out.c;have hd10:K1≠K0:=by have:=HS4.out.h1;omega
   have hd01:K0≠K1:=by omega
   have HR4:Hid (Rd w4 b s q dp):=HR3.out.later HB4.out;have HT4:Hid (TbB b w4):=HT3.out.later HB4.out;have HCO:Hid (Calls Tryz.prog 150 #[.pointer (some ⟨b,0,none⟩),.bool f] w4 fun e w'=>ConRes b s dp w4 (d+1) (lcont inner f (s.drop q)) e w'):=content_any f hbr HR4.out hq hs HT4.out;go_wp2_with fail;refine HCO.out.mono ?_;intro e w5 hres;have hcb:=lcont_bad hbad f (s.drop q);have hcw:=fun x (hx:lcont inner f (s.drop q)=.ok x)=>lcont_wr hx (by rw[List.length_drop];omega)
   rw[bnd_ok]at HL;generalize hlc:lcont inner f (s.drop q)=r at hres hcb hcw HL;clear HCO X0 X1 X2 X3 Y0 Y1 Z0 Z1 Z2 Z3 V0 V1 i0 i1
   cases r with
   | error F =>
    obtain⟨v,t,y,ht,rfl,hf5⟩:=hres;obtain⟨k2,x2,a2,ad2,len2,cap2,rfl⟩:=ht.cells;have hF0:=hcb F rfl;unfold fv;have hS5:=HS4.out.step hf5;have hbK:b<KF:=by have:=HS4.out.hb;have:=HS4.out.h0;omega
    have hbP:b<KP:=by have:=HS4.out.hb;have:=HS4.out.h0;omega
    have hP5:=HP4.out.fr hf5 hbP;have hF5:=HF4.out.fr hf5 hbK;obtain⟨z0,z1⟩:=hF5.c2;have z2:=hF5.fz 0;have z3:=hF5.fz 1;have z4:KF<w5.heap.size:=hF5.lt;have hwK:w.heap.size<=KF:=by have:=HS4.out.h0;omega
    have hS6:S2 w (((w5.setCell ⟨KF,0,none⟩ (.int .i64 (F.1:Int))).setCell ⟨KF,1,none⟩ (.int .i64 ((s.length-F.2:Nat):Int))).alloc (.cells #[.int .i64 k2,.string x2,.string a2,.slice ad2 len2 cap2] 35)) b K0 K1:=((hS5.kf hkf1 hkf3 hwK 0 (.int .i64 (F.1:Int))).kf hkf1 hkf3 hwK 1 (.int .i64 ((s.length-F.2:Nat):Int))).later (below_alloc _ _);have hP6:Bx (((w5.setCell ⟨KF,0,none⟩ (.int .i64 (F.1:Int))).setCell ⟨KF,1,none⟩ (.int .i64 ((s.length-F.2:Nat):Int))).alloc (.cells #[.int .i64 k2,.string x2,.string a2,.slice ad2 len2 cap2] 35)) KP #[.string (mk a),.int .i64 tg,.int .i64 (T:Int)] 193:=((hP5.other (by omega) 0 (.int .i64 (F.1:Int))).other (by omega) 1 (.int .i64 ((s.length-F.2:Nat):Int))).later (below_alloc _ _);have hF6:Bx (((w5.setCell ⟨KF,0,none⟩ (.int .i64 (F.1:Int))).setCell ⟨KF,1,none⟩ (.int .i64 ((s.length-F.2:Nat):Int))).alloc (.cells #[.int .i64 k2,.string x2,.string a2,.slice ad2 len2 cap2] 35)) KF #[.int .i64 (F.1:Int),.int .i64 ((s.length-F.2:Nat):Int)] 32:=((hF5.set 0 (.int .i64 (F.1:Int))).set 1 (.int .i64 ((s.length-F.2:Nat):Int))).later (below_alloc _ _)
    have hT6:Bx (((w5.setCell ⟨KF,0,none⟩ (.int .i64 (F.1:Int))).setCell ⟨KF,1,none⟩ (.int .i64 ((s.length-F.2:Nat):Int))).alloc (.cells #[.int .i64 k2,.string x2,.string a2,.slice ad2 len2 cap2] 35)) w5.heap.size #[.int .i64 k2,.string x2,.string a2,.slice ad2 len2 cap2] 35:=by
     have:=Bx.new ((w5.setCell ⟨KF,0,none⟩ (.int .i64 (F.1:Int))).setCell ⟨KF,1,none⟩ (.int .i64 ((s.length-F.2:Nat):Int))) #[.int .i64 k2,.string x2,.string a2,.slice ad2 len2 cap2] 35;rw[World.size_setCell,World.size_setCell]at this;exact this
    clear hS5 hP5 hF5;go_upto_region 8 with fail
    generalize (((w5.setCell ⟨KF,0,none⟩ (.int .i64 (F.1:Int))).setCell ⟨KF,1,none⟩ (.int .i64 ((s.length-F.2:Nat):Int))).alloc (.cells #[.int .i64 k2,.string x2,.string a2,.slice ad2 len2 cap2] 35))=w6 at hS6 hP6 hF6 hT6 |-;generalize w5.heap.size=KT at hT6 |-;clear z0 z1 z2 z3 z4;have HS6:Hid (S2 w w6 b K0 K1):=hS6;obtain⟨i0,i1⟩:=hF6.c2;obtain⟨p0_,p1_,p2_⟩:=hP6.c3;obtain⟨t0,t1,t2,t3⟩:=hT6.c4;clear hS6 hP6 hF6 hT6 HS4 HP4 HF4;obtain⟨X0,X1,X2,X3,Y0,Y1,Z0,Z1,Z2,Z3,V0,V1⟩:=HS6.out.c;have hd10:K1≠K0:=by have:=HS6.out.h1;omega
    have hd01:K0≠K1:=by omega
    have hF2:((F.1:Int)!=0)=true:=by simpa using hF0
    clear hF0 hcb hcw;go_wp2;go_region
    all_goals
     go_wp2;have hO:=HS6.out.out (.int .i64 0) (.string ⟨#[]⟩) (.string ⟨#[]⟩) (.slice none 0 0) (.int .i64 (F.1:Int)) (.int .i64 ((s.length-F.2:Nat):Int));change bodyPost _ _ _ _ _ (fill6 w6 K0 K1 (.int .i64 0) (.string ⟨#[]⟩) (.string ⟨#[]⟩) (.slice none 0 0) (.int .i64 (F.1:Int)) (.int .i64 ((s.length-F.2:Nat):Int))).drew;generalize fill6 w6 K0 K1 (.int .i64 0) (.string ⟨#[]⟩) (.string ⟨#[]⟩) (.slice none 0 0) (.int .i64 (F.1:Int)) (.int .i64 ((s.length-F.2:Nat):Int))=WF at hO |-;obtain⟨o2,o3,o4⟩:=hO;have j0:WF.drew.cell? ⟨K0,0,none⟩=_:=o3.cell 0;have j1:WF.drew.cell? ⟨K0,1,none⟩=_:=o3.cell 1;have j2:WF.drew.cell? ⟨K0,2,none⟩=_:=o3.cell 2;have j3:WF.drew.cell? ⟨K0,3,none⟩=_:=o3.cell 3;have j4:WF.drew.cell? ⟨K1,0,none⟩=_:=o4.cell 0;have j5:WF.drew.cell? ⟨K1,1,none⟩=_:=o4.cell 1;replace o2:=o2.drew;refine bodyPost_ret (v:=.tuple #[.agg #[.int .i64 0,.string ⟨#[]⟩,.string ⟨#[]⟩,.slice none 0 0],.agg #[.int .i64 (F.1:Int),.int .i64 ((s.length-F.2:Nat):Int)]]) (by simp[results,Tryz.results135,go_sem,j0,j1,j2,j3,j4,j5]) rfl ?_;rw[HL.out];exact⟨_,⟨0,[],[],[]⟩,TrP.leaf 0 [] [] (by decide) (by simp) (by simp) 0,rfl,o2⟩
   | ok x =>
    obtain⟨⟨t,wr⟩,l3⟩:=x;obtain⟨v,rfl,ht,⟨q2,hq2,hl3,hr5⟩,hf5⟩:=hres;simp only at ht hl3;subst hl3;have hwr:=hcw _ rfl;simp only at hwr;have hte:=ht;obtain⟨ad2,len2,cap2,rfl,hrest⟩:=hte;clear hrest;have hto:=told_val ht wr hwr tg;obtain⟨k',x',c',ad',len',cap',hR,hk',htp⟩:=hto;unfold f0;simp only[];have HT0:Hid (TrP w4.heap.size w5 (d+1) (.agg #[.int .i64 t.kind,.string (mk t.text),.string (mk t.anc),.slice ad2 len2 cap2]) t):=ht;have HT1:Hid (TrP w4.heap.size w5 (d+1) (.agg #[.int .i64 k',.string x',.string c',.slice ad' len' cap']) (told t wr tg)):=htp;have HKP:Hid (k'=(told t wr tg).kind):=hk';have HR5:Hid (Rd w5 b s q2 dp):=hr5;have HLX:Hid (lstep inner f (s.drop p)=bnd (lon ⟨a,tg,at_,sm⟩ t wr) fun t=>.ok (t,s.drop q2)):=HL.out;have HTR:Hid (toldV t.kind (mk t.text) (mk t.anc) (.slice ad2 len2 cap2) wr tg=.agg #[.int .i64 k',.string x',.string c',.slice ad' len' cap']):=hR;have HOI:Hid (∀ w,Tb w->Calls Tryz.prog 151 #[.agg #[.string (mk a),.int .i64 tg,.int .i64 (T:Int)],.agg #[.int .i64 t.kind,.string (mk t.text),.string (mk t.anc),.slice ad2 len2 cap2],.string (mk wr)] w fun e w'=>e=.returned (onV a tg T t.kind (mk t.text) (.slice ad2 len2 cap2) k' x' (.slice ad' len' cap'))/\Below w.heap.size w w'):=fun w hw=>on_any a tg T t.kind (mk t.text) (mk t.anc) ad2 len2 cap2 wr k' x' c' ad' len' cap' hwr htg hw hR
    have HON:Hid (lon ⟨a,tg,at_,sm⟩ t wr=if tg≠0 then (if (told t wr tg).kind≠tg then .error (12,at_)else .ok (anch (told t wr tg) a))else .ok (anch t a)):=rfl;clear ht htp hr5 hR hk' HL hcb hcw hlc;generalize hk2:t.kind=k2 at HT0 HOI |-;generalize hx2:mk t.text=x2 at HT0 HOI |-;generalize ha2:mk t.anc=a2 at HT0 HOI |-;clear hk2 hx2 ha2;have hS5:=HS4.out.step hf5;have hbK:b<KF:=by have:=HS4.out.hb;have:=HS4.out.h0;omega
    have hbP:b<KP:=by have:=HS4.out.hb;have:=HS4.out.h0;omega
    have hP5:=HP4.out.fr hf5 hbP;have hF5:=HF4.out.fr hf5 hbK;obtain⟨z0,z1⟩:=hF5.c2;have z2:=hF5.fz 0;have z3:=hF5.fz 1;have z4:KF<w5.heap.size:=hF5.lt;have hwK:w.heap.size<=KF:=by have:=HS4.out.h0;omega
    have hS6:S2 w (((w5.setCell ⟨KF,0,none⟩ (.int .i64 0)).setCell ⟨KF,1,none⟩ (.int .i64 0)).alloc (.cells #[.int .i64 k2,.string x2,.string a2,.slice ad2 len2 cap2] 35)) b K0 K1:=((hS5.kf hkf1 hkf3 hwK 0 (.int .i64 0)).kf hkf1 hkf3 hwK 1 (.int .i64 0)).later (below_alloc _ _);have hP6:Bx (((w5.setCell ⟨KF,0,none⟩ (.int .i64 0)).setCell ⟨KF,1,none⟩ (.int .i64 0)).alloc (.cells #[.int .i64 k2,.string x2,.string a2,.slice ad2 len2 cap2] 35)) KP #[.string (mk a),.int .i64 tg,.int .i64 (T:Int)] 193:=((hP5.other (by omega) 0 (.int .i64 0)).other (by omega) 1 (.int .i64 0)).later (below_alloc _ _);have hF6:Bx (((w5.setCell ⟨KF,0,none⟩ (.int .i64 0)).setCell ⟨KF,1,none⟩ (.int .i64 0)).alloc (.cells #[.int .i64 k2,.string x2,.string a2,.slice ad2 len2 cap2] 35)) KF #[.int .i64 0,.int .i64 0] 32:=((hF5.set 0 (.int .i64 0)).set 1 (.int .i64 0)).later (below_alloc _ _)
    have hT6:Bx (((w5.setCell ⟨KF,0,none⟩ (.int .i64 0)).setCell ⟨KF,1,none⟩ (.int .i64 0)).alloc (.cells #[.int .i64 k2,.string x2,.string a2,.slice ad2 len2 cap2] 35)) w5.heap.size #[.int .i64 k2,.string x2,.string a2,.slice ad2 len2 cap2] 35:=by
     have:=Bx.new ((w5.setCell ⟨KF,0,none⟩ (.int .i64 0)).setCell ⟨KF,1,none⟩ (.int .i64 0)) #[.int .i64 k2,.string x2,.string a2,.slice ad2 len2 cap2] 35;rw[World.size_setCell,World.size_setCell]at this;exact this
    have hK4:KF<w4.heap.size:=HF4.out.lt;have hX0:TrP w4.heap.size (((w5.setCell ⟨KF,0,none⟩ (.int .i64 0)).setCell ⟨KF,1,none⟩ (.int .i64 0)).alloc (.cells #[.int .i64 k2,.string x2,.string a2,.slice ad2 len2 cap2] 35)) (d+1) (.agg #[.int .i64 k2,.string x2,.string a2,.slice ad2 len2 cap2]) t:=((HT0.out.set hK4).set hK4).later (below_alloc _ _);have hX1:TrP w4.heap.size (((w5.setCell ⟨KF,0,none⟩ (.int .i64 0)).setCell ⟨KF,1,none⟩ (.int .i64 0)).alloc (.cells #[.int .i64 k2,.string x2,.string a2,.slice ad2 len2 cap2] 35)) (d+1) (.agg #[.int .i64 k',.string x',.string c',.slice ad' len' cap']) (told t wr tg):=((HT1.out.set hK4).set hK4).later (below_alloc _ _);have hX2:Rd (((w5.setCell ⟨KF,0,none⟩ (.int .i64 0)).setCell ⟨KF,1,none⟩ (.int .i64 0)).alloc (.cells #[.int .i64 k2,.string x2,.string a2,.slice ad2 len2 cap2] 35)) b s q2 dp:=((HR5.out.other (by omega) _ _).other (by omega) _ _).later (below_alloc _ _);have hX3:TbB b (((w5.setCell ⟨KF,0,none⟩ (.int .i64 0)).setCell ⟨KF,1,none⟩ (.int .i64 0)).alloc (.cells #[.int .i64 k2,.string x2,.string a2,.slice ad2 len2 cap2] 35)):=(((HT4.out.fr hf5).set (by omega) _ _).set (by omega) _ _).later (below_alloc _ _);clear hS5 hP5 hF5;go_upto_region 8 with fail
    generalize (((w5.setCell ⟨KF,0,none⟩ (.int .i64 0)).setCell ⟨KF,1,none⟩ (.int .i64 0)).alloc (.cells #[.int .i64 k2,.string x2,.string a2,.slice ad2 len2 cap2] 35))=w6 at hS6 hP6 hF6 hT6 hX0 hX1 hX2 hX3 |-;generalize w5.heap.size=KT at hT6 |-;clear z0 z1 z2 z3 z4;have HS6:Hid (S2 w w6 b K0 K1):=hS6;obtain⟨i0,i1⟩:=hF6.c2;obtain⟨p0_,p1_,p2_⟩:=hP6.c3;obtain⟨t0,t1,t2,t3⟩:=hT6.c4;clear hS6 hP6 hF6 hT6 HS4 HP4 HF4;obtain⟨X0,X1,X2,X3,Y0,Y1,Z0,Z1,Z2,Z3,V0,V1⟩:=HS6.out.c;have hd10:K1≠K0:=by have:=HS6.out.h1;omega
    have hd01:K0≠K1:=by omega
    have HX0:Hid (TrP w4.heap.size w6 (d+1) (.agg #[.int .i64 k2,.string x2,.string a2,.slice ad2 len2 cap2]) t):=hX0;have HX1:Hid (TrP w4.heap.size w6 (d+1) (.agg #[.int .i64 k',.string x',.string c',.slice ad' len' cap']) (told t wr tg)):=hX1;have HX2:Hid (Rd w6 b s q2 dp):=hX2;have HKW:Hid (K0<w4.heap.size/\K1<w4.heap.size/\w.heap.size<=w4.heap.size):=⟨by omega,by omega,by omega⟩;have HO6:=HOI.out w6 hX3.tb;clear HOI HT0 HT1 HR5 hX0 hX1 hX2 hX3 HTR hf5 hK4;by_cases ht0:tg=0
    ·have HV:Hid (lstep inner f (s.drop p)=.ok (anch t a,s.drop q2)):=by
      have h1:=HLX.out;rw[HON.out,if_neg (fun h=>h ht0),bnd_ok]at h1;exact h1
     have HOC:Hid (Calls Tryz.prog 151 #[.agg #[.string (mk a),.int .i64 tg,.int .i64 (T:Int)],.agg #[.int .i64 k2,.string x2,.string a2,.slice ad2 len2 cap2],.string (mk wr)] w6 fun e w'=>e=.returned (.tuple #[.agg #[.int .i64 k2,.string x2,.string (mk a),.slice ad2 len2 cap2],.agg #[.int .i64 0,.int .i64 0]])/\Hid (S2 w w' b K0 K1/\Rd w' b s q2 dp/\TrP w4.heap.size w' (d+1) (.agg #[.int .i64 k2,.string x2,.string (mk a),.slice ad2 len2 cap2]) (anch t a))) :=
      HO6.mono (fun e w' h=>⟨by have:=h.1;unfold onV at this;rw[if_pos ht0]at this;exact this,HS6.out.later h.2,HX2.out.later h.2,(HX0.out.anch a hal).later h.2⟩)
     clear HO6 HLX HON HX0 HX1 HX2 HKP ht0;go_wp2_with fail;refine HOC.out.mono ?_;rintro e w7 ⟨rfl,H7⟩;clear HOC X0 X1 X2 X3 Y0 Y1 Z0 Z1 Z2 Z3 V0 V1;obtain⟨X0,X1,X2,X3,Y0,Y1,Z0,Z1,Z2,Z3,V0,V1⟩:=H7.out.1.c;go_wp2;have htf:TrP w.heap.size (fill6 w7 K0 K1 (.int .i64 k2) (.string x2) (.string (mk a)) (.slice ad2 len2 cap2) (.int .i64 0) (.int .i64 0)) (d+1) (.agg #[.int .i64 k2,.string x2,.string (mk a),.slice ad2 len2 cap2]) (anch t a):=((((((H7.out.2.2.set HKW.out.1).set HKW.out.1).set HKW.out.1).set HKW.out.1).set HKW.out.2.1).set HKW.out.2.1).mono HKW.out.2.2;have hO:=H7.out.1.out (.int .i64 k2) (.string x2) (.string (mk a)) (.slice ad2 len2 cap2) (.int .i64 0) (.int .i64 0);have hrd:=H7.out.1.rd H7.out.2.1 (.int .i64 k2) (.string x2) (.string (mk a)) (.slice ad2 len2 cap2) (.int .i64 0) (.int .i64 0);change bodyPost _ _ _ _ _ (fill6 w7 K0 K1 (.int .i64 k2) (.string x2) (.string (mk a)) (.slice ad2 len2 cap2) (.int .i64 0) (.int .i64 0));generalize fill6 w7 K0 K1 (.int .i64 k2) (.string x2) (.string (mk a)) (.slice ad2 len2 cap2) (.int .i64 0) (.int .i64 0)=WF at hO hrd htf |-;obtain⟨o2,o3,o4⟩:=hO;have j0:WF.cell? ⟨K0,0,none⟩=_:=o3.cell 0;have j1:WF.cell? ⟨K0,1,none⟩=_:=o3.cell 1;have j2:WF.cell? ⟨K0,2,none⟩=_:=o3.cell 2;have j3:WF.cell? ⟨K0,3,none⟩=_:=o3.cell 3;have j4:WF.cell? ⟨K1,0,none⟩=_:=o4.cell 0;have j5:WF.cell? ⟨K1,1,none⟩=_:=o4.cell 1;refine bodyPost_ret (v:=.tuple #[.agg #[.int .i64 k2,.string x2,.string (mk a),.slice ad2 len2 cap2],.agg #[.int .i64 0,.int .i64 0]]) (by simp[results,Tryz.results135,go_sem,j0,j1,j2,j3,j4,j5]) rfl ?_;rw[HV.out];exact⟨_,rfl,htf,⟨q2,hq2,rfl,hrd⟩,o2⟩
    ·by_cases hkt:k'=tg
     ·have HV:Hid (lstep inner f (s.drop p)=.ok (anch (told t wr tg) a,s.drop q2)):=by
       have h1:=HLX.out;rw[HON.out,if_pos ht0,if_neg (fun h=>h (by rw[<-HKP.out];exact hkt)),bnd_ok]at h1;exact h1
      have HOC:Hid (Calls Tryz.prog 151 #[.agg #[.string (mk a),.int .i64 tg,.int .i64 (T:Int)],.agg #[.int .i64 k2,.string x2,.string a2,.slice ad2 len2 cap2],.string (mk wr)] w6 fun e w'=>e=.returned (.tuple #[.agg #[.int .i64 k',.string x',.string (mk a),.slice ad' len' cap'],.agg #[.int .i64 0,.int .i64 0]])/\Hid (S2 w w' b K0 K1/\Rd w' b s q2 dp/\TrP w4.heap.size w' (d+1) (.agg #[.int .i64 k',.string x',.string (mk a),.slice ad' len' cap']) (anch (told t wr tg) a))) :=
       HO6.mono (fun e w' h=>⟨by have:=h.1;unfold onV at this;rw[if_neg ht0,if_pos hkt]at this;exact this,HS6.out.later h.2,HX2.out.later h.2,(HX1.out.anch a hal).later h.2⟩)
      clear HO6 HLX HON HX0 HX1 HX2 HKP ht0 hkt;go_wp2_with fail;refine HOC.out.mono ?_;rintro e w7 ⟨rfl,H7⟩;clear HOC X0 X1 X2 X3 Y0 Y1 Z0 Z1 Z2 Z3 V0 V1;obtain⟨X0,X1,X2,X3,Y0,Y1,Z0,Z1,Z2,Z3,V0,V1⟩:=H7.out.1.c;go_wp2;have htf:TrP w.heap.size (fill6 w7 K0 K1 (.int .i64 k') (.string x') (.string (mk a)) (.slice ad' len' cap') (.int .i64 0) (.int .i64 0)) (d+1) (.agg #[.int .i64 k',.string x',.string (mk a),.slice ad' len' cap']) (anch (told t wr tg) a):=((((((H7.out.2.2.set HKW.out.1).set HKW.out.1).set HKW.out.1).set HKW.out.1).set HKW.out.2.1).set HKW.out.2.1).mono HKW.out.2.2;have hO:=H7.out.1.out (.int .i64 k') (.string x') (.string (mk a)) (.slice ad' len' cap') (.int .i64 0) (.int .i64 0);have hrd:=H7.out.1.rd H7.out.2.1 (.int .i64 k') (.string x') (.string (mk a)) (.slice ad' len' cap') (.int .i64 0) (.int .i64 0);change bodyPost _ _ _ _ _ (fill6 w7 K0 K1 (.int .i64 k') (.string x') (.string (mk a)) (.slice ad' len' cap') (.int .i64 0) (.int .i64 0));generalize fill6 w7 K0 K1 (.int .i64 k') (.string x') (.string (mk a)) (.slice ad' len' cap') (.int .i64 0) (.int .i64 0)=WF at hO hrd htf |-;obtain⟨o2,o3,o4⟩:=hO;have j0:WF.cell? ⟨K0,0,none⟩=_:=o3.cell 0;have j1:WF.cell? ⟨K0,1,none⟩=_:=o3.cell 1;have j2:WF.cell? ⟨K0,2,none⟩=_:=o3.cell 2;have j3:WF.cell? ⟨K0,3,none⟩=_:=o3.cell 3;have j4:WF.cell? ⟨K1,0,none⟩=_:=o4.cell 0;have j5:WF.cell? ⟨K1,1,none⟩=_:=o4.cell 1;refine bodyPost_ret (v:=.tuple #[.agg #[.int .i64 k',.string x',.string (mk a),.slice ad' len' cap'],.agg #[.int .i64 0,.int .i64 0]]) (by simp[results,Tryz.results135,go_sem,j0,j1,j2,j3,j4,j5]) rfl ?_;rw[HV.out];exact⟨_,rfl,htf,⟨q2,hq2,rfl,hrd⟩,o2⟩
     ·have HV:Hid (lstep inner f (s.drop p)=.error (12,at_)):=by
       have h1:=HLX.out;rw[HON.out,if_pos ht0,if_pos (fun h=>hkt (by rw[HKP.out];exact h))]at h1;exact h1
      have HTT:Hid (T=s.length-at_):=HAT.out ht0
      have HOC:Hid (Calls Tryz.prog 151 #[.agg #[.string (mk a),.int .i64 tg,.int .i64 (T:Int)],.agg #[.int .i64 k2,.string x2,.string a2,.slice ad2 len2 cap2],.string (mk wr)] w6 fun e w'=>e=.returned (.tuple #[.agg #[.int .i64 0,.string ⟨#[]⟩,.string ⟨#[]⟩,.slice none 0 0],.agg #[.int .i64 12,.int .i64 (T:Int)]])/\Hid (S2 w w' b K0 K1)) :=
       HO6.mono (fun e w' h=>⟨by have:=h.1;unfold onV at this;rw[if_neg ht0,if_neg hkt]at this;exact this,HS6.out.later h.2⟩)
      clear HO6 HLX HON HX0 HX1 HX2 HKP ht0 hkt;go_wp2_with fail;refine HOC.out.mono ?_;rintro e w7 ⟨rfl,H7⟩;clear HOC X0 X1 X2 X3 Y0 Y1 Z0 Z1 Z2 Z3 V0 V1;obtain⟨X0,X1,X2,X3,Y0,Y1,Z0,Z1,Z2,Z3,V0,V1⟩:=H7.out.c;go_wp2;have hO:=H7.out.out (.int .i64 0) (.string ⟨#[]⟩) (.string ⟨#[]⟩) (.slice none 0 0) (.int .i64 12) (.int .i64 (T:Int));change bodyPost _ _ _ _ _ (fill6 w7 K0 K1 (.int .i64 0) (.string ⟨#[]⟩) (.string ⟨#[]⟩) (.slice none 0 0) (.int .i64 12) (.int .i64 (T:Int)));generalize fill6 w7 K0 K1 (.int .i64 0) (.string ⟨#[]⟩) (.string ⟨#[]⟩) (.slice none 0 0) (.int .i64 12) (.int .i64 (T:Int))=WF at hO |-;obtain⟨o2,o3,o4⟩:=hO;have j0:WF.cell? ⟨K0,0,none⟩=_:=o3.cell 0;have j1:WF.cell? ⟨K0,1,none⟩=_:=o3.cell 1;have j2:WF.cell? ⟨K0,2,none⟩=_:=o3.cell 2;have j3:WF.cell? ⟨K0,3,none⟩=_:=o3.cell 3;have j4:WF.cell? ⟨K1,0,none⟩=_:=o4.cell 0;have j5:WF.cell? ⟨K1,1,none⟩=_:=o4.cell 1;refine bodyPost_ret (v:=.tuple #[.agg #[.int .i64 0,.string ⟨#[]⟩,.string ⟨#[]⟩,.slice none 0 0],.agg #[.int .i64 12,.int .i64 (T:Int)]]) (by simp[results,Tryz.results135,go_sem,j0,j1,j2,j3,j4,j5]) rfl ?_;rw[HV.out];exact⟨_,⟨0,[],[],[]⟩,TrP.leaf 0 [] [] (by decide) (by simp) (by simp) 0,by unfold fv;simp only;rw[<-HTT.out];rfl,o2⟩
end Flw
end Go.Proofs.YtalijhclfppohaaGreatDoor
