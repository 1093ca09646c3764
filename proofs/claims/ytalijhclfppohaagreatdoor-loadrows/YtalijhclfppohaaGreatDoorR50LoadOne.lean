/- . -/
import Derived.Test.YtalijhclfppohaaGreatDoorR49LoadLd
import Derived.Test.YtalijhclfppohaaGreatDoorR38FlowRsame
set_option linter.unusedSimpArgs false
set_option linter.unusedVariables false
set_option maxRecDepth 100000
namespace Go.Proofs.YtalijhclfppohaaGreatDoor
namespace Lod
open Utf Rws Pln Flw Tre
open Go.RowKit
open Blk (Rw RwAt z3)
set_option maxHeartbeats 4000000
theorem load_any (s:Ln) (hs:s.length<=65536) (w:World) (hT:Tb w) (hg:∀ d∈docs (rwW s),Tre.Good d.2):Calls Tryz.prog 14 #[.string (mk s)] w (LdRes (ldM s) w):=by
 unfold ldM;by_cases h1:(rwF s).1≠0
 ·rw[if_pos h1];exact load_a s hs w h1
 ·rw[if_neg h1];have h1':(rwF s).1=0:=by simpa using h1
  by_cases h2:(tmF (docs (rwW s))).1≠0
  ·rw[if_pos h2];exact load_b s hs w h1' h2
  ·rw[if_neg h2];exact load_c (p:=paD) (fun rs a len cap W hg hT hR=>parse_any (msr rs+1) a len cap rs W hT hR hg (Nat.lt_succ_self _)) s hs w hT h1' (by simpa using h2) hg
def OnRes (q:Tf) (w:World) (e:Ending) (w':World):Prop:=∃ (k:Int) (x y:ByteArray) (ad:Option Addr) (l c:Nat),e=.returned (.tuple #[.agg #[.int .i64 k,.string x,.string y,.slice ad l c],.agg #[.int .i64 q.2.1,.int .i64 q.2.2]])/\Hid (TrV w' 129 (.agg #[.int .i64 k,.string x,.string y,.slice ad l c]) q.1)/\Hid (Below w.heap.size w w')
theorem trv_leaf (k:Int) (w:World) (n:Nat) (h: -9223372036854775808<=k/\k<=9223372036854775807):TrV w (n+1) (.agg #[.int .i64 k,.string ⟨#[]⟩,.string ⟨#[]⟩,.slice none 0 0]) ⟨k,[],[],[]⟩ :=
 ⟨none,0,0,rfl,rfl,Nat.le_refl _,Nat.zero_le _,⟨h.1,h.2,by simp,by simp⟩,fun h=>absurd h (by omega)⟩
structure OnS (w W:World) (B0 B1:Nat):Prop where
 b0:Bx W B0 #[.int .i64 0,.string ⟨#[]⟩,.string ⟨#[]⟩,.slice none 0 0] 35
 b1:Bx W B1 #[.int .i64 0,.int .i64 0] 32
 bl:Below w.heap.size w W
 h0:w.heap.size<=B0
 h1:B0<B1
theorem OnS.later {w W W':World} {B0 B1:Nat} (h:OnS w W B0 B1) (hb:Below W.heap.size W W'):OnS w W' B0 B1:=⟨h.b0.later hb,h.b1.later hb,h.bl.trans (hb.mono h.bl.size),h.h0,h.h1⟩
theorem OnS.fill {w W:World} {B0 B1:Nat} (h:OnS w W B0 B1) (u0 u1 u2 u3 f0 f1:Value):Bx (fill6 W B0 B1 u0 u1 u2 u3 f0 f1) B0 #[u0,u1,u2,u3] 35/\Bx (fill6 W B0 B1 u0 u1 u2 u3 f0 f1) B1 #[f0,f1] 32/\Below w.heap.size w (fill6 W B0 B1 u0 u1 u2 u3 f0 f1):=by
 have h0:=h.h0;have h1:=h.h1;have hn:B0≠B1:=by omega
 have hn':B1≠B0:=by omega
 unfold fill6 fill4;exact⟨(((((h.b0.set 0 _).set 1 _).set 2 _).set 3 _).other hn _ _).other hn _ _,(((((h.b1.other hn' _ _).other hn' _ _).other hn' _ _).other hn' _ _).set 0 _).set 1 _,(((((h.bl.setCell (p:=⟨B0,0,none⟩) h0 _).setCell (p:=⟨B0,1,none⟩) h0 _).setCell (p:=⟨B0,2,none⟩) h0 _).setCell (p:=⟨B0,3,none⟩) h0 _).setCell (p:=⟨B1,0,none⟩) (by show _<=B1;omega) _).setCell (p:=⟨B1,1,none⟩) (by show _<=B1;omega) _⟩
theorem OnS.new (w:World):OnS w ((w.alloc (.cells #[.int .i64 0,.string ⟨#[]⟩,.string ⟨#[]⟩,.slice none 0 0] 35)).alloc (.cells #[.int .i64 0,.int .i64 0] 32)) w.heap.size (w.heap.size+1):=by
 have h:=two_b w #[.int .i64 0,.string ⟨#[]⟩,.string ⟨#[]⟩,.slice none 0 0] #[.int .i64 0,.int .i64 0] 35 32;exact⟨h.2.1,h.2.2,h.1,Nat.le_refl _,Nat.lt_succ_self _⟩
theorem one_core (s:Ln) (w:World) (q:List Tr × Int × Int) (HL:Hid (∀ W,Below w.heap.size w W->Calls Tryz.prog 14 #[.string (mk s)] W (LdRes q W))) (hql:q.1.length<=1000000) :
  Calls Tryz.prog 12 #[.string (mk s)] w (OnRes (if q.2.1≠0 then (tr0,q.2)else if 1<q.1.length then (tr0,5,0)else (q.1.getD 0 ⟨1,[],[],[]⟩,0,0)) w):=by
 obtain⟨ks,f1,f2⟩:=q;dsimp only at hql |-;unfold LdRes at HL;dsimp only at HL;obtain⟨W0,hW0⟩:∃ W0,(w.alloc (.cells #[.int .i64 0,.string ⟨#[]⟩,.string ⟨#[]⟩,.slice none 0 0] 35)).alloc (.cells #[.int .i64 0,.int .i64 0] 32)=W0:=⟨_,rfl⟩;have H0:Hid (OnS w W0 w.heap.size (w.heap.size+1)):=by rw[<-hW0];exact OnS.new w
 have HW0:Hid ((w.alloc (.cells #[.int .i64 0,.string ⟨#[]⟩,.string ⟨#[]⟩,.slice none 0 0] 35)).alloc (.cells #[.int .i64 0,.int .i64 0] 32)=W0):=hW0;clear hW0;obtain⟨A,HA⟩:∃ A,Hid (A=if f1≠0 then (tr0,f1,f2)else if 1<ks.length then (tr0,5,0)else (ks.getD 0 ⟨1,[],[],[]⟩,0,0)):=⟨_,rfl⟩;rw[<-HA.out];go_enter Tryz.func12,Tryz.ntmps12;go_upto_region 1 with fail
 rw[HW0.out];obtain⟨B0,hB0⟩:∃ B,B=w.heap.size:=⟨_,rfl⟩;obtain⟨B1,hB1⟩:∃ B,B=w.heap.size+1:=⟨_,rfl⟩;rw[<-hB1,<-hB0]at H0
 try rw[<-hB1]
 try rw[<-hB0]
 clear hB0 hB1 HW0;go_upto_region 2 with (go_at_call 14;refine(HL.out _ H0.out.bl).mono ?_;rintro e w1 ⟨a,cap,rfl,hk,hb⟩)
 have H1:Hid (OnS w w1 B0 B1):=H0.out.later hb.out;have H5:Hid (OnS w (w1.alloc (.cells #[.int .i64 f1,.int .i64 f2] 32)) B0 B1):=H1.out.later (below_alloc _ _);have N5:=Bx.new w1 #[.int .i64 f1,.int .i64 f2] 32;have hn5:B0≠w1.heap.size/\B1≠w1.heap.size:=⟨by have:=H1.out.b0.lt;omega,by have:=H1.out.b1.lt;omega⟩;have HK5:Hid (KAtP W0.heap.size (w1.alloc (.cells #[.int .i64 f1,.int .i64 f2] 32)) a ks.length ks):=hk.out.1.later (below_alloc _ _);have hl0:B1<W0.heap.size:=H0.out.b1.lt;have hl01:B0<B1:=H0.out.h1;have hcl:ks.length<=cap:=hk.out.2.1;have hcm:cap<=9223372036854775807:=hk.out.2.2;generalize w1.alloc (.cells #[.int .i64 f1,.int .i64 f2] 32)=W5 at H5 N5 HK5 |-;generalize w1.heap.size=K5 at N5 hn5 |-;clear H0 H1 hk hb HL;obtain⟨hn50,hn51⟩:=hn5;obtain⟨c0,c1⟩:=N5.c2;obtain⟨d0,d1,d2,d3⟩:=H5.out.b0.c4;obtain⟨d4,d5⟩:=H5.out.b1.c2;have z0:=H5.out.b0.fz 0;have z1:=H5.out.b0.fz 1;have z2:=H5.out.b0.fz 2;have z3:=H5.out.b0.fz 3;have z4:=H5.out.b1.fz 0;have z5:=H5.out.b1.fz 1;have hn01:B0≠B1:=by have:=H5.out.h1;omega
 clear N5;by_cases hf:f1≠0
 ·have HA2:Hid (A=(tr0,f1,f2)):=HA.out.trans (if_pos hf);have hfn:(f1 != 0)=true:=by simpa using hf
  have HF:Hid (_/\_/\_):=H5.out.fill (.int .i64 0) (.string ⟨#[]⟩) (.string ⟨#[]⟩) (.slice none 0 0) (.int .i64 f1) (.int .i64 f2);clear H5 HA hf HK5;go_wp2;go_region
  all_goals
   go_wp2;change bodyPost _ _ _ _ _ (fill6 W5 B0 B1 (.int .i64 0) (.string ⟨#[]⟩) (.string ⟨#[]⟩) (.slice none 0 0) (.int .i64 f1) (.int .i64 f2)).drew;generalize fill6 W5 B0 B1 (.int .i64 0) (.string ⟨#[]⟩) (.string ⟨#[]⟩) (.slice none 0 0) (.int .i64 f1) (.int .i64 f2)=W9 at HF |-;obtain⟨g0,g1,g2,g3⟩:=HF.out.1.c4;obtain⟨g4,g5⟩:=HF.out.2.1.c2;refine bodyPost_ret (v:=.tuple #[.agg #[.int .i64 0,.string ⟨#[]⟩,.string ⟨#[]⟩,.slice none 0 0],.agg #[.int .i64 f1,.int .i64 f2]]) (by simp[results,Tryz.results12,go_sem,g0,g1,g2,g3,g4,g5]) rfl ?_;rw[HA2.out];exact⟨0,⟨#[]⟩,⟨#[]⟩,none,0,0,rfl,trv_leaf 0 _ 128 (by constructor<;>decide),HF.out.2.2.drew⟩
 have hf0:f1=0:=by simpa using hf
 subst hf0;have HA1:Hid (A=if 1<ks.length then (tr0,5,0)else (ks.getD 0 ⟨1,[],[],[]⟩,0,0)):=HA.out.trans (if_neg (by simp));clear HA hf;by_cases h1:1<ks.length
 ·have HA2:Hid (A=(tr0,5,0)):=HA1.out.trans (if_pos h1);have h1i:(1:Int)<(ks.length:Int):=by omega
  have HF:Hid (_/\_/\_):=H5.out.fill (.int .i64 0) (.string ⟨#[]⟩) (.string ⟨#[]⟩) (.slice none 0 0) (.int .i64 5) (.int .i64 0);clear H5 HA1 h1 HK5;generalize ks.length=L at *;go_wp2;change bodyPost _ _ _ _ _ (fill6 W5 B0 B1 (.int .i64 0) (.string ⟨#[]⟩) (.string ⟨#[]⟩) (.slice none 0 0) (.int .i64 5) (.int .i64 0));generalize fill6 W5 B0 B1 (.int .i64 0) (.string ⟨#[]⟩) (.string ⟨#[]⟩) (.slice none 0 0) (.int .i64 5) (.int .i64 0)=W9 at HF |-;obtain⟨g0,g1,g2,g3⟩:=HF.out.1.c4;obtain⟨g4,g5⟩:=HF.out.2.1.c2;refine bodyPost_ret (v:=.tuple #[.agg #[.int .i64 0,.string ⟨#[]⟩,.string ⟨#[]⟩,.slice none 0 0],.agg #[.int .i64 5,.int .i64 0]]) (by simp[results,Tryz.results12,go_sem,g0,g1,g2,g3,g4,g5]) rfl ?_;rw[HA2.out];exact⟨0,⟨#[]⟩,⟨#[]⟩,none,0,0,rfl,trv_leaf 0 _ 128 (by constructor<;>decide),HF.out.2.2⟩
 have HA3:Hid (A=(ks.getD 0 ⟨1,[],[],[]⟩,0,0)):=HA1.out.trans (if_neg h1);clear HA1;have h1i: ¬ (1:Int)<(ks.length:Int):=by omega
 cases ks with
 | nil =>
  have HF:Hid (_/\_/\_):=H5.out.fill (.int .i64 1) (.string ⟨#[]⟩) (.string ⟨#[]⟩) (.slice none 0 0) (.int .i64 0) (.int .i64 0);clear H5 h1 HK5 h1i;have hz:((([]:List Tr).length:Nat):Int)=0:=rfl;simp only[List.length_nil]at *;go_wp2;change bodyPost _ _ _ _ _ (fill6 W5 B0 B1 (.int .i64 1) (.string ⟨#[]⟩) (.string ⟨#[]⟩) (.slice none 0 0) (.int .i64 0) (.int .i64 0));generalize fill6 W5 B0 B1 (.int .i64 1) (.string ⟨#[]⟩) (.string ⟨#[]⟩) (.slice none 0 0) (.int .i64 0) (.int .i64 0)=W9 at HF |-;obtain⟨g0,g1,g2,g3⟩:=HF.out.1.c4;obtain⟨g4,g5⟩:=HF.out.2.1.c2;refine bodyPost_ret (v:=.tuple #[.agg #[.int .i64 1,.string ⟨#[]⟩,.string ⟨#[]⟩,.slice none 0 0],.agg #[.int .i64 0,.int .i64 0]]) (by simp[results,Tryz.results12,go_sem,g0,g1,g2,g3,g4,g5]) rfl ?_;rw[HA3.out];exact⟨1,⟨#[]⟩,⟨#[]⟩,none,0,0,rfl,trv_leaf 1 _ 128 (by constructor<;>decide),HF.out.2.2⟩
 | cons t r =>
  have hr:r=[]:=List.eq_nil_of_length_eq_zero (by rw[List.length_cons]at h1;omega);subst hr;obtain⟨b,off,rfl,hbc,hbl,hcell⟩:=HK5.out.2 (by simp);obtain⟨x0,x1,x2,x3,e0,e1,e2,e3,ht⟩:=hcell 0 (by simp);obtain⟨k,tx,ta,ad,tl,tc,rfl,rfl,rfl,rfl⟩:=(TrP.v ht).cells;rw[Nat.zero_mul,Nat.add_zero]at e0 e1 e2 e3;have HT:=ht;have HF:Hid (_/\_/\_):=H5.out.fill (.int .i64 k) (.string tx) (.string ta) (.slice ad tl tc) (.int .i64 0) (.int .i64 0)
  have HTF:Hid (TrV (fill6 W5 B0 B1 (.int .i64 k) (.string tx) (.string ta) (.slice ad tl tc) (.int .i64 0) (.int .i64 0)) 129 (.agg #[.int .i64 k,.string tx,.string ta,.slice ad tl tc]) t):=by
   refine TrP.v (TrP.keep (c:=W0.heap.size) (w:=W5) ?_ (fun j h1 h2=> ?_) HT)
   ·unfold fill6 fill4;simp only[World.size_setCell];exact Nat.le_refl _
   ·unfold fill6 fill4;rw[Below.heap_setCell _ _ _ _ (fun e=>by simp only at e;omega),Below.heap_setCell _ _ _ _ (fun e=>by simp only at e;omega),Below.heap_setCell _ _ _ _ (fun e=>by simp only at e;omega),Below.heap_setCell _ _ _ _ (fun e=>by simp only at e;omega),Below.heap_setCell _ _ _ _ (fun e=>by simp only at e;omega),Below.heap_setCell _ _ _ _ (fun e=>by simp only at e;omega)]
  clear H5 h1 HK5 hcell ht HT hbc hl0 hl01;simp only[List.length_cons,List.length_nil]at *;go_wp2;change bodyPost _ _ _ _ _ (fill6 W5 B0 B1 (.int .i64 k) (.string tx) (.string ta) (.slice ad tl tc) (.int .i64 0) (.int .i64 0));generalize fill6 W5 B0 B1 (.int .i64 k) (.string tx) (.string ta) (.slice ad tl tc) (.int .i64 0) (.int .i64 0)=W9 at HF HTF |-;obtain⟨g0,g1,g2,g3⟩:=HF.out.1.c4;obtain⟨g4,g5⟩:=HF.out.2.1.c2;refine bodyPost_ret (v:=.tuple #[.agg #[.int .i64 k,.string tx,.string ta,.slice ad tl tc],.agg #[.int .i64 0,.int .i64 0]]) (by simp[results,Tryz.results12,go_sem,g0,g1,g2,g3,g4,g5]) rfl ?_;rw[HA3.out];exact⟨k,tx,ta,ad,tl,tc,rfl,HTF.out,HF.out.2.2⟩
end Lod
namespace Lod
open Utf Rws Pln Flw Tre
open Go.RowKit
open Blk (Rw RwAt z3)
set_option maxHeartbeats 4000000
theorem one_any (s:Ln) (hs:s.length<=65536) (w:World) (hT:Tb w) (hg:∀ d∈docs (rwW s),Tre.Good d.2):Calls Tryz.prog 12 #[.string (mk s)] w (OnRes (onM s) w):=by
 have hl:(ldM s).1.length<=1000000:=ldM_len s;exact one_core s w (ldM s) (fun W hb=>load_any s hs W (hT.later hb) hg) hl
theorem eql_flt (x1 y1 x2 y2:Int) (w:World):(binOp .eql 32 (.agg #[.int .i64 x1,.int .i64 x2]) (.agg #[.int .i64 y1,.int .i64 y2])).run Tryz.prog w=.ok (.bool (x1==y1 && x2==y2)) w:=by
 rw[run_eql_struct,run_equalIn_struct w 9999 32 _ _ (by kernel_rfl) (by kernel_rfl)];cases h1:x1==y1<;>cases h2:x2==y2<;>simp[go_sem,Program.fieldsOf,Tryz.underlying32,Tryz.underlying30,Tryz.underlying3,h1,h2]
def lvS:Ln:=[97,10,45,45,45,10,98,58,32,53,10]
def lvT1:Tr:=⟨4,[97],[],[]⟩
def lvT2:Tr:=⟨6,[],[],[⟨4,[98],[],[]⟩,⟨3,[53],[],[]⟩]⟩
theorem lv_ld:ldM lvS=([lvT1,lvT2],0,0):=by kernel_rfl
theorem alive_any {w:World} (hT:Tb w):Calls Tryz.prog 7 #[] w fun e w'=>e=.returned (.bool true)/\Below w.heap.size w w':=by
 have HL:Hid (Calls Tryz.prog 14 #[.string ⟨#[97,10,45,45,45,10,98,58,32,53,10]⟩] w (LdRes ([lvT1,lvT2],0,0) w)):=by
  have h:=load_any lvS (by decide) w hT (good_docs (by decide));rw[lv_ld]at h;exact h
 have he:=eql_flt 0 0 0 0;clear hT;go_enter Tryz.func7,Tryz.ntmps7;go_wp2_with fail;refine HL.out.mono ?_;rintro e w1 ⟨a,cap,rfl,hk,hb⟩;obtain⟨b,off,rfl,hbc,hbl,hcell⟩:=hk.out.1.2 (by decide);obtain⟨x0,x1,x2,x3,e0,e1,e2,e3,ht⟩:=hcell 0 (by decide);obtain⟨y0,y1,y2,y3,f0,f1,f2,f3,ht'⟩:=hcell 1 (by decide);obtain⟨ad,tl,tc,g1⟩:=(TrP.v ht).open4;obtain⟨ad',tl',tc',g2⟩:=(TrP.v ht').open4;unfold tv at g1 g2;simp only[Value.agg.injEq,Array.mk.injEq,List.cons.injEq,and_true]at g1 g2;obtain⟨rfl,rfl,rfl,rfl⟩:=g1;obtain⟨rfl,rfl,rfl,rfl⟩:=g2;rw[Nat.zero_mul,Nat.add_zero]at e1;rw[Nat.one_mul,Nat.add_zero]at f0;replace e1:w1.cell? ⟨b,off+1,none⟩=some (.string (mk [97])):=e1;replace f0:w1.cell? ⟨b,off+4,none⟩=some (.int .i64 6):=f0;have HB:Hid (Below w.heap.size w w1):=hb.out;have hcp:(2:Nat)<=cap:=hk.out.2.1;have hcm:cap<=9223372036854775807:=hk.out.2.2;have hs:((mk [97]).toList==[97])=true:=by rw[ByteArray.toList_eq,mk_data];rfl
 clear HL hk hb hcell ht ht' e0 e2 e3 f1 f2 f3 hbc;simp only[List.length_cons,List.length_nil]at *;go_wp2;go_ret;exact⟨rfl,HB.out.trans ((below_alloc _ _).mono HB.out.size)⟩
end Lod
namespace Lod
open Utf Rws Pln Flw Tre
open Go.RowKit
open Blk (Rw RwAt z3)
set_option maxHeartbeats 4000000
theorem rEmp_any (c k:Int) (t:List UInt8) (w:World):Calls Tryz.prog 21 #[.agg #[.int .i64 c,.string (mk t),.int .i64 k]] w fun e w'=>e=.returned (.bool (noth t))/\Below w.heap.size w w':=by
 cases t with
 | nil =>
  have hz:mk []=ByteArray.empty:=rfl;go_enter Tryz.func21,Tryz.ntmps21;go_wp2;go_ret;exact⟨rfl,(Below.refl _ _).alloc (Nat.le_refl _) _⟩
 | cons b r =>
  have hne:((mk (b::r)).toList==[])=false:=by rw[ByteArray.toList_eq,mk_data];rfl
  have hsz:(mk (b::r)).size=r.length+1:=by rw[mk_size];simp
  have hg:∀ h,(mk (b::r))[0]'h=b:=fun h=>by rw[mk_get];rfl
  have hb:=Rws.b35 b
  have HE:Hid (noth (b::r)=(b==35)):=by
   show noth (b::r)=(b==35);unfold noth;rw[hd_cons];simp
  go_enter Tryz.func21,Tryz.ntmps21;go_wp2;go_ret;rw[HE.out];exact⟨rfl,(Below.refl _ _).alloc (Nat.le_refl _) _⟩
def whO (s:Ln):Bool:= !(rwW s).any mkr && (((rwF s).1==0 && (rwF s).2==0) && (rwW s).any ful)
theorem any_snoc (p:Rw->Bool) {rs:List Rw} {j:Nat} (h:j<rs.length):(rs.take (j+1)).any p=((rs.take j).any p || p (rs.getD j z3)):=by
 rw[List.take_succ_eq_append_getElem h,List.any_append,List.any_cons,List.any_nil,Bool.or_false,List.getD_eq_getElem?_getD,List.getElem?_eq_getElem h];rfl
theorem whole_any (s:Ln) (hs:s.length<=65536) (w:World):Calls Tryz.prog 11 #[.string (mk s)] w fun e w'=>e=.returned (.bool (whO s))/\Below w.heap.size w w':=by
 have HR:Hid (∀ W,Calls Tryz.prog 13 #[.string (mk s)] W (RdRes s W)):=fun W=>read_rw s hs W
 unfold RdRes at HR;obtain⟨V,HV⟩:∃ V,Hid (V=whO s):=⟨_,rfl⟩;rw[<-HV.out];unfold whO at HV;have hlb:(rwW s).length<=65536:=Nat.le_trans (rwW_small hs).1 hs;generalize rwF s=F at *;generalize rwW s=R at *;obtain⟨f1,f2⟩:=F;dsimp only at HR HV;have he:=eql_flt f1 0 f2 0;go_enter Tryz.func11,Tryz.ntmps11;go_upto_region 2 with (go_at_call 13;refine(HR.out _).mono ?_;rintro e w1 ⟨a,cap,rfl,hr,hb⟩)
 have N5:=Bx.new w1 #[.int .i64 f1,.int .i64 f2] 32;have HB5:Hid (Below w.heap.size w (w1.alloc (.cells #[.int .i64 f1,.int .i64 f2] 32))):=hb.out.trans ((below_alloc _ _).mono hb.out.size);have HR5:Hid (Tre.RowsIn (w1.alloc (.cells #[.int .i64 f1,.int .i64 f2] 32)) a R.length cap R):=hr.out.later (below_alloc _ _);generalize w1.alloc (.cells #[.int .i64 f1,.int .i64 f2] 32)=W5 at N5 HB5 HR5 |-;generalize w1.heap.size=K5 at N5 |-;have HN5:Hid (Bx W5 K5 #[.int .i64 f1,.int .i64 f2] 32):=N5;clear N5 hr hb HR;have hcl:R.length<=cap:=HR5.out.2.1;have hcm:cap<=9223372036854775807:=HR5.out.2.2.1;obtain⟨len,hlen⟩:∃ n,n=R.length:=⟨_,rfl⟩;have HLn:Hid (len=R.length):=hlen;rw[<-hlen]at HR5 hcl hlb |-;clear hlen;go_wp2_with fail
 go_loopw [5,15] (fun ub ui wr=>∃ j:Nat,j<=len/\ui=.int .i64 (j:Int)/\ub=.bool ((R.take j).any ful)/\Hid (Below W5.heap.size W5 wr/\(R.take j).any mkr=false)) (fun _ ui _=>len-(intOf ui).toNat)
 case atStart=>exact⟨0,Nat.zero_le _,rfl,rfl,Below.refl _ _,rfl⟩
 case round =>
  obtain⟨j,hj,rfl,rfl,HL⟩:=hrel;by_cases hlt:j<len
  ·obtain⟨b,off,rfl,hb,hcell⟩:=HR5.out.1.2 (by omega);obtain⟨x0,x1,x2⟩:=hcell j hlt;have hjr:j<R.length:=by have:=HLn.out;omega
   replace x0:=(HL.out.1.cell (p:=⟨b,off+j*3,none⟩) hb).trans x0;replace x1:=(HL.out.1.cell (p:=⟨b,off+j*3+1,none⟩) hb).trans x1;replace x2:=(HL.out.1.cell (p:=⟨b,off+j*3+2,none⟩) hb).trans x2;have HSM:Hid ((R.take (j+1)).any mkr=((R.take j).any mkr || mkr (R.getD j z3))):=any_snoc mkr hjr;have HSF:Hid ((R.take (j+1)).any ful=((R.take j).any ful || ful (R.getD j z3))):=any_snoc ful hjr
   have HMA:Hid (mkr (R.getD j z3)=true->V=false):=fun h=>by
    rw[HV.out];have:R.any mkr=true:=List.any_eq_true.2 ⟨_,getD_memR hjr,h⟩;rw[this];rfl
   have hj0:(0:Int)<=(j:Int):=by omega
   have hj1:(j:Int)<(len:Int):=by omega
   obtain⟨rc,rt,rz,HRJ⟩:∃ rc rt rz,Hid (R.getD j z3=(rc,rt,rz)):=⟨_,_,_,rfl⟩;rw[HRJ.out]at x0 x1 x2 HSM HSF HMA;have hE:((mk rt).toList==[45,45,45])=(rt==[45,45,45]):=by rw[ByteArray.toList_eq,mk_data]
   have HEM:Hid (∀ W,Calls Tryz.prog 21 #[.agg #[.int .i64 rc,.string (mk rt),.int .i64 rz]] W fun e w'=>e=.returned (.bool (noth rt))/\Below W.heap.size W w'):=fun W=>rEmp_any rc rz rt W
   have HNM:Hid (mkr (rc,rt,rz)=(rc==0 && rt==[45,45,45])):=rfl;have HNF:Hid (ful (rc,rt,rz)= !noth rt):=rfl;have HB1:Hid (Below W5.heap.size W5 wr/\(R.take j).any mkr=false):=HL;clear hcell hjr HL;by_cases hmk:rc=0/\(rt==[45,45,45])=true
   ·obtain⟨rfl,hm2⟩:=hmk;rw[hm2]at hE HNM;have HVF:Hid (V=false):=HMA.out (by rw[HNM.out];rfl);clear HMA HNM HSM HSF hm2;go_wp2_with fail;go_ret;rw[HVF.out];exact⟨rfl,HB5.out.trans ((HB1.out.1.trans ((below_alloc _ _).mono HB1.out.1.size)).mono HB5.out.size)⟩
   ·have HM0:Hid ((R.take (j+1)).any mkr=false):=by
     show _=_;rw[HSM.out,HB1.out.2,HNM.out,Bool.false_or];cases h1:rt==[45,45,45]
     ·rw[Bool.and_false]
     ·rw[Bool.and_true,beq_eq_false_iff_ne];exact fun h=>hmk ⟨h,h1⟩
    have hways:(rc==0)=false\/(rc=0/\((mk rt).toList==[45,45,45])=false):=by
     by_cases h:rc=0
     ·right;refine⟨h,?_⟩;rw[hE];cases h1:rt==[45,45,45]
      ·rfl
      ·exact absurd ⟨h,h1⟩ hmk
     ·left;simpa using h
    rw[HNF.out]at HSF;clear HMA HNM HSM hmk hE;generalize (R.take j).any ful=is at *;rcases hways with hw | ⟨rfl,hw⟩
    all_goals
     cases is
     ·go_wp2_with (go_at_call 21;refine(HEM.out _).mono ?_;rintro e w3 ⟨rfl,hb3⟩);go_roundw
      case rel=>exact⟨j+1,by omega,by go_num,by rw[HSF.out,Bool.false_or],(HB1.out.1.trans ((below_alloc _ _).mono HB1.out.1.size)).trans (hb3.mono (by have:=HB1.out.1.size;rw[World.size_alloc];omega)),HM0.out⟩
      case measure=>(simp[intOf]<;>omega)
     ·go_wp2_with fail;go_roundw
      case rel=>exact⟨j+1,by omega,by go_num,by rw[HSF.out,Bool.true_or],HB1.out.1.trans ((below_alloc _ _).mono HB1.out.1.size),HM0.out⟩
      case measure=>(simp[intOf]<;>omega)
  ·have e:j=len:=by omega
   have et:R.take j=R:=List.take_of_length_le (by have:=HLn.out;omega)
   have HVE:Hid (V=((f1==0 && f2==0) && R.any ful)):=by
    show _=_;have h1:=HL.out.2;rw[et]at h1;rw[HV.out,h1];rfl
   rw[et];subst e;have HN6:=HN5.out.later HL.out.1;obtain⟨c0,c1⟩:=HN6.c2;have HBF:Hid (Below w.heap.size w wr):=HB5.out.trans (HL.out.1.mono HB5.out.size);clear HL HR5 HN6 et HB5 HN5 hlt;generalize R.any ful=q at *;cases h1:(f1==0 && f2==0)
   ·rw[h1]at he HVE;go_wp2_with fail;go_ret;rw[HVE.out];exact⟨rfl,HBF.out⟩
   ·rw[h1]at he HVE;go_wp2_with fail;go_ret;rw[HVE.out];exact⟨rfl,HBF.out⟩
end Lod
namespace Lod
open Utf Rws Pln Flw Tre
open Go.RowKit
open Blk (Rw RwAt z3)
set_option maxHeartbeats 4000000
theorem rsame_is {d d':Nat} {v v':Value} {t:Tr} {w:World} (h:TrV w d v t) (h':TrV w d' v' t):Calls Tryz.prog 16 #[v,v'] w fun e w'=>e=.returned (.bool true)/\Below w.heap.size w w' :=
 (rsame_any d d' v v' t t w h h').mono (fun e w' q=>by
  obtain⟨b,rfl,h1,h2⟩:=q;exact⟨by rw[h1.2 rfl],h2⟩)
theorem pam_form (n:Nat) (rs:List Rw):((paM n rs).2.1≠0->(paM n rs).1=tr0)/\((paM n rs).2.1=0->(paM n rs).2=(0,0)):=by
 unfold paM;split
 ·rename_i h;exact⟨fun _=>rfl,fun h2=>absurd h2 h⟩
 ·split
  ·exact⟨fun _=>rfl,fun h2=>absurd (show (5:Int)=0 from h2) (by decide)⟩
  ·exact⟨fun h2=>absurd rfl h2,fun _=>rfl⟩
theorem lft_no {l:List Rw} (h:l.any mkr=false):ahd l=l/\lft l=[]:=by
 have h1:∀ r∈l,(!mkr r)=true:=fun r hr=>by
  have:mkr r=false:=by
   cases hm:mkr r
   ·rfl
   ·rw[List.any_eq_true.2 ⟨r,hr,hm⟩]at h;cases h
  rw[this];rfl
 have h2:=ahd_lft l
 have h3:ahd l=l:=by
  clear h h2;unfold ahd
  induction l with
  | nil=>rfl
  | cons r t ih=>rw[List.takeWhile_cons,if_pos (h1 r (by simp)),ih (fun q hq=>h1 q (by simp[hq]))]
 refine⟨h3,?_⟩;rw[h3]at h2;have:=congrArg List.length h2;rw[List.length_append]at this;exact List.eq_nil_of_length_eq_zero (by omega)
structure TfS (w W:World) (K0 K1:Nat) (k:Int) (x y:ByteArray) (ad:Option Addr) (l c:Nat) (q1 q2:Int) (t:Tr):Prop where
 b0:Bx W K0 #[.int .i64 k,.string x,.string y,.slice ad l c] 35
 b1:Bx W K1 #[.int .i64 q1,.int .i64 q2] 32
 bl:Below w.heap.size w W
 t:TrV W 129 (.agg #[.int .i64 k,.string x,.string y,.slice ad l c]) t
theorem TfS.later {w W W':World} {K0 K1:Nat} {k:Int} {x y:ByteArray} {ad:Option Addr} {l c:Nat} {q1 q2:Int} {t:Tr} (h:TfS w W K0 K1 k x y ad l c q1 q2 t) (hb:Below W.heap.size W W'):TfS w W' K0 K1 k x y ad l c q1 q2 t:=⟨h.b0.later hb,h.b1.later hb,h.bl.trans (hb.mono h.bl.size),h.t.later hb (Nat.le_refl _)⟩
theorem TfS.new {w W:World} {k:Int} {x y:ByteArray} {ad:Option Addr} {l c:Nat} {q1 q2:Int} {t:Tr} (hb:Below w.heap.size w W) (h:TrV W 129 (.agg #[.int .i64 k,.string x,.string y,.slice ad l c]) t):TfS w ((W.alloc (.cells #[.int .i64 k,.string x,.string y,.slice ad l c] 35)).alloc (.cells #[.int .i64 q1,.int .i64 q2] 32)) W.heap.size (W.heap.size+1) k x y ad l c q1 q2 t:=by
 have h2:=two_b W #[.int .i64 k,.string x,.string y,.slice ad l c] #[.int .i64 q1,.int .i64 q2] 35 32;exact⟨h2.2.1,h2.2.2,hb.trans (h2.1.mono hb.size),h.later h2.1 (Nat.le_refl _)⟩
theorem on_whole {s:Ln} (h:whO s=true):onM s=paD (rwW s):=by
 unfold whO at h;simp only[Bool.and_eq_true,Bool.not_eq_true',beq_iff_eq]at h;obtain⟨h1,⟨h2,h3⟩,h4⟩:=h;obtain⟨h5,h6⟩:=lft_no h1
 have hd:docs (rwW s)=[(0,rwW s)]:=by
  unfold docs;rw[h5,h6,if_pos h4];rfl
 have hm:ldM s=ldG paD [rwW s] []:=by
  unfold ldM;rw[if_neg (by simpa using h2),hd,if_neg (by simp[tmF])];rfl
 have hq:ldG paD [rwW s] []=if (paD (rwW s)).2.1=0 then ([(paD (rwW s)).1],0,0)else ([],(paD (rwW s)).2):=by
  rw[ldG];split
  ·rw[ldG];rfl
  ·rfl
 have hf:((paD (rwW s)).2.1≠0->(paD (rwW s)).1=tr0)/\((paD (rwW s)).2.1=0->(paD (rwW s)).2=(0,0)):=pam_form _ _;unfold onM;rw[hm,hq];generalize paD (rwW s)=P at hf |-;obtain⟨t,f1,f2⟩:=P;dsimp only at hf |-;by_cases h0:f1=0
 ·have:=hf.2 h0;rw[if_pos h0];simp only[Prod.mk.injEq]at this;rw[this.1,this.2];rfl
 ·rw[if_neg h0,if_pos h0,hf.1 h0]
theorem lrows_core (s:Ln) (w:World) (hs:s.length<=140737488351232) (hT:Tb w):Calls Tryz.prog 6 #[.string (mk s)] w fun e w'=>e=.returned (.bool true)/\Below w.heap.size w w':=by
 have HA:Hid (∀ W,Below w.heap.size w W->Calls Tryz.prog 7 #[] W fun e W'=>e=.returned (.bool true)/\Hid (Below w.heap.size w W')):=fun W b=>(alive_any (hT.later b)).mono (fun e W' q=>⟨q.1,b.trans (q.2.mono b.size)⟩)
 have hsz:=mk_size s;by_cases h3:3000<s.length
 ·have h3i:(3000:Int)<((mk s).size:Int):=by rw[hsz];omega
  clear hT;go_enter Tryz.func6,Tryz.ntmps6;go_wp2_with (go_at_call 7;refine(HA.out _ (Below.refl _ _)).mono ?_;rintro e w1 ⟨rfl,H1⟩);go_ret;exact⟨rfl,H1.out⟩
 have h3i: ¬ (3000:Int)<((mk s).size:Int):=by rw[hsz];omega
 have HW:Hid (∀ W,Calls Tryz.prog 11 #[.string (mk s)] W fun e W'=>e=.returned (.bool (whO s))/\Hid (Below W.heap.size W W')):=fun W=>whole_any s (by omega) W
 cases hw:whO s
 ·rw[hw]at HW;clear hT;go_enter Tryz.func6,Tryz.ntmps6;go_wp2_with (first | (go_at_call 11;refine(HW.out _).mono ?_;rintro e w1 ⟨rfl,H1⟩) | (go_at_call 7;refine(HA.out _ H1.out).mono ?_;rintro e w2 ⟨rfl,H2⟩));go_ret;exact⟨rfl,H2.out⟩
 rw[hw]at HW;have HR:Hid (∀ W,Calls Tryz.prog 13 #[.string (mk s)] W (RdRes s W)):=fun W=>read_rw s (by omega) W
 have HPA:Hid (∀ a cap W,Below w.heap.size w W->Tre.RowsIn W a (rwW s).length cap (rwW s)->Calls Tryz.prog 17 #[.slice a (rwW s).length cap] W (TfD 129 (paD (rwW s)) W)):=fun a cap W hb hr=>parse_any (msr (rwW s)+1) a _ cap _ W (hT.later hb) hr (good_text (by omega)) (Nat.lt_succ_self _)
 have HO:Hid (∀ W,Below w.heap.size w W->Calls Tryz.prog 12 #[.string (mk s)] W (OnRes (paD (rwW s)) W)):=fun W hb=>by
  have h:=one_any s (by omega) W (hT.later hb) (good_docs (by omega));rw[on_whole hw]at h;exact h
 unfold RdRes at HR;unfold OnRes at HO;unfold TfD at HPA;have HSm:Hid (∀ W D v v',TrV W D v (paD (rwW s)).1->TrV W D v' (paD (rwW s)).1->Calls Tryz.prog 16 #[v,v'] W fun e W'=>e=.returned (.bool true)/\Hid (Below W.heap.size W W')):=fun W D v v' h h'=>rsame_is h h'
 generalize paD (rwW s)=P at *;generalize rwF s=F at *;obtain⟨T,q1,q2⟩:=P;obtain⟨f1,f2⟩:=F;dsimp only at HR HO HPA HSm;have he:=eql_flt q1 q1 q2 q2;simp only[beq_self_eq_true,Bool.and_self]at he;clear hT hw;generalize rwW s=R at *;go_enter Tryz.func6,Tryz.ntmps6;go_upto_region 4 with (first | (go_at_call 11;refine(HW.out _).mono ?_;rintro e w1 ⟨rfl,H1⟩) | (go_at_call 13;refine(HR.out _).mono ?_;rintro e w2 ⟨a,cap,rfl,hr2,hb2⟩))
 have B3:Hid (Below w.heap.size w (w2.alloc (.cells #[.int .i64 f1,.int .i64 f2] 32))):=(H1.out.trans (hb2.out.mono H1.out.size)).trans ((below_alloc _ _).mono (H1.out.trans (hb2.out.mono H1.out.size)).size);have R3:Hid (Tre.RowsIn (w2.alloc (.cells #[.int .i64 f1,.int .i64 f2] 32)) a R.length cap R):=hr2.out.later (below_alloc _ _);generalize w2.alloc (.cells #[.int .i64 f1,.int .i64 f2] 32)=w3 at B3 R3 |-;clear H1 hr2 hb2 HW HR;go_upto_region 5 with (go_at_call 17;refine(HPA.out _ _ _ B3.out R3.out).mono ?_;rintro e w4 ⟨pv,rfl,T4,B4⟩;obtain⟨k,x,y,ad,l,c,rfl⟩:=T4.cells)
 have S5:Hid (TfS w ((w4.alloc (.cells #[.int .i64 k,.string x,.string y,.slice ad l c] 35)).alloc (.cells #[.int .i64 q1,.int .i64 q2] 32)) w4.heap.size (w4.heap.size+1) k x y ad l c q1 q2 T):=TfS.new (B3.out.trans (B4.mono B3.out.size)) (TrP.v T4);generalize (w4.alloc (.cells #[.int .i64 k,.string x,.string y,.slice ad l c] 35)).alloc (.cells #[.int .i64 q1,.int .i64 q2] 32)=w5 at S5 |-;obtain⟨K1,hK1⟩:∃ K,K=w4.heap.size+1:=⟨_,rfl⟩;obtain⟨K0,hK0⟩:∃ K,K=w4.heap.size:=⟨_,rfl⟩;rw[<-hK1,<-hK0]at S5 |-;clear B3 R3 T4 B4 HPA hK1 hK0;go_upto_region 6 with (go_at_call 12;refine(HO.out _ S5.out.bl).mono ?_;rintro e w6 ⟨k2,x2,y2,ad2,l2,c2,rfl,T6,B6⟩)
 have U7:Hid (TfS w ((w6.alloc (.cells #[.int .i64 k2,.string x2,.string y2,.slice ad2 l2 c2] 35)).alloc (.cells #[.int .i64 q1,.int .i64 q2] 32)) w6.heap.size (w6.heap.size+1) k2 x2 y2 ad2 l2 c2 q1 q2 T):=TfS.new (S5.out.later B6.out).bl T6.out;have S7:Hid (TfS w ((w6.alloc (.cells #[.int .i64 k2,.string x2,.string y2,.slice ad2 l2 c2] 35)).alloc (.cells #[.int .i64 q1,.int .i64 q2] 32)) K0 K1 k x y ad l c q1 q2 T):=(S5.out.later B6.out).later (two_b w6 _ _ _ _).1;generalize (w6.alloc (.cells #[.int .i64 k2,.string x2,.string y2,.slice ad2 l2 c2] 35)).alloc (.cells #[.int .i64 q1,.int .i64 q2] 32)=w7 at U7 S7 |-;obtain⟨K3,hK3⟩:∃ K,K=w6.heap.size+1:=⟨_,rfl⟩;obtain⟨K2,hK2⟩:∃ K,K=w6.heap.size:=⟨_,rfl⟩;rw[<-hK3,<-hK2]at U7 |-;clear S5 T6 B6 HO hK3 hK2;obtain⟨c0,c1,c2',c3⟩:=S7.out.b0.c4;obtain⟨d0,d1⟩:=S7.out.b1.c2;obtain⟨e0,e1,e2,e3⟩:=U7.out.b0.c4;obtain⟨f0,f1'⟩:=U7.out.b1.c2;go_wp2_with (first | (go_at_call 16;refine(HSm.out _ _ _ _ S7.out.t U7.out.t).mono ?_;rintro e w8 ⟨rfl,B8⟩;have C8:Hid (Below w.heap.size w w8):=(S7.out.later B8.out).bl) | (go_at_call 7;refine(HA.out _ C8.out).mono ?_;rintro e w9 ⟨rfl,H9⟩));go_ret;exact⟨rfl,H9.out⟩
theorem lrows_walk (s:ByteArray) (w:World) (hs:s.size<=140737488351232) (hT:Tb w):Calls Tryz.prog 6 #[.string s] w fun e w'=>e=.returned (.bool true)/\Below w.heap.size w w':=by
 obtain⟨l,rfl⟩:=mk_ex s;exact lrows_core l w (by rw[<-mk_size];exact hs) hT
end Lod
end Go.Proofs.YtalijhclfppohaaGreatDoor
