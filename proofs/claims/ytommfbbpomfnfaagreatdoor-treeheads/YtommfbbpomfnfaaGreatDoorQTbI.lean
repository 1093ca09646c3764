/- . -/
import Derived.Test.YtommfbbpomfnfaaGreatDoorQTbF
import Derived.Test.YtommfbbpomfnfaaGreatDoorQTbH
import Derived.Test.YtommfbbpomfnfaaGreatDoorQFlowBrk
import Derived.Deep.RegionWith
import Derived.Maps.AppendAt
set_option linter.unusedSimpArgs false
set_option linter.unusedVariables false
set_option maxRecDepth 100000
namespace Go.Proofs.YtommfbbpomfnfaaGreatDoor
namespace Tre
open Utf Rws Pln Flw
open Go.RowKit
open Blk (Rw RwAt z3)
set_option maxHeartbeats 8000000
def PtD (d:Nat) (q:List Tr × Int × Int) (w:World) (e:Ending) (w':World):Prop :=
 (q.2.1≠0->∃ ad m n,e=.returned (.tuple #[.slice ad m n,fV q.2.1 q.2.2]))/\(q.2.1=0->PaD d q.1 0 q.2.2 w e w'/\q.1.length<=2)/\Below w.heap.size w w'
def KiRes (d:Nat) (q:List Tr × Int × Int) (w:World) (e:Ending) (w':World):Prop :=
 (q.2.1≠0->e=.returned (.tuple #[.slice none 0 0,fV q.2.1 q.2.2])) /\
 (q.2.1=0->∃ v n xs,e=.returned (.tuple #[v,fV q.2.1 q.2.2])/\w'.ownsRow w.heap.size 26 4 v n xs/\n=q.1.length/\Kd w.heap.size w' d xs q.1)/\Below w.heap.size w w'
abbrev rA (r:Rw):Array Value:=#[.int .i64 r.1,.string (mk r.2.1),.int .i64 r.2.2]
structure Ki (w0 w:World) (d C K0 K1 KR:Nat) (fc:Array Value) (r:Rw) (v:Value) (m:Nat) (xs:List Value) (ks:List Tr):Prop where
 bl:Below w0.heap.size w0 w
 k0:Bx w K0 fc 40
 k1:Bx w K1 zF 34
 kr:Bx w KR (rA r) 40
 own:w.ownsRow C 26 4 v m xs
 kd:KdQ (Out C v) w d xs ks
 h0:w0.heap.size<=K0
 h1:K0<K1
 h2:K1<KR
 h3:KR<C
 hc:C<=w.heap.size
variable {w0 w w1:World} {d C K0 K1 KR m:Nat} {fc:Array Value} {r:Rw} {v:Value} {xs:List Value} {ks:List Tr}
theorem Ki.later (h:Ki w0 w d C K0 K1 KR fc r v m xs ks) (hb:Below w.heap.size w w1):Ki w0 w1 d C K0 K1 KR fc r v m xs ks :=
 ⟨h.bl.trans (hb.mono h.bl.size),h.k0.later hb,h.k1.later hb,h.kr.later hb,own_keep h.own (fun j _ hj=>hb.block j hj),h.kd.later hb,h.h0,h.h1,h.h2,h.h3,Nat.le_trans h.hc hb.size⟩
theorem Ki.more (h:Ki w0 w d C K0 K1 KR fc r v m xs ks) {v':Value} {m':Nat} {ys:List Value} {js:List Tr} (hown:w1.ownsRow C 26 4 v' m' (xs++ys)) (hg:w.grownBy w1 v.ownBlock) (hat:v'.ownBlock=v.ownBlock\/v'.ownBlock=some w.heap.size)
  (hk:KdQ (Out C v) w d ys js):Ki w0 w1 d C K0 K1 KR fc r v' m' (xs++ys) (ks++js):=by
 have h0:=h.h0;have h1:=h.h1;have h2:=h.h2;have h3:=h.h3;have hfs:=h.bl.size;have hrow:∀ k,v.ownBlock=some k->C<=k:=fun k hk=>(own_blk h.own hk).1
 have hkeep:∀ j,j<w.heap.size->(∀ k,v.ownBlock=some k->j≠k)->w1.heap[j]?=w.heap[j]?:=fun j hj hne=>hg.block j hj (fun e=>hne j e.symm rfl)
 have hlow:∀ j,j<C->j<w.heap.size->w1.heap[j]?=w.heap[j]?:=fun j hj hw=>hkeep j hw (fun k hk=>by have:=hrow k hk;omega)
 have hl0:=h.k0.lt;have hl1:=h.k1.lt;have hlr:=h.kr.lt;refine⟨⟨hg.os.trans h.bl.os,hg.tape.trans h.bl.tape,hg.output.trans h.bl.output,Nat.le_trans hfs hg.size,fun j hj=>(hlow j (by omega) (by omega)).trans (h.bl.block j hj)⟩,(hlow K0 (by omega) hl0).trans h.k0,(hlow K1 (by omega) hl1).trans h.k1,(hlow KR (by omega) hlr).trans h.kr,hown,?_,h0,h1,h2,h3,Nat.le_trans h.hc hg.size⟩;have k2:KdQ (fun j=>Out C v j/\j<w.heap.size) w d (xs++ys) (ks++js):=(h.kd.app hk).wide (fun j a c=>⟨a,c⟩);refine(k2.keep hg.size (fun j a _=>hkeep j a.2 a.1.2)).wide (fun j a _=>⟨a.1.1,fun k hk=> ?_⟩);rcases hat with e | e
 ·rw[e]at hk;exact a.1.2 k hk
 ·rw[e]at hk;cases hk;exact Nat.ne_of_lt a.2
theorem ki_row (h:Ki w0 w d C K0 K1 KR fc r v m xs ks) (q:Rw):Ki w0 (((w.setCell ⟨KR,0,none⟩ (.int .i64 q.1)).setCell ⟨KR,1,none⟩ (.string (mk q.2.1))).setCell ⟨KR,2,none⟩ (.int .i64 q.2.2)) d C K0 K1 KR fc q v m xs ks:=by
 have h0:=h.h0;have h1:=h.h1;have h2:=h.h2;have h3:=h.h3
 have hk:∀ j,j≠KR->(((w.setCell ⟨KR,0,none⟩ (.int .i64 q.1)).setCell ⟨KR,1,none⟩ (.string (mk q.2.1))).setCell ⟨KR,2,none⟩ (.int .i64 q.2.2)).heap[j]?=w.heap[j]?:=fun j hj=>by
  rw[Below.heap_setCell _ _ _ _ hj,Below.heap_setCell _ _ _ _ hj,Below.heap_setCell _ _ _ _ hj]
 have hw:w0.heap.size<=KR:=by omega
 refine⟨((h.bl.setCell (p:=⟨KR,0,none⟩) hw _).setCell (p:=⟨KR,1,none⟩) hw _).setCell (p:=⟨KR,2,none⟩) hw _,(hk K0 (by omega)).trans h.k0,(hk K1 (by omega)).trans h.k1,((h.kr.set 0 _).set 1 _).set 2 _,own_keep h.own (fun j a _=>hk j (by omega)),h.kd.keep (by simp[World.setCell]) (fun j a _=>hk j (by have:=a.1;omega)),h0,h1,h2,h3,by simp only[World.size_setCell];exact h.hc⟩
theorem Ki.out (h:Ki w0 w d C K0 K1 KR fc r v m xs ks) (x y:Value):Below w0.heap.size w0 ((w.setCell ⟨K1,0,none⟩ x).setCell ⟨K1,1,none⟩ y)/\Bx ((w.setCell ⟨K1,0,none⟩ x).setCell ⟨K1,1,none⟩ y) K1 #[x,y] 34 /\
  ((w.setCell ⟨K1,0,none⟩ x).setCell ⟨K1,1,none⟩ y).ownsRow w0.heap.size 26 4 v m xs/\Kd w0.heap.size ((w.setCell ⟨K1,0,none⟩ x).setCell ⟨K1,1,none⟩ y) d xs ks:=by
 have h0:=h.h0;have h1:=h.h1;have h2:=h.h2;have h3:=h.h3;have hw:w0.heap.size<=K1:=by omega
 have hk:∀ j,C<=j->j<w.heap.size->((w.setCell ⟨K1,0,none⟩ x).setCell ⟨K1,1,none⟩ y).heap[j]?=w.heap[j]?:=fun j hj _=>by
  rw[Below.heap_setCell _ _ _ _ (fun e=>by simp only at e;omega),Below.heap_setCell _ _ _ _ (fun e=>by simp only at e;omega)]
 exact⟨(h.bl.setCell (p:=⟨K1,0,none⟩) hw _).setCell (p:=⟨K1,1,none⟩) hw _,(h.k1.set 0 _).set 1 _,own_down (own_keep h.own hk) (by omega),(h.kd.keep (by simp[World.setCell]) (fun j a c=>hk j a.1 c)).wide (fun j a _=>by have:=a.1;omega)⟩
theorem wp_then2 {P:Program} {cd:Code} {Q:Exit->Go.Act->World->Prop} {a:Go.Act} {w:World} (F:Nat->Nat->Go.Act) (I:Nat->Nat->World->Prop) (h1:Hid (∀ p q w',I p q w'->Q .normal (F p q) w')->cd.wp P Q a w) (h2:∀ p q w',I p q w'->Q .normal (F p q) w'):cd.wp P Q a w:=h1 h2
def slLen:Value->Nat
 | .slice _ n _=>n
 | _=>0
theorem kiM_at (part:Rw->List Rw->List Tr × Int × Int) (c:Int) (n:Nat) (r:Rw) (more:List Rw) (acc:List Tr):kiM part c (n+1) r more acc =
  if (part r (more.take (dpn more c))).2.1≠0 then ([],(part r (more.take (dpn more c))).2)else
  if dpn more c=more.length then (acc++(part r (more.take (dpn more c))).1,0,0)else
  if (more.getD (dpn more c) z3).1<c then ([],9,(more.getD (dpn more c) z3).2.2)else kiM part c n (more.getD (dpn more c) z3) (more.drop (dpn more c+1)) (acc++(part r (more.take (dpn more c))).1):=by
 rw[kiM];split
 ·rfl
 ·have hl:=dpn_le more c;by_cases h:dpn more c=more.length
  ·rw[if_pos h,List.drop_eq_nil_of_le (by omega)]
  ·rw[if_neg h,Blk.drop_getR more (dpn more c) (by omega)]
end Tre
namespace Tre
open Utf Rws Pln Flw
open Go.RowKit
open Blk (Rw RwAt z3)
set_option maxHeartbeats 8000000
theorem kids_any (g:FuncId) (hcf:∀ (vs:Array Value) (w:World),(callFunc g vs).run Tryz.prog w=.ok (.enter g vs) w) (d:Nat) (wi:Int) (part:Rw->List Rw->List Tr × Int × Int) (c:Int) (x:Ln) (z:Int) (a:Option Addr) (len cap:Nat) (rs:List Rw) (w:World) (hR:RowsA w a len cap rs) (hlr:rs.length<=1048576) (hP2:∀ r us,(part r us).1.length<=2)
  (HP:Hid (∀ (r:Rw) (us:List Rw) (a':Option Addr) (len' cap':Nat) (w1:World),(r::us) <:+: ((c,x,z)::rs)->RowsA w a' len' cap' us->Below w.heap.size w w1->Calls Tryz.prog g #[.int .i64 wi,.agg (rA r),.slice a' len' cap'] w1 fun e w'=>PtD d (part r us) w1 e w')) :
  Calls Tryz.prog 113 #[rV c x z,.slice a len cap,.func (.func g) #[.int .i64 wi] #[]] w fun e w'=>KiRes d (kiM part c (rs.length+1) (c,x,z) rs []) w e w':=by
 obtain⟨R,HR0⟩:∃ R,Hid (R=kiM part c (rs.length+1) (c,x,z) rs []):=⟨_,rfl⟩;rw[<-HR0.out];obtain⟨it,hi,hz0,hz1,hz2⟩:=info_parts infoTree;have HRA:Hid (RowsA w a len cap rs):=hR;clear hR;have N3:Hid (_/\_/\_/\_):=three_new w #[.int .i64 c,.string (mk x),.int .i64 z] #[.int .i64 0,.int .i64 0] #[.int .i64 c,.string (mk x),.int .i64 z] 40 34 40;have hsz:(((w.alloc (.cells #[.int .i64 c,.string (mk x),.int .i64 z] 40)).alloc (.cells #[.int .i64 0,.int .i64 0] 34)).alloc (.cells #[.int .i64 c,.string (mk x),.int .i64 z] 40)).heap.size=w.heap.size+1+1+1:=by simp only[World.size_alloc]
 go_enter Tryz.func113,Tryz.ntmps113;go_upto_region 3 with fail
 change Code.wp _ _ _ _ (((w.alloc (.cells #[.int .i64 c,.string (mk x),.int .i64 z] 40)).alloc (.cells #[.int .i64 0,.int .i64 0] 34)).alloc (.cells #[.int .i64 c,.string (mk x),.int .i64 z] 40));generalize ((w.alloc (.cells #[.int .i64 c,.string (mk x),.int .i64 z] 40)).alloc (.cells #[.int .i64 0,.int .i64 0] 34)).alloc (.cells #[.int .i64 c,.string (mk x),.int .i64 z] 40)=W at N3 hsz |-;obtain⟨C,hC⟩:∃ K,K=w.heap.size+1+1+1:=⟨_,rfl⟩;obtain⟨KR,hKR⟩:∃ K,K=w.heap.size+1+1:=⟨_,rfl⟩;obtain⟨K1,hK1⟩:∃ K,K=w.heap.size+1:=⟨_,rfl⟩;obtain⟨K0,hK0⟩:∃ K,K=w.heap.size:=⟨_,rfl⟩
 have HK:Hid (Ki w W d C K0 K1 KR #[.int .i64 c,.string (mk x),.int .i64 z] (c,x,z) (.slice none 0 0) 0 [] []) :=
  ⟨N3.out.1,by rw[hK0];exact N3.out.2.1,by rw[hK1];exact N3.out.2.2.1,by rw[hKR];exact N3.out.2.2.2,World.ownsRow_nil _ _ _ _,KdQ.nil d,by omega,by omega,by omega,by omega,by rw[hsz,hC];exact Nat.le_refl _⟩
 rw[<-hKR,<-hK1,<-hK0];clear N3 hsz hC hKR hK1 hK0
 go_loopw [1,8] (fun u1 u8 wr=>∃ (k m:Nat) (r:Rw) (a':Option Addr) (len' cap':Nat) (more:List Rw) (xs:List Value) (ks:List Tr),u1=.slice a' len' cap'/\Hid (RowsA w a' len' cap' more)/\Hid ((r::more) <:+ ((c,x,z)::rs))/\more.length<k/\m+2*(more.length+1)<=2*(rs.length+1)/\Hid (m=ks.length)/\Hid (Ki w wr d C K0 K1 KR #[.int .i64 c,.string (mk x),.int .i64 z] r u8 m xs ks)/\Hid (R=kiM part c k r more ks)) (fun u1 _ _=>slLen u1)
 case atStart=>exact⟨rs.length+1,0,(c,x,z),a,len,cap,rs,[],[],rfl,HRA,List.suffix_refl _,by omega,by omega,rfl,HK,HR0⟩
 case round =>
  clear HRA HK HR0;obtain⟨k,m,r,a',len',cap',more,xs,ks,rfl,HA,HSU,hk,hm,HMK,HB,HRR⟩:=hrel;obtain⟨rc,rt,rz⟩:=r;obtain⟨k',rfl⟩:∃ k',k=k'+1:=⟨k-1,by omega⟩;have hlen:Hid (len'=more.length):=HA.out.len;have hlc:len'<=cap':=HA.out.1.2.1;have hcm:cap'<=9223372036854775807:=HA.out.1.2.2.1;obtain⟨n,HN⟩:∃ n,Hid (n=dpn more c):=⟨_,rfl⟩;have hnl:n<=len':=by rw[HN.out,hlen.out];exact dpn_le more c
  have HDE:Hid (Calls Tryz.prog 147 #[.slice a' len' cap',.int .i64 c] wr fun e w'=>e=.returned (.int .i64 (n:Int))/\Below wr.heap.size wr w'):=by
   rw[HN.out];exact deeper_any a' len' cap' more c wr (HA.out.1.later HB.out.bl)
  have HR1:Hid (R=_):=HRR.out.trans (kiM_at part c k' (rc,rt,rz) more ks);rw[<-HN.out]at HR1;clear HRR;obtain⟨q,HQ⟩:∃ q,Hid (q=part (rc,rt,rz) (more.take n)):=⟨_,rfl⟩;rw[<-HQ.out]at HR1;have HTK:Hid (RowsA w a' n cap' (more.take n)):=HA.out.take n hnl
  have HPC:Hid (∀ w1,Below w.heap.size w w1->Calls Tryz.prog g #[.int .i64 wi,.agg (rA (rc,rt,rz)),.slice a' n cap'] w1 fun e w'=>PtD d q w1 e w'):=fun w1 hb=>by
   rw[HQ.out];exact HP.out (rc,rt,rz) (more.take n) a' n cap' w1 (List.IsInfix.trans ⟨[],more.drop n,by simp⟩ HSU.out.isInfix) HTK.out hb
  obtain⟨r0,r1,r2⟩:=HB.out.kr.c3;have g0:=HB.out.kr.fz 0;have g1:=HB.out.kr.fz 1;have g2:=HB.out.kr.fz 2;obtain⟨f0,f1,f2⟩:=HB.out.k0.c3;go_wp2_with fail;refine HDE.out.mono ?_;rintro e w1 ⟨rfl,hb1⟩;have HB1:Hid (Ki w w1 d C K0 K1 KR #[.int .i64 c,.string (mk x),.int .i64 z] (rc,rt,rz) u8 m xs ks):=HB.out.later hb1;clear r0 r1 r2 g0 g1 g2 f0 f1 f2 HB HDE hb1;obtain⟨r0,r1,r2⟩:=HB1.out.kr.c3;have g0:=HB1.out.kr.fz 0;have g1:=HB1.out.kr.fz 1;have g2:=HB1.out.kr.fz 2;obtain⟨f0,f1,f2⟩:=HB1.out.k0.c3;go_upto_region 4 with fail
  have hb0:Below w1.heap.size w1 w1.drew:=(Below.refl _ _).drew;have hb1:Below w1.heap.size w1 (w1.alloc (.cells #[.int .i64 0,.int .i64 0] 34)).drew:=(below_alloc w1 (.cells #[.int .i64 0,.int .i64 0] 34)).drew;have hs1:(w1.alloc (.cells #[.int .i64 0,.int .i64 0] 34)).drew.heap.size=w1.heap.size+1:=World.size_alloc _ _;have hX1:Bx (w1.alloc (.cells #[.int .i64 0,.int .i64 0] 34)).drew w1.heap.size #[.int .i64 0,.int .i64 0] 34:=Bx.new w1 _ _;have hw1C:C<=w1.heap.size:=HB1.out.hc;have hKC:K1<C/\K1<KR:=by have h1:=HB1.out.h2;have h2:=HB1.out.h3;omega
  have HKR:Hid (Bx (w1.alloc (.cells #[.int .i64 0,.int .i64 0] 34)) KR (rA (rc,rt,rz)) 40):=HB1.out.kr.later (below_alloc _ _);obtain⟨s0,s1,s2⟩:=HKR.out.c3;obtain⟨s3,s4,s5⟩:=HKR.out.c3;have HWA:Hid (∀ W1,Below w1.heap.size w1 W1->Below w.heap.size w W1):=fun W1 hb=>HB1.out.bl.trans (hb.mono HB1.out.bl.size)
  by_cases hq:q.2.1=0
  ·have HPO:Hid (Calls Tryz.prog g #[.int .i64 wi,.agg #[.int .i64 rc,.string (mk rt),.int .i64 rz],.slice a' n cap'] w1.drew fun e w'=>∃ B ys,e=.returned (.tuple #[.slice (some ⟨B,0,none⟩) q.1.length q.1.length,.agg #[.int .i64 0,.int .i64 q.2.2]])/\Hid (Below w1.heap.size w1 w'/\Bx w' B ys.toArray 26/\Kd w1.heap.size w' d ys q.1)):=by
    refine(HPC.out _ (HWA.out _ hb0)).mono (fun e w' hr=> ?_);obtain⟨⟨B,ys,h1,h2,h3,h4,h5⟩,_⟩:=hr.2.1 hq;exact⟨B,ys,h1,hb0.trans h5,h3,h4⟩
   have HPB:Hid (Calls Tryz.prog g #[.int .i64 wi,.agg #[.int .i64 rc,.string (mk rt),.int .i64 rz],.slice a' n cap'] (w1.alloc (.cells #[.int .i64 0,.int .i64 0] 34)).drew fun e w'=>∃ B ys,e=.returned (.tuple #[.slice (some ⟨B,0,none⟩) q.1.length q.1.length,.agg #[.int .i64 0,.int .i64 q.2.2]])/\w'.cell? ⟨w1.heap.size,0,none⟩=some (.int .i64 0)/\w'.cell? ⟨w1.heap.size,1,none⟩=some (.int .i64 0)/\w'.frozen? ⟨w1.heap.size,0,none⟩=false/\w'.frozen? ⟨w1.heap.size,1,none⟩=false/\Hid (Below w1.heap.size w1 w'/\Bx w' B ys.toArray 26/\w1.heap.size+1<=B/\Kd (w1.heap.size+1) w' d ys q.1/\Bx w' w1.heap.size #[.int .i64 0,.int .i64 0] 34)):=by
    refine(HPC.out _ (HWA.out _ hb1)).mono (fun e w' hr=> ?_);obtain⟨⟨B,ys,h1,h2,h3,h4,h5⟩,_⟩:=hr.2.1 hq;have hX:=hX1.later h5;rw[hs1]at h2 h4;exact⟨B,ys,h1,hX.cell 0,hX.cell 1,hX.fz 0,hX.fz 1,hb1.trans (h5.mono hb1.size),h3,h2,h4,hX⟩
   have hq2:q.1.length<=2:=by rw[HQ.out];exact hP2 _ _
   have HR2:Hid (R=_):=HR1.out.trans (if_neg (fun h=>h hq));clear HPC HR1 hX1 hb0 hb1 HQ HKR hs1 HWA hq;obtain⟨q1,qy,qz⟩:=q;have HQL:∃ L,L=q1.length:=⟨_,rfl⟩;obtain⟨L,HQL0⟩:=HQL;have HQL:Hid (L=q1.length):=HQL0;rw[<-HQL0]at HPO HPB hq2;clear HQL0;have HOU:Hid (∀ j,w1.heap.size<=j->Out C u8 j):=fun j hj=>⟨Nat.le_trans hw1C hj,fun k hk=>by have h6:=(own_blk HB1.out.own hk).2;omega⟩
   refine wp_then2 (fun KF B=>({ tmps:=#[rV c x z,Value.slice a' len' cap',Value.func (Fn.func g) #[Value.int IntKind.i64 wi] #[],Value.pointer (some { block:=K0,off:=0 }),undef,undef,u6,Value.pointer (some { block:=K1,off:=0 }),u8,Value.pointer (some { block:=KR,off:=0 }),Value.int IntKind.i64 (n:Int),Value.slice (some { block:=B,off:=0 }) L L,Value.pointer (some { block:=KF,off:=0 }),Value.agg #[Value.int IntKind.i64 c,Value.string (mk x),Value.int IntKind.i64 z],Value.slice a' len' cap',Value.pointer (some { block:=K0,off:=0 }),Value.int IntKind.i64 c,Value.int IntKind.i64 (n:Int),Value.tuple #[Value.slice (some { block:=B,off:=0 }) L L,Value.agg #[Value.int IntKind.i64 0,Value.int IntKind.i64 qz]],Value.func (Fn.func g) #[Value.int IntKind.i64 wi] #[],Value.agg #[Value.int IntKind.i64 rc,Value.string (mk rt),Value.int IntKind.i64 rz],Value.slice a' len' cap',Value.int IntKind.i64 (n:Int),Value.slice a' n cap',Value.tuple #[Value.slice (some { block:=B,off:=0 }) L L,Value.agg #[Value.int IntKind.i64 0,Value.int IntKind.i64 qz]],Value.slice (some { block:=B,off:=0 }) L L,Value.agg #[Value.int IntKind.i64 0,Value.int IntKind.i64 qz],u27,u28,u29,u30,u31,u32,u33,u34,u35,u36,u37,u38,u39,u40,u41,u42,u43,u44,u45,u46,u47,u48,u49,u50,u51,u52,u53,u54],defers:=[] }:Go.Act)) (fun KF B WW=>∃ ys,Hid (Ki w WW d C K0 K1 KR #[.int .i64 c,.string (mk x),.int .i64 z] (rc,rt,rz) u8 m xs ks/\Bx WW KF #[.int .i64 0,.int .i64 qz] 34/\Bx WW B ys.toArray 26/\KdQ (Out C u8) WW d ys q1)) ?H1 ?H2
   case H1 =>
    intro HQQ;go_region_with (first | (refine HPO.out.mono ?_;rintro e w2 ⟨B,ys,rfl,HB2⟩) | (refine HPB.out.mono ?_;rintro e w2 ⟨B,ys,rfl,c0,c1,z0,z1,HB2⟩))
    all_goals first
     | (refine HQQ.out w2.heap.size B _ ⟨ys,?_⟩;have hba:=below_alloc w2 (.cells #[.int .i64 0,.int .i64 qz] 34);exact⟨HB1.out.later (HB2.out.1.trans (hba.mono HB2.out.1.size)),Bx.new _ _ _,HB2.out.2.1.later hba,KdQ.wide (KdQ.later HB2.out.2.2 hba) (fun j hj _=>HOU.out j hj)⟩)
     | (refine HQQ.out w1.heap.size B _ ⟨ys,?_⟩;have hBn:B≠w1.heap.size:=(by have:=HB2.out.2.2.1;omega);exact⟨HB1.out.later ((HB2.out.1.setCell (p:=⟨w1.heap.size,0,none⟩) (Nat.le_refl _) _).setCell (p:=⟨w1.heap.size,1,none⟩) (Nat.le_refl _) _),(HB2.out.2.2.2.2.set 0 _).set 1 _,(HB2.out.2.1.other hBn _ _).other hBn _ _,KdQ.wide ((Kd.set (Kd.set HB2.out.2.2.2.1 (Nat.lt_succ_self _)) (Nat.lt_succ_self _))) (fun j hj _=>HOU.out j (Nat.le_of_succ_le hj))⟩)
   case H2 =>
    rintro KF B w3 ⟨ys,HS⟩;clear r0 r1 r2 g0 g1 g2 f0 f1 f2 s0 s1 s2 s3 s4 s5 HPO HPB HB1 HOU hw1C;have i0:w3.cell? ⟨KF,0,none⟩=some (.int .i64 0):=HS.out.2.1.cell 0;have HYS:Hid (KdQ (Out C u8) w3 d ys q1):=HS.out.2.2.2;have HSB:Hid (Bx w3 B ys.toArray 26):=HS.out.2.2.1;have HSK:Hid (Ki w w3 d C K0 K1 KR #[.int .i64 c,.string (mk x),.int .i64 z] (rc,rt,rz) u8 m xs ks):=HS.out.1;clear HS;have hbs:(m+L)*64<=140737488355328:=by omega
    have hml:m+L<=maxLen:=by unfold maxLen;omega
    have hyl:ys.length=L*4:=by rw[HYS.out.1,HQL.out]
    have hyc:∀ j u,ys[j]?=some u->w3.cell? ((⟨B,0,none⟩:Addr).add j)=some u:=fun j u hj=>by
     have e:(⟨B,0,none⟩:Addr).add j=⟨B,j,none⟩:=by simp[Addr.add];exact fun h=>h.symm
     rw[e,HSB.out.cell j];simpa using hj
    go_wp2_with (at_builtin;refine wpList_append_own_at _ rfl _ _ 24 rfl C 26 it (.agg zT) 4 64 Tryz.underlying24 hi hz0 hz1 hz2 rfl (by decide) u8 m xs rfl HSK.out.own ⟨B,0,none⟩ L L ys rfl hyl hyc HYS.out.2.1 hml hbs HSK.out.hc ?_);intro v' w5 hown5 hgr5 _ hat5;have HB5:Hid (Ki w w5 d C K0 K1 KR #[.int .i64 c,.string (mk x),.int .i64 z] (rc,rt,rz) v' (m+L) (xs++ys) (ks++q1)):=HSK.out.more hown5 hgr5 hat5 HYS.out;clear HSK HSB HYS hown5 hgr5 hat5 hyc hyl hml hbs i0 hi hz0 hz1 hz2;have HML:Hid (m+L=(ks++q1).length):=by show m+L=_;rw[List.length_append,<-HMK.out,<-HQL.out]
    clear HMK HQL;by_cases hnl2:n=len'
    ·have HV:Hid (R=(ks++q1,0,0)):=by show R=_;rw[HR2.out,if_pos (by rw[hnl2,hlen.out])]
     have hnb:((n:Int)==(len':Int))=true:=by rw[hnl2];exact beq_self_eq_true _
     clear HR2 hnl2;obtain⟨y0,y1⟩:=HB5.out.k1.c2;have v0:=HB5.out.k1.fz 0;have v1:=HB5.out.k1.fz 1;have HO:Hid (_/\_/\_/\_):=HB5.out.out (.int .i64 0) (.int .i64 0);clear HB5;go_wp2;generalize (w5.setCell ⟨K1,0,none⟩ (.int .i64 0)).setCell ⟨K1,1,none⟩ (.int .i64 0)=WF at HO |-;have j0:WF.cell? ⟨K1,0,none⟩=_:=HO.out.2.1.cell 0;have j1:WF.cell? ⟨K1,1,none⟩=_:=HO.out.2.1.cell 1;refine bodyPost_ret (v:=.tuple #[v',.agg #[.int .i64 0,.int .i64 0]]) (by simp[results,Tryz.results113,go_sem,j0,j1]) rfl ?_;rw[HV.out];exact⟨fun h=>absurd rfl h,fun _=>⟨v',_,_,rfl,HO.out.2.2.1,HML.out,HO.out.2.2.2⟩,HO.out.1⟩
    ·have hnb:((n:Int)==(len':Int))=false:=by rw[beq_eq_false_iff_ne];omega
     have hnlt:n<len':=by omega
     obtain⟨b,off,had,hbw,hcell⟩:=HA.out.1.1.2 (by omega);obtain⟨x0,x1,x2⟩:=hcell n hnlt;subst had;have HDR:Hid (RowsA w (some (if cap'=n+1 then ⟨b,off,none⟩else ⟨b,off+(n+1)*3,none⟩)) (len'-(n+1)) (cap'-(n+1)) (more.drop (n+1))):=HA.out.drop (n+1) (by omega);obtain⟨pc,pt,pz,HPR⟩:∃ pc pt pz,Hid (more.getD n z3=(pc,pt,pz)):=⟨_,_,_,rfl⟩;rw[HPR.out]at x0 x1 x2;replace x0:w5.cell? ⟨b,off+n*3,none⟩=some (.int .i64 pc):=(HB5.out.bl.cell (p:=⟨b,off+n*3,none⟩) hbw).trans x0;replace x1:w5.cell? ⟨b,off+n*3+1,none⟩=some (.string (mk pt)):=(HB5.out.bl.cell (p:=⟨b,off+n*3+1,none⟩) hbw).trans x1;replace x2:w5.cell? ⟨b,off+n*3+2,none⟩=some (.int .i64 pz):=(HB5.out.bl.cell (p:=⟨b,off+n*3+2,none⟩) hbw).trans x2
     have HR3:Hid (R=if pc<c then ([],9,pz)else kiM part c k' (pc,pt,pz) (more.drop (n+1)) (ks++q1)):=by
      show R=_;rw[HR2.out,if_neg (by rw[<-hlen.out];exact hnl2),HPR.out]
     have HSU2:Hid (((pc,pt,pz)::more.drop (n+1)) <:+ ((c,x,z)::rs)):=by
      rw[<-HPR.out,<-Blk.drop_getR more n (by have:=hlen.out;omega)];exact(List.drop_suffix n more).trans ((List.suffix_cons _ _).trans HSU.out)
     have hml2:(more.drop (n+1)).length=more.length-(n+1):=List.length_drop;have hlen2:len'=more.length:=hlen.out;have hm3:m+L+2*((more.drop (n+1)).length+1)<=2*(rs.length+1):=by omega
     have hk3:(more.drop (n+1)).length<k':=by omega
     have HH3:Hid (m+L+2*((more.drop (n+1)).length+1)<=2*(rs.length+1)/\(more.drop (n+1)).length<k'):=⟨hm3,hk3⟩;clear hcell HR2 HPR HSU HA HN hnl2 hml2 hlen2 hm3 hk3 hlen hm hk HTK;have HKW:Hid (Ki w _ d C K0 K1 KR #[.int .i64 c,.string (mk x),.int .i64 z] (pc,pt,pz) v' (m+L) (xs++ys) (ks++q1)):=ki_row HB5.out (pc,pt,pz);obtain⟨r0,r1,r2⟩:=HB5.out.kr.c3;have g0:=HB5.out.kr.fz 0;have g1:=HB5.out.kr.fz 1;have g2:=HB5.out.kr.fz 2;obtain⟨f0,f1,f2⟩:=HB5.out.k0.c3;go_upto_region 10 with fail
     by_cases hc1:cap'=n+1
     ·have HDR2:Hid (RowsA w (some ⟨b,off,none⟩) 0 0 (more.drop (n+1))):=by
       have:=HDR.out;rw[if_pos hc1,show len'-(n+1)=0 by omega,show cap'-(n+1)=0 by omega]at this;exact this
      clear HDR;subst hc1;obtain rfl:len'=n+1:=by omega
      go_region;have HB6:Hid (Ki w (((w5.setCell ⟨KR,0,none⟩ (.int .i64 pc)).setCell ⟨KR,1,none⟩ (.string (mk pt))).setCell ⟨KR,2,none⟩ (.int .i64 pz)).drew d C K0 K1 KR #[.int .i64 c,.string (mk x),.int .i64 z] (pc,pt,pz) v' (m+L) (xs++ys) (ks++q1)):=HKW.out.later (Below.refl _ _).drew;clear HKW HB5 r0 r1 r2 g0 g1 g2 f0 f1 f2 x0 x1 x2;generalize (((w5.setCell ⟨KR,0,none⟩ (.int .i64 pc)).setCell ⟨KR,1,none⟩ (.string (mk pt))).setCell ⟨KR,2,none⟩ (.int .i64 pz)).drew=w6 at HB6 |-;have f0:w6.cell? ⟨K0,0,none⟩=some (.int .i64 c):=HB6.out.k0.cell 0;obtain⟨r0,r1,r2⟩:=HB6.out.kr.c3;by_cases hpc:pc<c
      ·have HV:Hid (R=([],9,pz)):=HR3.out.trans (if_pos hpc);have HFO:Hid (Calls Tryz.prog 109 #[.int .i64 9,rV pc pt pz] w6 fun e w'=>e=.returned (fV 9 pz)/\Below w6.heap.size w6 w'):=faultOf_any 9 pc pt pz w6;clear HR3;go_wp2_with fail;refine HFO.out.mono ?_;rintro e w7 ⟨rfl,H7⟩;have HB7:Hid (Ki w w7 d C K0 K1 KR #[.int .i64 c,.string (mk x),.int .i64 z] (pc,pt,pz) v' (m+L) (xs++ys) (ks++q1)):=HB6.out.later H7;clear HB6 H7 f0 r0 r1 r2 HFO;obtain⟨y0,y1⟩:=HB7.out.k1.c2;have v0:=HB7.out.k1.fz 0;have v1:=HB7.out.k1.fz 1;have HO:Hid (_/\_/\_/\_):=HB7.out.out (.int .i64 9) (.int .i64 pz);clear HB7;go_wp2;generalize (w7.setCell ⟨K1,0,none⟩ (.int .i64 9)).setCell ⟨K1,1,none⟩ (.int .i64 pz)=WF at HO |-;have j0:WF.cell? ⟨K1,0,none⟩=_:=HO.out.2.1.cell 0;have j1:WF.cell? ⟨K1,1,none⟩=_:=HO.out.2.1.cell 1;refine bodyPost_ret (v:=.tuple #[.slice none 0 0,.agg #[.int .i64 9,.int .i64 pz]]) (by simp[results,Tryz.results113,go_sem,j0,j1]) rfl ?_;rw[HV.out];exact⟨fun _=>rfl,fun h=>absurd h (show ¬ (9:Int)=0 by decide),HO.out.1⟩
      ·have HV:Hid (R=kiM part c k' (pc,pt,pz) (more.drop (n+1)) (ks++q1)):=HR3.out.trans (if_neg hpc);have hpb:decide (pc<c)=false:=decide_eq_false hpc;clear HR3;go_wp2_with fail;go_roundw
       case rel =>
        exact⟨k',m+L,(pc,pt,pz),some ⟨b,off,none⟩,0,0,more.drop (n+1),xs++ys,ks++q1,rfl,HDR2,HSU2,HH3.out.2,HH3.out.1,HML,HB6,HV⟩
       case measure=>simp only[slLen];omega
     ·have HDR2:Hid (RowsA w (some ⟨b,off+(n+1)*3,none⟩) (len'-(n+1)) (cap'-(n+1)) (more.drop (n+1))):=by
       have:=HDR.out;rw[if_neg hc1]at this;exact this
      clear HDR;go_region;have HB6:Hid (Ki w (((w5.setCell ⟨KR,0,none⟩ (.int .i64 pc)).setCell ⟨KR,1,none⟩ (.string (mk pt))).setCell ⟨KR,2,none⟩ (.int .i64 pz)).drew d C K0 K1 KR #[.int .i64 c,.string (mk x),.int .i64 z] (pc,pt,pz) v' (m+L) (xs++ys) (ks++q1)):=HKW.out.later (Below.refl _ _).drew;clear HKW HB5 r0 r1 r2 g0 g1 g2 f0 f1 f2 x0 x1 x2;generalize (((w5.setCell ⟨KR,0,none⟩ (.int .i64 pc)).setCell ⟨KR,1,none⟩ (.string (mk pt))).setCell ⟨KR,2,none⟩ (.int .i64 pz)).drew=w6 at HB6 |-;have f0:w6.cell? ⟨K0,0,none⟩=some (.int .i64 c):=HB6.out.k0.cell 0;obtain⟨r0,r1,r2⟩:=HB6.out.kr.c3;by_cases hpc:pc<c
      ·have HV:Hid (R=([],9,pz)):=HR3.out.trans (if_pos hpc);have HFO:Hid (Calls Tryz.prog 109 #[.int .i64 9,rV pc pt pz] w6 fun e w'=>e=.returned (fV 9 pz)/\Below w6.heap.size w6 w'):=faultOf_any 9 pc pt pz w6;clear HR3;go_wp2_with fail;refine HFO.out.mono ?_;rintro e w7 ⟨rfl,H7⟩;have HB7:Hid (Ki w w7 d C K0 K1 KR #[.int .i64 c,.string (mk x),.int .i64 z] (pc,pt,pz) v' (m+L) (xs++ys) (ks++q1)):=HB6.out.later H7;clear HB6 H7 f0 r0 r1 r2 HFO;obtain⟨y0,y1⟩:=HB7.out.k1.c2;have v0:=HB7.out.k1.fz 0;have v1:=HB7.out.k1.fz 1;have HO:Hid (_/\_/\_/\_):=HB7.out.out (.int .i64 9) (.int .i64 pz);clear HB7;go_wp2;generalize (w7.setCell ⟨K1,0,none⟩ (.int .i64 9)).setCell ⟨K1,1,none⟩ (.int .i64 pz)=WF at HO |-;have j0:WF.cell? ⟨K1,0,none⟩=_:=HO.out.2.1.cell 0;have j1:WF.cell? ⟨K1,1,none⟩=_:=HO.out.2.1.cell 1;refine bodyPost_ret (v:=.tuple #[.slice none 0 0,.agg #[.int .i64 9,.int .i64 pz]]) (by simp[results,Tryz.results113,go_sem,j0,j1]) rfl ?_;rw[HV.out];exact⟨fun _=>rfl,fun h=>absurd h (show ¬ (9:Int)=0 by decide),HO.out.1⟩
      ·have HV:Hid (R=kiM part c k' (pc,pt,pz) (more.drop (n+1)) (ks++q1)):=HR3.out.trans (if_neg hpc);have hpb:decide (pc<c)=false:=decide_eq_false hpc;clear HR3;go_wp2_with fail;go_roundw
       case rel =>
        exact⟨k',m+L,(pc,pt,pz),some ⟨b,off+(n+1)*3,none⟩,(len'-(n+1)),(cap'-(n+1)),more.drop (n+1),xs++ys,ks++q1,rfl,HDR2,HSU2,HH3.out.2,HH3.out.1,HML,HB6,HV⟩
       case measure=>simp only[slLen];omega
  ·have HPO:Hid (Calls Tryz.prog g #[.int .i64 wi,.agg #[.int .i64 rc,.string (mk rt),.int .i64 rz],.slice a' n cap'] w1.drew fun e w'=>∃ ad m2 n2,e=.returned (.tuple #[.slice ad m2 n2,.agg #[.int .i64 q.2.1,.int .i64 q.2.2]])/\Hid (Below w1.heap.size w1 w')):=by
    refine(HPC.out _ (HWA.out _ hb0)).mono (fun e w' hr=> ?_);obtain⟨ad,m2,n2,h1⟩:=hr.1 hq;exact⟨ad,m2,n2,h1,hb0.trans hr.2.2⟩
   have HPB:Hid (Calls Tryz.prog g #[.int .i64 wi,.agg #[.int .i64 rc,.string (mk rt),.int .i64 rz],.slice a' n cap'] (w1.alloc (.cells #[.int .i64 0,.int .i64 0] 34)).drew fun e w'=>∃ ad m2 n2,e=.returned (.tuple #[.slice ad m2 n2,.agg #[.int .i64 q.2.1,.int .i64 q.2.2]])/\w'.cell? ⟨w1.heap.size,0,none⟩=some (.int .i64 0)/\w'.cell? ⟨w1.heap.size,1,none⟩=some (.int .i64 0)/\w'.frozen? ⟨w1.heap.size,0,none⟩=false/\w'.frozen? ⟨w1.heap.size,1,none⟩=false/\Hid (Below w1.heap.size w1 w'/\Bx w' w1.heap.size #[.int .i64 0,.int .i64 0] 34)):=by
    refine(HPC.out _ (HWA.out _ hb1)).mono (fun e w' hr=> ?_);obtain⟨ad,m2,n2,h1⟩:=hr.1 hq;have hX:=hX1.later hr.2.2;exact⟨ad,m2,n2,h1,hX.cell 0,hX.cell 1,hX.fz 0,hX.fz 1,hb1.trans (hr.2.2.mono hb1.size),hX⟩
   have HV:Hid (R=([],q.2)):=by show R=_;rw[HR1.out,if_pos hq]
   clear HPC HR1 hX1 hb0 hb1 HQ HKR hs1 HWA;obtain⟨q1,qy,qz⟩:=q;have HQ0:Hid (qy≠0):=hq;replace hq:(qy != 0)=true:=by simpa using hq
   go_region_with (first | (refine HPO.out.mono ?_;rintro e w2 ⟨ad,m2,n2,rfl,HB2⟩) | (refine HPB.out.mono ?_;rintro e w2 ⟨ad,m2,n2,rfl,c0,c1,z0,z1,HB2⟩))
   all_goals first
    | (have HS:Hid (Ki w (w2.alloc (.cells #[.int .i64 qy,.int .i64 qz] 34)) d C K0 K1 KR #[.int .i64 c,.string (mk x),.int .i64 z] (rc,rt,rz) u8 m xs ks/\Bx (w2.alloc (.cells #[.int .i64 qy,.int .i64 qz] 34)) w2.heap.size #[.int .i64 qy,.int .i64 qz] 34/\K1≠w2.heap.size):=⟨HB1.out.later (HB2.out.trans ((below_alloc w2 _).mono HB2.out.size)),Bx.new _ _ _,by have:=HB2.out.size;omega⟩
       clear HB1 HB2 HPO HPB;generalize w2.alloc (.cells #[.int .i64 qy,.int .i64 qz] 34)=w3 at HS |-;generalize w2.heap.size=KF at HS |-)
    | (have HS:Hid (Ki w ((w2.setCell ⟨w1.heap.size,0,none⟩ (.int .i64 qy)).setCell ⟨w1.heap.size,1,none⟩ (.int .i64 qz)) d C K0 K1 KR #[.int .i64 c,.string (mk x),.int .i64 z] (rc,rt,rz) u8 m xs ks/\Bx ((w2.setCell ⟨w1.heap.size,0,none⟩ (.int .i64 qy)).setCell ⟨w1.heap.size,1,none⟩ (.int .i64 qz)) w1.heap.size #[.int .i64 qy,.int .i64 qz] 34/\K1≠w1.heap.size):=⟨HB1.out.later ((HB2.out.1.setCell (p:=⟨w1.heap.size,0,none⟩) (Nat.le_refl _) _).setCell (p:=⟨w1.heap.size,1,none⟩) (Nat.le_refl _) _),(HB2.out.2.set 0 _).set 1 _,by omega⟩
       clear HB1 HB2 HPO HPB c0 c1 z0 z1;generalize (w2.setCell ⟨w1.heap.size,0,none⟩ (.int .i64 qy)).setCell ⟨w1.heap.size,1,none⟩ (.int .i64 qz)=w3 at HS |-;generalize w1.heap.size=KF at *)
   all_goals
    clear r0 r1 r2 g0 g1 g2 f0 f1 f2;obtain⟨i0,i1⟩:=HS.out.2.1.c2;obtain⟨y0,y1⟩:=HS.out.1.k1.c2;have v0:=HS.out.1.k1.fz 0;have v1:=HS.out.1.k1.fz 1;have hne1:K1≠KF:=HS.out.2.2;have hne2:KF≠K1:=fun e=>hne1 e.symm
    have HO:Hid (_/\_/\_/\_):=HS.out.1.out (.int .i64 qy) (.int .i64 qz);clear HS;go_wp2_with fail;go_region
    all_goals
     go_wp2;generalize (w3.setCell ⟨K1,0,none⟩ (.int .i64 qy)).setCell ⟨K1,1,none⟩ (.int .i64 qz)=WF at HO |-;have j0:WF.drew.cell? ⟨K1,0,none⟩=_:=HO.out.2.1.cell 0;have j1:WF.drew.cell? ⟨K1,1,none⟩=_:=HO.out.2.1.cell 1;refine bodyPost_ret (v:=.tuple #[.slice none 0 0,.agg #[.int .i64 qy,.int .i64 qz]]) (by simp[results,Tryz.results113,go_sem,j0,j1]) rfl ?_;rw[HV.out];exact⟨fun _=>rfl,fun h=>absurd h HQ0.out,HO.out.1.drew⟩
end Tre
end Go.Proofs.YtommfbbpomfnfaaGreatDoor
