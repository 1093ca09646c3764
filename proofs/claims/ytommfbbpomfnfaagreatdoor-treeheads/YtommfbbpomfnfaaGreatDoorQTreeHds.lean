/- . -/
import Derived.Test.YtommfbbpomfnfaaGreatDoorQTbF
import Derived.Maps.AppendAt
import Derived.RangeFuncNested
import Derived.RangeFuncBound
import Derived.RangeFuncBox
import Derived.RangeFuncCalls
import Derived.RangeFuncLeaves
import Derived.Shelf.Abstract
import Derived.Shelf.RegionOpen
import Derived.WalkKit
import Derived.OwnWalkIn
import Derived.TacticsInMore
import Derived.LoopNIn
import Derived.LoopIn
import Derived.Test.YtommfbbpomfnfaaGreatDoorQFlowRsame
import Derived.Test.YtommfbbpomfnfaaGreatDoorQTreeIval
import Derived.Test.YtommfbbpomfnfaaGreatDoorQTbI
import Derived.Deep.RegionWith
import Derived.BigRegionIn
set_option linter.unusedSimpArgs false
set_option linter.unusedVariables false
set_option maxRecDepth 100000
namespace Go.Proofs.YtommfbbpomfnfaaGreatDoor
namespace Tre
open Utf Rws Pln Flw
open Go.RowKit
open Blk (Rw RwAt z3)
set_option maxHeartbeats 4000000
abbrev hV (h:Hd):Value:=.agg #[.int .i64 h.1.1,.string (mk h.1.2.1),.int .i64 h.1.2.2,.string (mk h.2.anc),.int .i64 h.2.tag]
def hC (h:Hd):List Value:=[.int .i64 h.1.1,.string (mk h.1.2.1),.int .i64 h.1.2.2,.string (mk h.2.anc),.int .i64 h.2.tag]
def hCs (hs:List Hd):List Value:=hs.flatMap hC
theorem hCs_snoc (hs:List Hd) (h:Hd):hCs (hs++[h])=hCs hs++hC h:=by simp[hCs]
theorem hCs_len (hs:List Hd):(hCs hs).length=hs.length*5:=by
 unfold hCs
 induction hs with
 | nil=>rfl
 | cons h t ih=>rw[List.flatMap_cons,List.length_append,ih,List.length_cons];show 5+_=_;omega
def slL:Value->Nat
 | .slice _ n _=>n
 | _=>0
theorem infoHead:(Tryz.prog.info? 115).map (fun i=>(i.zero,i.size,i.bytes))=some (some (.agg #[.int .i64 0,.string ⟨#[]⟩,.int .i64 0,.string ⟨#[]⟩,.int .i64 0]),5,56):=by kernel_rfl
def hdl (dp:Bool) (n:Nat) (c:Int) (rs:List Rw):List Hd × List Rw × Int × Int:=match rs with
  | []=>([],[],0,0)
  | r::rest=>if r.1<c then ([],[],9,r.2.2)else
   if (!noth (CP ⟨[],0⟩ r.2.1).2 || dp)=true then ([],r::rest,0,0)else
   ((r,(CP ⟨[],0⟩ r.2.1).1)::(hds dp n r.1 rest).1,(hds dp n r.1 rest).2)
theorem hds_hdl (dp:Bool) (n:Nat) (c:Int) (rs:List Rw):hds dp (n+1) c rs=hdl dp n c (cnt rs):=rfl
def ahd (hs:List Hd) (q:List Hd × List Rw × Int × Int):List Hd × List Rw × Int × Int:=(hs++q.1,q.2)
def HdRes (q:List Hd × List Rw × Int × Int) (h:Hd) (w:World) (e:Ending) (w':World):Prop :=
 (q.2.2.1≠0->e=.returned (.tuple #[.slice none 0 0,.slice none 0 0,fV q.2.2.1 q.2.2.2])) /\
 (q.2.2.1=0->∃ v a len cap,e=.returned (.tuple #[v,.slice a len cap,fV 0 0])/\w'.ownsRow w.heap.size 115 5 v (h::q.1).length (hCs (h::q.1))/\RowsA w a len cap q.2.1)/\Below w.heap.size w w'
structure Hs (w0 w:World) (K0 K1 C:Nat) (lh:Hd) (v:Value) (hs:List Hd):Prop where
 bl:Below w0.heap.size w0 w
 k0:Bx w K0 (hC lh).toArray 115
 k1:Bx w K1 zF 34
 own:w.ownsRow C 115 5 v hs.length (hCs hs)
 h0:w0.heap.size<=K0
 h1:K0<K1
 h2:K1<C
 hc:C<=w.heap.size
variable {w0 w w1:World} {K0 K1 C:Nat} {lh:Hd} {v:Value} {hs:List Hd}
theorem ownH_keep {n:Nat} {xs:List Value} (h:w.ownsRow C 115 5 v n xs) (hk:∀ j,C<=j->j<w.heap.size->w1.heap[j]?=w.heap[j]?):w1.ownsRow C 115 5 v n xs:=by
 refine⟨h.1,?_⟩;rcases h.2 with q | ⟨g,cap,cur,q,hb,hh,r⟩
 ·exact .inl q
 ·exact .inr ⟨g,cap,cur,q,hb,(hk g hb (Array.getElem?_eq_some_iff.1 hh).1).trans hh,r⟩
theorem ownH_down {C' n:Nat} {xs:List Value} (h:w.ownsRow C 115 5 v n xs) (hC:C'<=C):w.ownsRow C' 115 5 v n xs:=by
 refine⟨h.1,?_⟩;rcases h.2 with q | ⟨g,cap,cur,q,hb,r⟩
 ·exact .inl q
 ·exact .inr ⟨g,cap,cur,q,Nat.le_trans hC hb,r⟩
theorem ownH_blk {n:Nat} {xs:List Value} (h:w.ownsRow C 115 5 v n xs) {k:Nat} (hk:v.ownBlock=some k):C<=k/\k<w.heap.size:=by
 rcases h.2 with ⟨rfl,_⟩ | ⟨g,cap,cur,rfl,hb,hh,_⟩
 ·cases hk
 ·cases hk;exact⟨hb,(Array.getElem?_eq_some_iff.1 hh).1⟩
theorem Hs.later (h:Hs w0 w K0 K1 C lh v hs) (hb:Below w.heap.size w w1):Hs w0 w1 K0 K1 C lh v hs :=
 ⟨h.bl.trans (hb.mono h.bl.size),h.k0.later hb,h.k1.later hb,ownH_keep h.own (fun j _ hj=>hb.block j hj),h.h0,h.h1,h.h2,Nat.le_trans h.hc hb.size⟩
theorem hs_set5 (h:Hs w0 w K0 K1 C lh v hs) (l2:Hd):Hs w0 (((((w.setCell ⟨K0,0,none⟩ (.int .i64 l2.1.1)).setCell ⟨K0,1,none⟩ (.string (mk l2.1.2.1))).setCell ⟨K0,2,none⟩ (.int .i64 l2.1.2.2)).setCell ⟨K0,3,none⟩ (.string (mk l2.2.anc))).setCell ⟨K0,4,none⟩ (.int .i64 l2.2.tag)) K0 K1 C l2 v hs:=by
 have h0:=h.h0;have h1:=h.h1;have h2:=h.h2;have hn:K1≠K0:=by omega
 refine⟨((((h.bl.setCell (by simpa using h0) _).setCell (by simpa using h0) _).setCell (by simpa using h0) _).setCell (by simpa using h0) _).setCell (by simpa using h0) _,((((h.k0.set 0 _).set 1 _).set 2 _).set 3 _).set 4 _,((((h.k1.other hn _ _).other hn _ _).other hn _ _).other hn _ _).other hn _ _,?_,h0,h1,h2,?_⟩
 ·refine ownH_keep h.own (fun j hj _=> ?_);have e:j≠K0:=by omega
  rw[Below.heap_setCell _ _ _ _ e,Below.heap_setCell _ _ _ _ e,Below.heap_setCell _ _ _ _ e,Below.heap_setCell _ _ _ _ e,Below.heap_setCell _ _ _ _ e]
 ·simp only[World.size_setCell];exact h.hc
theorem hs_more (h:Hs w0 w K0 K1 C lh v hs) {v':Value} {l2:Hd} (hown:w1.ownsRow C 115 5 v' (hs.length+1) (hCs hs++hC l2)) (hg:w.grownBy w1 v.ownBlock):Hs w0 w1 K0 K1 C lh v' (hs++[l2]):=by
 have h0:=h.h0;have h1:=h.h1;have h2:=h.h2;have hrow:∀ k,v.ownBlock=some k->C<=k:=fun k hk=>(ownH_blk h.own hk).1
 have hkeep:∀ j,j<w.heap.size->(∀ k,v.ownBlock=some k->j≠k)->w1.heap[j]?=w.heap[j]?:=fun j hj hne=>hg.block j hj (fun e=>hne j e.symm rfl)
 have hlt0:=h.k0.lt;have hlt1:=h.k1.lt
 refine⟨⟨hg.os.trans h.bl.os,hg.tape.trans h.bl.tape,hg.output.trans h.bl.output,Nat.le_trans h.bl.size hg.size,fun j hj=>(hkeep j (by have:=h.bl.size;omega) (fun k hk=>by have:=hrow k hk;omega)).trans (h.bl.block j hj)⟩,
  (hkeep K0 hlt0 (fun k hk=>by have:=hrow k hk;omega)).trans h.k0,(hkeep K1 hlt1 (fun k hk=>by have:=hrow k hk;omega)).trans h.k1,?_,h0,h1,h2,Nat.le_trans h.hc hg.size⟩
 rw[List.length_append,List.length_singleton,hCs_snoc];exact hown
theorem hs_out (h:Hs w0 w K0 K1 C lh v hs) (x y:Value):Below w0.heap.size w0 ((w.setCell ⟨K1,0,none⟩ x).setCell ⟨K1,1,none⟩ y)/\Bx ((w.setCell ⟨K1,0,none⟩ x).setCell ⟨K1,1,none⟩ y) K1 #[x,y] 34 /\
  ((w.setCell ⟨K1,0,none⟩ x).setCell ⟨K1,1,none⟩ y).ownsRow w0.heap.size 115 5 v hs.length (hCs hs):=by
 have h0:=h.h0;have h1:=h.h1;have h2:=h.h2;have hw:w0.heap.size<=K1:=by omega
 have hk:∀ j,C<=j->j<w.heap.size->((w.setCell ⟨K1,0,none⟩ x).setCell ⟨K1,1,none⟩ y).heap[j]?=w.heap[j]?:=fun j hj _=>by
  rw[Below.heap_setCell _ _ _ _ (fun e=>by simp only at e;omega),Below.heap_setCell _ _ _ _ (fun e=>by simp only at e;omega)]
 exact⟨(h.bl.setCell (p:=⟨K1,0,none⟩) hw _).setCell (p:=⟨K1,1,none⟩) hw _,(h.k1.set 0 _).set 1 _,ownH_down (ownH_keep h.own hk) (by omega)⟩
theorem hs_new (w:World) (h:Hd):Hs w (((w.alloc (.cells (hC h).toArray 115)).alloc (.cells #[.int .i64 0,.int .i64 0] 34)).alloc (.cells (hC h).toArray 115)) w.heap.size (w.heap.size+1) (w.heap.size+1+1) h (.slice (some ⟨w.heap.size+1+1,0,none⟩) 1 1) [h]:=by
 have N3:=three_new w (hC h).toArray #[.int .i64 0,.int .i64 0] (hC h).toArray 115 34 115;refine⟨N3.1,N3.2.1,N3.2.2.1,⟨rfl,.inr ⟨w.heap.size+1+1,1,(hC h).toArray,rfl,Nat.le_refl _,N3.2.2.2,Nat.le_refl _,by decide,rfl,rfl⟩⟩,Nat.le_refl _,by omega,by omega,?_⟩;simp only[World.size_alloc];omega
theorem hC_one (h:Hd):∀ u∈hC h,u.oneCell'=true:=by
 intro u hu;unfold hC at hu;simp only[List.mem_cons,List.not_mem_nil,or_false]at hu;rcases hu with rfl | rfl | rfl | rfl | rfl<;>rfl
theorem hds_ahd {R:List Hd × List Rw × Int × Int} {hs:List Hd} {dp:Bool} {k:Nat} {c:Int} {r:Rw} {rest:List Rw} (hR:R=ahd hs (hdl dp k c (r::rest))) (h1: ¬ r.1<c) (h2: ¬ (!noth (CP ⟨[],0⟩ r.2.1).2 || dp)=true) (k':Nat) (hk:k=k'+1) :
  R=ahd (hs++[(r,(CP ⟨[],0⟩ r.2.1).1)]) (hdl dp k' r.1 (cnt rest)):=by
 subst hk;rw[hR];unfold ahd hdl;simp only;rw[if_neg h1,if_neg h2,hds_hdl];simp only[List.append_assoc,List.singleton_append];rfl
theorem heads_any (ar:Int) (h:Hd) (a:Option Addr) (len cap:Nat) (rs:List Rw) (w:World) (hR:RowsIn w a len cap rs) (hlr:rs.length<=1048576) :
  Calls Tryz.prog 68 #[.int .i64 ar,hV h,.slice a len cap] w fun e w'=>HdRes (hds (decide (ar=64)) (rs.length+1) h.1.1 rs) h w e w':=by
 obtain⟨R,HR0⟩:∃ R,Hid (R=hds (decide (ar=64)) (rs.length+1) h.1.1 rs):=⟨_,rfl⟩;rw[<-HR0.out];obtain⟨it,hi,hz0,hz1,hz2⟩:=info_parts infoHead;have HRA:Hid (RowsIn w a len cap rs):=hR;clear hR;have HN:Hid (Hs _ _ _ _ _ _ _ _):=hs_new w h;unfold hC at HN;have HR1:Hid (R=ahd [] (hdl (decide (ar=64)) rs.length h.1.1 (cnt rs))):=HR0.out;have hcl:=cnt_len rs;clear HR0;go_enter Tryz.func68,Tryz.ntmps68;go_wp2_with fail;change Calls _ _ _ (((w.alloc (.cells #[.int .i64 h.1.1,.string (mk h.1.2.1),.int .i64 h.1.2.2,.string (mk h.2.anc),.int .i64 h.2.tag] 115)).alloc (.cells #[.int .i64 0,.int .i64 0] 34)).alloc (.cells #[.int .i64 h.1.1,.string (mk h.1.2.1),.int .i64 h.1.2.2,.string (mk h.2.anc),.int .i64 h.2.tag] 115)) _;generalize ((w.alloc (.cells #[.int .i64 h.1.1,.string (mk h.1.2.1),.int .i64 h.1.2.2,.string (mk h.2.anc),.int .i64 h.2.tag] 115)).alloc (.cells #[.int .i64 0,.int .i64 0] 34)).alloc (.cells #[.int .i64 h.1.1,.string (mk h.1.2.1),.int .i64 h.1.2.2,.string (mk h.2.anc),.int .i64 h.2.tag] 115)=W at HN |-;generalize w.heap.size+1+1=C at *;generalize w.heap.size+1=K1 at *;obtain⟨K0,hK0⟩:∃ K,K=w.heap.size:=⟨_,rfl⟩;rw[<-hK0]
 have HS:Hid (Hs w W K0 K1 C h (.slice (some ⟨C,0,none⟩) 1 1) [h]):=by
  rw[hK0];exact HN.out
 clear hK0 HN;refine(counted0_any a len cap rs w W HRA.out HS.out.bl).mono ?_;rintro e w1 ⟨⟨a1,len1,cap1,rfl,hra1⟩,hb1⟩;have HS1:Hid (Hs w w1 K0 K1 C h (.slice (some ⟨C,0,none⟩) 1 1) [h]):=HS.out.later hb1;have HA1:Hid (RowsA w a1 len1 cap1 (cnt rs)):=hra1;clear HS hb1 HRA hra1;go_wp2_with fail
 go_loopw [2,9] (fun u2 u9 wr=>∃ (k:Nat) (hs:List Hd) (lh:Hd) (a':Option Addr) (len' cap':Nat) (rs':List Rw),u2=.slice a' len' cap'/\Hid (RowsA w a' len' cap' rs')/\rs'.length<=k/\hs.length+rs'.length<=rs.length/\Hid (Hs w wr K0 K1 C lh u9 (h::hs))/\Hid (R=ahd hs (hdl (decide (ar=64)) k lh.1.1 rs'))) (fun u2 _ _=>slL u2)
 case atStart=>exact⟨rs.length,[],h,a1,len1,cap1,cnt rs,rfl,HA1,hcl,by simpa using hcl,HS1,HR1⟩
 case round =>
  obtain⟨k,hs,lh,a',len',cap',rs',rfl,HA,hk,hlen,HH,HRR⟩:=hrel;clear HA1 HS1 HR1
  cases rs' with
  | nil =>
   have e0:len'=0:=by have:=HA.out.len;simpa using this
   subst e0;have HV:Hid (R=(hs,[],0,0)):=by show R=_;rw[HRR.out];unfold ahd hdl;simp
   obtain⟨y0,y1⟩:=HH.out.k1.c2;have v0:=HH.out.k1.fz 0;have v1:=HH.out.k1.fz 1;clear HRR;go_wp2;have HO:Hid (_/\_/\_):=hs_out HH.out (.int .i64 0) (.int .i64 0);generalize (wr.setCell ⟨K1,0,none⟩ (.int .i64 0)).setCell ⟨K1,1,none⟩ (.int .i64 0)=WF at HO |-;have j0:WF.cell? ⟨K1,0,none⟩=_:=HO.out.2.1.cell 0;have j1:WF.cell? ⟨K1,1,none⟩=_:=HO.out.2.1.cell 1;refine bodyPost_ret (v:=.tuple #[u9,.slice a' 0 cap',.agg #[.int .i64 0,.int .i64 0]]) (by simp[results,Tryz.results68,go_sem,j0,j1]) rfl ?_;rw[HV.out];exact⟨fun h=>absurd rfl h,fun _=>⟨u9,_,_,_,rfl,HO.out.2.2,HA.out⟩,HO.out.1⟩
  | cons r rest =>
   obtain⟨rc,rt,rz⟩:=r;have el:Hid (len'=rest.length+1):=by show len'=_;have:=HA.out.len;simpa using this
   have hpos:0<len':=by have:=el.out;omega
   have hlc:len'<=cap':=HA.out.1.2.1;have hcm:cap'<=9223372036854775807:=HA.out.1.2.2.1;obtain⟨b,off,had,hbw,hcell⟩:=HA.out.1.1.2 hpos;obtain⟨x0,x1,x2⟩:=hcell 0 hpos;subst had;have hrt:rt.length<=140737488351232:=HA.out.1.2.2.2 (rc,rt,rz) (by simp);replace x0:wr.cell? ⟨b,off,none⟩=some (.int .i64 rc):=by have:=(HH.out.bl.cell (p:=⟨b,off+0*3,none⟩) hbw).trans x0;simpa using this
   replace x1:wr.cell? ⟨b,off+1,none⟩=some (.string (mk rt)):=by have:=(HH.out.bl.cell (p:=⟨b,off+0*3+1,none⟩) hbw).trans x1;simpa using this
   replace x2:wr.cell? ⟨b,off+2,none⟩=some (.int .i64 rz):=by have:=(HH.out.bl.cell (p:=⟨b,off+0*3+2,none⟩) hbw).trans x2;simpa using this
   clear hcell
   have HB2:Hid (∀ w2,w2=wr.alloc (.cells #[.int .i64 rc,.string (mk rt),.int .i64 rz] 40)->Hs w w2 K0 K1 C lh u9 (h::hs)/\Bx w2 wr.heap.size #[.int .i64 rc,.string (mk rt),.int .i64 rz] 40):=fun w2 e=>by
    subst e;exact⟨HH.out.later (below_alloc _ _),Bx.new _ _ _⟩
   have hpl:((len':Int)>0):=by omega
   go_upto_region 6 with fail
   have N2:=HB2.out _ rfl;clear HB2 x0 x1 x2;generalize wr.alloc (.cells #[.int .i64 rc,.string (mk rt),.int .i64 rz] 40)=w2 at N2 |-;generalize wr.heap.size=KR at N2 |-;have HH2:Hid (Hs w w2 K0 K1 C lh u9 (h::hs)):=N2.1;have HK2:Hid (Bx w2 KR #[.int .i64 rc,.string (mk rt),.int .i64 rz] 40):=N2.2;clear N2 HH;obtain⟨r0,r1,r2⟩:=HK2.out.c3;have l0:w2.cell? ⟨K0,0,none⟩=some (.int .i64 lh.1.1):=HH2.out.k0.cell 0;by_cases hlt:rc<lh.1.1
   ·have HV:Hid (R=(hs,[],9,rz)):=by show R=_;rw[HRR.out];unfold ahd hdl;simp[hlt]
    obtain⟨y0,y1⟩:=HH2.out.k1.c2;have v0:=HH2.out.k1.fz 0;have v1:=HH2.out.k1.fz 1;have HFO:Hid (Calls Tryz.prog 109 #[.int .i64 9,rV rc rt rz] w2 fun e w'=>e=.returned (fV 9 rz)/\Below w2.heap.size w2 w'):=faultOf_any 9 rc rt rz w2;clear HRR;go_wp2_with fail;refine HFO.out.mono ?_;rintro e w3 ⟨rfl,H3⟩;have HH3:Hid (Hs w w3 K0 K1 C lh u9 (h::hs)):=HH2.out.later H3;clear y0 y1 v0 v1 r0 r1 r2 l0 HH2 HK2 H3 HFO;obtain⟨y0,y1⟩:=HH3.out.k1.c2;have v0:=HH3.out.k1.fz 0;have v1:=HH3.out.k1.fz 1;go_wp2;have HO:Hid (_/\_/\_):=hs_out HH3.out (.int .i64 9) (.int .i64 rz);generalize (w3.setCell ⟨K1,0,none⟩ (.int .i64 9)).setCell ⟨K1,1,none⟩ (.int .i64 rz)=WF at HO |-;have j0:WF.cell? ⟨K1,0,none⟩=_:=HO.out.2.1.cell 0;have j1:WF.cell? ⟨K1,1,none⟩=_:=HO.out.2.1.cell 1;refine bodyPost_ret (v:=.tuple #[.slice none 0 0,.slice none 0 0,.agg #[.int .i64 9,.int .i64 rz]]) (by simp[results,Tryz.results68,go_sem,j0,j1]) rfl ?_;rw[HV.out];exact⟨fun _=>rfl,fun h=>absurd h (show ¬ (9:Int)=0 by decide),HO.out.1⟩
   have hltb:decide (rc<lh.1.1)=false:=decide_eq_false hlt;obtain⟨pa,pt,lf,hcp⟩:∃ pa pt lf,CP ⟨[],0⟩ rt=(⟨pa,pt⟩,lf):=⟨_,_,_,rfl⟩;have HCP:Hid (CP ⟨[],0⟩ rt=(⟨pa,pt⟩,lf)):=hcp;clear hcp;have hlf:lf.length<=140737488351232:=by have:=CP_len ⟨[],0⟩ rt;rw[HCP.out]at this;exact Nat.le_trans this hrt
   have HCU:Hid (Calls Tryz.prog 110 #[.string (mk rt)] w2 fun e w'=>e=.returned (.tuple #[.agg #[.string (mk pa),.int .i64 pt],.string (mk lf)])/\Below w2.heap.size w2 w'):=by
    have h:=cutProperties_any rt w2 (by omega);rw[HCP.out]at h;exact h
   go_wp2_with fail;refine HCU.out.mono ?_;rintro e w3 ⟨rfl,H3⟩
   have HB4:Hid (∀ w4,w4=w3.alloc (.cells #[.string (mk pa),.int .i64 pt] 77)->Hs w w4 K0 K1 C lh u9 (h::hs)/\Bx w4 KR #[.int .i64 rc,.string (mk rt),.int .i64 rz] 40/\Bx w4 w3.heap.size #[.string (mk pa),.int .i64 pt] 77):=fun w4 e=>by
    subst e;have b:=H3.trans ((below_alloc w3 (.cells #[.string (mk pa),.int .i64 pt] 77)).mono H3.size);exact⟨HH2.out.later b,HK2.out.later b,Bx.new _ _ _⟩
   clear r0 r1 r2 l0 HCU;go_upto_region 9 with fail
   have N4:=HB4.out _ rfl;clear HB4 HH2 HK2 H3;generalize w3.alloc (.cells #[.string (mk pa),.int .i64 pt] 77)=w4 at N4 |-;generalize w3.heap.size=KP at N4 |-;have HH4:Hid (Hs w w4 K0 K1 C lh u9 (h::hs)):=N4.1;have HK4:Hid (Bx w4 KR #[.int .i64 rc,.string (mk rt),.int .i64 rz] 40):=N4.2.1;have HP4:Hid (Bx w4 KP #[.string (mk pa),.int .i64 pt] 77):=N4.2.2;clear N4;have HIE:Hid (∀ w0,Calls Tryz.prog 111 #[.string (mk lf)] w0 fun e w'=>e=.returned (.bool (noth lf))/\w0=w'):=fun w0=>isEmpty_any lf w0 (by omega)
   cases hno:noth lf
   ·have harD:True:=trivial;have HV:Hid (R=(hs,(rc,rt,rz)::rest,0,0)):=by show R=_;rw[HRR.out];unfold ahd hdl;simp only;rw[if_neg (show ¬ rc<lh.1.1 by omega),if_pos (by rw[HCP.out];simp[hno,harD])];simp
    clear HRR;rw[hno]at HIE;obtain⟨y0,y1⟩:=HH4.out.k1.c2;have v0:=HH4.out.k1.fz 0;have v1:=HH4.out.k1.fz 1;go_wp2_with (go_at_call 111;refine(HIE.out _).mono ?_;rintro e w' ⟨rfl,rfl⟩);have HO:Hid (_/\_/\_):=hs_out HH4.out (.int .i64 0) (.int .i64 0);generalize (w4.setCell ⟨K1,0,none⟩ (.int .i64 0)).setCell ⟨K1,1,none⟩ (.int .i64 0)=WF at HO |-;have j0:WF.cell? ⟨K1,0,none⟩=_:=HO.out.2.1.cell 0;have j1:WF.cell? ⟨K1,1,none⟩=_:=HO.out.2.1.cell 1;refine bodyPost_ret (v:=.tuple #[u9,.slice (some ⟨b,off,none⟩) len' cap',.agg #[.int .i64 0,.int .i64 0]]) (by simp[results,Tryz.results68,go_sem,j0,j1]) rfl ?_;rw[HV.out];exact⟨fun h=>absurd rfl h,fun _=>⟨u9,_,_,_,rfl,HO.out.2.2,HA.out⟩,HO.out.1⟩
   by_cases har:ar=64
   ·have harD:=har;have harb:(ar==64)=true:=by rw[har];rfl
    have HV:Hid (R=(hs,(rc,rt,rz)::rest,0,0)):=by show R=_;rw[HRR.out];unfold ahd hdl;simp only;rw[if_neg (show ¬ rc<lh.1.1 by omega),if_pos (by rw[HCP.out];simp[hno,harD])];simp
    clear HRR;rw[hno]at HIE;obtain⟨y0,y1⟩:=HH4.out.k1.c2;have v0:=HH4.out.k1.fz 0;have v1:=HH4.out.k1.fz 1;go_wp2_with (go_at_call 111;refine(HIE.out _).mono ?_;rintro e w' ⟨rfl,rfl⟩);have HO:Hid (_/\_/\_):=hs_out HH4.out (.int .i64 0) (.int .i64 0);generalize (w4.setCell ⟨K1,0,none⟩ (.int .i64 0)).setCell ⟨K1,1,none⟩ (.int .i64 0)=WF at HO |-;have j0:WF.cell? ⟨K1,0,none⟩=_:=HO.out.2.1.cell 0;have j1:WF.cell? ⟨K1,1,none⟩=_:=HO.out.2.1.cell 1;refine bodyPost_ret (v:=.tuple #[u9,.slice (some ⟨b,off,none⟩) len' cap',.agg #[.int .i64 0,.int .i64 0]]) (by simp[results,Tryz.results68,go_sem,j0,j1]) rfl ?_;rw[HV.out];exact⟨fun h=>absurd rfl h,fun _=>⟨u9,_,_,_,rfl,HO.out.2.2,HA.out⟩,HO.out.1⟩
   have harb:(ar==64)=false:=by rw[beq_eq_false_iff_ne];exact har
   rw[hno]at HIE;have hk1:rest.length+1<=k:=by simpa using hk
   have hl1:hs.length+(rest.length+1)<=rs.length:=by simpa using hlen
   obtain⟨k',hk'⟩:∃ k',k=k'+1:=⟨k-1,by omega⟩
   have HRN:Hid (R=ahd (hs++[((rc,rt,rz),⟨pa,pt⟩)]) (hdl (decide (ar=64)) k' rc (cnt rest))):=by
    have h:=hds_ahd (r:=(rc,rt,rz)) HRR.out (show ¬ rc<lh.1.1 by omega) (by rw[show (CP ⟨[],0⟩ (rc,rt,rz).2.1)=(⟨pa,pt⟩,lf)from HCP.out];simp[hno,har]) k' hk';rw[show (CP ⟨[],0⟩ (rc,rt,rz).2.1)=(⟨pa,pt⟩,lf)from HCP.out]at h;exact h
   have hkr:rest.length<=k':=by omega
   have hln:hs.length+1+rest.length<=rs.length:=by omega
   have HTL:Hid (RowsA w (some (if cap'=1 then ⟨b,off,none⟩else ⟨b,off+3,none⟩)) (len'-1) (cap'-1) rest):=HA.out.drop 1 hpos;clear HRR HCP hk hlen hk1 hl1 hk' har hno hltb hlt HA;obtain⟨l0,l1,l2,l3,l4⟩:=HH4.out.k0.c5;have m0:=HH4.out.k0.fz 0;have m1:=HH4.out.k0.fz 1;have m2:=HH4.out.k0.fz 2;have m3:=HH4.out.k0.fz 3;have m4:=HH4.out.k0.fz 4;obtain⟨r0,r1,r2⟩:=HK4.out.c3;obtain⟨q0,q1⟩:=HP4.out.c2;have HH5:Hid (Hs _ _ _ _ _ _ _ _):=hs_set5 HH4.out ((rc,rt,rz),⟨pa,pt⟩);go_wp2_with fail;refine(HIE.out _).mono ?_;rintro e w' ⟨rfl,rfl⟩;go_upto_region 11 with fail
   change Code.wp _ _ _ _ (((((w4.setCell ⟨K0,0,none⟩ (.int .i64 rc)).setCell ⟨K0,1,none⟩ (.string (mk rt))).setCell ⟨K0,2,none⟩ (.int .i64 rz)).setCell ⟨K0,3,none⟩ (.string (mk pa))).setCell ⟨K0,4,none⟩ (.int .i64 pt));have HH6:Hid (Hs w (((((w4.setCell ⟨K0,0,none⟩ (.int .i64 rc)).setCell ⟨K0,1,none⟩ (.string (mk rt))).setCell ⟨K0,2,none⟩ (.int .i64 rz)).setCell ⟨K0,3,none⟩ (.string (mk pa))).setCell ⟨K0,4,none⟩ (.int .i64 pt)) K0 K1 C ((rc,rt,rz),⟨pa,pt⟩) u9 (h::hs)):=HH5.out;clear HH5 HH4 HK4 HP4 l0 l1 l2 l3 l4 m0 m1 m2 m3 m4 r0 r1 r2 q0 q1 HIE;generalize ((((w4.setCell ⟨K0,0,none⟩ (.int .i64 rc)).setCell ⟨K0,1,none⟩ (.string (mk rt))).setCell ⟨K0,2,none⟩ (.int .i64 rz)).setCell ⟨K0,3,none⟩ (.string (mk pa))).setCell ⟨K0,4,none⟩ (.int .i64 pt)=w5 at HH6 |-;obtain⟨l0,l1,l2,l3,l4⟩:=HH6.out.k0.c5;have HH7:Hid (Hs w (w5.alloc (.cells #[.int .i64 rc,.string (mk rt),.int .i64 rz,.string (mk pa),.int .i64 pt] 115)) K0 K1 C ((rc,rt,rz),⟨pa,pt⟩) u9 (h::hs)):=HH6.out.later (below_alloc _ _);have HX7:Hid (Bx (w5.alloc (.cells #[.int .i64 rc,.string (mk rt),.int .i64 rz,.string (mk pa),.int .i64 pt] 115)) w5.heap.size #[.int .i64 rc,.string (mk rt),.int .i64 rz,.string (mk pa),.int .i64 pt] 115):=Bx.new _ _ _;have hhl:(h::hs).length=hs.length+1:=rfl;have hml:(h::hs).length+1<=maxLen:=by unfold maxLen;omega
   have hbs:((h::hs).length+1)*56<=140737488355328:=by omega
   clear hhl;go_wp2_with (at_builtin;refine wpList_append_own_at _ rfl _ _ 111 rfl C 115 it (.agg #[.int .i64 0,.string ⟨#[]⟩,.int .i64 0,.string ⟨#[]⟩,.int .i64 0]) 5 56 Tryz.underlying111 hi hz0 hz1 hz2 rfl (by decide) u9 (h::hs).length (hCs (h::hs)) rfl HH7.out.own ⟨w5.heap.size,0,none⟩ 1 1 (hC ((rc,rt,rz),⟨pa,pt⟩)) rfl rfl (fun j u hj=>by rw[show (⟨w5.heap.size,0,none⟩:Addr).add j=⟨w5.heap.size,j,none⟩from by simp[Addr.add];exact fun h=>h.symm,HX7.out.cell j];simpa [hC]using hj) (hC_one _) hml hbs HH7.out.hc ?_);intro v' w8 hown8 hgr8 _ _;have HH8:Hid (Hs w w8 K0 K1 C ((rc,rt,rz),⟨pa,pt⟩) v' ((h::hs)++[((rc,rt,rz),⟨pa,pt⟩)])):=hs_more HH7.out hown8 hgr8;clear hown8 hgr8 HH7 HX7 HH6 l0 l1 l2 l3 l4;clear hi hz0 hz1 hz2 hml hbs hrt hpl;by_cases hc1:cap'=1
   ·have HTL2:Hid (RowsA w (some ⟨b,off,none⟩) (len'-1) (cap'-1) rest):=by
     have:=HTL.out;rw[if_pos hc1]at this;exact this
    clear HTL;subst hc1;obtain rfl:len'=1:=by omega
    have HCO:Hid (Calls Tryz.prog 108 #[.slice (some ⟨b,off,none⟩) 0 0] w8 fun e w'=>CntA w rest w8 e w'):=counted0_any _ _ _ rest w w8 HTL2.out.1 HH8.out.bl;go_wp2_with fail;refine HCO.out.mono ?_;rintro e w9 ⟨⟨a2,len2,cap2,rfl,hra2⟩,hb9⟩;have HH9:Hid (Hs w w9 K0 K1 C ((rc,rt,rz),⟨pa,pt⟩) v' (h::(hs++[((rc,rt,rz),⟨pa,pt⟩)]))):=HH8.out.later hb9;have HA9:Hid (RowsA w a2 len2 cap2 (cnt rest)):=hra2;have hc9:=cnt_len rest;have hl9:len2<1:=by have h1:=hra2.len;have h2:=el.out;omega
    clear hra2 hb9 HH8 HCO HTL2;go_wp2_with fail;go_roundw
    case rel =>
     exact⟨k',hs++[((rc,rt,rz),⟨pa,pt⟩)],((rc,rt,rz),⟨pa,pt⟩),a2,len2,cap2,cnt rest,rfl,HA9,by omega,by rw[List.length_append,List.length_singleton];omega,HH9,HRN⟩
    case measure=>simp only[slL];omega
   ·have HTL2:Hid (RowsA w (some ⟨b,off+3,none⟩) (len'-1) (cap'-1) rest):=by
     have:=HTL.out;rw[if_neg hc1]at this;exact this
    clear HTL;have HCO:Hid (Calls Tryz.prog 108 #[.slice (some ⟨b,off+3,none⟩) (len'-1) (cap'-1)] w8 fun e w'=>CntA w rest w8 e w'):=counted0_any _ _ _ rest w w8 HTL2.out.1 HH8.out.bl;go_wp2_with fail;refine HCO.out.mono ?_;rintro e w9 ⟨⟨a2,len2,cap2,rfl,hra2⟩,hb9⟩;have HH9:Hid (Hs w w9 K0 K1 C ((rc,rt,rz),⟨pa,pt⟩) v' (h::(hs++[((rc,rt,rz),⟨pa,pt⟩)]))):=HH8.out.later hb9;have HA9:Hid (RowsA w a2 len2 cap2 (cnt rest)):=hra2;have hc9:=cnt_len rest;have hl9:len2<len':=by have h1:=hra2.len;have h2:=el.out;omega
    clear hra2 hb9 HH8 HCO HTL2;go_wp2_with fail;go_roundw
    case rel =>
     exact⟨k',hs++[((rc,rt,rz),⟨pa,pt⟩)],((rc,rt,rz),⟨pa,pt⟩),a2,len2,cap2,cnt rest,rfl,HA9,by omega,by rw[List.length_append,List.length_singleton];omega,HH9,HRN⟩
    case measure=>simp only[slL];omega
end Tre
namespace Tre
open Utf Rws Pln Flw
open Go.RowKit Go.Shelf
open Blk (Rw RwAt z3)
attribute [local go_sem] Oper.semAt_some
def hd0:Hd:=(z3,⟨[],0⟩)
def rv (hs:List Hd):Nat->List (Nat × Hd)
 | 0=>[]
 | n+1=>(n,hs.getD n hd0)::rv hs n
theorem rv_len (hs:List Hd):∀ n,(rv hs n).length=n
 | 0=>rfl
 | n+1=>by rw[rv,List.length_cons,rv_len hs n]
theorem rv_map (hs:List Hd):∀ n,n<=hs.length->(rv hs n).map (·.2)=(hs.take n).reverse
 | 0,_=>rfl
 | n+1,h=>by
  rw[rv,List.map_cons,rv_map hs n (by omega),List.take_add_one,List.reverse_append,List.getD_eq_getElem?_getD,List.getElem?_eq_getElem (by omega)];rfl
structure HdAt (w:World) (Bs:Nat) (a:Option Addr) (len cap:Nat) (hs:List Hd):Prop where
 bx:w.cell? ⟨Bs,0,none⟩=some (.slice a len cap)
 hl:len=hs.length
 ad:∀ i,i<len->∃ g,a=some ⟨g,0,none⟩/\w.cell? ⟨g,i*5,none⟩=some (.int .i64 (hs.getD i hd0).1.1)/\w.cell? ⟨g,i*5+1,none⟩=some (.string (mk (hs.getD i hd0).1.2.1))/\w.cell? ⟨g,i*5+2,none⟩=some (.int .i64 (hs.getD i hd0).1.2.2)/\w.cell? ⟨g,i*5+3,none⟩=some (.string (mk (hs.getD i hd0).2.anc))/\w.cell? ⟨g,i*5+4,none⟩=some (.int .i64 (hs.getD i hd0).2.tag)
def KpH (Bs:Nat) (a:Option Addr) (W W':World):Prop:=W'.heap[Bs]?=W.heap[Bs]?/\∀ g,a=some ⟨g,0,none⟩->W'.heap[g]?=W.heap[g]?
theorem HdAt.kp {W W':World} {Bs:Nat} {a:Option Addr} {len cap:Nat} {hs:List Hd} (h:HdAt W Bs a len cap hs) (hk:KpH Bs a W W'):HdAt W' Bs a len cap hs:=by
 refine⟨(World.cell?_of_block (w:=W) hk.1).trans h.bx,h.hl,fun i hi=> ?_⟩;obtain⟨g,e,c0,c1,c2,c3,c4⟩:=h.ad i hi;have q:∀ n,W'.cell? ⟨g,n,none⟩=W.cell? ⟨g,n,none⟩:=fun n=>World.cell?_of_block (w:=W) (hk.2 g e)
 exact⟨g,e,(q _).trans c0,(q _).trans c1,(q _).trans c2,(q _).trans c3,(q _).trans c4⟩
set_option maxHeartbeats 2000000 in
theorem back1_in (n:Nat) (hn:1<=n) (l Bs:Nat) (a:Option Addr) (len cap:Nat) (hs:List Hd) (hlen:len<=9223372036854775807) (J Jx:List (Nat × Hd)->World->Prop) (W:World)
  (hY:∀ pre x W1,J pre W1->pre.length<len->YieldAt Fence.wide (n-1) Tryz.prog l #[.int .i64 (x.1:Int),hV x.2] W1 fun e W' =>
   (e=.returned (.bool true)/\J (pre++[x]) W'/\KpH Bs a W1 W')\/(e=.returned (.bool false)/\Jx (pre++[x]) W'))
  (hH:HdAt W Bs a len cap hs) (h0:J [] W) :
  CallsIn Fence.wide n Tryz.prog 119 #[.func (.yield l) #[] #[],.pointer (some ⟨Bs,0,none⟩)] W fun e W'=>(∃ v,e=.returned v) /\
   ((∃ ys,ys=rv hs len/\J ys W')\/(∃ pre,pre <+: rv hs len/\Jx pre W')):=by
 have hbx:=hH.bx;refine callsIn_of_wp Tryz.func119 rfl trivial ?_ rfl;simp only[Tryz.ntmps119,List.size_toArray,List.length_cons,List.length_nil,Nat.reduceAdd,Nat.reduceSub,Array.replicate_succ,Array.replicate_zero,List.push_toArray,List.append_toArray,List.nil_append,List.cons_append];have HH:Hid (HdAt W Bs a len cap hs):=hH;clear hH
 gi_wp2
 gi_loopw [3] (fun u wr=>∃ (k:Nat) (pre:List (Nat × Hd)),u=.int .i64 ((k:Int)-1)/\k<=len/\Hid (pre++rv hs k=rv hs len)/\Hid (HdAt wr Bs a len cap hs)/\J pre wr) (fun u _=>(intOf u+1).toNat)
 case atStart=>exact⟨len,[],rfl,Nat.le_refl _,rfl,HH,h0⟩
 case round =>
  obtain⟨k,pre,rfl,hk,HX,HS,hJ⟩:=hrel;have hbr:=HS.out.bx
  cases k with
  | zero =>
   gi_wp2
   go_end0;exact⟨⟨_,rfl⟩,.inl ⟨pre,by have:=HX.out;rw[rv,List.append_nil]at this;exact this,hJ⟩⟩
  | succ j =>
   rw[show (((j+1:Nat):Int)-1)=(j:Int) by omega];obtain⟨g,rfl,c0,c1,c2,c3,c4⟩:=HS.out.ad j (by omega)
   have hpl:pre.length<len:=by
    have:=congrArg List.length HX.out;rw[List.length_append,rv_len,rv_len]at this;omega
   obtain⟨fn,tmps,assign,body,hy,hR⟩:=hY pre (j,hs.getD j hd0) wr hJ hpl;dsimp only at hy
   have HX2:Hid ((pre++[(j,hs.getD j hd0)])++rv hs j=rv hs len):=by
    have:=HX.out;rw[rv]at this;show _=_;rw[List.append_assoc];exact this
   generalize hs.getD j hd0=hh at *;clear HX
   gi_wp2
   refine hR.mono ?_;rintro e W3 (⟨rfl,hJ3,hK3⟩ | ⟨rfl,hJx3⟩)
   ·have HS3:Hid (HdAt W3 Bs (some ⟨g,0,none⟩) len cap hs):=HS.out.kp hK3
    gi_wp2
    go_roundw
    case rel=>exact⟨j,pre++[(j,hh)],by go_num,by omega,HX2,HS3,hJ3⟩
    case measure=>simp[intOf]
   ·gi_wp2
    refine bodyPost_ret (results_none rfl _ _ _) rfl ?_;exact⟨⟨_,rfl⟩,.inr ⟨pre++[(j,hh)],⟨rv hs j,HX2.out⟩,hJx3⟩⟩
theorem back_in (a:Option Addr) (len cap:Nat) (n:Nat) (w:World) :
  CallsIn Fence.wide n Tryz.prog 71 #[.slice a len cap] w fun e w'=>e=.returned (.func (.func 119) #[] #[.pointer (some ⟨w.heap.size,0,none⟩)])/\w'=w.alloc (.cells #[.slice a len cap] 111):=by
 refine callsIn_of_wp Tryz.func71 rfl trivial ?_ rfl;simp only[Tryz.ntmps71,List.size_toArray,List.length_cons,List.length_nil,Nat.reduceAdd,Nat.reduceSub,Array.replicate_succ,Array.replicate_zero,List.push_toArray,List.append_toArray,List.nil_append,List.cons_append]
 gi_wp2
 go_ret;exact⟨rfl,rfl⟩
theorem HdAt.later {W W':World} {Bs:Nat} {a:Option Addr} {len cap:Nat} {hs:List Hd} (h:HdAt W Bs a len cap hs) (hb:Below W.heap.size W W') (hB:Bs<W.heap.size) (hg:∀ g,a=some ⟨g,0,none⟩->g<W.heap.size):HdAt W' Bs a len cap hs :=
 h.kp ⟨hb.block Bs hB,fun g e=>hb.block g (hg g e)⟩
theorem back_stops (n:Nat) (hn:1<=n) (Bs:Nat) (a:Option Addr) (len cap:Nat) (hs:List Hd) (hlen:len<=9223372036854775807) (w:World) (hB:Bs<w.heap.size) (hg:∀ g,a=some ⟨g,0,none⟩->g<w.heap.size) (hH:HdAt w Bs a len cap hs) :
  SeqStopsK Fence.wide n Tryz.prog 119 #[.pointer (some ⟨Bs,0,none⟩)] (fun x:Nat × Hd=>#[Value.int .i64 (x.1:Int),hV x.2]) (KpH Bs a) (fun ys=>ys=rv hs len) (fun pre=>pre <+: rv hs len) len w:=fun l J Jx W hW hJ _ hY h0 =>
 back1_in n hn l Bs a len cap hs hlen J Jx W hY (hH.later hW hB hg) h0
end Tre
namespace Tre
open Utf Rws Pln Flw
open Go.RowKit Go.Shelf
open Blk (Rw RwAt z3)
theorem samePp_nil {p:Pp} (h:samePp p ⟨[],0⟩=true):p=⟨[],0⟩:=samePp_eq h
theorem onRows_all (h:Hd) (t:Tr) (ad:Option Addr) (len cap:Nat) (w:World):Calls Tryz.prog 72 #[.agg #[.string (mk h.2.anc),.int .i64 h.2.tag],.agg #[.int .i64 t.kind,.string (mk t.text),.string (mk t.anc),.slice ad len cap],.agg #[.int .i64 h.1.1,.string (mk h.1.2.1),.int .i64 h.1.2.2]] w fun e w' =>
  (∃ ad' len' cap',e=.returned (.tuple #[.agg #[.int .i64 (orM h t).1.kind,.string (mk (orM h t).1.text),.string (mk (orM h t).1.anc),.slice ad' len' cap'],.agg #[.int .i64 (orM h t).2.1,.int .i64 (orM h t).2.2]]) /\
   Hid ((ad'=ad/\len'=len/\cap'=cap/\(orM h t).1.kids=t.kids/\(orM h t).1.kind=t.kind/\(orM h t).1.text=t.text/\((orM h t).1.anc=t.anc\/(orM h t).1.anc=h.2.anc))\/(ad'=none/\len'=0/\cap'=0/\(orM h t).1=tr0)))/\Below w.heap.size w w':=by
 obtain⟨⟨hc,hx,hz⟩,p⟩:=h;unfold orM;dsimp only;cases hs:samePp p ⟨[],0⟩
 ·rw[if_neg (by simp)];cases ho:orB p t.kind t.anc
  ·rw[if_neg (by simp)];cases hn:onB p t.kind
   ·rw[if_neg (by simp)];refine(onRows_yes p t.kind t.text t.anc ad len cap hc hx hz w hs ho hn).mono ?_;rintro e w' ⟨rfl,hb⟩;exact⟨⟨ad,len,cap,rfl,.inl ⟨rfl,rfl,rfl,rfl,rfl,rfl,.inr rfl⟩⟩,hb⟩
   ·rw[if_pos rfl];refine(onRows_no p t.kind t.text t.anc ad len cap hc hx hz w hs ho hn).mono ?_;rintro e w' ⟨rfl,hb⟩;exact⟨⟨none,0,0,rfl,.inr ⟨rfl,rfl,rfl,rfl⟩⟩,hb⟩
  ·rw[if_pos rfl];refine(onRows_bad p t.kind t.text t.anc ad len cap hc hx hz w hs ho).mono ?_;rintro e w' ⟨rfl,hb⟩;exact⟨⟨none,0,0,rfl,.inr ⟨rfl,rfl,rfl,rfl⟩⟩,hb⟩
 ·have e:=samePp_nil hs;subst e;rw[if_pos rfl];refine(onRows_none t.kind t.text t.anc ad len cap hc hx hz w).mono ?_;rintro e w' ⟨rfl,hb⟩;exact⟨⟨ad,len,cap,rfl,.inl ⟨rfl,rfl,rfl,rfl,rfl,rfl,.inl rfl⟩⟩,hb⟩
theorem onNothing_all (h:Hd) (w:World):Calls Tryz.prog 70 #[.agg #[.string (mk h.2.anc),.int .i64 h.2.tag],.agg #[.int .i64 h.1.1,.string (mk h.1.2.1),.int .i64 h.1.2.2]] w fun e w' =>
  e=.returned (.tuple #[.agg #[.int .i64 (noM h).1.kind,.string (mk (noM h).1.text),.string (mk (noM h).1.anc),.slice none 0 0],.agg #[.int .i64 (noM h).2.1,.int .i64 (noM h).2.2]])/\Below w.heap.size w w':=by
 obtain⟨⟨hc,hx,hz⟩,p⟩:=h;unfold noM;dsimp only;cases hn:onB p (nuK p)
 ·rw[if_neg (by simp)];exact onNothing_yes p hc hx hz w hn
 ·rw[if_pos rfl];exact onNothing_no p hc hx hz w hn
def cur (pre:List (Nat × Hd)) (r:Tf):Tf:=pre.foldl (fun r x=>orM x.2 r.1) r
theorem cur_snoc (pre:List (Nat × Hd)) (x:Nat × Hd) (r:Tf):cur (pre++[x]) r=orM x.2 (cur pre r).1:=by simp[cur]
def okP (pre:List (Nat × Hd)) (r:Tf):Prop:=∀ q x s,pre=q++x::s->(cur q r).2.1=0
theorem okP_nil (r:Tf):okP [] r:=fun q x s h=>by cases q<;>cases h
theorem okP_snoc {pre:List (Nat × Hd)} {r:Tf} (h:okP pre r) (h0:(cur pre r).2.1=0) (x:Nat × Hd):okP (pre++[x]) r:=by
 intro q y s e;rcases List.eq_nil_or_concat s with rfl | ⟨s',z,rfl⟩
 ·have e2:pre=q/\x=y:=by
   have:=List.append_inj' (s₁:=pre) (s₂:=q) e rfl;exact⟨this.1,by simpa using this.2⟩
  rw[<-e2.1];exact h0
 ·rw[List.concat_eq_append,<-List.cons_append,<-List.append_assoc]at e;exact h q y s' (List.append_inj' e rfl).1
theorem bak_app:∀ (pre:List (Nat × Hd)) (r:Tf) (rest:List Hd),okP pre r->bak (pre.map (·.2)++rest) r=bak rest (cur pre r)
 | [],r,rest,_=>rfl
 | x::pre,r,rest,h=>by
  have h0:r.2.1=0:=h [] x pre rfl;rw[List.map_cons,List.cons_append,bak,if_neg (by simp[h0])];exact bak_app pre (orM x.2 r.1) rest (fun q y s e=>h (x::q) y s (by rw[e];rfl))
structure Be (W0 W:World) (KT KF C d:Nat) (A:Prop) (r:Tf):Prop where
 os:W.os=W0.os
 tape:W.tape=W0.tape
 out:W.output=W0.output
 size:W0.heap.size<=W.heap.size
 keep:∀ j,j<W0.heap.size->j≠KT->j≠KF->W.heap[j]?=W0.heap[j]?
 t:∃ ad len cap,Bx W KT #[.int .i64 r.1.kind,.string (mk r.1.text),.string (mk r.1.anc),.slice ad len cap] 26/\(A->TrQ (fun g=>C<=g/\g<W0.heap.size) W d (.agg #[.int .i64 r.1.kind,.string (mk r.1.text),.string (mk r.1.anc),.slice ad len cap]) r.1)
 f:Bx W KF #[.int .i64 r.2.1,.int .i64 r.2.2] 34
variable {W0 W W':World} {KT KF C d:Nat} {A A2:Prop} {r:Tf}
theorem Be.grown (h:Be W0 W KT KF C d A r) (hs:W.heap.size<=W'.heap.size) (ho:W'.os=W.os) (ht:W'.tape=W.tape) (hu:W'.output=W.output) (hk:∀ j,j<W0.heap.size->W'.heap[j]?=W.heap[j]?) (hKT:KT<W0.heap.size) (hKF:KF<W0.heap.size):Be W0 W' KT KF C d A r:=by
 refine⟨ho.trans h.os,ht.trans h.tape,hu.trans h.out,Nat.le_trans h.size hs,fun j hj h1 h2=>(hk j hj).trans (h.keep j hj h1 h2),?_,(hk KF hKF).trans h.f⟩;obtain⟨ad,len,cap,h1,h2⟩:=h.t;exact⟨ad,len,cap,(hk KT hKT).trans h1,fun ha=>(h2 ha).keep hs (fun j hj _=>hk j hj.2)⟩
theorem be_own (W0:World) (KT KF C d:Nat) (hKT:KT<W0.heap.size) (hKF:KF<W0.heap.size) (G:List (Nat × Hd)->Prop) (r:List (Nat × Hd)->Tf) (P:List (Nat × Hd)->Prop):OwnFrom W0.heap.size (fun pre W=>Be W0 W KT KF C d (G pre) (r pre)/\P pre):=by
 intro pre A B row h hg hr;refine⟨h.1.grown hg.size hg.os hg.tape hg.output (fun j hj=>hg.block j (Nat.lt_of_lt_of_le hj h.1.size) (fun e=> ?_)) hKT hKF,h.2⟩;have:=(hr j e.symm).1;omega
set_option maxHeartbeats 2000000 in
theorem be_set (h:Be W0 W KT KF C d A r) (hne:KT≠KF) (hKT:KT<C) (hKF:KF<C) (hTl:KT<W0.heap.size) (hFl:KF<W0.heap.size) (r2:Tf) (ad:Option Addr) (len cap:Nat)
  (hq:A2->TrQ (fun g=>C<=g/\g<W0.heap.size) W d (.agg #[.int .i64 r2.1.kind,.string (mk r2.1.text),.string (mk r2.1.anc),.slice ad len cap]) r2.1) :
  Be W0 (fill6 W KT KF (.int .i64 r2.1.kind) (.string (mk r2.1.text)) (.string (mk r2.1.anc)) (.slice ad len cap) (.int .i64 r2.2.1) (.int .i64 r2.2.2)) KT KF C d A2 r2:=by
 obtain⟨ad0,len0,cap0,hb0,_⟩:=h.t
 have hk:∀ j,j≠KT->j≠KF->(fill6 W KT KF (.int .i64 r2.1.kind) (.string (mk r2.1.text)) (.string (mk r2.1.anc)) (.slice ad len cap) (.int .i64 r2.2.1) (.int .i64 r2.2.2)).heap[j]?=W.heap[j]?:=fun j h1 h2=>by
  unfold fill6 fill4;rw[Below.heap_setCell _ _ _ _ h2,Below.heap_setCell _ _ _ _ h2,Below.heap_setCell _ _ _ _ h1,Below.heap_setCell _ _ _ _ h1,Below.heap_setCell _ _ _ _ h1,Below.heap_setCell _ _ _ _ h1]
 have hs:(fill6 W KT KF (.int .i64 r2.1.kind) (.string (mk r2.1.text)) (.string (mk r2.1.anc)) (.slice ad len cap) (.int .i64 r2.2.1) (.int .i64 r2.2.2)).heap.size=W.heap.size:=by
  unfold fill6 fill4;simp only[World.size_setCell]
 have hbl:Below 0 W (fill6 W KT KF (.int .i64 r2.1.kind) (.string (mk r2.1.text)) (.string (mk r2.1.anc)) (.slice ad len cap) (.int .i64 r2.2.1) (.int .i64 r2.2.2)):=by
  unfold fill6 fill4;exact((((((Below.refl 0 W).setCell (Nat.zero_le _) _).setCell (Nat.zero_le _) _).setCell (Nat.zero_le _) _).setCell (Nat.zero_le _) _).setCell (Nat.zero_le _) _).setCell (Nat.zero_le _) _
 refine⟨hbl.os.trans h.os,hbl.tape.trans h.tape,hbl.output.trans h.out,by rw[hs];exact h.size,fun j hj h1 h2=>(hk j h1 h2).trans (h.keep j hj h1 h2),⟨ad,len,cap,?_,fun ha=>(hq ha).keep (Nat.le_of_eq hs.symm) (fun j hj _=>hk j (by have:=hj.1;omega) (by have:=hj.1;omega))⟩,?_⟩
 ·unfold fill6 fill4;exact((((((hb0.set 0 _).set 1 _).set 2 _).set 3 _).other hne _ _).other hne _ _)
 ·unfold fill6 fill4;have hn2:KF≠KT:=fun e=>hne e.symm
  exact(((((h.f.other hn2 _ _).other hn2 _ _).other hn2 _ _).other hn2 _ _).set 0 _).set 1 _
theorem trq_anc {P:Nat->Prop} {ad:Option Addr} {len cap:Nat} {t t':Tr} (h:TrQ P W d (.agg #[.int .i64 t.kind,.string (mk t.text),.string (mk t.anc),.slice ad len cap]) t) (hk:t'.kids=t.kids) (h1:t'.kind=t.kind) (h2:t'.text=t.text) (hl:t'.anc.length<=9223372036854775807) :
  TrQ P W d (.agg #[.int .i64 t'.kind,.string (mk t'.text),.string (mk t'.anc),.slice ad len cap]) t':=by
 cases d with
 | zero=>exact h.elim
 | succ d =>
  obtain⟨ad2,len2,cap2,e,hl2,hc,hm,hz,hkk⟩:=h;simp only[Value.agg.injEq,Array.mk.injEq,List.cons.injEq,and_true,true_and,Value.slice.injEq]at e;obtain⟨rfl,rfl,rfl⟩:=e;refine⟨ad,len,cap,rfl,by rw[hk];exact hl2,hc,hm,⟨by rw[h1];exact hz.1,by rw[h1];exact hz.2.1,by rw[h2];exact hz.2.2.1,hl⟩,fun hp=> ?_⟩;obtain⟨g,off,q1,q2,q3,q4⟩:=hkk hp;exact⟨g,off,q1,q2,q3,fun i hi=>by rw[hk];exact q4 i hi⟩
theorem trq_zero {P:Nat->Prop} (hd:1<=d):TrQ P W d (.agg #[.int .i64 tr0.kind,.string (mk tr0.text),.string (mk tr0.anc),.slice none 0 0]) tr0:=by
 obtain⟨e,rfl⟩:∃ e,d=e+1:=⟨d-1,by omega⟩;exact⟨none,0,0,rfl,rfl,Nat.le_refl _,Nat.zero_le _,⟨by decide,by decide,by decide,by decide⟩,fun h=>absurd h (by decide)⟩
theorem trq_ancl {P:Nat->Prop} {v:Value} {t:Tr} (h:TrQ P W d v t):t.anc.length<=9223372036854775807:=by
 cases d with
 | zero=>exact h.elim
 | succ d =>
  obtain⟨_,_,_,_,_,_,_,hz,_⟩:=h;exact hz.2.2.2
def ancs (pre:List (Nat × Hd)):Prop:=∀ y∈pre,y.2.2.anc.length<=9223372036854775807
end Tre
namespace Tre
open Utf Rws Pln Flw
open Go.RowKit Go.Shelf
open Blk (Rw RwAt z3)
set_option maxHeartbeats 8000000
attribute [local go_sem] Oper.semAt_some
theorem four_bx (w:World) (c0 c1 c2 c3:Array Value) (t0 t1 t2 t3:TypeId) :
  Below w.heap.size w ((((w.alloc (.cells c0 t0)).alloc (.cells c1 t1)).alloc (.cells c2 t2)).alloc (.cells c3 t3))/\Bx ((((w.alloc (.cells c0 t0)).alloc (.cells c1 t1)).alloc (.cells c2 t2)).alloc (.cells c3 t3)) w.heap.size c0 t0 /\
  Bx ((((w.alloc (.cells c0 t0)).alloc (.cells c1 t1)).alloc (.cells c2 t2)).alloc (.cells c3 t3)) (w.heap.size+1) c1 t1/\Bx ((((w.alloc (.cells c0 t0)).alloc (.cells c1 t1)).alloc (.cells c2 t2)).alloc (.cells c3 t3)) (w.heap.size+1+1) c2 t2 /\
  Bx ((((w.alloc (.cells c0 t0)).alloc (.cells c1 t1)).alloc (.cells c2 t2)).alloc (.cells c3 t3)) (w.heap.size+1+1+1) c3 t3:=by
 have h:=three_new w c0 c1 c2 t0 t1 t2;have s:(((w.alloc (.cells c0 t0)).alloc (.cells c1 t1)).alloc (.cells c2 t2)).heap.size=w.heap.size+1+1+1:=by simp only[World.size_alloc]
 have b:=below_alloc (((w.alloc (.cells c0 t0)).alloc (.cells c1 t1)).alloc (.cells c2 t2)) (.cells c3 t3);have n:=Bx.new (((w.alloc (.cells c0 t0)).alloc (.cells c1 t1)).alloc (.cells c2 t2)) c3 t3;rw[s]at n;exact⟨h.1.trans (b.mono h.1.size),h.2.1.later b,h.2.2.1.later b,h.2.2.2.later b,n⟩
theorem own_ne {w:World} {B K:Nat} {e t:TypeId} {k n:Nat} {v:Value} {xs:List Value} {cs:Array Value} (h:w.ownsRow B e k v n xs) (hb:Bx w K cs t) (hne:e≠t):∀ j,v.ownBlock=some j->j≠K:=by
 intro j hj hk;subst hk;rcases h.2 with ⟨rfl,_⟩ | ⟨g,cap,cur,rfl,_,hh,_⟩
 ·cases hj
 ·cases hj;have:=hh.symm.trans hb;simp only[Option.some.injEq,Obj.cells.injEq]at this;exact hne this.2.1
theorem hdat_of {w:World} {B Bs:Nat} {ha:Option Addr} {n m hcap:Nat} {hs:List Hd} (h:w.ownsRow B 115 5 (.slice ha n hcap) n (hCs hs)) (hn:n=hs.length) (hm:m<=n) (hb:w.cell? ⟨Bs,0,none⟩=some (.slice ha m hcap)):HdAt w Bs ha m hcap (hs.take m):=by
 refine⟨hb,by rw[List.length_take];omega,fun i hi=> ?_⟩;rcases h.2 with ⟨q,h0⟩ | ⟨g,cap,cur,q,_,hh,h1,h2,h3,h4⟩
 ·omega
 ·simp only[Value.slice.injEq]at q
  have hc:∀ j,j<5->w.cell? ⟨g,i*5+j,none⟩=(hC (hs.getD i hd0))[j]?:=fun j hj=>by
   rw[Lib.cell_of_heap hh]
   have e:cur[i*5+j]?=(cur.toList.take (n*5))[i*5+j]?:=by
    rw[List.getElem?_take_of_lt (by omega)];simp
   rw[e,h4]
   have hd:hCs hs=hCs (hs.take i)++(hC (hs.getD i hd0)++hCs (hs.drop (i+1))):=by
    have e1:hs=hs.take i++(hs.getD i hd0::hs.drop (i+1)):=by
     rw[List.getD_eq_getElem?_getD,List.getElem?_eq_getElem (show i<hs.length by omega),Option.getD_some,<-List.drop_eq_getElem_cons,List.take_append_drop]
    conv=>lhs;rw[e1]
    unfold hCs;rw[List.flatMap_append,List.flatMap_cons]
   have hl:(hCs (hs.take i)).length=i*5:=by rw[hCs_len,List.length_take];congr 1;omega
   rw[hd,List.getElem?_append_right (by omega),hl,List.getElem?_append_left (by show i*5+j-i*5<5;omega)];congr 1;omega
  have hg:(hs.take m).getD i hd0=hs.getD i hd0:=by rw[List.getD_eq_getElem?_getD,List.getD_eq_getElem?_getD,List.getElem?_take_of_lt hi]
  rw[hg];exact⟨g,q.1,hc 0 (by decide),hc 1 (by decide),hc 2 (by decide),hc 3 (by decide),hc 4 (by decide)⟩
theorem own_set6 {w:World} {B KT KF n:Nat} {v x0 x1 x2 x3 y0 y1:Value} {xs:List Value} (h:w.ownsRow B 115 5 v n xs) (h1:∀ j,v.ownBlock=some j->j≠KT) (h2:∀ j,v.ownBlock=some j->j≠KF):(fill6 w KT KF x0 x1 x2 x3 y0 y1).ownsRow B 115 5 v n xs:=by
 refine⟨h.1,?_⟩;rcases h.2 with q | ⟨g,cap,cur,rfl,hb,hh,r⟩
 ·exact .inl q
 ·have e1:=h1 g rfl;have e2:=h2 g rfl;refine .inr ⟨g,cap,cur,rfl,hb,?_,r⟩;unfold fill6 fill4;rw[Below.heap_setCell _ _ _ _ e2,Below.heap_setCell _ _ _ _ e2,Below.heap_setCell _ _ _ _ e1,Below.heap_setCell _ _ _ _ e1,Below.heap_setCell _ _ _ _ e1,Below.heap_setCell _ _ _ _ e1];exact hh
structure B9 (w w9:World) (K2 K3 KT KF C d B:Nat) (ha:Option Addr) (hn hcap:Nat) (hs:List Hd) (k2:Int) (x2 a2:ByteArray) (ad2:Option Addr) (len2 cap2:Nat) (r:Tf):Prop where
 bl:Below w.heap.size w w9
 b2:Bx w9 K2 zT 26
 b3:Bx w9 K3 #[.int .i64 0,.int .i64 0] 34
 t:Bx w9 KT #[.int .i64 k2,.string x2,.string a2,.slice ad2 len2 cap2] 26
 f:Bx w9 KF #[.int .i64 r.2.1,.int .i64 r.2.2] 34
 tr:TrP C w9 d (.agg #[.int .i64 k2,.string x2,.string a2,.slice ad2 len2 cap2]) r.1
 own:w9.ownsRow B 115 5 (.slice ha hn hcap) hn (hCs hs)
 hT:KT<C
 hC:C<=w9.heap.size
theorem own_max {w:World} {B n:Nat} {v:Value} {xs:List Value} (h:w.ownsRow B 115 5 v n xs):n<=9223372036854775807:=by
 rcases h.2 with ⟨_,h2⟩ | ⟨_,_,_,_,_,_,h4,h5,_⟩
 ·omega
 ·have:maxLen=9223372036854775807:=rfl;omega
theorem grownB {w w':World} (h:Below w.heap.size w w'):w.grownBy w' none:=⟨h.os,h.tape,h.output,h.size,fun k hk _=>h.block k hk⟩
theorem kph_trans {Bs:Nat} {a:Option Addr} {A B C:World} (h:KpH Bs a A B) (k:KpH Bs a B C):KpH Bs a A C:=⟨k.1.trans h.1,fun g e=>(k.2 g e).trans (h.2 g e)⟩
theorem bx_grown {W W':World} {row:Option Nat} {K:Nat} {cs:Array Value} {t:TypeId} (h:Bx W K cs t) (hg:W.grownBy W' row) (hr:∀ r,row=some r->∃ o:Obj,W.heap[r]?=some o/\o.isCells=false):Bx W' K cs t:=by
 refine(hg.block K h.lt (fun e=> ?_)).trans h;obtain⟨o,ho,hc⟩:=hr K e.symm;rw[h]at ho;cases ho;cases hc
def Nrm {α:Type} (I:α->World->Prop) (F:α->Go.Act):Exit->Go.Act->World->Prop
 | .normal,a,w=>∃ p,I p w/\a=F p
 | _,_,_=>False
theorem wp_thenN {α:Type} {P:Program} {cd:Code} {Q:Exit->Go.Act->World->Prop} {a:Go.Act} {w:World} (F:α->Go.Act) (I:α->World->Prop) (h1:cd.wp P (Nrm I F) a w) (h2:∀ p w',I p w'->Q .normal (F p) w'):cd.wp P Q a w :=
 Code.wp_mono (fun e a w h=>by cases e<;>first | exact h.elim | (obtain⟨p,hi,rfl⟩:=h;exact h2 p w hi)) h1
theorem own_slice {w:World} {B:Nat} {e:TypeId} {k n:Nat} {v:Value} {xs:List Value} (h:w.ownsRow B e k v n xs):∃ a c,v=.slice a n c:=by
 rcases h.2 with ⟨rfl,rfl⟩ | ⟨g,cap,_,rfl,_⟩
 ·exact⟨_,_,rfl⟩
 ·exact⟨_,_,rfl⟩
theorem below_bad (d:Nat) (ar:Int) (c:Int) (x:Ln) (z:Int) (pa:Ln) (pt:Int) (a:Option Addr) (len cap:Nat) (rs:List Rw) (w:World) (hR:RowsIn w a len cap rs) (hlr:rs.length<=1048576) (hq:(hds (decide (ar=64)) (rs.length+1) c rs).2.2.1≠0) :
  Calls Tryz.prog 38 #[.int .i64 ar,rV c x z,.agg #[.string (mk pa),.int .i64 pt],.slice a len cap] w fun e w'=>TfD (d+1) (tr0,(hds (decide (ar=64)) (rs.length+1) c rs).2.2) w e w':=by
 obtain⟨q,HQ⟩:∃ q,Hid (q=(hds (decide (ar=64)) (rs.length+1) c rs)):=⟨_,rfl⟩
 have HHD:Hid (∀ w0,Below w.heap.size w w0->Calls Tryz.prog 68 #[.int .i64 ar,.agg #[.int .i64 c,.string (mk x),.int .i64 z,.string (mk pa),.int .i64 pt],.slice a len cap] w0 fun e w'=>HdRes q ((c,x,z),⟨pa,pt⟩) w0 e w'):=fun w0 hb=>by
  rw[HQ.out];exact heads_any ar ((c,x,z),⟨pa,pt⟩) a len cap rs w0 (hR.later hb) hlr
 have N4:Hid (_/\_/\_/\_/\_):=four_bx w #[.int .i64 c,.string (mk x),.int .i64 z] #[.string (mk pa),.int .i64 pt] zT #[.int .i64 0,.int .i64 0] 40 77 26 34;rw[<-HQ.out]at hq |-;clear hR;go_enter Tryz.func38,Tryz.ntmps38;go_wp2_with fail;change Calls _ _ _ ((((w.alloc (.cells #[.int .i64 c,.string (mk x),.int .i64 z] 40)).alloc (.cells #[.string (mk pa),.int .i64 pt] 77)).alloc (.cells zT 26)).alloc (.cells #[.int .i64 0,.int .i64 0] 34)) _;generalize (((w.alloc (.cells #[.int .i64 c,.string (mk x),.int .i64 z] 40)).alloc (.cells #[.string (mk pa),.int .i64 pt] 77)).alloc (.cells zT 26)).alloc (.cells #[.int .i64 0,.int .i64 0] 34)=W at N4 |-;obtain⟨K3,hK3⟩:∃ K,K=w.heap.size+1+1+1:=⟨_,rfl⟩;obtain⟨K2,hK2⟩:∃ K,K=w.heap.size+1+1:=⟨_,rfl⟩;obtain⟨K1,hK1⟩:∃ K,K=w.heap.size+1:=⟨_,rfl⟩;obtain⟨K0,hK0⟩:∃ K,K=w.heap.size:=⟨_,rfl⟩
 have HB:Hid (Below w.heap.size w W/\Bx W K0 #[.int .i64 c,.string (mk x),.int .i64 z] 40/\Bx W K1 #[.string (mk pa),.int .i64 pt] 77/\Bx W K2 zT 26/\Bx W K3 #[.int .i64 0,.int .i64 0] 34):=by
  rw[hK0,hK1,hK2,hK3];exact N4.out
 rw[<-hK3,<-hK2,<-hK1,<-hK0];have hK:w.heap.size<=K0/\K0<K1/\K1<K2/\K2<K3:=by omega
 have hwW:w.heap.size<=W.heap.size:=HB.out.1.size;clear N4 hK0 hK1 hK2 hK3;have HER:Hid (Calls Tryz.prog 68 #[.int .i64 ar,.agg #[.int .i64 c,.string (mk x),.int .i64 z,.string (mk pa),.int .i64 pt],.slice a len cap] W fun e w'=>e=.returned (.tuple #[.slice none 0 0,.slice none 0 0,.agg #[.int .i64 q.2.2.1,.int .i64 q.2.2.2]])/\Below W.heap.size W w'):=(HHD.out W HB.out.1).mono (fun e w' h=>⟨h.1 hq,h.2.2⟩);clear HHD HQ;obtain⟨q1,q2,qy,qz⟩:=q;replace hq:(qy != 0)=true:=by simpa using hq
 refine HER.out.mono ?_;rintro e w1 ⟨rfl,H1⟩
 have H2:Hid (∀ w2,w2=w1.alloc (.cells #[.int .i64 qy,.int .i64 qz] 34)->Below w.heap.size w w2/\Bx w2 K2 zT 26/\Bx w2 K3 #[.int .i64 0,.int .i64 0] 34/\Bx w2 w1.heap.size #[.int .i64 qy,.int .i64 qz] 34/\K3<w1.heap.size):=fun w2 e=>by
  subst e;have b:=H1.trans ((below_alloc w1 (.cells #[.int .i64 qy,.int .i64 qz] 34)).mono H1.size);exact⟨HB.out.1.trans (b.mono HB.out.1.size),HB.out.2.2.2.1.later b,HB.out.2.2.2.2.later b,Bx.new _ _ _,Nat.lt_of_lt_of_le HB.out.2.2.2.2.lt H1.size⟩
 clear H1 HB HER;go_upto_region 3 with fail
 have N2:=H2.out _ rfl;clear H2;generalize w1.alloc (.cells #[.int .i64 qy,.int .i64 qz] 34)=w2 at N2 |-;generalize w1.heap.size=KF at N2 |-;have HS:Hid (_/\_/\_/\_/\_):=N2;clear N2;obtain⟨i0,i1⟩:=HS.out.2.2.2.1.c2;obtain⟨d0,d1,d2,d3,d4,d5,z0,z1,z2,z3,z4,z5⟩:=c6_of HS.out.2.1 HS.out.2.2.1;have hn23:K2≠K3:=by omega
 have hn32:K3≠K2:=by omega
 have hn2:K2≠KF:=by have:=HS.out.2.2.2.2;omega
 have hn3:K3≠KF:=by have:=HS.out.2.2.2.2;omega
 have hn4:KF≠K2:=fun e=>hn2 e.symm
 have hn5:KF≠K3:=fun e=>hn3 e.symm
 have HF:Hid (_/\_/\_):=fill6_is HS.out.2.1 HS.out.2.2.1 hn23 HS.out.1 (by omega) (by omega) (.int .i64 0) (.string ⟨#[]⟩) (.string ⟨#[]⟩) (.slice none 0 0) (.int .i64 qy) (.int .i64 qz);clear HS;go_region
 all_goals
  go_wp2;change bodyPost _ _ _ _ _ (fill6 w2 K2 K3 (.int .i64 0) (.string ⟨#[]⟩) (.string ⟨#[]⟩) (.slice none 0 0) (.int .i64 qy) (.int .i64 qz)).drew;generalize fill6 w2 K2 K3 (.int .i64 0) (.string ⟨#[]⟩) (.string ⟨#[]⟩) (.slice none 0 0) (.int .i64 qy) (.int .i64 qz)=WF at HF |-;have j0:WF.drew.cell? ⟨K2,0,none⟩=_:=HF.out.2.1.cell 0;have j1:WF.drew.cell? ⟨K2,1,none⟩=_:=HF.out.2.1.cell 1;have j2:WF.drew.cell? ⟨K2,2,none⟩=_:=HF.out.2.1.cell 2;have j3:WF.drew.cell? ⟨K2,3,none⟩=_:=HF.out.2.1.cell 3;have j4:WF.drew.cell? ⟨K3,0,none⟩=_:=HF.out.2.2.cell 0;have j5:WF.drew.cell? ⟨K3,1,none⟩=_:=HF.out.2.2.cell 1;refine bodyPost_ret (v:=.tuple #[.agg #[.int .i64 0,.string ⟨#[]⟩,.string ⟨#[]⟩,.slice none 0 0],.agg #[.int .i64 qy,.int .i64 qz]]) (by simp[results,Tryz.results38,go_sem,j0,j1,j2,j3,j4,j5]) rfl ?_;exact⟨_,rfl,TrP.leaf 0 [] [] (by decide) (by decide) (by decide) d,HF.out.1.drew⟩
end Tre
end Go.Proofs.YtommfbbpomfnfaaGreatDoor
