/- . -/
import Derived.Test.YtidhpmcmbooaoaaGreatDoorR38FlowAllow
import Derived.Maps.AppendAt
import Derived.RangeFuncNested
import Derived.RangeFuncBound
import Derived.RangeFuncBox
import Derived.RangeFuncCalls
import Derived.RangeFuncLeaves
import Derived.Shelf.Abstract
import Derived.Shelf.RegionOpen
import Derived.WalkKit
import Derived.OwnWalkIn
import Derived.TacticsInMore
import Derived.LoopNIn
import Derived.LoopIn
import Derived.Test.YtidhpmcmbooaoaaGreatDoorR05FlowMem
import Derived.Deep.RegionWith
set_option linter.unusedSimpArgs false
set_option linter.unusedVariables false
set_option maxRecDepth 100000
namespace Go.Proofs.YtidhpmcmbooaoaaGreatDoor
namespace Tre
open Utf Rws Pln Flw
open Go.RowKit
open Blk (Rw RwAt z3)
set_option maxHeartbeats 4000000
abbrev hV (h:Hd):Value:=.agg #[.int .i64 h.1.1,.string (mk h.1.2.1),.int .i64 h.1.2.2,.string (mk h.2.anc),.int .i64 h.2.tag]
def hC (h:Hd):List Value:=[.int .i64 h.1.1,.string (mk h.1.2.1),.int .i64 h.1.2.2,.string (mk h.2.anc),.int .i64 h.2.tag]
def hCs (hs:List Hd):List Value:=hs.flatMap hC
theorem hCs_snoc (hs:List Hd) (h:Hd):hCs (hs++[h])=hCs hs++hC h:=by simp[hCs]
theorem hCs_len (hs:List Hd):(hCs hs).length=hs.length*5:=by
 unfold hCs
 induction hs with
 | nil=>rfl
 | cons h t ih=>rw[List.flatMap_cons,List.length_append,ih,List.length_cons];show 5+_=_;omega
def slL:Value->Nat
 | .slice _ n _=>n
 | _=>0
theorem infoHead:(Tryz.prog.info? 62).map (fun i=>(i.zero,i.size,i.bytes))=some (some (.agg #[.int .i64 0,.string ⟨#[]⟩,.int .i64 0,.string ⟨#[]⟩,.int .i64 0]),5,56):=by kernel_rfl
def hdl (dp:Bool) (n:Nat) (c:Int) (rs:List Rw):List Hd × List Rw × Int × Int:=match rs with
  | []=>([],[],0,0)
  | r::rest=>if r.1<c then ([],[],9,r.2.2)else
   if (!noth (CP ⟨[],0⟩ r.2.1).2 || dp)=true then ([],r::rest,0,0)else
   ((r,(CP ⟨[],0⟩ r.2.1).1)::(hds dp n r.1 rest).1,(hds dp n r.1 rest).2)
theorem hds_hdl (dp:Bool) (n:Nat) (c:Int) (rs:List Rw):hds dp (n+1) c rs=hdl dp n c (cnt rs):=rfl
def ahd (hs:List Hd) (q:List Hd × List Rw × Int × Int):List Hd × List Rw × Int × Int:=(hs++q.1,q.2)
def HdRes (q:List Hd × List Rw × Int × Int) (h:Hd) (w:World) (e:Ending) (w':World):Prop :=
 (q.2.2.1≠0->e=.returned (.tuple #[.slice none 0 0,.slice none 0 0,fV q.2.2.1 q.2.2.2])) /\
 (q.2.2.1=0->∃ v a len cap,e=.returned (.tuple #[v,.slice a len cap,fV 0 0])/\w'.ownsRow w.heap.size 62 5 v (h::q.1).length (hCs (h::q.1))/\RowsA w a len cap q.2.1)/\Below w.heap.size w w'
structure Hs (w0 w:World) (K0 K1 C:Nat) (lh:Hd) (v:Value) (hs:List Hd):Prop where
 bl:Below w0.heap.size w0 w
 k0:Bx w K0 (hC lh).toArray 62
 k1:Bx w K1 zF 33
 own:w.ownsRow C 62 5 v hs.length (hCs hs)
 h0:w0.heap.size<=K0
 h1:K0<K1
 h2:K1<C
 hc:C<=w.heap.size
variable {w0 w w1:World} {K0 K1 C:Nat} {lh:Hd} {v:Value} {hs:List Hd}
theorem ownH_keep {n:Nat} {xs:List Value} (h:w.ownsRow C 62 5 v n xs) (hk:∀ j,C<=j->j<w.heap.size->w1.heap[j]?=w.heap[j]?):w1.ownsRow C 62 5 v n xs:=by
 refine⟨h.1,?_⟩;rcases h.2 with q | ⟨g,cap,cur,q,hb,hh,r⟩
 ·exact .inl q
 ·exact .inr ⟨g,cap,cur,q,hb,(hk g hb (Array.getElem?_eq_some_iff.1 hh).1).trans hh,r⟩
theorem ownH_down {C' n:Nat} {xs:List Value} (h:w.ownsRow C 62 5 v n xs) (hC:C'<=C):w.ownsRow C' 62 5 v n xs:=by
 refine⟨h.1,?_⟩;rcases h.2 with q | ⟨g,cap,cur,q,hb,r⟩
 ·exact .inl q
 ·exact .inr ⟨g,cap,cur,q,Nat.le_trans hC hb,r⟩
theorem ownH_blk {n:Nat} {xs:List Value} (h:w.ownsRow C 62 5 v n xs) {k:Nat} (hk:v.ownBlock=some k):C<=k/\k<w.heap.size:=by
 rcases h.2 with ⟨rfl,_⟩ | ⟨g,cap,cur,rfl,hb,hh,_⟩
 ·cases hk
 ·cases hk;exact⟨hb,(Array.getElem?_eq_some_iff.1 hh).1⟩
theorem Hs.later (h:Hs w0 w K0 K1 C lh v hs) (hb:Below w.heap.size w w1):Hs w0 w1 K0 K1 C lh v hs :=
 ⟨h.bl.trans (hb.mono h.bl.size),h.k0.later hb,h.k1.later hb,ownH_keep h.own (fun j _ hj=>hb.block j hj),h.h0,h.h1,h.h2,Nat.le_trans h.hc hb.size⟩
theorem hs_set5 (h:Hs w0 w K0 K1 C lh v hs) (l2:Hd):Hs w0 (((((w.setCell ⟨K0,0,none⟩ (.int .i64 l2.1.1)).setCell ⟨K0,1,none⟩ (.string (mk l2.1.2.1))).setCell ⟨K0,2,none⟩ (.int .i64 l2.1.2.2)).setCell ⟨K0,3,none⟩ (.string (mk l2.2.anc))).setCell ⟨K0,4,none⟩ (.int .i64 l2.2.tag)) K0 K1 C l2 v hs:=by
 have h0:=h.h0;have h1:=h.h1;have h2:=h.h2;have hn:K1≠K0:=by omega
 refine⟨((((h.bl.setCell (by simpa using h0) _).setCell (by simpa using h0) _).setCell (by simpa using h0) _).setCell (by simpa using h0) _).setCell (by simpa using h0) _,((((h.k0.set 0 _).set 1 _).set 2 _).set 3 _).set 4 _,((((h.k1.other hn _ _).other hn _ _).other hn _ _).other hn _ _).other hn _ _,?_,h0,h1,h2,?_⟩
 ·refine ownH_keep h.own (fun j hj _=> ?_);have e:j≠K0:=by omega
  rw[Below.heap_setCell _ _ _ _ e,Below.heap_setCell _ _ _ _ e,Below.heap_setCell _ _ _ _ e,Below.heap_setCell _ _ _ _ e,Below.heap_setCell _ _ _ _ e]
 ·simp only[World.size_setCell];exact h.hc
theorem hs_more (h:Hs w0 w K0 K1 C lh v hs) {v':Value} {l2:Hd} (hown:w1.ownsRow C 62 5 v' (hs.length+1) (hCs hs++hC l2)) (hg:w.grownBy w1 v.ownBlock):Hs w0 w1 K0 K1 C lh v' (hs++[l2]):=by
 have h0:=h.h0;have h1:=h.h1;have h2:=h.h2;have hrow:∀ k,v.ownBlock=some k->C<=k:=fun k hk=>(ownH_blk h.own hk).1
 have hkeep:∀ j,j<w.heap.size->(∀ k,v.ownBlock=some k->j≠k)->w1.heap[j]?=w.heap[j]?:=fun j hj hne=>hg.block j hj (fun e=>hne j e.symm rfl)
 have hlt0:=h.k0.lt;have hlt1:=h.k1.lt
 refine⟨⟨hg.os.trans h.bl.os,hg.tape.trans h.bl.tape,hg.output.trans h.bl.output,Nat.le_trans h.bl.size hg.size,fun j hj=>(hkeep j (by have:=h.bl.size;omega) (fun k hk=>by have:=hrow k hk;omega)).trans (h.bl.block j hj)⟩,
  (hkeep K0 hlt0 (fun k hk=>by have:=hrow k hk;omega)).trans h.k0,(hkeep K1 hlt1 (fun k hk=>by have:=hrow k hk;omega)).trans h.k1,?_,h0,h1,h2,Nat.le_trans h.hc hg.size⟩
 rw[List.length_append,List.length_singleton,hCs_snoc];exact hown
theorem hs_out (h:Hs w0 w K0 K1 C lh v hs) (x y:Value):Below w0.heap.size w0 ((w.setCell ⟨K1,0,none⟩ x).setCell ⟨K1,1,none⟩ y)/\Bx ((w.setCell ⟨K1,0,none⟩ x).setCell ⟨K1,1,none⟩ y) K1 #[x,y] 33 /\
  ((w.setCell ⟨K1,0,none⟩ x).setCell ⟨K1,1,none⟩ y).ownsRow w0.heap.size 62 5 v hs.length (hCs hs):=by
 have h0:=h.h0;have h1:=h.h1;have h2:=h.h2;have hw:w0.heap.size<=K1:=by omega
 have hk:∀ j,C<=j->j<w.heap.size->((w.setCell ⟨K1,0,none⟩ x).setCell ⟨K1,1,none⟩ y).heap[j]?=w.heap[j]?:=fun j hj _=>by
  rw[Below.heap_setCell _ _ _ _ (fun e=>by simp only at e;omega),Below.heap_setCell _ _ _ _ (fun e=>by simp only at e;omega)]
 exact⟨(h.bl.setCell (p:=⟨K1,0,none⟩) hw _).setCell (p:=⟨K1,1,none⟩) hw _,(h.k1.set 0 _).set 1 _,ownH_down (ownH_keep h.own hk) (by omega)⟩
theorem hs_new (w:World) (h:Hd):Hs w (((w.alloc (.cells (hC h).toArray 62)).alloc (.cells #[.int .i64 0,.int .i64 0] 33)).alloc (.cells (hC h).toArray 62)) w.heap.size (w.heap.size+1) (w.heap.size+1+1) h (.slice (some ⟨w.heap.size+1+1,0,none⟩) 1 1) [h]:=by
 have N3:=three_new w (hC h).toArray #[.int .i64 0,.int .i64 0] (hC h).toArray 62 33 62;refine⟨N3.1,N3.2.1,N3.2.2.1,⟨rfl,.inr ⟨w.heap.size+1+1,1,(hC h).toArray,rfl,Nat.le_refl _,N3.2.2.2,Nat.le_refl _,by decide,rfl,rfl⟩⟩,Nat.le_refl _,by omega,by omega,?_⟩;simp only[World.size_alloc];omega
theorem hC_one (h:Hd):∀ u∈hC h,u.oneCell'=true:=by
 intro u hu;unfold hC at hu;simp only[List.mem_cons,List.not_mem_nil,or_false]at hu;rcases hu with rfl | rfl | rfl | rfl | rfl<;>rfl
theorem hds_ahd {R:List Hd × List Rw × Int × Int} {hs:List Hd} {dp:Bool} {k:Nat} {c:Int} {r:Rw} {rest:List Rw} (hR:R=ahd hs (hdl dp k c (r::rest))) (h1: ¬ r.1<c) (h2: ¬ (!noth (CP ⟨[],0⟩ r.2.1).2 || dp)=true) (k':Nat) (hk:k=k'+1) :
  R=ahd (hs++[(r,(CP ⟨[],0⟩ r.2.1).1)]) (hdl dp k' r.1 (cnt rest)):=by
 subst hk;rw[hR];unfold ahd hdl;simp only;rw[if_neg h1,if_neg h2,hds_hdl];simp only[List.append_assoc,List.singleton_append];rfl
theorem heads_any (ar:Int) (h:Hd) (a:Option Addr) (len cap:Nat) (rs:List Rw) (w:World) (hR:RowsIn w a len cap rs) (hlr:rs.length<=1048576) :
  Calls Tryz.prog 18 #[.int .i64 ar,hV h,.slice a len cap] w fun e w'=>HdRes (hds (decide (ar=64)) (rs.length+1) h.1.1 rs) h w e w':=by
 obtain⟨R,HR0⟩:∃ R,Hid (R=hds (decide (ar=64)) (rs.length+1) h.1.1 rs):=⟨_,rfl⟩;rw[<-HR0.out];obtain⟨it,hi,hz0,hz1,hz2⟩:=info_parts infoHead;have HRA:Hid (RowsIn w a len cap rs):=hR;clear hR;have HN:Hid (Hs _ _ _ _ _ _ _ _):=hs_new w h;unfold hC at HN;have HR1:Hid (R=ahd [] (hdl (decide (ar=64)) rs.length h.1.1 (cnt rs))):=HR0.out;have hcl:=cnt_len rs;clear HR0;go_enter Tryz.func18,Tryz.ntmps18;go_wp2_with fail;change Calls _ _ _ (((w.alloc (.cells #[.int .i64 h.1.1,.string (mk h.1.2.1),.int .i64 h.1.2.2,.string (mk h.2.anc),.int .i64 h.2.tag] 62)).alloc (.cells #[.int .i64 0,.int .i64 0] 33)).alloc (.cells #[.int .i64 h.1.1,.string (mk h.1.2.1),.int .i64 h.1.2.2,.string (mk h.2.anc),.int .i64 h.2.tag] 62)) _;generalize ((w.alloc (.cells #[.int .i64 h.1.1,.string (mk h.1.2.1),.int .i64 h.1.2.2,.string (mk h.2.anc),.int .i64 h.2.tag] 62)).alloc (.cells #[.int .i64 0,.int .i64 0] 33)).alloc (.cells #[.int .i64 h.1.1,.string (mk h.1.2.1),.int .i64 h.1.2.2,.string (mk h.2.anc),.int .i64 h.2.tag] 62)=W at HN |-;generalize w.heap.size+1+1=C at *;generalize w.heap.size+1=K1 at *;obtain⟨K0,hK0⟩:∃ K,K=w.heap.size:=⟨_,rfl⟩;rw[<-hK0]
 have HS:Hid (Hs w W K0 K1 C h (.slice (some ⟨C,0,none⟩) 1 1) [h]):=by
  rw[hK0];exact HN.out
 clear hK0 HN;refine(counted0_any a len cap rs w W HRA.out HS.out.bl).mono ?_;rintro e w1 ⟨⟨a1,len1,cap1,rfl,hra1⟩,hb1⟩;have HS1:Hid (Hs w w1 K0 K1 C h (.slice (some ⟨C,0,none⟩) 1 1) [h]):=HS.out.later hb1;have HA1:Hid (RowsA w a1 len1 cap1 (cnt rs)):=hra1;clear HS hb1 HRA hra1;go_wp2_with fail
 go_loopw [2,9] (fun u2 u9 wr=>∃ (k:Nat) (hs:List Hd) (lh:Hd) (a':Option Addr) (len' cap':Nat) (rs':List Rw),u2=.slice a' len' cap'/\Hid (RowsA w a' len' cap' rs')/\rs'.length<=k/\hs.length+rs'.length<=rs.length/\Hid (Hs w wr K0 K1 C lh u9 (h::hs))/\Hid (R=ahd hs (hdl (decide (ar=64)) k lh.1.1 rs'))) (fun u2 _ _=>slL u2)
 case atStart=>exact⟨rs.length,[],h,a1,len1,cap1,cnt rs,rfl,HA1,hcl,by simpa using hcl,HS1,HR1⟩
 case round =>
  obtain⟨k,hs,lh,a',len',cap',rs',rfl,HA,hk,hlen,HH,HRR⟩:=hrel;clear HA1 HS1 HR1
  cases rs' with
  | nil =>
   have e0:len'=0:=by have:=HA.out.len;simpa using this
   subst e0;have HV:Hid (R=(hs,[],0,0)):=by show R=_;rw[HRR.out];unfold ahd hdl;simp
   obtain⟨y0,y1⟩:=HH.out.k1.c2;have v0:=HH.out.k1.fz 0;have v1:=HH.out.k1.fz 1;clear HRR;go_wp2;have HO:Hid (_/\_/\_):=hs_out HH.out (.int .i64 0) (.int .i64 0);generalize (wr.setCell ⟨K1,0,none⟩ (.int .i64 0)).setCell ⟨K1,1,none⟩ (.int .i64 0)=WF at HO |-;have j0:WF.cell? ⟨K1,0,none⟩=_:=HO.out.2.1.cell 0;have j1:WF.cell? ⟨K1,1,none⟩=_:=HO.out.2.1.cell 1;refine bodyPost_ret (v:=.tuple #[u9,.slice a' 0 cap',.agg #[.int .i64 0,.int .i64 0]]) (by simp[results,Tryz.results18,go_sem,j0,j1]) rfl ?_;rw[HV.out];exact⟨fun h=>absurd rfl h,fun _=>⟨u9,_,_,_,rfl,HO.out.2.2,HA.out⟩,HO.out.1⟩
  | cons r rest =>
   obtain⟨rc,rt,rz⟩:=r;have el:Hid (len'=rest.length+1):=by show len'=_;have:=HA.out.len;simpa using this
   have hpos:0<len':=by have:=el.out;omega
   have hlc:len'<=cap':=HA.out.1.2.1;have hcm:cap'<=9223372036854775807:=HA.out.1.2.2.1;obtain⟨b,off,had,hbw,hcell⟩:=HA.out.1.1.2 hpos;obtain⟨x0,x1,x2⟩:=hcell 0 hpos;subst had;have hrt:rt.length<=140737488351232:=HA.out.1.2.2.2 (rc,rt,rz) (by simp);replace x0:wr.cell? ⟨b,off,none⟩=some (.int .i64 rc):=by have:=(HH.out.bl.cell (p:=⟨b,off+0*3,none⟩) hbw).trans x0;simpa using this
   replace x1:wr.cell? ⟨b,off+1,none⟩=some (.string (mk rt)):=by have:=(HH.out.bl.cell (p:=⟨b,off+0*3+1,none⟩) hbw).trans x1;simpa using this
   replace x2:wr.cell? ⟨b,off+2,none⟩=some (.int .i64 rz):=by have:=(HH.out.bl.cell (p:=⟨b,off+0*3+2,none⟩) hbw).trans x2;simpa using this
   clear hcell
   have HB2:Hid (∀ w2,w2=wr.alloc (.cells #[.int .i64 rc,.string (mk rt),.int .i64 rz] 45)->Hs w w2 K0 K1 C lh u9 (h::hs)/\Bx w2 wr.heap.size #[.int .i64 rc,.string (mk rt),.int .i64 rz] 45):=fun w2 e=>by
    subst e;exact⟨HH.out.later (below_alloc _ _),Bx.new _ _ _⟩
   have hpl:((len':Int)>0):=by omega
   go_upto_region 6 with fail
   have N2:=HB2.out _ rfl;clear HB2 x0 x1 x2;generalize wr.alloc (.cells #[.int .i64 rc,.string (mk rt),.int .i64 rz] 45)=w2 at N2 |-;generalize wr.heap.size=KR at N2 |-;have HH2:Hid (Hs w w2 K0 K1 C lh u9 (h::hs)):=N2.1;have HK2:Hid (Bx w2 KR #[.int .i64 rc,.string (mk rt),.int .i64 rz] 45):=N2.2;clear N2 HH;obtain⟨r0,r1,r2⟩:=HK2.out.c3;have l0:w2.cell? ⟨K0,0,none⟩=some (.int .i64 lh.1.1):=HH2.out.k0.cell 0;by_cases hlt:rc<lh.1.1
   ·have HV:Hid (R=(hs,[],9,rz)):=by show R=_;rw[HRR.out];unfold ahd hdl;simp[hlt]
    obtain⟨y0,y1⟩:=HH2.out.k1.c2;have v0:=HH2.out.k1.fz 0;have v1:=HH2.out.k1.fz 1;have HFO:Hid (Calls Tryz.prog 31 #[.int .i64 9,rV rc rt rz] w2 fun e w'=>e=.returned (fV 9 rz)/\Below w2.heap.size w2 w'):=faultOf_any 9 rc rt rz w2;clear HRR;go_wp2_with fail;refine HFO.out.mono ?_;rintro e w3 ⟨rfl,H3⟩;have HH3:Hid (Hs w w3 K0 K1 C lh u9 (h::hs)):=HH2.out.later H3;clear y0 y1 v0 v1 r0 r1 r2 l0 HH2 HK2 H3 HFO;obtain⟨y0,y1⟩:=HH3.out.k1.c2;have v0:=HH3.out.k1.fz 0;have v1:=HH3.out.k1.fz 1;go_wp2;have HO:Hid (_/\_/\_):=hs_out HH3.out (.int .i64 9) (.int .i64 rz);generalize (w3.setCell ⟨K1,0,none⟩ (.int .i64 9)).setCell ⟨K1,1,none⟩ (.int .i64 rz)=WF at HO |-;have j0:WF.cell? ⟨K1,0,none⟩=_:=HO.out.2.1.cell 0;have j1:WF.cell? ⟨K1,1,none⟩=_:=HO.out.2.1.cell 1;refine bodyPost_ret (v:=.tuple #[.slice none 0 0,.slice none 0 0,.agg #[.int .i64 9,.int .i64 rz]]) (by simp[results,Tryz.results18,go_sem,j0,j1]) rfl ?_;rw[HV.out];exact⟨fun _=>rfl,fun h=>absurd h (show ¬ (9:Int)=0 by decide),HO.out.1⟩
   have hltb:decide (rc<lh.1.1)=false:=decide_eq_false hlt;obtain⟨pa,pt,lf,hcp⟩:∃ pa pt lf,CP ⟨[],0⟩ rt=(⟨pa,pt⟩,lf):=⟨_,_,_,rfl⟩;have HCP:Hid (CP ⟨[],0⟩ rt=(⟨pa,pt⟩,lf)):=hcp;clear hcp;have hlf:lf.length<=140737488351232:=by have:=CP_len ⟨[],0⟩ rt;rw[HCP.out]at this;exact Nat.le_trans this hrt
   have HCU:Hid (Calls Tryz.prog 32 #[.string (mk rt)] w2 fun e w'=>e=.returned (.tuple #[.agg #[.string (mk pa),.int .i64 pt],.string (mk lf)])/\Below w2.heap.size w2 w'):=by
    have h:=cutProperties_any rt w2 (by omega);rw[HCP.out]at h;exact h
   go_wp2_with fail;refine HCU.out.mono ?_;rintro e w3 ⟨rfl,H3⟩
   have HB4:Hid (∀ w4,w4=w3.alloc (.cells #[.string (mk pa),.int .i64 pt] 49)->Hs w w4 K0 K1 C lh u9 (h::hs)/\Bx w4 KR #[.int .i64 rc,.string (mk rt),.int .i64 rz] 45/\Bx w4 w3.heap.size #[.string (mk pa),.int .i64 pt] 49):=fun w4 e=>by
    subst e;have b:=H3.trans ((below_alloc w3 (.cells #[.string (mk pa),.int .i64 pt] 49)).mono H3.size);exact⟨HH2.out.later b,HK2.out.later b,Bx.new _ _ _⟩
   clear r0 r1 r2 l0 HCU;go_upto_region 9 with fail
   have N4:=HB4.out _ rfl;clear HB4 HH2 HK2 H3;generalize w3.alloc (.cells #[.string (mk pa),.int .i64 pt] 49)=w4 at N4 |-;generalize w3.heap.size=KP at N4 |-;have HH4:Hid (Hs w w4 K0 K1 C lh u9 (h::hs)):=N4.1;have HK4:Hid (Bx w4 KR #[.int .i64 rc,.string (mk rt),.int .i64 rz] 45):=N4.2.1;have HP4:Hid (Bx w4 KP #[.string (mk pa),.int .i64 pt] 49):=N4.2.2;clear N4;have HIE:Hid (∀ w0,Calls Tryz.prog 33 #[.string (mk lf)] w0 fun e w'=>e=.returned (.bool (noth lf))/\w0=w'):=fun w0=>isEmpty_any lf w0 (by omega)
   cases hno:noth lf
   ·have harD:True:=trivial;have HV:Hid (R=(hs,(rc,rt,rz)::rest,0,0)):=by show R=_;rw[HRR.out];unfold ahd hdl;simp only;rw[if_neg (show ¬ rc<lh.1.1 by omega),if_pos (by rw[HCP.out];simp[hno,harD])];simp
    clear HRR;rw[hno]at HIE;obtain⟨y0,y1⟩:=HH4.out.k1.c2;have v0:=HH4.out.k1.fz 0;have v1:=HH4.out.k1.fz 1;go_wp2_with (go_at_call 33;refine(HIE.out _).mono ?_;rintro e w' ⟨rfl,rfl⟩);have HO:Hid (_/\_/\_):=hs_out HH4.out (.int .i64 0) (.int .i64 0);generalize (w4.setCell ⟨K1,0,none⟩ (.int .i64 0)).setCell ⟨K1,1,none⟩ (.int .i64 0)=WF at HO |-;have j0:WF.cell? ⟨K1,0,none⟩=_:=HO.out.2.1.cell 0;have j1:WF.cell? ⟨K1,1,none⟩=_:=HO.out.2.1.cell 1;refine bodyPost_ret (v:=.tuple #[u9,.slice (some ⟨b,off,none⟩) len' cap',.agg #[.int .i64 0,.int .i64 0]]) (by simp[results,Tryz.results18,go_sem,j0,j1]) rfl ?_;rw[HV.out];exact⟨fun h=>absurd rfl h,fun _=>⟨u9,_,_,_,rfl,HO.out.2.2,HA.out⟩,HO.out.1⟩
   by_cases har:ar=64
   ·have harD:=har;have harb:(ar==64)=true:=by rw[har];rfl
    have HV:Hid (R=(hs,(rc,rt,rz)::rest,0,0)):=by show R=_;rw[HRR.out];unfold ahd hdl;simp only;rw[if_neg (show ¬ rc<lh.1.1 by omega),if_pos (by rw[HCP.out];simp[hno,harD])];simp
    clear HRR;rw[hno]at HIE;obtain⟨y0,y1⟩:=HH4.out.k1.c2;have v0:=HH4.out.k1.fz 0;have v1:=HH4.out.k1.fz 1;go_wp2_with (go_at_call 33;refine(HIE.out _).mono ?_;rintro e w' ⟨rfl,rfl⟩);have HO:Hid (_/\_/\_):=hs_out HH4.out (.int .i64 0) (.int .i64 0);generalize (w4.setCell ⟨K1,0,none⟩ (.int .i64 0)).setCell ⟨K1,1,none⟩ (.int .i64 0)=WF at HO |-;have j0:WF.cell? ⟨K1,0,none⟩=_:=HO.out.2.1.cell 0;have j1:WF.cell? ⟨K1,1,none⟩=_:=HO.out.2.1.cell 1;refine bodyPost_ret (v:=.tuple #[u9,.slice (some ⟨b,off,none⟩) len' cap',.agg #[.int .i64 0,.int .i64 0]]) (by simp[results,Tryz.results18,go_sem,j0,j1]) rfl ?_;rw[HV.out];exact⟨fun h=>absurd rfl h,fun _=>⟨u9,_,_,_,rfl,HO.out.2.2,HA.out⟩,HO.out.1⟩
   have harb:(ar==64)=false:=by rw[beq_eq_false_iff_ne];exact har
   rw[hno]at HIE;have hk1:rest.length+1<=k:=by simpa using hk
   have hl1:hs.length+(rest.length+1)<=rs.length:=by simpa using hlen
   obtain⟨k',hk'⟩:∃ k',k=k'+1:=⟨k-1,by omega⟩
   have HRN:Hid (R=ahd (hs++[((rc,rt,rz),⟨pa,pt⟩)]) (hdl (decide (ar=64)) k' rc (cnt rest))):=by
    have h:=hds_ahd (r:=(rc,rt,rz)) HRR.out (show ¬ rc<lh.1.1 by omega) (by rw[show (CP ⟨[],0⟩ (rc,rt,rz).2.1)=(⟨pa,pt⟩,lf)from HCP.out];simp[hno,har]) k' hk';rw[show (CP ⟨[],0⟩ (rc,rt,rz).2.1)=(⟨pa,pt⟩,lf)from HCP.out]at h;exact h
   have hkr:rest.length<=k':=by omega
   have hln:hs.length+1+rest.length<=rs.length:=by omega
   have HTL:Hid (RowsA w (some (if cap'=1 then ⟨b,off,none⟩else ⟨b,off+3,none⟩)) (len'-1) (cap'-1) rest):=HA.out.drop 1 hpos;clear HRR HCP hk hlen hk1 hl1 hk' har hno hltb hlt HA;obtain⟨l0,l1,l2,l3,l4⟩:=HH4.out.k0.c5;have m0:=HH4.out.k0.fz 0;have m1:=HH4.out.k0.fz 1;have m2:=HH4.out.k0.fz 2;have m3:=HH4.out.k0.fz 3;have m4:=HH4.out.k0.fz 4;obtain⟨r0,r1,r2⟩:=HK4.out.c3;obtain⟨q0,q1⟩:=HP4.out.c2;have HH5:Hid (Hs _ _ _ _ _ _ _ _):=hs_set5 HH4.out ((rc,rt,rz),⟨pa,pt⟩);go_wp2_with fail;refine(HIE.out _).mono ?_;rintro e w' ⟨rfl,rfl⟩;go_upto_region 11 with fail
   change Code.wp _ _ _ _ (((((w4.setCell ⟨K0,0,none⟩ (.int .i64 rc)).setCell ⟨K0,1,none⟩ (.string (mk rt))).setCell ⟨K0,2,none⟩ (.int .i64 rz)).setCell ⟨K0,3,none⟩ (.string (mk pa))).setCell ⟨K0,4,none⟩ (.int .i64 pt));have HH6:Hid (Hs w (((((w4.setCell ⟨K0,0,none⟩ (.int .i64 rc)).setCell ⟨K0,1,none⟩ (.string (mk rt))).setCell ⟨K0,2,none⟩ (.int .i64 rz)).setCell ⟨K0,3,none⟩ (.string (mk pa))).setCell ⟨K0,4,none⟩ (.int .i64 pt)) K0 K1 C ((rc,rt,rz),⟨pa,pt⟩) u9 (h::hs)):=HH5.out;clear HH5 HH4 HK4 HP4 l0 l1 l2 l3 l4 m0 m1 m2 m3 m4 r0 r1 r2 q0 q1 HIE;generalize ((((w4.setCell ⟨K0,0,none⟩ (.int .i64 rc)).setCell ⟨K0,1,none⟩ (.string (mk rt))).setCell ⟨K0,2,none⟩ (.int .i64 rz)).setCell ⟨K0,3,none⟩ (.string (mk pa))).setCell ⟨K0,4,none⟩ (.int .i64 pt)=w5 at HH6 |-;obtain⟨l0,l1,l2,l3,l4⟩:=HH6.out.k0.c5;have HH7:Hid (Hs w (w5.alloc (.cells #[.int .i64 rc,.string (mk rt),.int .i64 rz,.string (mk pa),.int .i64 pt] 62)) K0 K1 C ((rc,rt,rz),⟨pa,pt⟩) u9 (h::hs)):=HH6.out.later (below_alloc _ _);have HX7:Hid (Bx (w5.alloc (.cells #[.int .i64 rc,.string (mk rt),.int .i64 rz,.string (mk pa),.int .i64 pt] 62)) w5.heap.size #[.int .i64 rc,.string (mk rt),.int .i64 rz,.string (mk pa),.int .i64 pt] 62):=Bx.new _ _ _;have hhl:(h::hs).length=hs.length+1:=rfl;have hml:(h::hs).length+1<=maxLen:=by unfold maxLen;omega
   have hbs:((h::hs).length+1)*56<=140737488355328:=by omega
   clear hhl;go_wp2_with (at_builtin;refine wpList_append_own_at _ rfl _ _ 58 rfl C 62 it (.agg #[.int .i64 0,.string ⟨#[]⟩,.int .i64 0,.string ⟨#[]⟩,.int .i64 0]) 5 56 Tryz.underlying58 hi hz0 hz1 hz2 rfl (by decide) u9 (h::hs).length (hCs (h::hs)) rfl HH7.out.own ⟨w5.heap.size,0,none⟩ 1 1 (hC ((rc,rt,rz),⟨pa,pt⟩)) rfl rfl (fun j u hj=>by rw[show (⟨w5.heap.size,0,none⟩:Addr).add j=⟨w5.heap.size,j,none⟩from by simp[Addr.add];exact fun h=>h.symm,HX7.out.cell j];simpa [hC]using hj) (hC_one _) hml hbs HH7.out.hc ?_);intro v' w8 hown8 hgr8 _ _;have HH8:Hid (Hs w w8 K0 K1 C ((rc,rt,rz),⟨pa,pt⟩) v' ((h::hs)++[((rc,rt,rz),⟨pa,pt⟩)])):=hs_more HH7.out hown8 hgr8;clear hown8 hgr8 HH7 HX7 HH6 l0 l1 l2 l3 l4;clear hi hz0 hz1 hz2 hml hbs hrt hpl;by_cases hc1:cap'=1
   ·have HTL2:Hid (RowsA w (some ⟨b,off,none⟩) (len'-1) (cap'-1) rest):=by
     have:=HTL.out;rw[if_pos hc1]at this;exact this
    clear HTL;subst hc1;obtain rfl:len'=1:=by omega
    have HCO:Hid (Calls Tryz.prog 30 #[.slice (some ⟨b,off,none⟩) 0 0] w8 fun e w'=>CntA w rest w8 e w'):=counted0_any _ _ _ rest w w8 HTL2.out.1 HH8.out.bl;go_wp2_with fail;refine HCO.out.mono ?_;rintro e w9 ⟨⟨a2,len2,cap2,rfl,hra2⟩,hb9⟩;have HH9:Hid (Hs w w9 K0 K1 C ((rc,rt,rz),⟨pa,pt⟩) v' (h::(hs++[((rc,rt,rz),⟨pa,pt⟩)]))):=HH8.out.later hb9;have HA9:Hid (RowsA w a2 len2 cap2 (cnt rest)):=hra2;have hc9:=cnt_len rest;have hl9:len2<1:=by have h1:=hra2.len;have h2:=el.out;omega
    clear hra2 hb9 HH8 HCO HTL2;go_wp2_with fail;go_roundw
    case rel =>
     exact⟨k',hs++[((rc,rt,rz),⟨pa,pt⟩)],((rc,rt,rz),⟨pa,pt⟩),a2,len2,cap2,cnt rest,rfl,HA9,by omega,by rw[List.length_append,List.length_singleton];omega,HH9,HRN⟩
    case measure=>simp only[slL];omega
   ·have HTL2:Hid (RowsA w (some ⟨b,off+3,none⟩) (len'-1) (cap'-1) rest):=by
     have:=HTL.out;rw[if_neg hc1]at this;exact this
    clear HTL;have HCO:Hid (Calls Tryz.prog 30 #[.slice (some ⟨b,off+3,none⟩) (len'-1) (cap'-1)] w8 fun e w'=>CntA w rest w8 e w'):=counted0_any _ _ _ rest w w8 HTL2.out.1 HH8.out.bl;go_wp2_with fail;refine HCO.out.mono ?_;rintro e w9 ⟨⟨a2,len2,cap2,rfl,hra2⟩,hb9⟩;have HH9:Hid (Hs w w9 K0 K1 C ((rc,rt,rz),⟨pa,pt⟩) v' (h::(hs++[((rc,rt,rz),⟨pa,pt⟩)]))):=HH8.out.later hb9;have HA9:Hid (RowsA w a2 len2 cap2 (cnt rest)):=hra2;have hc9:=cnt_len rest;have hl9:len2<len':=by have h1:=hra2.len;have h2:=el.out;omega
    clear hra2 hb9 HH8 HCO HTL2;go_wp2_with fail;go_roundw
    case rel =>
     exact⟨k',hs++[((rc,rt,rz),⟨pa,pt⟩)],((rc,rt,rz),⟨pa,pt⟩),a2,len2,cap2,cnt rest,rfl,HA9,by omega,by rw[List.length_append,List.length_singleton];omega,HH9,HRN⟩
    case measure=>simp only[slL];omega
end Tre
namespace Tre
open Utf Rws Pln Flw
open Go.RowKit Go.Shelf
open Blk (Rw RwAt z3)
attribute [local go_sem] Oper.semAt_some
def hd0:Hd:=(z3,⟨[],0⟩)
def rv (hs:List Hd):Nat->List (Nat × Hd)
 | 0=>[]
 | n+1=>(n,hs.getD n hd0)::rv hs n
theorem rv_len (hs:List Hd):∀ n,(rv hs n).length=n
 | 0=>rfl
 | n+1=>by rw[rv,List.length_cons,rv_len hs n]
theorem rv_map (hs:List Hd):∀ n,n<=hs.length->(rv hs n).map (·.2)=(hs.take n).reverse
 | 0,_=>rfl
 | n+1,h=>by
  rw[rv,List.map_cons,rv_map hs n (by omega),List.take_add_one,List.reverse_append,List.getD_eq_getElem?_getD,List.getElem?_eq_getElem (by omega)];rfl
structure HdAt (w:World) (Bs:Nat) (a:Option Addr) (len cap:Nat) (hs:List Hd):Prop where
 bx:w.cell? ⟨Bs,0,none⟩=some (.slice a len cap)
 hl:len=hs.length
 ad:∀ i,i<len->∃ g,a=some ⟨g,0,none⟩/\w.cell? ⟨g,i*5,none⟩=some (.int .i64 (hs.getD i hd0).1.1)/\w.cell? ⟨g,i*5+1,none⟩=some (.string (mk (hs.getD i hd0).1.2.1))/\w.cell? ⟨g,i*5+2,none⟩=some (.int .i64 (hs.getD i hd0).1.2.2)/\w.cell? ⟨g,i*5+3,none⟩=some (.string (mk (hs.getD i hd0).2.anc))/\w.cell? ⟨g,i*5+4,none⟩=some (.int .i64 (hs.getD i hd0).2.tag)
def KpH (Bs:Nat) (a:Option Addr) (W W':World):Prop:=W'.heap[Bs]?=W.heap[Bs]?/\∀ g,a=some ⟨g,0,none⟩->W'.heap[g]?=W.heap[g]?
theorem HdAt.kp {W W':World} {Bs:Nat} {a:Option Addr} {len cap:Nat} {hs:List Hd} (h:HdAt W Bs a len cap hs) (hk:KpH Bs a W W'):HdAt W' Bs a len cap hs:=by
 refine⟨(World.cell?_of_block (w:=W) hk.1).trans h.bx,h.hl,fun i hi=> ?_⟩;obtain⟨g,e,c0,c1,c2,c3,c4⟩:=h.ad i hi;have q:∀ n,W'.cell? ⟨g,n,none⟩=W.cell? ⟨g,n,none⟩:=fun n=>World.cell?_of_block (w:=W) (hk.2 g e)
 exact⟨g,e,(q _).trans c0,(q _).trans c1,(q _).trans c2,(q _).trans c3,(q _).trans c4⟩
set_option maxHeartbeats 2000000 in
theorem back1_in (n:Nat) (hn:1<=n) (l Bs:Nat) (a:Option Addr) (len cap:Nat) (hs:List Hd) (hlen:len<=9223372036854775807) (J Jx:List (Nat × Hd)->World->Prop) (W:World)
  (hY:∀ pre x W1,J pre W1->pre.length<len->YieldAt Fence.wide (n-1) Tryz.prog l #[.int .i64 (x.1:Int),hV x.2] W1 fun e W' =>
   (e=.returned (.bool true)/\J (pre++[x]) W'/\KpH Bs a W1 W')\/(e=.returned (.bool false)/\Jx (pre++[x]) W'))
  (hH:HdAt W Bs a len cap hs) (h0:J [] W) :
  CallsIn Fence.wide n Tryz.prog 41 #[.func (.yield l) #[] #[],.pointer (some ⟨Bs,0,none⟩)] W fun e W'=>(∃ v,e=.returned v) /\
   ((∃ ys,ys=rv hs len/\J ys W')\/(∃ pre,pre <+: rv hs len/\Jx pre W')):=by
 have hbx:=hH.bx;refine callsIn_of_wp Tryz.func41 rfl trivial ?_ rfl;simp only[Tryz.ntmps41,List.size_toArray,List.length_cons,List.length_nil,Nat.reduceAdd,Nat.reduceSub,Array.replicate_succ,Array.replicate_zero,List.push_toArray,List.append_toArray,List.nil_append,List.cons_append];have HH:Hid (HdAt W Bs a len cap hs):=hH;clear hH
 gi_wp2
 gi_loopw [3] (fun u wr=>∃ (k:Nat) (pre:List (Nat × Hd)),u=.int .i64 ((k:Int)-1)/\k<=len/\Hid (pre++rv hs k=rv hs len)/\Hid (HdAt wr Bs a len cap hs)/\J pre wr) (fun u _=>(intOf u+1).toNat)
 case atStart=>exact⟨len,[],rfl,Nat.le_refl _,rfl,HH,h0⟩
 case round =>
  obtain⟨k,pre,rfl,hk,HX,HS,hJ⟩:=hrel;have hbr:=HS.out.bx
  cases k with
  | zero =>
   gi_wp2
   go_end0;exact⟨⟨_,rfl⟩,.inl ⟨pre,by have:=HX.out;rw[rv,List.append_nil]at this;exact this,hJ⟩⟩
  | succ j =>
   rw[show (((j+1:Nat):Int)-1)=(j:Int) by omega];obtain⟨g,rfl,c0,c1,c2,c3,c4⟩:=HS.out.ad j (by omega)
   have hpl:pre.length<len:=by
    have:=congrArg List.length HX.out;rw[List.length_append,rv_len,rv_len]at this;omega
   obtain⟨fn,tmps,assign,body,hy,hR⟩:=hY pre (j,hs.getD j hd0) wr hJ hpl;dsimp only at hy
   have HX2:Hid ((pre++[(j,hs.getD j hd0)])++rv hs j=rv hs len):=by
    have:=HX.out;rw[rv]at this;show _=_;rw[List.append_assoc];exact this
   generalize hs.getD j hd0=hh at *;clear HX
   gi_wp2
   refine hR.mono ?_;rintro e W3 (⟨rfl,hJ3,hK3⟩ | ⟨rfl,hJx3⟩)
   ·have HS3:Hid (HdAt W3 Bs (some ⟨g,0,none⟩) len cap hs):=HS.out.kp hK3
    gi_wp2
    go_roundw
    case rel=>exact⟨j,pre++[(j,hh)],by go_num,by omega,HX2,HS3,hJ3⟩
    case measure=>simp[intOf]
   ·gi_wp2
    refine bodyPost_ret (results_none rfl _ _ _) rfl ?_;exact⟨⟨_,rfl⟩,.inr ⟨pre++[(j,hh)],⟨rv hs j,HX2.out⟩,hJx3⟩⟩
theorem back_in (a:Option Addr) (len cap:Nat) (n:Nat) (w:World) :
  CallsIn Fence.wide n Tryz.prog 21 #[.slice a len cap] w fun e w'=>e=.returned (.func (.func 41) #[] #[.pointer (some ⟨w.heap.size,0,none⟩)])/\w'=w.alloc (.cells #[.slice a len cap] 58):=by
 refine callsIn_of_wp Tryz.func21 rfl trivial ?_ rfl;simp only[Tryz.ntmps21,List.size_toArray,List.length_cons,List.length_nil,Nat.reduceAdd,Nat.reduceSub,Array.replicate_succ,Array.replicate_zero,List.push_toArray,List.append_toArray,List.nil_append,List.cons_append]
 gi_wp2
 go_ret;exact⟨rfl,rfl⟩
theorem HdAt.later {W W':World} {Bs:Nat} {a:Option Addr} {len cap:Nat} {hs:List Hd} (h:HdAt W Bs a len cap hs) (hb:Below W.heap.size W W') (hB:Bs<W.heap.size) (hg:∀ g,a=some ⟨g,0,none⟩->g<W.heap.size):HdAt W' Bs a len cap hs :=
 h.kp ⟨hb.block Bs hB,fun g e=>hb.block g (hg g e)⟩
theorem back_stops (n:Nat) (hn:1<=n) (Bs:Nat) (a:Option Addr) (len cap:Nat) (hs:List Hd) (hlen:len<=9223372036854775807) (w:World) (hB:Bs<w.heap.size) (hg:∀ g,a=some ⟨g,0,none⟩->g<w.heap.size) (hH:HdAt w Bs a len cap hs) :
  SeqStopsK Fence.wide n Tryz.prog 41 #[.pointer (some ⟨Bs,0,none⟩)] (fun x:Nat × Hd=>#[Value.int .i64 (x.1:Int),hV x.2]) (KpH Bs a) (fun ys=>ys=rv hs len) (fun pre=>pre <+: rv hs len) len w:=fun l J Jx W hW hJ _ hY h0 =>
 back1_in n hn l Bs a len cap hs hlen J Jx W hY (hH.later hW hB hg) h0
end Tre
namespace Flw
open Utf Rws Pln
open Go.RowKit
set_option maxHeartbeats 4000000
theorem tr_ext {a b:Tr} (h1:a.kind=b.kind) (h2:a.text=b.text) (h3:a.anc=b.anc) (h4:a.kids=b.kids):a=b:=by
 cases a;cases b;simp only at h1 h2 h3 h4;subst h1 h2 h3 h4;rfl
theorem take_same {xs ys:List Tr} {n:Nat} (h1:n<xs.length) (h2:n<ys.length) (ht:xs.take n=ys.take n) (he:xs.getD n tr0=ys.getD n tr0):xs.take (n+1)=ys.take (n+1):=by
 rw[List.getD_eq_getElem?_getD,List.getD_eq_getElem?_getD,List.getElem?_eq_getElem h1,List.getElem?_eq_getElem h2]at he;rw[List.take_succ_eq_append_getElem h1,List.take_succ_eq_append_getElem h2,ht];congr 2
theorem rsame_core (k k':Int) (s s' a a':ByteArray) (ad ad':Option Addr) (len len' cap cap':Nat) (w:World) (hl:len<=9223372036854775807) (hl':len'<=9223372036854775807) (d d':Nat) (ks ks':List Tr)
  (HK:Hid (KAt w d ad len ks)) (HK':Hid (KAt w d' ad' len' ks'))
  (HI:Hid (∀ v v' t t' w,TrV w d v t->TrV w d' v' t'->Calls Tryz.prog 8 #[v,v'] w fun e w'=>∃ q:Bool,e=.returned (.bool q)/\(q=true ↔ t=t')/\Below w.heap.size w w')) :
  Calls Tryz.prog 8 #[.agg #[.int .i64 k,.string s,.string a,.slice ad len cap],.agg #[.int .i64 k',.string s',.string a',.slice ad' len' cap']] w
   fun e w'=>∃ q:Bool,e=.returned (.bool q)/\(q=true ↔ k=k'/\s=s'/\a=a'/\ks=ks')/\Below w.heap.size w w':=by
 have HS:∀ x y:ByteArray,(x.toList==y.toList)=true ↔ x=y:=fun x y=>by
  rw[beq_iff_eq,ByteArray.toList_eq,ByteArray.toList_eq];exact⟨fun h=>by rw[<-mk_of x,<-mk_of y,h],fun h=>by rw[h]⟩
 have HB:∀ o o':Obj,Below w.heap.size w ((w.alloc o).alloc o'):=fun o o'=>((Below.refl _ w).alloc (Nat.le_refl _) o).alloc (by rw[World.size_alloc];omega) o'
 by_cases h1:k=k'
 ·subst h1;cases h2:(s.toList==s'.toList)
  ·have HP:Hid (¬ s=s'):=fun h=>by rw[(HS s s').2 h]at h2;cases h2
   clear HS;go_enter Tryz.func8,Tryz.ntmps8;go_wp2;go_ret;exact⟨false,rfl,⟨fun h=>(by cases h),fun h=>absurd h.2.1 HP.out⟩,HB _ _⟩
  ·cases h3:(a.toList==a'.toList)
   ·have HP:Hid (¬ a=a'):=fun h=>by rw[(HS a a').2 h]at h3;cases h3
    clear HS;go_enter Tryz.func8,Tryz.ntmps8;go_wp2;go_ret;exact⟨false,rfl,⟨fun h=>(by cases h),fun h=>absurd h.2.2.1 HP.out⟩,HB _ _⟩
   ·have E2:Hid (s=s'):=(HS s s').1 h2;have E3:Hid (a=a'):=(HS a a').1 h3;clear HS;by_cases h4:len=len'
    ·subst h4;go_enter Tryz.func8,Tryz.ntmps8;go_wp2
     have hc1:((w.alloc (Obj.cells #[.int .i64 k,.string s,.string a,.slice ad len cap] 24)).alloc (Obj.cells #[.int .i64 k,.string s',.string a',.slice ad' len cap'] 24)).cell? ⟨w.heap.size,3,none⟩=some (.slice ad len cap):=by
      rw[World.cell?_alloc_lt _ _ _ (by show w.heap.size<_;rw[World.size_alloc];omega),World.cell?_alloc_new];rfl
     have hc2:((w.alloc (Obj.cells #[.int .i64 k,.string s,.string a,.slice ad len cap] 24)).alloc (Obj.cells #[.int .i64 k,.string s',.string a',.slice ad' len cap'] 24)).cell? ⟨w.heap.size+1,3,none⟩=some (.slice ad' len cap'):=by
      have:=World.cell?_alloc_new (w.alloc (Obj.cells #[.int .i64 k,.string s,.string a,.slice ad len cap] 24)) #[.int .i64 k,.string s',.string a',.slice ad' len cap'] 24 3;rw[World.size_alloc]at this;rw[this];rfl
     have hB2:=HB (Obj.cells #[.int .i64 k,.string s,.string a,.slice ad len cap] 24) (Obj.cells #[.int .i64 k,.string s',.string a',.slice ad' len cap'] 24);have hsz:((w.alloc (Obj.cells #[.int .i64 k,.string s,.string a,.slice ad len cap] 24)).alloc (Obj.cells #[.int .i64 k,.string s',.string a',.slice ad' len cap'] 24)).heap.size=w.heap.size+2:=by rw[World.size_alloc,World.size_alloc]
     clear HB;generalize (w.alloc (Obj.cells #[.int .i64 k,.string s,.string a,.slice ad len cap] 24)).alloc (Obj.cells #[.int .i64 k,.string s',.string a',.slice ad' len cap'] 24)=W at hc1 hc2 hB2 hsz |-
     go_loopw [5] (fun i wr=>∃ n:Nat,n<=len/\i=.int .i64 n/\ks.take n=ks'.take n/\Below W.heap.size W wr) (fun i _=>len-(intOf i).toNat)
     case atStart=>exact⟨0,Nat.zero_le _,rfl,rfl,Below.refl _ _⟩
     case round =>
      obtain⟨n,hn,rfl,ht,hbe⟩:=hrel;have HT:Hid (ks.take n=ks'.take n):=ht;clear ht;have hz1:=(hbe.cell (p:=⟨w.heap.size,3,none⟩) (by show w.heap.size<_;omega)).trans hc1;have hz2:=(hbe.cell (p:=⟨w.heap.size+1,3,none⟩) (by show w.heap.size+1<_;omega)).trans hc2;have HBW:Hid (Below w.heap.size w wr):=hB2.trans (hbe.mono (by omega));by_cases hlt:n<len
      ·obtain⟨b,off,rfl,hb,hcell⟩:=HK.out.2 (by omega);obtain⟨c0,c1,c2,c3,x0,x1,x2,x3,hx⟩:=hcell n hlt;obtain⟨b',off',rfl,hb',hcell'⟩:=HK'.out.2 (by omega);obtain⟨y0,y1,y2,y3,z0,z1,z2,z3,hy⟩:=hcell' n hlt;replace x0:=(HBW.out.cell (p:=⟨b,off+n*4,none⟩) hb).trans x0;replace x1:=(HBW.out.cell (p:=⟨b,off+n*4+1,none⟩) hb).trans x1;replace x2:=(HBW.out.cell (p:=⟨b,off+n*4+2,none⟩) hb).trans x2;replace x3:=(HBW.out.cell (p:=⟨b,off+n*4+3,none⟩) hb).trans x3;replace z0:=(HBW.out.cell (p:=⟨b',off'+n*4,none⟩) hb').trans z0;replace z1:=(HBW.out.cell (p:=⟨b',off'+n*4+1,none⟩) hb').trans z1;replace z2:=(HBW.out.cell (p:=⟨b',off'+n*4+2,none⟩) hb').trans z2;replace z3:=(HBW.out.cell (p:=⟨b',off'+n*4+3,none⟩) hb').trans z3
       have HC:Hid (∀ m,Calls Tryz.prog 8 #[.agg #[c0,c1,c2,c3],.agg #[y0,y1,y2,y3]] (wr.drewN m) fun e w'=>∃ q:Bool,e=.returned (.bool q)/\Hid (q=true ↔ ks.getD n tr0=ks'.getD n tr0)/\Hid (Below w.heap.size w w')/\Below W.heap.size W w'):=by
        intro m;have b1:=below_drewN HBW.out m;have b2:=below_drewN hbe m;refine(HI.out _ _ _ _ _ (hx.later b1 (Nat.le_refl _)) (hy.later b1 (Nat.le_refl _))).mono ?_;rintro e w' ⟨q,rfl,hq,hb⟩;exact⟨q,rfl,hq,b1.trans (hb.mono b1.size),b2.trans (hb.mono b2.size)⟩
       clear hcell hcell' hx hy;go_wp2_with fail;go_region_with (go_at_call 8;refine(HC.out _).mono ?_;rintro e w2 ⟨q,rfl,hq,hbw2,hb2⟩)
       all_goals
        cases q
        ·go_wp2;go_ret;exact⟨false,rfl,⟨fun h=>(by cases h),fun h=>absurd (hq.out.2 (by rw[h.2.2.2])) (by decide)⟩,hbw2.out⟩
        ·go_wp2;go_roundw
         case rel=>exact⟨n+1,by omega,by go_num,take_same (by have:=HK.out.1;omega) (by have:=HK'.out.1;omega) HT.out (hq.out.1 rfl),hb2⟩
         case measure=>simp[intOf];omega
      ·have HE:Hid (ks=ks'):=by
        have h:=HT.out;have l1:=HK.out.1;have l2:=HK'.out.1;rw[List.take_of_length_le (by omega),List.take_of_length_le (by omega)]at h;exact h
       go_wp2;go_ret;exact⟨true,rfl,⟨fun _=>⟨by first | rfl | trivial,E2.out,E3.out,HE.out⟩,fun _=>rfl⟩,HBW.out⟩
    ·have HP:Hid (¬ ks=ks'):=fun h=>h4 (by rw[HK.out.1,HK'.out.1,h])
     have hne':((len:Int)!=(len':Int))=true:=by simp;omega
     go_enter Tryz.func8,Tryz.ntmps8;go_wp2
     all_goals first | contradiction | skip
     go_ret;exact⟨false,rfl,⟨fun h=>(by cases h),fun h=>absurd h.2.2.2 HP.out⟩,HB _ _⟩
 ·have h1':(k==k')=false:=by simpa using h1
  go_enter Tryz.func8,Tryz.ntmps8;go_wp2
  all_goals first | contradiction | skip
  go_ret;refine⟨false,rfl,?_,HB _ _⟩;simp[h1]
theorem mk_eq {a b:Ln}:mk a=mk b ↔ a=b:=⟨fun h=>mk_inj h,fun h=>by rw[h]⟩
theorem rsame_any:∀ (d:Nat) (d':Nat) (v v':Value) (t t':Tr) (w:World),TrV w d v t->TrV w d' v' t' ->
  Calls Tryz.prog 8 #[v,v'] w fun e w'=>∃ q:Bool,e=.returned (.bool q)/\(q=true ↔ t=t')/\Below w.heap.size w w'
 | 0,d',v,v',t,t',w,h,h'=>h.elim
 | d+1,0,v,v',t,t',w,h,h'=>h'.elim
 | d+1,d'+1,v,v',t,t',w,h,h'=>by
  obtain⟨ad,len,cap,rfl,hl,hc,hm,hz,hk⟩:=h;obtain⟨ad',len',cap',rfl,hl',hc',hm',hz',hk'⟩:=h';have m1:maxLen=9223372036854775807:=rfl;refine(rsame_core t.kind t'.kind (mk t.text) (mk t'.text) (mk t.anc) (mk t'.anc) ad ad' len len' cap cap' w (by omega) (by omega) d d' t.kids t'.kids ⟨hl,hk⟩ ⟨hl',hk'⟩ (fun v v' t t' w=>rsame_any d d' v v' t t' w)).mono ?_;rintro e w' ⟨q,rfl,hq,hb⟩;refine⟨q,rfl,hq.trans ?_,hb⟩;rw[mk_eq,mk_eq];exact⟨fun h=>tr_ext h.1 h.2.1 h.2.2.1 h.2.2.2,fun h=>by rw[h];exact⟨rfl,rfl,rfl,rfl⟩⟩
end Flw
end Go.Proofs.YtidhpmcmbooaoaaGreatDoor
