/- . -/
import Derived.Test.YtalijhclfppohaaGreatDoorR34TreeKey
import Derived.Maps.AppendAt
set_option linter.unusedSimpArgs false
set_option linter.unusedVariables false
set_option maxRecDepth 100000
namespace Go.Proofs.YtalijhclfppohaaGreatDoor
namespace Tre
open Utf Rws Pln Flw
open Go.RowKit
open Blk (Rw RwAt z3)
set_option maxHeartbeats 4000000
abbrev hV (h:Hd):Value:=.agg #[.int .i64 h.1.1,.string (mk h.1.2.1),.int .i64 h.1.2.2,.string (mk h.2.anc),.int .i64 h.2.tag]
def hC (h:Hd):List Value:=[.int .i64 h.1.1,.string (mk h.1.2.1),.int .i64 h.1.2.2,.string (mk h.2.anc),.int .i64 h.2.tag]
def hCs (hs:List Hd):List Value:=hs.flatMap hC
theorem hCs_snoc (hs:List Hd) (h:Hd):hCs (hs++[h])=hCs hs++hC h:=by simp[hCs]
theorem hCs_len (hs:List Hd):(hCs hs).length=hs.length*5:=by
 unfold hCs
 induction hs with
 | nil=>rfl
 | cons h t ih=>rw[List.flatMap_cons,List.length_append,ih,List.length_cons];show 5+_=_;omega
def slL:Value->Nat
 | .slice _ n _=>n
 | _=>0
theorem infoHead:(Tryz.prog.info? 78).map (fun i=>(i.zero,i.size,i.bytes))=some (some (.agg #[.int .i64 0,.string ⟨#[]⟩,.int .i64 0,.string ⟨#[]⟩,.int .i64 0]),5,56):=by kernel_rfl
def hdl (dp:Bool) (n:Nat) (c:Int) (rs:List Rw):List Hd × List Rw × Int × Int:=match rs with
  | []=>([],[],0,0)
  | r::rest=>if r.1<c then ([],[],9,r.2.2)else
   if (!noth (CP ⟨[],0⟩ r.2.1).2 || dp)=true then ([],r::rest,0,0)else
   ((r,(CP ⟨[],0⟩ r.2.1).1)::(hds dp n r.1 rest).1,(hds dp n r.1 rest).2)
theorem hds_hdl (dp:Bool) (n:Nat) (c:Int) (rs:List Rw):hds dp (n+1) c rs=hdl dp n c (cnt rs):=rfl
def ahd (hs:List Hd) (q:List Hd × List Rw × Int × Int):List Hd × List Rw × Int × Int:=(hs++q.1,q.2)
def HdRes (q:List Hd × List Rw × Int × Int) (h:Hd) (w:World) (e:Ending) (w':World):Prop :=
 (q.2.2.1≠0->e=.returned (.tuple #[.slice none 0 0,.slice none 0 0,fV q.2.2.1 q.2.2.2])) /\
 (q.2.2.1=0->∃ v a len cap,e=.returned (.tuple #[v,.slice a len cap,fV 0 0])/\w'.ownsRow w.heap.size 78 5 v (h::q.1).length (hCs (h::q.1))/\RowsA w a len cap q.2.1)/\Below w.heap.size w w'
structure Hs (w0 w:World) (K0 K1 C:Nat) (lh:Hd) (v:Value) (hs:List Hd):Prop where
 bl:Below w0.heap.size w0 w
 k0:Bx w K0 (hC lh).toArray 78
 k1:Bx w K1 zF 32
 own:w.ownsRow C 78 5 v hs.length (hCs hs)
 h0:w0.heap.size<=K0
 h1:K0<K1
 h2:K1<C
 hc:C<=w.heap.size
variable {w0 w w1:World} {K0 K1 C:Nat} {lh:Hd} {v:Value} {hs:List Hd}
theorem ownH_keep {n:Nat} {xs:List Value} (h:w.ownsRow C 78 5 v n xs) (hk:∀ j,C<=j->j<w.heap.size->w1.heap[j]?=w.heap[j]?):w1.ownsRow C 78 5 v n xs:=by
 refine⟨h.1,?_⟩;rcases h.2 with q | ⟨g,cap,cur,q,hb,hh,r⟩
 ·exact .inl q
 ·exact .inr ⟨g,cap,cur,q,hb,(hk g hb (Array.getElem?_eq_some_iff.1 hh).1).trans hh,r⟩
theorem ownH_down {C' n:Nat} {xs:List Value} (h:w.ownsRow C 78 5 v n xs) (hC:C'<=C):w.ownsRow C' 78 5 v n xs:=by
 refine⟨h.1,?_⟩;rcases h.2 with q | ⟨g,cap,cur,q,hb,r⟩
 ·exact .inl q
 ·exact .inr ⟨g,cap,cur,q,Nat.le_trans hC hb,r⟩
theorem ownH_blk {n:Nat} {xs:List Value} (h:w.ownsRow C 78 5 v n xs) {k:Nat} (hk:v.ownBlock=some k):C<=k/\k<w.heap.size:=by
 rcases h.2 with ⟨rfl,_⟩ | ⟨g,cap,cur,rfl,hb,hh,_⟩
 ·cases hk
 ·cases hk;exact⟨hb,(Array.getElem?_eq_some_iff.1 hh).1⟩
theorem Hs.later (h:Hs w0 w K0 K1 C lh v hs) (hb:Below w.heap.size w w1):Hs w0 w1 K0 K1 C lh v hs :=
 ⟨h.bl.trans (hb.mono h.bl.size),h.k0.later hb,h.k1.later hb,ownH_keep h.own (fun j _ hj=>hb.block j hj),h.h0,h.h1,h.h2,Nat.le_trans h.hc hb.size⟩
theorem hs_set5 (h:Hs w0 w K0 K1 C lh v hs) (l2:Hd):Hs w0 (((((w.setCell ⟨K0,0,none⟩ (.int .i64 l2.1.1)).setCell ⟨K0,1,none⟩ (.string (mk l2.1.2.1))).setCell ⟨K0,2,none⟩ (.int .i64 l2.1.2.2)).setCell ⟨K0,3,none⟩ (.string (mk l2.2.anc))).setCell ⟨K0,4,none⟩ (.int .i64 l2.2.tag)) K0 K1 C l2 v hs:=by
 have h0:=h.h0;have h1:=h.h1;have h2:=h.h2;have hn:K1≠K0:=by omega
 refine⟨((((h.bl.setCell (by simpa using h0) _).setCell (by simpa using h0) _).setCell (by simpa using h0) _).setCell (by simpa using h0) _).setCell (by simpa using h0) _,((((h.k0.set 0 _).set 1 _).set 2 _).set 3 _).set 4 _,((((h.k1.other hn _ _).other hn _ _).other hn _ _).other hn _ _).other hn _ _,?_,h0,h1,h2,?_⟩
 ·refine ownH_keep h.own (fun j hj _=> ?_);have e:j≠K0:=by omega
  rw[Below.heap_setCell _ _ _ _ e,Below.heap_setCell _ _ _ _ e,Below.heap_setCell _ _ _ _ e,Below.heap_setCell _ _ _ _ e,Below.heap_setCell _ _ _ _ e]
 ·simp only[World.size_setCell];exact h.hc
theorem hs_more (h:Hs w0 w K0 K1 C lh v hs) {v':Value} {l2:Hd} (hown:w1.ownsRow C 78 5 v' (hs.length+1) (hCs hs++hC l2)) (hg:w.grownBy w1 v.ownBlock):Hs w0 w1 K0 K1 C lh v' (hs++[l2]):=by
 have h0:=h.h0;have h1:=h.h1;have h2:=h.h2;have hrow:∀ k,v.ownBlock=some k->C<=k:=fun k hk=>(ownH_blk h.own hk).1
 have hkeep:∀ j,j<w.heap.size->(∀ k,v.ownBlock=some k->j≠k)->w1.heap[j]?=w.heap[j]?:=fun j hj hne=>hg.block j hj (fun e=>hne j e.symm rfl)
 have hlt0:=h.k0.lt;have hlt1:=h.k1.lt
 refine⟨⟨hg.os.trans h.bl.os,hg.tape.trans h.bl.tape,hg.output.trans h.bl.output,Nat.le_trans h.bl.size hg.size,fun j hj=>(hkeep j (by have:=h.bl.size;omega) (fun k hk=>by have:=hrow k hk;omega)).trans (h.bl.block j hj)⟩,
  (hkeep K0 hlt0 (fun k hk=>by have:=hrow k hk;omega)).trans h.k0,(hkeep K1 hlt1 (fun k hk=>by have:=hrow k hk;omega)).trans h.k1,?_,h0,h1,h2,Nat.le_trans h.hc hg.size⟩
 rw[List.length_append,List.length_singleton,hCs_snoc];exact hown
theorem hs_out (h:Hs w0 w K0 K1 C lh v hs) (x y:Value):Below w0.heap.size w0 ((w.setCell ⟨K1,0,none⟩ x).setCell ⟨K1,1,none⟩ y)/\Bx ((w.setCell ⟨K1,0,none⟩ x).setCell ⟨K1,1,none⟩ y) K1 #[x,y] 32 /\
  ((w.setCell ⟨K1,0,none⟩ x).setCell ⟨K1,1,none⟩ y).ownsRow w0.heap.size 78 5 v hs.length (hCs hs):=by
 have h0:=h.h0;have h1:=h.h1;have h2:=h.h2;have hw:w0.heap.size<=K1:=by omega
 have hk:∀ j,C<=j->j<w.heap.size->((w.setCell ⟨K1,0,none⟩ x).setCell ⟨K1,1,none⟩ y).heap[j]?=w.heap[j]?:=fun j hj _=>by
  rw[Below.heap_setCell _ _ _ _ (fun e=>by simp only at e;omega),Below.heap_setCell _ _ _ _ (fun e=>by simp only at e;omega)]
 exact⟨(h.bl.setCell (p:=⟨K1,0,none⟩) hw _).setCell (p:=⟨K1,1,none⟩) hw _,(h.k1.set 0 _).set 1 _,ownH_down (ownH_keep h.own hk) (by omega)⟩
theorem hs_new (w:World) (h:Hd):Hs w (((w.alloc (.cells (hC h).toArray 78)).alloc (.cells #[.int .i64 0,.int .i64 0] 32)).alloc (.cells (hC h).toArray 78)) w.heap.size (w.heap.size+1) (w.heap.size+1+1) h (.slice (some ⟨w.heap.size+1+1,0,none⟩) 1 1) [h]:=by
 have N3:=three_new w (hC h).toArray #[.int .i64 0,.int .i64 0] (hC h).toArray 78 32 78;refine⟨N3.1,N3.2.1,N3.2.2.1,⟨rfl,.inr ⟨w.heap.size+1+1,1,(hC h).toArray,rfl,Nat.le_refl _,N3.2.2.2,Nat.le_refl _,by decide,rfl,rfl⟩⟩,Nat.le_refl _,by omega,by omega,?_⟩;simp only[World.size_alloc];omega
theorem hC_one (h:Hd):∀ u∈hC h,u.oneCell'=true:=by
 intro u hu;unfold hC at hu;simp only[List.mem_cons,List.not_mem_nil,or_false]at hu;rcases hu with rfl | rfl | rfl | rfl | rfl<;>rfl
theorem hds_ahd {R:List Hd × List Rw × Int × Int} {hs:List Hd} {dp:Bool} {k:Nat} {c:Int} {r:Rw} {rest:List Rw} (hR:R=ahd hs (hdl dp k c (r::rest))) (h1: ¬ r.1<c) (h2: ¬ (!noth (CP ⟨[],0⟩ r.2.1).2 || dp)=true) (k':Nat) (hk:k=k'+1) :
  R=ahd (hs++[(r,(CP ⟨[],0⟩ r.2.1).1)]) (hdl dp k' r.1 (cnt rest)):=by
 subst hk;rw[hR];unfold ahd hdl;simp only;rw[if_neg h1,if_neg h2,hds_hdl];simp only[List.append_assoc,List.singleton_append];rfl
theorem heads_any (ar:Int) (h:Hd) (a:Option Addr) (len cap:Nat) (rs:List Rw) (w:World) (hR:RowsIn w a len cap rs) (hlr:rs.length<=1048576) :
  Calls Tryz.prog 40 #[.int .i64 ar,hV h,.slice a len cap] w fun e w'=>HdRes (hds (decide (ar=64)) (rs.length+1) h.1.1 rs) h w e w':=by
 obtain⟨R,HR0⟩:∃ R,Hid (R=hds (decide (ar=64)) (rs.length+1) h.1.1 rs):=⟨_,rfl⟩;rw[<-HR0.out];obtain⟨it,hi,hz0,hz1,hz2⟩:=info_parts infoHead;have HRA:Hid (RowsIn w a len cap rs):=hR;clear hR;have HN:Hid (Hs _ _ _ _ _ _ _ _):=hs_new w h;unfold hC at HN;have HR1:Hid (R=ahd [] (hdl (decide (ar=64)) rs.length h.1.1 (cnt rs))):=HR0.out;have hcl:=cnt_len rs;clear HR0;go_enter Tryz.func40,Tryz.ntmps40;go_wp2_with fail;change Calls _ _ _ (((w.alloc (.cells #[.int .i64 h.1.1,.string (mk h.1.2.1),.int .i64 h.1.2.2,.string (mk h.2.anc),.int .i64 h.2.tag] 78)).alloc (.cells #[.int .i64 0,.int .i64 0] 32)).alloc (.cells #[.int .i64 h.1.1,.string (mk h.1.2.1),.int .i64 h.1.2.2,.string (mk h.2.anc),.int .i64 h.2.tag] 78)) _;generalize ((w.alloc (.cells #[.int .i64 h.1.1,.string (mk h.1.2.1),.int .i64 h.1.2.2,.string (mk h.2.anc),.int .i64 h.2.tag] 78)).alloc (.cells #[.int .i64 0,.int .i64 0] 32)).alloc (.cells #[.int .i64 h.1.1,.string (mk h.1.2.1),.int .i64 h.1.2.2,.string (mk h.2.anc),.int .i64 h.2.tag] 78)=W at HN |-;generalize w.heap.size+1+1=C at *;generalize w.heap.size+1=K1 at *;obtain⟨K0,hK0⟩:∃ K,K=w.heap.size:=⟨_,rfl⟩;rw[<-hK0]
 have HS:Hid (Hs w W K0 K1 C h (.slice (some ⟨C,0,none⟩) 1 1) [h]):=by
  rw[hK0];exact HN.out
 clear hK0 HN;refine(counted0_any a len cap rs w W HRA.out HS.out.bl).mono ?_;rintro e w1 ⟨⟨a1,len1,cap1,rfl,hra1⟩,hb1⟩;have HS1:Hid (Hs w w1 K0 K1 C h (.slice (some ⟨C,0,none⟩) 1 1) [h]):=HS.out.later hb1;have HA1:Hid (RowsA w a1 len1 cap1 (cnt rs)):=hra1;clear HS hb1 HRA hra1;go_wp2_with fail
 go_loopw [2,9] (fun u2 u9 wr=>∃ (k:Nat) (hs:List Hd) (lh:Hd) (a':Option Addr) (len' cap':Nat) (rs':List Rw),u2=.slice a' len' cap'/\Hid (RowsA w a' len' cap' rs')/\rs'.length<=k/\hs.length+rs'.length<=rs.length/\Hid (Hs w wr K0 K1 C lh u9 (h::hs))/\Hid (R=ahd hs (hdl (decide (ar=64)) k lh.1.1 rs'))) (fun u2 _ _=>slL u2)
 case atStart=>exact⟨rs.length,[],h,a1,len1,cap1,cnt rs,rfl,HA1,hcl,by simpa using hcl,HS1,HR1⟩
 case round =>
  obtain⟨k,hs,lh,a',len',cap',rs',rfl,HA,hk,hlen,HH,HRR⟩:=hrel;clear HA1 HS1 HR1
  cases rs' with
  | nil =>
   have e0:len'=0:=by have:=HA.out.len;simpa using this
   subst e0;have HV:Hid (R=(hs,[],0,0)):=by show R=_;rw[HRR.out];unfold ahd hdl;simp
   obtain⟨y0,y1⟩:=HH.out.k1.c2;have v0:=HH.out.k1.fz 0;have v1:=HH.out.k1.fz 1;clear HRR;go_wp2;have HO:Hid (_/\_/\_):=hs_out HH.out (.int .i64 0) (.int .i64 0);generalize (wr.setCell ⟨K1,0,none⟩ (.int .i64 0)).setCell ⟨K1,1,none⟩ (.int .i64 0)=WF at HO |-;have j0:WF.cell? ⟨K1,0,none⟩=_:=HO.out.2.1.cell 0;have j1:WF.cell? ⟨K1,1,none⟩=_:=HO.out.2.1.cell 1;refine bodyPost_ret (v:=.tuple #[u9,.slice a' 0 cap',.agg #[.int .i64 0,.int .i64 0]]) (by simp[results,Tryz.results40,go_sem,j0,j1]) rfl ?_;rw[HV.out];exact⟨fun h=>absurd rfl h,fun _=>⟨u9,_,_,_,rfl,HO.out.2.2,HA.out⟩,HO.out.1⟩
  | cons r rest =>
   obtain⟨rc,rt,rz⟩:=r;have el:Hid (len'=rest.length+1):=by show len'=_;have:=HA.out.len;simpa using this
   have hpos:0<len':=by have:=el.out;omega
   have hlc:len'<=cap':=HA.out.1.2.1;have hcm:cap'<=9223372036854775807:=HA.out.1.2.2.1;obtain⟨b,off,had,hbw,hcell⟩:=HA.out.1.1.2 hpos;obtain⟨x0,x1,x2⟩:=hcell 0 hpos;subst had;have hrt:rt.length<=140737488351232:=HA.out.1.2.2.2 (rc,rt,rz) (by simp);replace x0:wr.cell? ⟨b,off,none⟩=some (.int .i64 rc):=by have:=(HH.out.bl.cell (p:=⟨b,off+0*3,none⟩) hbw).trans x0;simpa using this
   replace x1:wr.cell? ⟨b,off+1,none⟩=some (.string (mk rt)):=by have:=(HH.out.bl.cell (p:=⟨b,off+0*3+1,none⟩) hbw).trans x1;simpa using this
   replace x2:wr.cell? ⟨b,off+2,none⟩=some (.int .i64 rz):=by have:=(HH.out.bl.cell (p:=⟨b,off+0*3+2,none⟩) hbw).trans x2;simpa using this
   clear hcell
   have HB2:Hid (∀ w2,w2=wr.alloc (.cells #[.int .i64 rc,.string (mk rt),.int .i64 rz] 52)->Hs w w2 K0 K1 C lh u9 (h::hs)/\Bx w2 wr.heap.size #[.int .i64 rc,.string (mk rt),.int .i64 rz] 52):=fun w2 e=>by
    subst e;exact⟨HH.out.later (below_alloc _ _),Bx.new _ _ _⟩
   have hpl:((len':Int)>0):=by omega
   go_upto_region 6 with fail
   have N2:=HB2.out _ rfl;clear HB2 x0 x1 x2;generalize wr.alloc (.cells #[.int .i64 rc,.string (mk rt),.int .i64 rz] 52)=w2 at N2 |-;generalize wr.heap.size=KR at N2 |-;have HH2:Hid (Hs w w2 K0 K1 C lh u9 (h::hs)):=N2.1;have HK2:Hid (Bx w2 KR #[.int .i64 rc,.string (mk rt),.int .i64 rz] 52):=N2.2;clear N2 HH;obtain⟨r0,r1,r2⟩:=HK2.out.c3;have l0:w2.cell? ⟨K0,0,none⟩=some (.int .i64 lh.1.1):=HH2.out.k0.cell 0;by_cases hlt:rc<lh.1.1
   ·have HV:Hid (R=(hs,[],9,rz)):=by show R=_;rw[HRR.out];unfold ahd hdl;simp[hlt]
    obtain⟨y0,y1⟩:=HH2.out.k1.c2;have v0:=HH2.out.k1.fz 0;have v1:=HH2.out.k1.fz 1;have HFO:Hid (Calls Tryz.prog 62 #[.int .i64 9,rV rc rt rz] w2 fun e w'=>e=.returned (fV 9 rz)/\Below w2.heap.size w2 w'):=faultOf_any 9 rc rt rz w2;clear HRR;go_wp2_with fail;refine HFO.out.mono ?_;rintro e w3 ⟨rfl,H3⟩;have HH3:Hid (Hs w w3 K0 K1 C lh u9 (h::hs)):=HH2.out.later H3;clear y0 y1 v0 v1 r0 r1 r2 l0 HH2 HK2 H3 HFO;obtain⟨y0,y1⟩:=HH3.out.k1.c2;have v0:=HH3.out.k1.fz 0;have v1:=HH3.out.k1.fz 1;go_wp2;have HO:Hid (_/\_/\_):=hs_out HH3.out (.int .i64 9) (.int .i64 rz);generalize (w3.setCell ⟨K1,0,none⟩ (.int .i64 9)).setCell ⟨K1,1,none⟩ (.int .i64 rz)=WF at HO |-;have j0:WF.cell? ⟨K1,0,none⟩=_:=HO.out.2.1.cell 0;have j1:WF.cell? ⟨K1,1,none⟩=_:=HO.out.2.1.cell 1;refine bodyPost_ret (v:=.tuple #[.slice none 0 0,.slice none 0 0,.agg #[.int .i64 9,.int .i64 rz]]) (by simp[results,Tryz.results40,go_sem,j0,j1]) rfl ?_;rw[HV.out];exact⟨fun _=>rfl,fun h=>absurd h (show ¬ (9:Int)=0 by decide),HO.out.1⟩
   have hltb:decide (rc<lh.1.1)=false:=decide_eq_false hlt;obtain⟨pa,pt,lf,hcp⟩:∃ pa pt lf,CP ⟨[],0⟩ rt=(⟨pa,pt⟩,lf):=⟨_,_,_,rfl⟩;have HCP:Hid (CP ⟨[],0⟩ rt=(⟨pa,pt⟩,lf)):=hcp;clear hcp;have hlf:lf.length<=140737488351232:=by have:=CP_len ⟨[],0⟩ rt;rw[HCP.out]at this;exact Nat.le_trans this hrt
   have HCU:Hid (Calls Tryz.prog 63 #[.string (mk rt)] w2 fun e w'=>e=.returned (.tuple #[.agg #[.string (mk pa),.int .i64 pt],.string (mk lf)])/\Below w2.heap.size w2 w'):=by
    have h:=cutProperties_any rt w2 (by omega);rw[HCP.out]at h;exact h
   go_wp2_with fail;refine HCU.out.mono ?_;rintro e w3 ⟨rfl,H3⟩
   have HB4:Hid (∀ w4,w4=w3.alloc (.cells #[.string (mk pa),.int .i64 pt] 62)->Hs w w4 K0 K1 C lh u9 (h::hs)/\Bx w4 KR #[.int .i64 rc,.string (mk rt),.int .i64 rz] 52/\Bx w4 w3.heap.size #[.string (mk pa),.int .i64 pt] 62):=fun w4 e=>by
    subst e;have b:=H3.trans ((below_alloc w3 (.cells #[.string (mk pa),.int .i64 pt] 62)).mono H3.size);exact⟨HH2.out.later b,HK2.out.later b,Bx.new _ _ _⟩
   clear r0 r1 r2 l0 HCU;go_upto_region 9 with fail
   have N4:=HB4.out _ rfl;clear HB4 HH2 HK2 H3;generalize w3.alloc (.cells #[.string (mk pa),.int .i64 pt] 62)=w4 at N4 |-;generalize w3.heap.size=KP at N4 |-;have HH4:Hid (Hs w w4 K0 K1 C lh u9 (h::hs)):=N4.1;have HK4:Hid (Bx w4 KR #[.int .i64 rc,.string (mk rt),.int .i64 rz] 52):=N4.2.1;have HP4:Hid (Bx w4 KP #[.string (mk pa),.int .i64 pt] 62):=N4.2.2;clear N4;have HIE:Hid (∀ w0,Calls Tryz.prog 64 #[.string (mk lf)] w0 fun e w'=>e=.returned (.bool (noth lf))/\w0=w'):=fun w0=>isEmpty_any lf w0 (by omega)
   cases hno:noth lf
   ·have harD:True:=trivial;have HV:Hid (R=(hs,(rc,rt,rz)::rest,0,0)):=by show R=_;rw[HRR.out];unfold ahd hdl;simp only;rw[if_neg (show ¬ rc<lh.1.1 by omega),if_pos (by rw[HCP.out];simp[hno,harD])];simp
    clear HRR;rw[hno]at HIE;obtain⟨y0,y1⟩:=HH4.out.k1.c2;have v0:=HH4.out.k1.fz 0;have v1:=HH4.out.k1.fz 1;go_wp2_with (go_at_call 64;refine(HIE.out _).mono ?_;rintro e w' ⟨rfl,rfl⟩);have HO:Hid (_/\_/\_):=hs_out HH4.out (.int .i64 0) (.int .i64 0);generalize (w4.setCell ⟨K1,0,none⟩ (.int .i64 0)).setCell ⟨K1,1,none⟩ (.int .i64 0)=WF at HO |-;have j0:WF.cell? ⟨K1,0,none⟩=_:=HO.out.2.1.cell 0;have j1:WF.cell? ⟨K1,1,none⟩=_:=HO.out.2.1.cell 1;refine bodyPost_ret (v:=.tuple #[u9,.slice (some ⟨b,off,none⟩) len' cap',.agg #[.int .i64 0,.int .i64 0]]) (by simp[results,Tryz.results40,go_sem,j0,j1]) rfl ?_;rw[HV.out];exact⟨fun h=>absurd rfl h,fun _=>⟨u9,_,_,_,rfl,HO.out.2.2,HA.out⟩,HO.out.1⟩
   by_cases har:ar=64
   ·have harD:=har;have harb:(ar==64)=true:=by rw[har];rfl
    have HV:Hid (R=(hs,(rc,rt,rz)::rest,0,0)):=by show R=_;rw[HRR.out];unfold ahd hdl;simp only;rw[if_neg (show ¬ rc<lh.1.1 by omega),if_pos (by rw[HCP.out];simp[hno,harD])];simp
    clear HRR;rw[hno]at HIE;obtain⟨y0,y1⟩:=HH4.out.k1.c2;have v0:=HH4.out.k1.fz 0;have v1:=HH4.out.k1.fz 1;go_wp2_with (go_at_call 64;refine(HIE.out _).mono ?_;rintro e w' ⟨rfl,rfl⟩);have HO:Hid (_/\_/\_):=hs_out HH4.out (.int .i64 0) (.int .i64 0);generalize (w4.setCell ⟨K1,0,none⟩ (.int .i64 0)).setCell ⟨K1,1,none⟩ (.int .i64 0)=WF at HO |-;have j0:WF.cell? ⟨K1,0,none⟩=_:=HO.out.2.1.cell 0;have j1:WF.cell? ⟨K1,1,none⟩=_:=HO.out.2.1.cell 1;refine bodyPost_ret (v:=.tuple #[u9,.slice (some ⟨b,off,none⟩) len' cap',.agg #[.int .i64 0,.int .i64 0]]) (by simp[results,Tryz.results40,go_sem,j0,j1]) rfl ?_;rw[HV.out];exact⟨fun h=>absurd rfl h,fun _=>⟨u9,_,_,_,rfl,HO.out.2.2,HA.out⟩,HO.out.1⟩
   have harb:(ar==64)=false:=by rw[beq_eq_false_iff_ne];exact har
   rw[hno]at HIE;have hk1:rest.length+1<=k:=by simpa using hk
   have hl1:hs.length+(rest.length+1)<=rs.length:=by simpa using hlen
   obtain⟨k',hk'⟩:∃ k',k=k'+1:=⟨k-1,by omega⟩
   have HRN:Hid (R=ahd (hs++[((rc,rt,rz),⟨pa,pt⟩)]) (hdl (decide (ar=64)) k' rc (cnt rest))):=by
    have h:=hds_ahd (r:=(rc,rt,rz)) HRR.out (show ¬ rc<lh.1.1 by omega) (by rw[show (CP ⟨[],0⟩ (rc,rt,rz).2.1)=(⟨pa,pt⟩,lf)from HCP.out];simp[hno,har]) k' hk';rw[show (CP ⟨[],0⟩ (rc,rt,rz).2.1)=(⟨pa,pt⟩,lf)from HCP.out]at h;exact h
   have hkr:rest.length<=k':=by omega
   have hln:hs.length+1+rest.length<=rs.length:=by omega
   have HTL:Hid (RowsA w (some (if cap'=1 then ⟨b,off,none⟩else ⟨b,off+3,none⟩)) (len'-1) (cap'-1) rest):=HA.out.drop 1 hpos;clear HRR HCP hk hlen hk1 hl1 hk' har hno hltb hlt HA;obtain⟨l0,l1,l2,l3,l4⟩:=HH4.out.k0.c5;have m0:=HH4.out.k0.fz 0;have m1:=HH4.out.k0.fz 1;have m2:=HH4.out.k0.fz 2;have m3:=HH4.out.k0.fz 3;have m4:=HH4.out.k0.fz 4;obtain⟨r0,r1,r2⟩:=HK4.out.c3;obtain⟨q0,q1⟩:=HP4.out.c2;have HH5:Hid (Hs _ _ _ _ _ _ _ _):=hs_set5 HH4.out ((rc,rt,rz),⟨pa,pt⟩);go_wp2_with fail;refine(HIE.out _).mono ?_;rintro e w' ⟨rfl,rfl⟩;go_upto_region 11 with fail
   change Code.wp _ _ _ _ (((((w4.setCell ⟨K0,0,none⟩ (.int .i64 rc)).setCell ⟨K0,1,none⟩ (.string (mk rt))).setCell ⟨K0,2,none⟩ (.int .i64 rz)).setCell ⟨K0,3,none⟩ (.string (mk pa))).setCell ⟨K0,4,none⟩ (.int .i64 pt));have HH6:Hid (Hs w (((((w4.setCell ⟨K0,0,none⟩ (.int .i64 rc)).setCell ⟨K0,1,none⟩ (.string (mk rt))).setCell ⟨K0,2,none⟩ (.int .i64 rz)).setCell ⟨K0,3,none⟩ (.string (mk pa))).setCell ⟨K0,4,none⟩ (.int .i64 pt)) K0 K1 C ((rc,rt,rz),⟨pa,pt⟩) u9 (h::hs)):=HH5.out;clear HH5 HH4 HK4 HP4 l0 l1 l2 l3 l4 m0 m1 m2 m3 m4 r0 r1 r2 q0 q1 HIE;generalize ((((w4.setCell ⟨K0,0,none⟩ (.int .i64 rc)).setCell ⟨K0,1,none⟩ (.string (mk rt))).setCell ⟨K0,2,none⟩ (.int .i64 rz)).setCell ⟨K0,3,none⟩ (.string (mk pa))).setCell ⟨K0,4,none⟩ (.int .i64 pt)=w5 at HH6 |-;obtain⟨l0,l1,l2,l3,l4⟩:=HH6.out.k0.c5;have HH7:Hid (Hs w (w5.alloc (.cells #[.int .i64 rc,.string (mk rt),.int .i64 rz,.string (mk pa),.int .i64 pt] 78)) K0 K1 C ((rc,rt,rz),⟨pa,pt⟩) u9 (h::hs)):=HH6.out.later (below_alloc _ _);have HX7:Hid (Bx (w5.alloc (.cells #[.int .i64 rc,.string (mk rt),.int .i64 rz,.string (mk pa),.int .i64 pt] 78)) w5.heap.size #[.int .i64 rc,.string (mk rt),.int .i64 rz,.string (mk pa),.int .i64 pt] 78):=Bx.new _ _ _;have hhl:(h::hs).length=hs.length+1:=rfl;have hml:(h::hs).length+1<=maxLen:=by unfold maxLen;omega
   have hbs:((h::hs).length+1)*56<=140737488355328:=by omega
   clear hhl;go_wp2_with (at_builtin;refine wpList_append_own_at _ rfl _ _ 74 rfl C 78 it (.agg #[.int .i64 0,.string ⟨#[]⟩,.int .i64 0,.string ⟨#[]⟩,.int .i64 0]) 5 56 Tryz.underlying74 hi hz0 hz1 hz2 rfl (by decide) u9 (h::hs).length (hCs (h::hs)) rfl HH7.out.own ⟨w5.heap.size,0,none⟩ 1 1 (hC ((rc,rt,rz),⟨pa,pt⟩)) rfl rfl (fun j u hj=>by rw[show (⟨w5.heap.size,0,none⟩:Addr).add j=⟨w5.heap.size,j,none⟩from by simp[Addr.add];exact fun h=>h.symm,HX7.out.cell j];simpa [hC]using hj) (hC_one _) hml hbs HH7.out.hc ?_);intro v' w8 hown8 hgr8 _ _;have HH8:Hid (Hs w w8 K0 K1 C ((rc,rt,rz),⟨pa,pt⟩) v' ((h::hs)++[((rc,rt,rz),⟨pa,pt⟩)])):=hs_more HH7.out hown8 hgr8;clear hown8 hgr8 HH7 HX7 HH6 l0 l1 l2 l3 l4;clear hi hz0 hz1 hz2 hml hbs hrt hpl;by_cases hc1:cap'=1
   ·have HTL2:Hid (RowsA w (some ⟨b,off,none⟩) (len'-1) (cap'-1) rest):=by
     have:=HTL.out;rw[if_pos hc1]at this;exact this
    clear HTL;subst hc1;obtain rfl:len'=1:=by omega
    have HCO:Hid (Calls Tryz.prog 61 #[.slice (some ⟨b,off,none⟩) 0 0] w8 fun e w'=>CntA w rest w8 e w'):=counted0_any _ _ _ rest w w8 HTL2.out.1 HH8.out.bl;go_wp2_with fail;refine HCO.out.mono ?_;rintro e w9 ⟨⟨a2,len2,cap2,rfl,hra2⟩,hb9⟩;have HH9:Hid (Hs w w9 K0 K1 C ((rc,rt,rz),⟨pa,pt⟩) v' (h::(hs++[((rc,rt,rz),⟨pa,pt⟩)]))):=HH8.out.later hb9;have HA9:Hid (RowsA w a2 len2 cap2 (cnt rest)):=hra2;have hc9:=cnt_len rest;have hl9:len2<1:=by have h1:=hra2.len;have h2:=el.out;omega
    clear hra2 hb9 HH8 HCO HTL2;go_wp2_with fail;go_roundw
    case rel =>
     exact⟨k',hs++[((rc,rt,rz),⟨pa,pt⟩)],((rc,rt,rz),⟨pa,pt⟩),a2,len2,cap2,cnt rest,rfl,HA9,by omega,by rw[List.length_append,List.length_singleton];omega,HH9,HRN⟩
    case measure=>simp only[slL];omega
   ·have HTL2:Hid (RowsA w (some ⟨b,off+3,none⟩) (len'-1) (cap'-1) rest):=by
     have:=HTL.out;rw[if_neg hc1]at this;exact this
    clear HTL;have HCO:Hid (Calls Tryz.prog 61 #[.slice (some ⟨b,off+3,none⟩) (len'-1) (cap'-1)] w8 fun e w'=>CntA w rest w8 e w'):=counted0_any _ _ _ rest w w8 HTL2.out.1 HH8.out.bl;go_wp2_with fail;refine HCO.out.mono ?_;rintro e w9 ⟨⟨a2,len2,cap2,rfl,hra2⟩,hb9⟩;have HH9:Hid (Hs w w9 K0 K1 C ((rc,rt,rz),⟨pa,pt⟩) v' (h::(hs++[((rc,rt,rz),⟨pa,pt⟩)]))):=HH8.out.later hb9;have HA9:Hid (RowsA w a2 len2 cap2 (cnt rest)):=hra2;have hc9:=cnt_len rest;have hl9:len2<len':=by have h1:=hra2.len;have h2:=el.out;omega
    clear hra2 hb9 HH8 HCO HTL2;go_wp2_with fail;go_roundw
    case rel =>
     exact⟨k',hs++[((rc,rt,rz),⟨pa,pt⟩)],((rc,rt,rz),⟨pa,pt⟩),a2,len2,cap2,cnt rest,rfl,HA9,by omega,by rw[List.length_append,List.length_singleton];omega,HH9,HRN⟩
    case measure=>simp only[slL];omega
end Tre
end Go.Proofs.YtalijhclfppohaaGreatDoor
