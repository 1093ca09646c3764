/- . -/
import Derived.Test.YtalijhclfppohaaGreatDoorR41TreeBel1
import Derived.Test.YtalijhclfppohaaGreatDoorR40TreeIval
import Derived.Test.YtalijhclfppohaaGreatDoorR34TreeKey
import Derived.Deep.RegionWith
import Derived.BigRegionIn
set_option linter.unusedSimpArgs false
set_option linter.unusedVariables false
set_option maxRecDepth 100000
namespace Go.Proofs.YtalijhclfppohaaGreatDoor
namespace Tre
open Utf Rws Pln Flw
open Go.RowKit Go.Shelf
open Blk (Rw RwAt z3)
set_option maxHeartbeats 8000000
attribute [local go_sem] Oper.semAt_some
theorem own_at {w:World} {B:Nat} {ha:Option Addr} {n hcap:Nat} {hs:List Hd} (h:w.ownsRow B 78 5 (.slice ha n hcap) n (hCs hs)) (hn:n=hs.length) (i:Nat) (hi:i<n):∃ g,ha=some ⟨g,0,none⟩/\w.cell? ⟨g,i*5,none⟩=some (.int .i64 (hs.getD i hd0).1.1)/\w.cell? ⟨g,i*5+1,none⟩=some (.string (mk (hs.getD i hd0).1.2.1))/\w.cell? ⟨g,i*5+2,none⟩=some (.int .i64 (hs.getD i hd0).1.2.2)/\w.cell? ⟨g,i*5+3,none⟩=some (.string (mk (hs.getD i hd0).2.anc))/\w.cell? ⟨g,i*5+4,none⟩=some (.int .i64 (hs.getD i hd0).2.tag):=by
 have hb:=below_alloc w (.cells #[.slice ha n hcap] 74);have hx:=Bx.new w #[.slice ha n hcap] 74;have h2:=hdat_of (m:=n) (ownH_keep h (fun j _ hj=>hb.block j hj)) hn (Nat.le_refl _) (hx.cell 0);obtain⟨g,e,c0,c1,c2,c3,c4⟩:=h2.ad i hi;have ht:hs.take n=hs:=by rw[hn,List.take_length]
 rw[ht]at c0 c1 c2 c3 c4;have hg:g<w.heap.size:=(ownH_blk h (k:=g) (by rw[e];rfl)).2;exact⟨g,e,(hb.cell (p:=⟨g,i*5,none⟩) hg).symm.trans c0,(hb.cell (p:=⟨g,i*5+1,none⟩) hg).symm.trans c1,(hb.cell (p:=⟨g,i*5+2,none⟩) hg).symm.trans c2,(hb.cell (p:=⟨g,i*5+3,none⟩) hg).symm.trans c3,(hb.cell (p:=⟨g,i*5+4,none⟩) hg).symm.trans c4⟩
theorem noM_tr {CC d:Nat} {w:World} (h:Hd) (ha:h.2.anc.length<=9223372036854775807) (hd:1<=d):TrP CC w d (.agg #[.int .i64 (noM h).1.kind,.string (mk (noM h).1.text),.string (mk (noM h).1.anc),.slice none 0 0]) (noM h).1:=by
 unfold noM;split
 ·exact TrP.more (trP_leaf 0 [] [] (by decide) (by decide) (by decide) 0) hd
 ·refine TrP.more (trP_leaf (nuK h.2) [] h.2.anc ?_ (by simp) ha 0) hd;unfold nuK;split<;>decide
theorem rev_last (hs:List Hd) (m:Nat) (h:hs.length=m+1):hs.reverse=hs.getD m hd0::(hs.take m).reverse:=by
 have e:hs=hs.take m++[hs.getD m hd0]:=by
  have h2:=List.take_add_one (l:=hs) (i:=m);rw[List.take_of_length_le (by omega)]at h2;rw[List.getD_eq_getElem?_getD,List.getElem?_eq_getElem (by omega)];rw[List.getElem?_eq_getElem (by omega)]at h2;exact h2
 conv=>lhs;rw[e]
 rw[List.reverse_append];rfl
theorem below_none (d:Nat) (ar:Int) (c:Int) (x:Ln) (z:Int) (pa:Ln) (pt:Int) (a:Option Addr) (len cap:Nat) (rs:List Rw) (w:World) (hR:RowsIn w a len cap rs) (hlr:rs.length<=1048576) (hq:(hds (decide (ar=64)) (rs.length+1) c rs).2.2.1=0) (hrs:(hds (decide (ar=64)) (rs.length+1) c rs).2.1=[]) (hd:1<=d) (hanc:∀ h∈((c,x,z),⟨pa,pt⟩)::(hds (decide (ar=64)) (rs.length+1) c rs).1,h.2.anc.length<=9223372036854775807) :
  Calls Tryz.prog 26 #[.int .i64 ar,rV c x z,.agg #[.string (mk pa),.int .i64 pt],.slice a len cap] w fun e w'=>TfD d (bak (((c,x,z),⟨pa,pt⟩)::(hds (decide (ar=64)) (rs.length+1) c rs).1).reverse.tail (noM ((((c,x,z),⟨pa,pt⟩)::(hds (decide (ar=64)) (rs.length+1) c rs).1).reverse.headD ((c,x,z),⟨pa,pt⟩)))) w e w':=by
 obtain⟨q,HQ⟩:∃ q,Hid (q=(hds (decide (ar=64)) (rs.length+1) c rs)):=⟨_,rfl⟩
 have HHD:Hid (∀ w0,Below w.heap.size w w0->Calls Tryz.prog 40 #[.int .i64 ar,.agg #[.int .i64 c,.string (mk x),.int .i64 z,.string (mk pa),.int .i64 pt],.slice a len cap] w0 fun e w'=>HdRes q ((c,x,z),⟨pa,pt⟩) w0 e w'):=fun w0 hb=>by
  rw[HQ.out];exact heads_any ar ((c,x,z),⟨pa,pt⟩) a len cap rs w0 (hR.later hb) hlr
 have N4:Hid (_/\_/\_/\_/\_):=four_bx w #[.int .i64 c,.string (mk x),.int .i64 z] #[.string (mk pa),.int .i64 pt] zT #[.int .i64 0,.int .i64 0] 52 62 35 32;rw[<-HQ.out]at hq hrs hanc |-;clear hR;refine(callsIn_wide (n:=4)).1 ?_;refine callsIn_of_wp_marks Tryz.func26 rfl trivial ?_ rfl;simp only[Tryz.ntmps26,List.size_toArray,List.length_cons,List.length_nil,Nat.reduceAdd,Nat.reduceSub,Array.replicate_succ,Array.replicate_zero,List.push_toArray,List.append_toArray,List.nil_append,List.cons_append];refine wpIn_wide.2 ?_;go_wp2_with fail;change Calls _ _ _ ((((w.alloc (.cells #[.int .i64 c,.string (mk x),.int .i64 z] 52)).alloc (.cells #[.string (mk pa),.int .i64 pt] 62)).alloc (.cells zT 35)).alloc (.cells #[.int .i64 0,.int .i64 0] 32)) _;generalize (((w.alloc (.cells #[.int .i64 c,.string (mk x),.int .i64 z] 52)).alloc (.cells #[.string (mk pa),.int .i64 pt] 62)).alloc (.cells zT 35)).alloc (.cells #[.int .i64 0,.int .i64 0] 32)=W at N4 |-;obtain⟨K3,hK3⟩:∃ K,K=w.heap.size+1+1+1:=⟨_,rfl⟩;obtain⟨K2,hK2⟩:∃ K,K=w.heap.size+1+1:=⟨_,rfl⟩;obtain⟨K1,hK1⟩:∃ K,K=w.heap.size+1:=⟨_,rfl⟩;obtain⟨K0,hK0⟩:∃ K,K=w.heap.size:=⟨_,rfl⟩
 have HB:Hid (Below w.heap.size w W/\Bx W K0 #[.int .i64 c,.string (mk x),.int .i64 z] 52/\Bx W K1 #[.string (mk pa),.int .i64 pt] 62/\Bx W K2 zT 35/\Bx W K3 #[.int .i64 0,.int .i64 0] 32):=by
  rw[hK0,hK1,hK2,hK3];exact N4.out
 rw[<-hK3,<-hK2,<-hK1,<-hK0];have hK:w.heap.size<=K0/\K0<K1/\K1<K2/\K2<K3:=by omega
 have hwW:w.heap.size<=W.heap.size:=HB.out.1.size;clear N4 hK0 hK1 hK2 hK3
 have HOK:Hid (Calls Tryz.prog 40 #[.int .i64 ar,.agg #[.int .i64 c,.string (mk x),.int .i64 z,.string (mk pa),.int .i64 pt],.slice a len cap] W fun e w'=>∃ ha hcap a1 len1 cap1,e=.returned (.tuple #[.slice ha (((c,x,z),⟨pa,pt⟩)::q.1).length hcap,.slice a1 len1 cap1,.agg #[.int .i64 0,.int .i64 0]])/\Hid (Below W.heap.size W w'/\w'.ownsRow W.heap.size 78 5 (.slice ha (((c,x,z),⟨pa,pt⟩)::q.1).length hcap) (((c,x,z),⟨pa,pt⟩)::q.1).length (hCs (((c,x,z),⟨pa,pt⟩)::q.1))/\RowsA W a1 len1 cap1 q.2.1)):=(HHD.out W HB.out.1).mono (fun e w' h=>by
  obtain⟨v,a1,len1,cap1,h1,h2,h3⟩:=h.2.1 hq;obtain⟨ha,hcap,rfl⟩:=own_slice h2;exact⟨ha,hcap,a1,len1,cap1,h1,h.2.2,h2,h3⟩)
 clear HHD;obtain⟨hs,Hhs⟩:∃ hs,Hid (hs=((c,x,z),⟨pa,pt⟩)::q.1):=⟨_,rfl⟩;rw[<-Hhs.out]at HOK;obtain⟨hn,HHN⟩:∃ hn,Hid (hn=hs.length):=⟨_,rfl⟩;rw[<-HHN.out]at HOK;refine HOK.out.mono ?_;rintro e w1 ⟨ha,hcap,a1,len1,cap1,rfl,H1⟩
 have H2:Hid (∀ w3,w3=(w1.alloc (.cells #[.int .i64 0,.int .i64 0] 32)).alloc (.cells zT 35)->Below w.heap.size w w3/\Bx w3 K2 zT 35/\Bx w3 K3 #[.int .i64 0,.int .i64 0] 32/\Bx w3 w1.heap.size #[.int .i64 0,.int .i64 0] 32/\Bx w3 (w1.heap.size+1) zT 35/\w3.ownsRow W.heap.size 78 5 (.slice ha hn hcap) hn (hCs hs)/\RowsA w3 a1 len1 cap1 q.2.1/\K3<w1.heap.size/\W.heap.size<=w1.heap.size/\w3.heap.size=w1.heap.size+1+1):=fun w3 e=>by
  subst e;have s1:(w1.alloc (.cells #[.int .i64 0,.int .i64 0] 32)).heap.size=w1.heap.size+1:=World.size_alloc _ _;have b1:=below_alloc w1 (.cells #[.int .i64 0,.int .i64 0] 32);have b2:=below_alloc (w1.alloc (.cells #[.int .i64 0,.int .i64 0] 32)) (.cells zT 35);have b:=b1.trans (b2.mono b1.size);have n2:=Bx.new (w1.alloc (.cells #[.int .i64 0,.int .i64 0] 32)) zT 35;rw[s1]at n2;have bw:=H1.out.1.trans (b.mono H1.out.1.size);exact⟨HB.out.1.trans (bw.mono HB.out.1.size),HB.out.2.2.2.1.later bw,HB.out.2.2.2.2.later bw,(Bx.new _ _ _).later b2,n2,ownH_keep H1.out.2.1 (fun j _ hj=>b.block j hj),H1.out.2.2.later bw,Nat.lt_of_lt_of_le HB.out.2.2.2.2.lt H1.out.1.size,H1.out.1.size,by rw[World.size_alloc,s1]⟩
 clear HB HOK H1;rw[hrs]at H2;have hl1:len1=0:=by have:=(H2.out _ rfl).2.2.2.2.2.2.1.len;simpa using this
 subst hl1;obtain⟨m,HM⟩:∃ m,hn=m+1:=⟨hn-1,by have:=HHN.out;rw[Hhs.out,List.length_cons]at this;omega⟩;subst HM;obtain⟨g,hga,_⟩:=own_at (H2.out _ rfl).2.2.2.2.2.1 HHN.out 0 (by omega);subst hga;have hmx:=own_max (H2.out _ rfl).2.2.2.2.2.1
 have hcx:m+1<=hcap/\hcap<=9223372036854775807:=by
  rcases(H2.out _ rfl).2.2.2.2.2.1.2 with ⟨h1,_⟩ | ⟨g2,cap2,cur2,h1,_,_,h2,h3,_⟩
  ·cases h1
  ·simp only[Value.slice.injEq]at h1;have:maxLen=9223372036854775807:=rfl;omega
 have hcx1:=hcx.1;have hcx2:=hcx.2;go_upto_region 8 with fail
 have N3:=H2.out _ rfl;clear H2;change Code.wp _ _ _ _ ((w1.alloc (.cells #[.int .i64 0,.int .i64 0] 32)).alloc (.cells zT 35));generalize (w1.alloc (.cells #[.int .i64 0,.int .i64 0] 32)).alloc (.cells zT 35)=w3 at N3 |-;generalize hKT:w1.heap.size+1=KT at N3 |-;generalize hKF:w1.heap.size=KF at N3 hKT |-;have HS3:Hid (Below w.heap.size w w3/\Bx w3 K2 zT 35/\Bx w3 K3 #[.int .i64 0,.int .i64 0] 32/\Bx w3 KF #[.int .i64 0,.int .i64 0] 32/\Bx w3 KT zT 35/\w3.ownsRow W.heap.size 78 5 (.slice (some ⟨g,0,none⟩) (m+1) hcap) (m+1) (hCs hs)):=⟨N3.1,N3.2.1,N3.2.2.1,N3.2.2.2.1,N3.2.2.2.2.1,N3.2.2.2.2.2.1⟩;have hK2:K3<KF/\KF<KT/\KT<w3.heap.size/\w.heap.size<=W.heap.size:=⟨N3.2.2.2.2.2.2.2.1,by omega,N3.2.2.2.2.1.lt,hwW⟩;clear N3 hKT hKF;obtain⟨g',hge,n0,n1,n2,n3,n4⟩:=own_at HS3.out.2.2.2.2.2 HHN.out m (by omega);obtain rfl:g=g':=by simpa using hge
 have HLH:Hid (∃ lh,lh=hs.getD m hd0):=⟨_,rfl⟩;obtain⟨lh,hlh⟩:=HLH.out;rw[<-hlh]at n0 n1 n2 n3 n4;have HL:Hid (lh=hs.getD m hd0):=hlh;clear hlh HLH hge;obtain⟨V,HVV⟩:∃ V,Hid (V=noM lh):=⟨_,rfl⟩
 have hlm:lh∈hs:=by
  have h1:=HHN.out;rw[HL.out,List.getD_eq_getElem?_getD,List.getElem?_eq_getElem (by omega)];exact List.getElem_mem _
 have hla:lh.2.anc.length<=9223372036854775807:=hanc lh (by rw[<-Hhs.out];exact hlm)
 have HTV:Hid (∀ CC w0,TrP CC w0 d (.agg #[.int .i64 V.1.kind,.string (mk V.1.text),.string (mk V.1.anc),.slice none 0 0]) V.1):=fun CC w0=>by
  rw[HVV.out];exact noM_tr lh hla hd
 have HNO:Hid (Calls Tryz.prog 42 #[.agg #[.string (mk lh.2.anc),.int .i64 lh.2.tag],.agg #[.int .i64 lh.1.1,.string (mk lh.1.2.1),.int .i64 lh.1.2.2]] w3.drew fun e w8=>e=.returned (.tuple #[.agg #[.int .i64 V.1.kind,.string (mk V.1.text),.string (mk V.1.anc),.slice none 0 0],.agg #[.int .i64 V.2.1,.int .i64 V.2.2]])/\w8.cell? ⟨KT,0,none⟩=some (.int .i64 0)/\w8.cell? ⟨KT,1,none⟩=some (.string ⟨#[]⟩)/\w8.cell? ⟨KT,2,none⟩=some (.string ⟨#[]⟩)/\w8.cell? ⟨KT,3,none⟩=some (.slice none 0 0)/\w8.cell? ⟨KF,0,none⟩=some (.int .i64 0)/\w8.cell? ⟨KF,1,none⟩=some (.int .i64 0)/\w8.frozen? ⟨KT,0,none⟩=false/\w8.frozen? ⟨KT,1,none⟩=false/\w8.frozen? ⟨KT,2,none⟩=false/\w8.frozen? ⟨KT,3,none⟩=false/\w8.frozen? ⟨KF,0,none⟩=false/\w8.frozen? ⟨KF,1,none⟩=false/\Hid (Below w3.heap.size w3 w8)):=by
  have hbd:Below w3.heap.size w3 w3.drew:=(Below.refl _ _).drew;rw[HVV.out];refine(onNothing_all lh w3.drew).mono ?_;rintro e w8 ⟨rfl,hb8⟩;have hb9:=hbd.trans hb8;obtain⟨d0,d1,d2,d3,d4,d5,y0,y1,y2,y3,y4,y5⟩:=c6_of (HS3.out.2.2.2.2.1.later hb9) (HS3.out.2.2.2.1.later hb9);exact⟨rfl,d0,d1,d2,d3,d4,d5,y0,y1,y2,y3,y4,y5,hb9⟩
 have hnTF:KT≠KF:=by omega
 have hnFT:KF≠KT:=by omega
 obtain⟨V1,Vy,Vz⟩:=V;refine wp_thenN (fun (_:Unit)=>({ tmps:=#[.int .i64 ar,rV c x z,.agg #[.string (mk pa),.int .i64 pt],.slice a1 0 cap1,undef,.pointer (some ⟨K0,0,none⟩),.pointer (some ⟨K1,0,none⟩),undef,.pointer (some ⟨K2,0,none⟩),.pointer (some ⟨K3,0,none⟩),.slice (some ⟨g,0,none⟩) (m+1) hcap,.pointer (some ⟨KF,0,none⟩),.pointer (some ⟨KT,0,none⟩),.int .i64 (m:Int),undef,undef,.tuple #[.slice (some ⟨g,0,none⟩) (m+1) hcap,.slice a1 0 cap1,.agg #[.int .i64 0,.int .i64 0]],.int .i64 ar,.agg #[.int .i64 c,.string (mk x),.int .i64 z],.agg #[.string (mk pa),.int .i64 pt],.agg #[.int .i64 c,.string (mk x),.int .i64 z,.string (mk pa),.int .i64 pt],.slice a len cap,.tuple #[.slice (some ⟨g,0,none⟩) (m+1) hcap,.slice a1 0 cap1,.agg #[.int .i64 0,.int .i64 0]],.slice (some ⟨g,0,none⟩) (m+1) hcap,.slice a1 0 cap1,.agg #[.int .i64 0,.int .i64 0],.pointer (some ⟨KF,0,none⟩),.int .i64 0,.bool false,undef,undef,.slice a1 0 cap1,.int .i64 0,.bool false,undef,undef,undef,undef,undef,undef,undef,undef,undef,undef,.slice (some ⟨g,0,none⟩) (m+1) hcap,.int .i64 ((m:Int)+1),.int .i64 (m:Int),.tuple #[.agg #[.int .i64 V1.kind,.string (mk V1.text),.string (mk V1.anc),.slice none 0 0],.agg #[.int .i64 Vy,.int .i64 Vz]],.slice (some ⟨g,0,none⟩) (m+1) hcap,.int .i64 (m:Int),.pointer (some ⟨g,m*5,none⟩),.pointer (some ⟨g,m*5+3,none⟩),.agg #[.string (mk lh.2.anc),.int .i64 lh.2.tag],.slice (some ⟨g,0,none⟩) (m+1) hcap,.int .i64 (m:Int),.pointer (some ⟨g,m*5,none⟩),.pointer (some ⟨g,m*5,none⟩),.agg #[.int .i64 lh.1.1,.string (mk lh.1.2.1),.int .i64 lh.1.2.2],.tuple #[.agg #[.int .i64 V1.kind,.string (mk V1.text),.string (mk V1.anc),.slice none 0 0],.agg #[.int .i64 Vy,.int .i64 Vz]],.agg #[.int .i64 V1.kind,.string (mk V1.text),.string (mk V1.anc),.slice none 0 0],.agg #[.int .i64 Vy,.int .i64 Vz],undef,undef,undef,undef,undef,undef,undef,undef,undef,undef,undef,undef,undef,undef,undef,undef,undef,undef,undef,undef,undef,undef,undef],defers:=[] }:Go.Act)) (fun _ w9=>∃ w8,w9=fill6 w8 KT KF (.int .i64 V1.kind) (.string (mk V1.text)) (.string (mk V1.anc)) (.slice none 0 0) (.int .i64 Vy) (.int .i64 Vz)/\Hid (Below w3.heap.size w3 w8)) ?H1 ?H2
 case H1 =>
  go_region_with (go_at_call 42;refine HNO.out.mono ?_;rintro e w8 ⟨rfl,d0,d1,d2,d3,d4,d5,y0,y1,y2,y3,y4,y5,HB8⟩)
  all_goals exact⟨(),⟨w8,rfl,HB8⟩,rfl⟩
 case H2 =>
 rintro _ w9 ⟨w8,rfl,HB8⟩;have hb9:=HB8.out
 have H9:Hid (B9 w (fill6 w8 KT KF (.int .i64 V1.kind) (.string (mk V1.text)) (.string (mk V1.anc)) (.slice none 0 0) (.int .i64 Vy) (.int .i64 Vz)) K2 K3 KT KF w3.heap.size d W.heap.size (some ⟨g,0,none⟩) (m+1) hcap hs V1.kind (mk V1.text) (mk V1.anc) none 0 0 (V1,Vy,Vz)):=by
  have gg:=fill6_is (HS3.out.2.2.2.2.1.later hb9) (HS3.out.2.2.2.1.later hb9) hnTF (HS3.out.1.trans (hb9.mono HS3.out.1.size)) (by omega) (by omega) (.int .i64 V1.kind) (.string (mk V1.text)) (.string (mk V1.anc)) (.slice none 0 0) (.int .i64 Vy) (.int .i64 Vz);have hTl:KT<w3.heap.size:=hK2.2.2.1;have hFl:KF<w3.heap.size:=by omega
  have hn2T:K2≠KT:=by omega
  have hn2F:K2≠KF:=by omega
  have hn3T:K3≠KT:=by omega
  have hn3F:K3≠KF:=by omega
  have hz:(fill6 w8 KT KF (.int .i64 V1.kind) (.string (mk V1.text)) (.string (mk V1.anc)) (.slice none 0 0) (.int .i64 Vy) (.int .i64 Vz)).heap.size=w8.heap.size:=by unfold fill6 fill4;simp only[World.size_setCell]
  have hown:=ownH_keep HS3.out.2.2.2.2.2 (fun j _ hj=>hb9.block j hj);have hoT:=own_ne hown (HS3.out.2.2.2.2.1.later hb9) (by decide);have hoF:=own_ne hown (HS3.out.2.2.2.1.later hb9) (by decide);refine⟨gg.1,?_,?_,gg.2.1,gg.2.2,HTV.out _ _,?_,hTl,by rw[hz];exact hb9.size⟩
  ·exact(((((HS3.out.2.1.later hb9).other hn2T _ _).other hn2T _ _).other hn2T _ _).other hn2T _ _).other hn2F _ _ |>.other hn2F _ _
  ·exact(((((HS3.out.2.2.1.later hb9).other hn3T _ _).other hn3T _ _).other hn3T _ _).other hn3T _ _).other hn3F _ _ |>.other hn3F _ _
  ·exact own_set6 hown hoT hoF
 have HAN:Hid (∀ h∈hs,h.2.anc.length<=9223372036854775807):=fun h hh=>hanc h (by rw[<-Hhs.out];exact hh)
 have HRES:Hid (bak (((c,x,z),⟨pa,pt⟩)::q.1).reverse.tail (noM ((((c,x,z),⟨pa,pt⟩)::q.1).reverse.headD ((c,x,z),⟨pa,pt⟩)))=bak (hs.take m).reverse (V1,Vy,Vz)):=by
  show _=_;rw[<-Hhs.out,rev_last hs m HHN.out.symm,List.tail_cons,List.headD_cons,<-HL.out,HVV.out]
 obtain⟨RES,HRE⟩:∃ RES,Hid (RES=bak (((c,x,z),⟨pa,pt⟩)::q.1).reverse.tail (noM ((((c,x,z),⟨pa,pt⟩)::q.1).reverse.headD ((c,x,z),⟨pa,pt⟩)))):=⟨_,rfl⟩;rw[<-HRE.out]at HRES;clear hb9 HB8 HS3 HNO hanc hrs hq HQ Hhs HTV hla hlm HL HVV n0 n1 n2 n3 n4;generalize w3.heap.size=C at H9;generalize fill6 w8 KT KF (.int .i64 V1.kind) (.string (mk V1.text)) (.string (mk V1.anc)) (.slice none 0 0) (.int .i64 Vy) (.int .i64 Vz)=w9 at H9 |-;have HBK:Hid (Calls Tryz.prog 43 #[.slice (some (⟨g,0,none⟩:Addr)) m hcap] w9 fun e w'=>e=.returned (.func (.func 72) #[] #[.pointer (some ⟨w9.heap.size,0,none⟩)])/\w'=w9.alloc (.cells #[.slice (some (⟨g,0,none⟩:Addr)) m hcap] 74)):=callsIn_wide.1 (back_in (some (⟨g,0,none⟩:Addr)) m hcap 4 w9);go_wp2_with fail;refine HBK.out.mono ?_;rintro e w10 ⟨rfl,rfl⟩
 have H10:Hid (∀ w10,w10=w9.alloc (.cells #[.slice (some (⟨g,0,none⟩:Addr)) m hcap] 74)->Be w10 w10 KT KF C d (ancs []) ((V1,Vy,Vz))/\HdAt w10 w9.heap.size (some (⟨g,0,none⟩:Addr)) m hcap (hs.take m)/\Below w.heap.size w w10/\Bx w10 K2 zT 35/\Bx w10 K3 #[.int .i64 0,.int .i64 0] 32/\w9.heap.size<w10.heap.size/\KT<C/\C<=w10.heap.size/\(∀ gg,(some (⟨g,0,none⟩:Addr))=some ⟨gg,0,none⟩->gg<w10.heap.size/\gg≠KT/\gg≠KF)/\w9.heap.size≠KT/\w9.heap.size≠KF):=fun w10 e=>by
  subst e;have ba:=below_alloc w9 (.cells #[.slice (some (⟨g,0,none⟩:Addr)) m hcap] 74);have sa:(w9.alloc (.cells #[.slice (some (⟨g,0,none⟩:Addr)) m hcap] 74)).heap.size=w9.heap.size+1:=World.size_alloc _ _;have hC9:=H9.out.hC;refine⟨⟨rfl,rfl,rfl,Nat.le_refl _,fun j _ _ _=>rfl,?_,H9.out.f.later ba⟩,hdat_of (ownH_keep H9.out.own (fun j _ hj=>ba.block j hj)) HHN.out (by omega) ((Bx.new w9 #[.slice (some (⟨g,0,none⟩:Addr)) m hcap] 74).cell 0),H9.out.bl.trans (ba.mono H9.out.bl.size),H9.out.b2.later ba,H9.out.b3.later ba,by omega,H9.out.hT,by omega,?_,by have:=H9.out.t.lt;omega,by have:=H9.out.f.lt;omega⟩
  ·exact⟨_,_,_,H9.out.t.later ba,fun _=>TrQ.wide (fun j h1 h2=>⟨h1,h2⟩) (H9.out.tr.later ba)⟩
  ·intro gg hgg;have h1:=H9.out.own;rw[hgg]at h1;have h2:=ownH_blk h1 (k:=gg) rfl;exact⟨by omega,own_ne h1 H9.out.t (by decide) gg rfl,own_ne h1 H9.out.f (by decide) gg rfl⟩
 go_upto_region 99 with fail
 have N10:=H10.out _ rfl;clear H10 H9 HBK;generalize w9.alloc (.cells #[.slice (some (⟨g,0,none⟩:Addr)) m hcap] 74)=W0 at N10 |-;generalize w9.heap.size=Bs at N10 |-;obtain⟨hBe,hHd,hbl,hk2,hk3,hBs,hTC,hCW,hgg,hBT,hBF⟩:=N10;have HBL:Hid (Below w.heap.size w W0):=hbl;have hK2l:K2<W0.heap.size:=hk2.lt;have hK3l:K3<W0.heap.size:=hk3.lt;have hTl:KT<W0.heap.size:=by omega
 have hFl:KF<W0.heap.size:=by omega
 have hn23:K2≠K3:=by omega
 have hn32:K3≠K2:=by omega
 have hn2T:K2≠KT:=by omega
 have hn2F:K2≠KF:=by omega
 have hn3T:K3≠KT:=by omega
 have hn3F:K3≠KF:=by omega
 refine(wpIn_wide (n:=4)).1 ?_
 refine wpIn_rangeFunc_ownH rfl (by decide) (gf:=72) (lb:=#[.pointer (some ⟨Bs,0,none⟩)]) rfl trivial (enters_of Tryz.func72 (by kernel_rfl) rfl)
  (back_stops (4-1) (by decide) Bs (some (⟨g,0,none⟩:Addr)) m hcap (hs.take m) (by omega) W0 hBs (fun g e=>(hgg g e).1) hHd) (fun h k=>kph_trans h k) (fun X l o o' hl _ _ _=>⟨World.putObj_heap_other (fun e=>by omega),fun g e=>World.putObj_heap_other (fun e2=>by have:=(hgg g e).1;omega)⟩) (Below.refl _ _) (fun _=>rfl)
  (fun pre X=>Be W0 X KT KF C d (ancs pre) (cur pre ((V1,Vy,Vz)))/\okP pre ((V1,Vy,Vz)))
  (fun cc pre X=>(cc=.ret/\∃ qq xx,pre=qq++[xx]/\okP qq ((V1,Vy,Vz))/\(cur qq ((V1,Vy,Vz))).2.1≠0/\Bx X K2 zT 35/\Bx X K3 #[.int .i64 (cur qq ((V1,Vy,Vz))).2.1,.int .i64 (cur qq ((V1,Vy,Vz))).2.2] 32)/\Below w.heap.size w X)
  (be_own W0 KT KF C d hTl hFl ancs (fun pre=>cur pre ((V1,Vy,Vz))) (fun pre=>okP pre ((V1,Vy,Vz))))
  (fun cc=>OwnFrom.and (fun pre A B row ht hg hr=>by
   obtain⟨h1,qq,xx,h2,h3,h4,h5,h6⟩:=ht;exact⟨h1,qq,xx,h2,h3,h4,bx_grown h5 hg (fun r e=>(hr r e).2),bx_grown h6 hg (fun r e=>(hr r e).2)⟩) (ownFrom_below (Nat.le_refl _) HBL.out.size))
  ⟨hBe,okP_nil _⟩
  (fun xx a' X=>∃ KH,a'=({ tmps:=#[.int .i64 ar,rV c x z,.agg #[.string (mk pa),.int .i64 pt],.slice a1 0 cap1,undef,.pointer (some ⟨K0,0,none⟩),.pointer (some ⟨K1,0,none⟩),undef,.pointer (some ⟨K2,0,none⟩),.pointer (some ⟨K3,0,none⟩),.slice (some ⟨g,0,none⟩) m hcap,.pointer (some ⟨KF,0,none⟩),.pointer (some ⟨KT,0,none⟩),.int .i64 (m:Int),undef,.pointer (some ⟨KH,0,none⟩),.tuple #[.slice (some ⟨g,0,none⟩) (m+1) hcap,.slice a1 0 cap1,.agg #[.int .i64 0,.int .i64 0]],.int .i64 ar,.agg #[.int .i64 c,.string (mk x),.int .i64 z],.agg #[.string (mk pa),.int .i64 pt],.agg #[.int .i64 c,.string (mk x),.int .i64 z,.string (mk pa),.int .i64 pt],.slice a len cap,.tuple #[.slice (some ⟨g,0,none⟩) (m+1) hcap,.slice a1 0 cap1,.agg #[.int .i64 0,.int .i64 0]],.slice (some ⟨g,0,none⟩) (m+1) hcap,.slice a1 0 cap1,.agg #[.int .i64 0,.int .i64 0],.pointer (some ⟨KF,0,none⟩),.int .i64 0,.bool false,undef,undef,.slice a1 0 cap1,.int .i64 0,.bool false,undef,undef,undef,undef,undef,undef,undef,undef,undef,undef,.slice (some ⟨g,0,none⟩) (m+1) hcap,.int .i64 ((m:Int)+1),.int .i64 (m:Int),.tuple #[.agg #[.int .i64 V1.kind,.string (mk V1.text),.string (mk V1.anc),.slice none 0 0],.agg #[.int .i64 Vy,.int .i64 Vz]],.slice (some ⟨g,0,none⟩) (m+1) hcap,.int .i64 (m:Int),.pointer (some ⟨g,m*5,none⟩),.pointer (some ⟨g,m*5+3,none⟩),.agg #[.string (mk lh.2.anc),.int .i64 lh.2.tag],.slice (some ⟨g,0,none⟩) (m+1) hcap,.int .i64 (m:Int),.pointer (some ⟨g,m*5,none⟩),.pointer (some ⟨g,m*5,none⟩),.agg #[.int .i64 lh.1.1,.string (mk lh.1.2.1),.int .i64 lh.1.2.2],.tuple #[.agg #[.int .i64 V1.kind,.string (mk V1.text),.string (mk V1.anc),.slice none 0 0],.agg #[.int .i64 Vy,.int .i64 Vz]],.agg #[.int .i64 V1.kind,.string (mk V1.text),.string (mk V1.anc),.slice none 0 0],.agg #[.int .i64 Vy,.int .i64 Vz],.slice (some ⟨g,0,none⟩) (m+1) hcap,.int .i64 (m:Int),.slice (some ⟨g,0,none⟩) m hcap,.slice (some (⟨g,0,none⟩:Addr)) m hcap,.func (.func 72) #[] #[.pointer (some ⟨Bs,0,none⟩)],.int .i64 (xx.1:Int),hV xx.2,undef,undef,undef,undef,undef,undef,undef,undef,undef,undef,undef,undef,undef,undef,undef,undef],defers:=[] }:Go.Act)/\Bx X KH (hC xx.2).toArray 78/\W0.heap.size<=KH)
  (fun xx a' _ A B row h hg hr=>by
   obtain⟨KH,h1,h2,h3⟩:=h;exact⟨KH,h1,bx_grown h2 hg (fun r e=>(hr r e).2),h3⟩)
  ?assign ?body ?done ?stop
 case assign =>
  rintro l pre xx X KK ⟨hI,hok⟩ hKK
  gi_wp2
  have ba:=below_alloc X (.cells #[.int .i64 xx.2.1.1,.string (mk xx.2.1.2.1),.int .i64 xx.2.1.2.2,.string (mk xx.2.2.anc),.int .i64 xx.2.2.tag] 78);have hsz:=hI.size
  exact hKK _ _ (KeepsFrom.of_grownBy (row:=none) ⟨ba.os,ba.tape,ba.output,ba.size,fun k hk _=>ba.block k hk⟩ (fun j e=>by cases e)) ⟨ba.block Bs (by omega),fun g e=>ba.block g (by have:=(hgg g e).1;omega)⟩
   ⟨hI.grown ba.size ba.os ba.tape ba.output (fun j hj=>ba.block j (by omega)) hTl hFl,hok⟩ ⟨X.heap.size,rfl,Bx.new _ _ _,hsz⟩
 case body =>
  rintro l pre xx a' X hl _ ⟨hI,hok⟩ ⟨KH,rfl,hX,hKH⟩ hlt;have HI:Hid (Be W0 X KT KF C d (ancs pre) (cur pre ((V1,Vy,Vz)))):=hI;have HOK:Hid (okP pre ((V1,Vy,Vz))):=hok;have HXX:Hid (Bx X KH (hC xx.2).toArray 78):=hX;have hnHT:KH≠KT:=by omega
  have hnHF:KH≠KF:=by omega
  obtain⟨i0,i1⟩:=hI.f.c2;have i2:=hI.f.fz 0;have i3:=hI.f.fz 1;obtain⟨ad,ln,cp,hbt,hq4⟩:=hI.t;obtain⟨t0,t1,t2,t3⟩:=hbt.c4;have u0:=hbt.fz 0;have u1:=hbt.fz 1;have u2:=hbt.fz 2;have u3:=hbt.fz 3;have HQ4:Hid (ancs pre->TrQ (fun g=>C<=g/\g<W0.heap.size) X d (.agg #[.int .i64 (cur pre ((V1,Vy,Vz))).1.kind,.string (mk (cur pre ((V1,Vy,Vz))).1.text),.string (mk (cur pre ((V1,Vy,Vz))).1.anc),.slice ad ln cp]) (cur pre ((V1,Vy,Vz))).1):=hq4;obtain⟨h0,h1,h2,h3,h4⟩:=hX.c5;have HSZ:Hid (W0.heap.size<=X.heap.size):=hI.size;have HX2:Hid (Bx X K2 zT 35/\Bx X K3 #[.int .i64 0,.int .i64 0] 32):=⟨(hI.keep K2 hK2l hn2T hn2F).trans hk2,(hI.keep K3 hK3l hn3T hn3F).trans hk3⟩;have HBX:Hid (Below w.heap.size w X):=⟨hI.os.trans HBL.out.os,hI.tape.trans HBL.out.tape,hI.out.trans HBL.out.output,Nat.le_trans HBL.out.size hI.size,fun j hj=>(hI.keep j (by have:=HBL.out.size;omega) (by omega) (by omega)).trans (HBL.out.block j hj)⟩;clear hI hX hbt hq4 hok hBe hHd hbl hk2 hk3;by_cases hy:(cur pre ((V1,Vy,Vz))).2.1=0
  ·have HY:Hid ((cur pre ((V1,Vy,Vz))).2.1=0):=hy;rw[hy]at i0;clear hy;have HON:Hid (Calls Tryz.prog 44 #[.agg #[.string (mk xx.2.2.anc),.int .i64 xx.2.2.tag],.agg #[.int .i64 (cur pre ((V1,Vy,Vz))).1.kind,.string (mk (cur pre ((V1,Vy,Vz))).1.text),.string (mk (cur pre ((V1,Vy,Vz))).1.anc),.slice ad ln cp],.agg #[.int .i64 xx.2.1.1,.string (mk xx.2.1.2.1),.int .i64 xx.2.1.2.2]] X fun e w'=>_):=onRows_all xx.2 (cur pre ((V1,Vy,Vz))).1 ad ln cp X;have hTX:KT<X.heap.size:=by have:=HSZ.out;omega
   have hFX:KF<X.heap.size:=by have:=HSZ.out;omega
   have HC6:Hid (∀ X2,Below X.heap.size X X2->X2.cell? ⟨KT,0,none⟩=some (.int .i64 (cur pre ((V1,Vy,Vz))).1.kind)/\X2.cell? ⟨KT,1,none⟩=some (.string (mk (cur pre ((V1,Vy,Vz))).1.text))/\X2.cell? ⟨KT,2,none⟩=some (.string (mk (cur pre ((V1,Vy,Vz))).1.anc))/\X2.cell? ⟨KT,3,none⟩=some (.slice ad ln cp)/\X2.cell? ⟨KF,0,none⟩=some (.int .i64 0)/\X2.cell? ⟨KF,1,none⟩=some (.int .i64 (cur pre ((V1,Vy,Vz))).2.2)/\X2.frozen? ⟨KT,0,none⟩=false/\X2.frozen? ⟨KT,1,none⟩=false/\X2.frozen? ⟨KT,2,none⟩=false/\X2.frozen? ⟨KT,3,none⟩=false/\X2.frozen? ⟨KF,0,none⟩=false/\X2.frozen? ⟨KF,1,none⟩=false):=fun X2 hb=>⟨(hb.cell (p:=⟨KT,0,none⟩) hTX).trans t0,(hb.cell (p:=⟨KT,1,none⟩) hTX).trans t1,(hb.cell (p:=⟨KT,2,none⟩) hTX).trans t2,(hb.cell (p:=⟨KT,3,none⟩) hTX).trans t3,(hb.cell (p:=⟨KF,0,none⟩) hFX).trans i0,(hb.cell (p:=⟨KF,1,none⟩) hFX).trans i1,(hb.frozen (p:=⟨KT,0,none⟩) hTX).trans u0,(hb.frozen (p:=⟨KT,1,none⟩) hTX).trans u1,(hb.frozen (p:=⟨KT,2,none⟩) hTX).trans u2,(hb.frozen (p:=⟨KT,3,none⟩) hTX).trans u3,(hb.frozen (p:=⟨KF,0,none⟩) hFX).trans i2,(hb.frozen (p:=⟨KF,1,none⟩) hFX).trans i3⟩
   dsimp only
   gi_wp2_with (first | (refine⟨trivial,?_⟩;gi_at_call 44;refine(CallsIn.inRound l (callsIn_wide.2 HON.out)).mono ?_;rintro e X2 ⟨⟨ad',ln',cp',rfl,HW⟩,hb2⟩;obtain⟨d0,d1,d2,d3,d4,d5,z0,z1,z2,z3,z4,z5⟩:=HC6.out X2 hb2))
   have hB2:Be W0 X2 KT KF C d (ancs pre) (cur pre ((V1,Vy,Vz))):=HI.out.grown hb2.size hb2.os hb2.tape hb2.output (fun j hj=>hb2.block j (by have:=HSZ.out;omega)) hTl hFl;have hQ2:ancs pre->TrQ (fun g=>C<=g/\g<W0.heap.size) X2 d (.agg #[.int .i64 (cur pre ((V1,Vy,Vz))).1.kind,.string (mk (cur pre ((V1,Vy,Vz))).1.text),.string (mk (cur pre ((V1,Vy,Vz))).1.anc),.slice ad ln cp]) (cur pre ((V1,Vy,Vz))).1:=fun hq9=>(HQ4.out hq9).keep hb2.size (fun j hj _=>hb2.block j (by have:=HSZ.out;have:=hj.2;omega))
   have hS:=be_set (A2:=ancs (pre++[xx])) hB2 (by omega) hTC (by omega) hTl hFl (orM xx.2 (cur pre ((V1,Vy,Vz))).1) ad' ln' cp' (fun hq9=>by
    have ha1:ancs pre:=fun y hy=>hq9 y (by simp[hy])
    have ha2:xx.2.2.anc.length<=9223372036854775807:=hq9 xx (by simp);rcases HW.out with ⟨rfl,rfl,rfl,k1,k2,k3,k4⟩ | ⟨rfl,rfl,rfl,k1⟩
    ·refine trq_anc (hQ2 ha1) k1 k2 k3 ?_;rcases k4 with e | e
     ·rw[e];exact trq_ancl (hQ2 ha1)
     ·rw[e];exact ha2
    ·rw[k1];exact trq_zero hd)
   have hbl6:Below 0 X2 (fill6 X2 KT KF (.int .i64 (orM xx.2 (cur pre ((V1,Vy,Vz))).1).1.kind) (.string (mk (orM xx.2 (cur pre ((V1,Vy,Vz))).1).1.text)) (.string (mk (orM xx.2 (cur pre ((V1,Vy,Vz))).1).1.anc)) (.slice ad' ln' cp') (.int .i64 (orM xx.2 (cur pre ((V1,Vy,Vz))).1).2.1) (.int .i64 (orM xx.2 (cur pre ((V1,Vy,Vz))).1).2.2)):=by
    unfold fill6 fill4;exact((((((Below.refl 0 X2).setCell (Nat.zero_le _) _).setCell (Nat.zero_le _) _).setCell (Nat.zero_le _) _).setCell (Nat.zero_le _) _).setCell (Nat.zero_le _) _).setCell (Nat.zero_le _) _
   have hks:KeepsOthers X2 (fill6 X2 KT KF (.int .i64 (orM xx.2 (cur pre ((V1,Vy,Vz))).1).1.kind) (.string (mk (orM xx.2 (cur pre ((V1,Vy,Vz))).1).1.text)) (.string (mk (orM xx.2 (cur pre ((V1,Vy,Vz))).1).1.anc)) (.slice ad' ln' cp') (.int .i64 (orM xx.2 (cur pre ((V1,Vy,Vz))).1).2.1) (.int .i64 (orM xx.2 (cur pre ((V1,Vy,Vz))).1).2.2)):=by
    unfold fill6 fill4;exact(((((KeepsOthers.setCell _ _ _).trans (KeepsOthers.setCell _ _ _)).trans (KeepsOthers.setCell _ _ _)).trans (KeepsOthers.setCell _ _ _)).trans (KeepsOthers.setCell _ _ _)).trans (KeepsOthers.setCell _ _ _)
   have hkp:∀ j,j<X.heap.size->j≠KT->j≠KF->(fill6 X2 KT KF (.int .i64 (orM xx.2 (cur pre ((V1,Vy,Vz))).1).1.kind) (.string (mk (orM xx.2 (cur pre ((V1,Vy,Vz))).1).1.text)) (.string (mk (orM xx.2 (cur pre ((V1,Vy,Vz))).1).1.anc)) (.slice ad' ln' cp') (.int .i64 (orM xx.2 (cur pre ((V1,Vy,Vz))).1).2.1) (.int .i64 (orM xx.2 (cur pre ((V1,Vy,Vz))).1).2.2)).heap[j]?=X.heap[j]?:=fun j hj h1 h2=>by
    unfold fill6 fill4;rw[Below.heap_setCell _ _ _ _ h2,Below.heap_setCell _ _ _ _ h2,Below.heap_setCell _ _ _ _ h1,Below.heap_setCell _ _ _ _ h1,Below.heap_setCell _ _ _ _ h1,Below.heap_setCell _ _ _ _ h1];exact hb2.block j hj
   refine⟨((KeepsOthers.of_grownBy (grownB hb2) (fun j o e=>by cases e)).trans hks).from _,⟨hkp Bs (by have:=HSZ.out;omega) hBT hBF,fun g e=>hkp g (by have:=HSZ.out;have:=(hgg g e).1;omega) (hgg g e).2.1 (hgg g e).2.2⟩,?_,okP_snoc HOK.out HY.out xx⟩;rw[cur_snoc];exact hS
  ·have HY:Hid ((cur pre ((V1,Vy,Vz))).2.1≠0):=hy;have hyb:((cur pre ((V1,Vy,Vz))).2.1 != 0)=true:=by simpa using hy
   clear hy;obtain⟨d0,d1,d2,d3,d4,d5,z0,z1,z2,z3,z4,z5⟩:=c6_of HX2.out.1 HX2.out.2;have hn42:KF≠K2:=by omega
   have hn43:KF≠K3:=by omega
   have HF:Hid (_/\_/\_):=fill6_is HX2.out.1 HX2.out.2 hn23 HBX.out (by omega) (by omega) (.int .i64 0) (.string ⟨#[]⟩) (.string ⟨#[]⟩) (.slice none 0 0) (.int .i64 (cur pre ((V1,Vy,Vz))).2.1) (.int .i64 (cur pre ((V1,Vy,Vz))).2.2)
   have hks:KeepsOthers X (fill6 X K2 K3 (.int .i64 0) (.string ⟨#[]⟩) (.string ⟨#[]⟩) (.slice none 0 0) (.int .i64 (cur pre ((V1,Vy,Vz))).2.1) (.int .i64 (cur pre ((V1,Vy,Vz))).2.2)):=by
    unfold fill6 fill4;exact(((((KeepsOthers.setCell _ _ _).trans (KeepsOthers.setCell _ _ _)).trans (KeepsOthers.setCell _ _ _)).trans (KeepsOthers.setCell _ _ _)).trans (KeepsOthers.setCell _ _ _)).trans (KeepsOthers.setCell _ _ _)
   have HKS:Hid (KeepsOthers X (fill6 X K2 K3 (.int .i64 0) (.string ⟨#[]⟩) (.string ⟨#[]⟩) (.slice none 0 0) (.int .i64 (cur pre ((V1,Vy,Vz))).2.1) (.int .i64 (cur pre ((V1,Vy,Vz))).2.2))):=hks;clear hks;dsimp only
   gi_wp2
   gi_region
   all_goals
    gi_wp2
    change ownPostG _ _ _ _ _ _ _ _ (fill6 X K2 K3 (.int .i64 0) (.string ⟨#[]⟩) (.string ⟨#[]⟩) (.slice none 0 0) (.int .i64 (cur pre ((V1,Vy,Vz))).2.1) (.int .i64 (cur pre ((V1,Vy,Vz))).2.2)).drew;generalize fill6 X K2 K3 (.int .i64 0) (.string ⟨#[]⟩) (.string ⟨#[]⟩) (.slice none 0 0) (.int .i64 (cur pre ((V1,Vy,Vz))).2.1) (.int .i64 (cur pre ((V1,Vy,Vz))).2.2)=WF at HF HKS |-;have hf2:Bx WF.drew K2 zT 35:=HF.out.2.1;have hf3:Bx WF.drew K3 #[.int .i64 (cur pre ((V1,Vy,Vz))).2.1,.int .i64 (cur pre ((V1,Vy,Vz))).2.2] 32:=HF.out.2.2;have hkd:KeepsOthers X WF.drew:=⟨HKS.out.size,HKS.out.same⟩;exact⟨hkd.from _,⟨rfl,pre,xx,rfl,HOK.out,HY.out,hf2,hf3⟩,HF.out.1.drew⟩
 case done =>
  rintro D xs X hD rfl ⟨hI,hok⟩ hK;obtain⟨S,HS0⟩:∃ S,Hid (S=cur (rv (hs.take m) m) ((V1,Vy,Vz))):=⟨_,rfl⟩;have hmp:=rv_map (hs.take m) m (by rw[List.length_take];have:=HHN.out;omega)
  have HRS:Hid (RES=S):=by
   show RES=S;have h:=bak_app (rv (hs.take m) m) ((V1,Vy,Vz)) [] hok;rw[hmp,List.append_nil,List.take_take,Nat.min_self]at h;rw[HRES.out,h,HS0.out];rfl
  have han:ancs (rv (hs.take m) m):=fun y hy=>by
   have h2:y.2∈(rv (hs.take m) m).map (·.2):=List.mem_map_of_mem hy;rw[hmp,List.mem_reverse]at h2;exact HAN.out y.2 (List.mem_of_mem_take (List.mem_of_mem_take h2))
  rw[<-HS0.out]at hI;obtain⟨ad,ln,cp,hbt,hq4⟩:=hI.t;have HQ4:Hid (TrQ _ X d _ _):=hq4 han;obtain⟨i0,i1⟩:=hI.f.c2;obtain⟨t0,t1,t2,t3⟩:=hbt.c4;have HX2:Hid (Bx X K2 zT 35/\Bx X K3 #[.int .i64 0,.int .i64 0] 32):=⟨(hI.keep K2 hK2l hn2T hn2F).trans hk2,(hI.keep K3 hK3l hn3T hn3F).trans hk3⟩;have HBX:Hid (Below w.heap.size w X):=⟨hI.os.trans HBL.out.os,hI.tape.trans HBL.out.tape,hI.out.trans HBL.out.output,Nat.le_trans HBL.out.size hI.size,fun j hj=>(hI.keep j (by have:=HBL.out.size;omega) (by omega) (by omega)).trans (HBL.out.block j hj)⟩;have HSZ:Hid (W0.heap.size<=X.heap.size):=hI.size;have HKD:Hid (X.heap[D]?=some (.deferred (some []))):=hK;clear hI hbt hq4 hok hBe hHd hbl hk2 hk3 hK hmp han HS0;obtain⟨d0,d1,d2,d3,d4,d5,z0,z1,z2,z3,z4,z5⟩:=c6_of HX2.out.1 HX2.out.2;have HF:Hid (_/\_/\_):=fill6_is HX2.out.1 HX2.out.2 hn23 HBX.out (by omega) (by omega) (.int .i64 S.1.kind) (.string (mk S.1.text)) (.string (mk S.1.anc)) (.slice ad ln cp) (.int .i64 S.2.1) (.int .i64 S.2.2);have hnT2:KT≠K2:=fun e=>hn2T e.symm
  have hnT3:KT≠K3:=fun e=>hn3T e.symm
  have hnF2:KF≠K2:=fun e=>hn2F e.symm
  have hnF3:KF≠K3:=fun e=>hn3F e.symm
  have HKS:Hid (KeepsOthers X (fill6 X K2 K3 (.int .i64 S.1.kind) (.string (mk S.1.text)) (.string (mk S.1.anc)) (.slice ad ln cp) (.int .i64 S.2.1) (.int .i64 S.2.2))/\∀ j,C<=j->(fill6 X K2 K3 (.int .i64 S.1.kind) (.string (mk S.1.text)) (.string (mk S.1.anc)) (.slice ad ln cp) (.int .i64 S.2.1) (.int .i64 S.2.2)).heap[j]?=X.heap[j]?):=by
   unfold fill6 fill4;refine⟨(((((KeepsOthers.setCell _ _ _).trans (KeepsOthers.setCell _ _ _)).trans (KeepsOthers.setCell _ _ _)).trans (KeepsOthers.setCell _ _ _)).trans (KeepsOthers.setCell _ _ _)).trans (KeepsOthers.setCell _ _ _),fun j hj=> ?_⟩;have h1:j≠K2:=by omega
   have h2:j≠K3:=by omega
   rw[Below.heap_setCell _ _ _ _ h2,Below.heap_setCell _ _ _ _ h2,Below.heap_setCell _ _ _ _ h1,Below.heap_setCell _ _ _ _ h1,Below.heap_setCell _ _ _ _ h1,Below.heap_setCell _ _ _ _ h1]
  go_wp2_with fail;go_region
  all_goals
   go_wp2;change bodyPostM _ _ _ _ _ _ _ (fill6 X K2 K3 (.int .i64 S.1.kind) (.string (mk S.1.text)) (.string (mk S.1.anc)) (.slice ad ln cp) (.int .i64 S.2.1) (.int .i64 S.2.2)).drew;generalize fill6 X K2 K3 (.int .i64 S.1.kind) (.string (mk S.1.text)) (.string (mk S.1.anc)) (.slice ad ln cp) (.int .i64 S.2.1) (.int .i64 S.2.2)=WF at HF HKS |-
   gi_wp2
   have hK':WF.drew.heap[D]?=some (.deferred (some [])):=HKS.out.1.same D _ HKD.out rfl;refine⟨by simp,.inl ⟨_,_,rfl,run_takeDeferred hK',?_⟩⟩;have kp:∀ a v,WF.drew.cell? a=some v->(WF.drew.putObj D (.deferred none)).cell? a=some v:=fun a v h=>cell_kept h (grownBy_putObj' _ D (.deferred none)) (fun r e=>by cases e;exact⟨_,hK',rfl⟩)
   have g0:=kp ⟨K2,0,none⟩ _ (HF.out.2.1.cell 0);have g1:=kp ⟨K2,1,none⟩ _ (HF.out.2.1.cell 1);have g2:=kp ⟨K2,2,none⟩ _ (HF.out.2.1.cell 2);have g3:=kp ⟨K2,3,none⟩ _ (HF.out.2.1.cell 3);have g4:=kp ⟨K3,0,none⟩ _ (HF.out.2.2.cell 0);have g5:=kp ⟨K3,1,none⟩ _ (HF.out.2.2.cell 1);refine⟨.tuple #[.agg #[.int .i64 S.1.kind,.string (mk S.1.text),.string (mk S.1.anc),.slice ad ln cp],.agg #[.int .i64 S.2.1,.int .i64 S.2.2]],by simp[results,Tryz.results26,go_sem,g0,g1,g2,g3,g4,g5],?_⟩;show TfD d (bak (((c,x,z),⟨pa,pt⟩)::q.1).reverse.tail (noM ((((c,x,z),⟨pa,pt⟩)::q.1).reverse.headD ((c,x,z),⟨pa,pt⟩)))) w _ _;rw[<-HRE.out,HRS.out];have hwD:w.heap.size<=D:=by have:=HBL.out.size;omega
   refine⟨_,rfl,?_,HF.out.1.drew.trans (belowK_b (w:=w) (Nat.le_refl _) _ D _ _ hwD hK' rfl rfl)⟩;refine TrQ.wide (P:=fun g=>C<=g/\g<W0.heap.size) (fun j hj _=>by have:=hj.1;omega) (HQ4.out.keep ?_ (fun j hj _=> ?_))
   ·have h1:=HKS.out.1.size;show X.heap.size<=(WF.drew.putObj D (.deferred none)).heap.size;simp only[World.putObj,Array.size_setIfInBounds];exact h1
   ·rw[World.putObj_heap_other (fun e=>by have:=hj.2;omega)];exact HKS.out.2 j hj.1
 case stop =>
  rintro D cc pre X hD hpre ⟨⟨rfl,qq,xx,rfl,hq1,hq2,hx2,hx3⟩,hB⟩ hK;have hmp:=rv_map (hs.take m) m (by rw[List.length_take];have:=HHN.out;omega)
  have HRS:Hid (RES=(tr0,(cur qq ((V1,Vy,Vz))).2)):=by
   show RES=_;obtain⟨t,ht⟩:=hpre;rw[<-ht,List.append_assoc,List.map_append,List.take_take,Nat.min_self]at hmp;have h:=bak_app qq ((V1,Vy,Vz)) (([xx]++t).map (·.2)) hq1;rw[hmp]at h;rw[HRES.out,h,List.map_append,List.map_cons,List.map_nil,List.singleton_append,bak,if_pos hq2]
  gi_wp2
  refine⟨by simp,.inl ⟨_,_,rfl,run_takeDeferred hK,?_⟩⟩;have kp:∀ a v,X.cell? a=some v->(X.putObj D (.deferred none)).cell? a=some v:=fun a v h=>cell_kept h (grownBy_putObj' _ D (.deferred none)) (fun r e=>by cases e;exact⟨_,hK,rfl⟩)
  have g0:=kp ⟨K2,0,none⟩ _ (hx2.cell 0);have g1:=kp ⟨K2,1,none⟩ _ (hx2.cell 1);have g2:=kp ⟨K2,2,none⟩ _ (hx2.cell 2);have g3:=kp ⟨K2,3,none⟩ _ (hx2.cell 3);have g4:=kp ⟨K3,0,none⟩ _ (hx3.cell 0);have g5:=kp ⟨K3,1,none⟩ _ (hx3.cell 1);refine⟨.tuple #[.agg zT,.agg #[.int .i64 (cur qq ((V1,Vy,Vz))).2.1,.int .i64 (cur qq ((V1,Vy,Vz))).2.2]],by simp[results,Tryz.results26,go_sem,g0,g1,g2,g3,g4,g5,zT],?_⟩;show TfD d (bak (((c,x,z),⟨pa,pt⟩)::q.1).reverse.tail (noM ((((c,x,z),⟨pa,pt⟩)::q.1).reverse.headD ((c,x,z),⟨pa,pt⟩)))) w _ _;rw[<-HRE.out,HRS.out];have hwD:w.heap.size<=D:=by have:=HBL.out.size;omega
  exact⟨_,rfl,TrP.more (TrP.leaf 0 [] [] (by decide) (by decide) (by decide) 0) hd,hB.trans (belowK_b (w:=w) (Nat.le_refl _) _ D _ _ hwD hK rfl rfl)⟩
end Tre
end Go.Proofs.YtalijhclfppohaaGreatDoor
