/- . -/
import Derived.Test.YtidhpmcmbooaoaaGreatDoorR40TreeBel0
import Derived.Deep.RegionWith
import Derived.Test.YtidhpmcmbooaoaaGreatDoorR38FlowAllow
import Derived.Test.YtidhpmcmbooaoaaGreatDoorR36BlockFold
import Derived.BigRegionIn
import Derived.Maps.AppendAt
set_option linter.unusedSimpArgs false
set_option linter.unusedVariables false
set_option maxRecDepth 100000
namespace Go.Proofs.YtidhpmcmbooaoaaGreatDoor
namespace Tre
open Utf Rws Pln Flw
open Go.RowKit
set_option maxHeartbeats 8000000
variable {w:World}
theorem wp_thenQ {α:Type} {P:Program} {cd:Code} {Q:Exit->Go.Act->World->Prop} {a:Go.Act} {w:World} (F:α->Go.Act) (I:α->World->Prop) (h1:Hid (∀ p w',I p w'->Q .normal (F p) w')->cd.wp P Q a w) (h2:∀ p w',I p w'->Q .normal (F p) w'):cd.wp P Q a w:=h1 h2
theorem item_val (d:Nat) (ar:Int) (c:Int) (x:Ln) (z:Int) (a:Option Addr) (len cap:Nat) (hx:x.length<=140737488351232) (hxs:(itR x).length<=140737488351232) (hT:Tb w) (hi:isIt x=true) (hh:isIt (itR x)=true\/isIt (itR x)=false/\isEn (itR x)=true) (hc1: -9223372036854775808<=c) (hc2:c<=9223372036854775807) (hc3:itN x<=9223372036854775807) (R:Tr × Int × Int)
  (HME:Hid (∀ w0,Below w.heap.size w w0->Calls Tryz.prog 19 #[.int .i64 ar,.agg #[.int .i64 (mvd c (itN x)),.string (mk (itR x)),.int .i64 z],.slice a len cap] w0 fun e w'=>TfD d R w0 e w')) :
  Calls Tryz.prog 36 #[.int .i64 ar,rV c x z,.slice a len cap] w fun e w'=>PaD d [R.1] R.2.1 R.2.2 w e w':=by
 have HI:Hid (∀ w0,Calls Tryz.prog 53 #[.string (mk x)] w0 fun e w'=>e=.returned (.tuple #[.string (mk (itR x)),.int .i64 (itN x:Int),.bool true])/\w0=w'):=fun w0=>by
  have h:=item0_any x w0 (by omega);rw[hi]at h;exact h
 have HII:Hid (∀ w0,Calls Tryz.prog 34 #[.string (mk (itR x))] w0 fun e w'=>e=.returned (.bool (isIt (itR x)))/\w0=w'):=fun w0=>isItem_any (itR x) w0 (by omega)
 have HIE:Hid (∀ w0,Tb w0->Calls Tryz.prog 37 #[.string (mk (itR x))] w0 fun e w'=>e=.returned (.bool (isEn (itR x)))/\Below w0.heap.size w0 w'):=fun w0 ht=>isEntry_any (itR x) w0 (by omega) ht
 have HMV:Hid (∀ w0,Calls Tryz.prog 55 #[.int .i64 c,.int .i64 (itN x:Int)] w0 fun e w'=>e=.returned (.int .i64 (mvd c (itN x)))/\w0=w'):=fun w0=>moved_any c (itN x) w0 hc1 hc2 hc3
 have HTb:Hid (Tb w):=hT;clear hT hi;generalize isIt (itR x)=bI at *;generalize isEn (itR x)=bE at *;generalize itR x=aR at *;generalize mvd c (itN x)=mc at *;generalize itN x=aN at *;rcases hh with rfl | ⟨rfl,rfl⟩
 all_goals
  have N2:Hid (_/\_/\_):=two_new w #[.int .i64 c,.string (mk x),.int .i64 z] #[.int .i64 0,.int .i64 0] 45 33;go_enter Tryz.func36,Tryz.ntmps36;go_wp2_with fail;change Calls _ _ _ ((w.alloc (.cells #[.int .i64 c,.string (mk x),.int .i64 z] 45)).alloc (.cells #[.int .i64 0,.int .i64 0] 33)) _;generalize (w.alloc (.cells #[.int .i64 c,.string (mk x),.int .i64 z] 45)).alloc (.cells #[.int .i64 0,.int .i64 0] 33)=W at N2 |-;obtain⟨K1,hK1⟩:∃ K,K=w.heap.size+1:=⟨_,rfl⟩;obtain⟨K0,hK0⟩:∃ K,K=w.heap.size:=⟨_,rfl⟩
  have HB:Hid (Below w.heap.size w W/\Bx W K0 #[.int .i64 c,.string (mk x),.int .i64 z] 45/\Bx W K1 #[.int .i64 0,.int .i64 0] 33):=by
   rw[hK0,hK1];exact N2.out
  rw[<-hK1,<-hK0];have hw1:w.heap.size<=K1:=by omega
  have h01:K0≠K1:=by omega
  have h10:K1≠K0:=by omega
  clear N2 hK0 hK1;refine(HI.out W).mono ?_;rintro e w' ⟨rfl,rfl⟩;have N3:Hid (_/\_/\_):=two_new W zT #[.int .i64 0,.int .i64 0] 24 33;go_wp2_with fail;change Calls _ _ _ ((W.alloc (.cells zT 24)).alloc (.cells #[.int .i64 0,.int .i64 0] 33)) _;generalize (W.alloc (.cells zT 24)).alloc (.cells #[.int .i64 0,.int .i64 0] 33)=W3 at N3 |-;obtain⟨KF,hKF⟩:∃ K,K=W.heap.size+1:=⟨_,rfl⟩;obtain⟨KT,hKT⟩:∃ K,K=W.heap.size:=⟨_,rfl⟩
  have HB3:Hid (Below w.heap.size w W3/\Bx W3 K0 #[.int .i64 c,.string (mk x),.int .i64 z] 45/\Bx W3 K1 #[.int .i64 0,.int .i64 0] 33/\Bx W3 KT zT 24/\Bx W3 KF #[.int .i64 0,.int .i64 0] 33):=by
   rw[hKF,hKT];exact⟨HB.out.1.trans (N3.out.1.mono HB.out.1.size),HB.out.2.1.later N3.out.1,HB.out.2.2.later N3.out.1,N3.out.2.1,N3.out.2.2⟩
  rw[<-hKF,<-hKT];have hTF:KT≠KF:=by omega
  have hFT:KF≠KT:=by omega
  have hK1T:K1<KT:=by have:=HB.out.2.2.lt;omega
  have hwT:w.heap.size<=KT:=by omega
  have hwF:w.heap.size<=KF:=by omega
  have hT1:KT≠K1:=by omega
  have hF1:KF≠K1:=by omega
  have h1T:K1≠KT:=by omega
  have h1F:K1≠KF:=by omega
  clear N3 HB hKF hKT;refine(HII.out _).mono ?_;rintro e w' ⟨rfl,rfl⟩
  first
  | (have hx:bE=bE:=rfl
     obtain⟨w4,hx⟩:∃ X,X=W3:=⟨_,rfl⟩;subst hx;have H4:=Below.refl w4.heap.size w4;obtain⟨vA,vB,vC,hA,hB,hC⟩:∃ a b c:Value,a=.bool true/\b=undef/\c=undef:=⟨_,_,_,rfl,rfl,rfl⟩)
  | (go_wp2_with fail
     refine(HIE.out _ (HTb.out.later HB3.out.1)).mono ?_;rintro e w4 ⟨rfl,H4⟩;obtain⟨vA,vB,vC,hA,hB,hC⟩:∃ a b c:Value,a=.bool false/\b=.string (mk aR)/\c=.bool true:=⟨_,_,_,rfl,rfl,rfl⟩)
  have HB4:Hid (Below w.heap.size w w4/\Bx w4 K0 #[.int .i64 c,.string (mk x),.int .i64 z] 45/\Bx w4 K1 #[.int .i64 0,.int .i64 0] 33/\Bx w4 KT zT 24/\Bx w4 KF #[.int .i64 0,.int .i64 0] 33) :=
   ⟨HB3.out.1.trans (H4.mono HB3.out.1.size),HB3.out.2.1.later H4,HB3.out.2.2.1.later H4,HB3.out.2.2.2.1.later H4,HB3.out.2.2.2.2.later H4⟩
  clear H4 HB3;obtain⟨r0,r1,r2⟩:=HB4.out.2.1.c3
  have HVA:Hid (Calls Tryz.prog 19 #[.int .i64 ar,.agg #[.int .i64 mc,.string (mk aR),.int .i64 z],.slice a len cap] w4.drew fun e w8=>∃ k2 x2 a2 ad2 len2 cap2,e=.returned (.tuple #[.agg #[.int .i64 k2,.string x2,.string a2,.slice ad2 len2 cap2],.agg #[.int .i64 R.2.1,.int .i64 R.2.2]])/\w8.cell? ⟨KT,0,none⟩=some (.int .i64 0)/\w8.cell? ⟨KT,1,none⟩=some (.string ⟨#[]⟩)/\w8.cell? ⟨KT,2,none⟩=some (.string ⟨#[]⟩)/\w8.cell? ⟨KT,3,none⟩=some (.slice none 0 0)/\w8.cell? ⟨KF,0,none⟩=some (.int .i64 0)/\w8.cell? ⟨KF,1,none⟩=some (.int .i64 0)/\w8.frozen? ⟨KT,0,none⟩=false/\w8.frozen? ⟨KT,1,none⟩=false/\w8.frozen? ⟨KT,2,none⟩=false/\w8.frozen? ⟨KT,3,none⟩=false/\w8.frozen? ⟨KF,0,none⟩=false/\w8.frozen? ⟨KF,1,none⟩=false/\Hid (Below w.heap.size w w8/\Bx w8 K1 #[.int .i64 0,.int .i64 0] 33/\Bx w8 KT zT 24/\Bx w8 KF #[.int .i64 0,.int .i64 0] 33/\TrP w4.heap.size w8 d (.agg #[.int .i64 k2,.string x2,.string a2,.slice ad2 len2 cap2]) R.1)):=by
   have hbd:Below w4.heap.size w4 w4.drew:=(Below.refl _ _).drew;refine(HME.out w4.drew (HB4.out.1.trans (hbd.mono HB4.out.1.size))).mono ?_;rintro e w8 ⟨v,rfl,ht,hb8⟩;obtain⟨k2,x2,a2,ad2,len2,cap2,rfl⟩:=ht.cells;have hb9:=hbd.trans hb8;have e3:=HB4.out.2.2.2.1.later hb9;have e4:=HB4.out.2.2.2.2.later hb9;obtain⟨d0,d1,d2,d3,d4,d5,y0,y1,y2,y3,y4,y5⟩:=c6_of e3 e4;exact⟨k2,x2,a2,ad2,len2,cap2,rfl,d0,d1,d2,d3,d4,d5,y0,y1,y2,y3,y4,y5,HB4.out.1.trans (hb9.mono HB4.out.1.size),HB4.out.2.2.1.later hb9,e3,e4,ht⟩
  obtain⟨R1,R2,R3⟩:=R;have hKTW:KT<w4.heap.size:=HB4.out.2.2.2.1.lt;have hKFW:KF<w4.heap.size:=HB4.out.2.2.2.2.lt;have hK1W:K1<w4.heap.size:=HB4.out.2.2.1.lt;have hWs:w.heap.size<=w4.heap.size:=HB4.out.1.size;clear HB4 HME;go_upto_region 7 with fail
  refine wp_thenQ (fun (p:Int × ByteArray × ByteArray × Option Addr × Nat × Nat)=>({ tmps:=#[.int .i64 ar,rV c x z,.slice a len cap,undef,.pointer (some ⟨K0,0,none⟩),undef,.slice none 0 0,.pointer (some ⟨K1,0,none⟩),.string (mk aR),.int .i64 (aN:Int),.bool true,.pointer (some ⟨KT,0,none⟩),.pointer (some ⟨KF,0,none⟩),.tuple #[.string (mk aR),.int .i64 (aN:Int),.bool true],.pointer (some ⟨K0,1,none⟩),.string (mk x),.tuple #[.string (mk aR),.int .i64 (aN:Int),.bool true],.string (mk aR),.int .i64 (aN:Int),.bool true,.bool true,.bool false,undef,undef,.string (mk aR),vA,vA,vB,vC,.bool true,.tuple #[.agg #[.int .i64 p.1,.string p.2.1,.string p.2.2.1,.slice p.2.2.2.1 p.2.2.2.2.1 p.2.2.2.2.2],.agg #[.int .i64 R2,.int .i64 R3]],.int .i64 ar,.pointer (some ⟨K0,0,none⟩),.int .i64 c,.int .i64 (aN:Int),.int .i64 mc,.string (mk aR),.pointer (some ⟨K0,2,none⟩),.int .i64 z,.agg #[.int .i64 mc,.string (mk aR),.int .i64 z],.slice a len cap,.tuple #[.agg #[.int .i64 p.1,.string p.2.1,.string p.2.2.1,.slice p.2.2.2.1 p.2.2.2.2.1 p.2.2.2.2.2],.agg #[.int .i64 R2,.int .i64 R3]],.agg #[.int .i64 p.1,.string p.2.1,.string p.2.2.1,.slice p.2.2.2.1 p.2.2.2.2.1 p.2.2.2.2.2],.agg #[.int .i64 R2,.int .i64 R3],undef,undef,undef,undef,undef,undef,undef,undef,undef,undef,undef],defers:=[] }:Go.Act)) (fun p w9=>∃ w8,w9=fill6 w8 KT KF (.int .i64 p.1) (.string p.2.1) (.string p.2.2.1) (.slice p.2.2.2.1 p.2.2.2.2.1 p.2.2.2.2.2) (.int .i64 R2) (.int .i64 R3)/\Hid (Below w.heap.size w w8/\Bx w8 K1 #[.int .i64 0,.int .i64 0] 33/\Bx w8 KT zT 24/\Bx w8 KF #[.int .i64 0,.int .i64 0] 33/\TrP w4.heap.size w8 d (.agg #[.int .i64 p.1,.string p.2.1,.string p.2.2.1,.slice p.2.2.2.1 p.2.2.2.2.1 p.2.2.2.2.2]) R1)) ?H1 ?H2
  case H1 =>
   subst hA hB hC;intro HQQ;go_region_with (first | (go_at_call 55;refine(HMV.out _).mono ?_;rintro e w' ⟨rfl,rfl⟩) | (go_at_call 19;refine HVA.out.mono ?_;rintro e w8 ⟨k2,x2,a2,ad2,len2,cap2,rfl,d0,d1,d2,d3,d4,d5,y0,y1,y2,y3,y4,y5,HB8⟩))
   all_goals exact HQQ.out (k2,x2,a2,ad2,len2,cap2) _ ⟨w8,rfl,HB8⟩
  case H2 =>
  rintro⟨k2,x2,a2,ad2,len2,cap2⟩ w9 ⟨w8,rfl,HB8⟩;clear r0 r1 r2 HVA hA hB hC
  have H9:Hid (∀ w9,w9=fill6 w8 KT KF (.int .i64 k2) (.string x2) (.string a2) (.slice ad2 len2 cap2) (.int .i64 R2) (.int .i64 R3)->(Below w.heap.size w w9/\Bx w9 K1 #[.int .i64 0,.int .i64 0] 33/\Bx w9 KT #[.int .i64 k2,.string x2,.string a2,.slice ad2 len2 cap2] 24/\Bx w9 KF #[.int .i64 R2,.int .i64 R3] 33/\TrP w4.heap.size w9 d (.agg #[.int .i64 k2,.string x2,.string a2,.slice ad2 len2 cap2]) R1)):=fun w9 e=>by
   subst e;have g:=fill6_is HB8.out.2.2.1 HB8.out.2.2.2.1 (by omega) HB8.out.1 (by omega) (by omega) (.int .i64 k2) (.string x2) (.string a2) (.slice ad2 len2 cap2) (.int .i64 R2) (.int .i64 R3);exact⟨g.1,(((((HB8.out.2.1.other h1T _ _).other h1T _ _).other h1T _ _).other h1T _ _).other h1F _ _).other h1F _ _,g.2.1,g.2.2,(((((HB8.out.2.2.2.2.set hKTW).set hKTW).set hKTW).set hKTW).set hKFW).set hKFW⟩
  clear HB8;have N9:=H9.out _ rfl;clear H9
  try dsimp only
  change Exit.then _ _ _ _ (fill6 w8 KT KF (.int .i64 k2) (.string x2) (.string a2) (.slice ad2 len2 cap2) (.int .i64 R2) (.int .i64 R3));generalize fill6 w8 KT KF (.int .i64 k2) (.string x2) (.string a2) (.slice ad2 len2 cap2) (.int .i64 R2) (.int .i64 R3)=w9 at N9 |-;have HX:Hid (_/\_/\_/\_/\_):=N9;clear N9;obtain⟨p0,p1,p2,p3⟩:=HX.out.2.2.1.c4;obtain⟨q0,q1⟩:=HX.out.2.2.2.1.c2;obtain⟨c0,c1⟩:=HX.out.2.1.c2;have z0:=HX.out.2.1.fz 0;have z1:=HX.out.2.1.fz 1;have BA:=below_alloc w9 (.cells #[.int .i64 k2,.string x2,.string a2,.slice ad2 len2 cap2] 24);have XA:=HX.out.2.1.later BA;have XB:=HX.out.2.2.2.1.later BA;have u0:(w9.alloc (.cells #[.int .i64 k2,.string x2,.string a2,.slice ad2 len2 cap2] 24)).cell? ⟨K1,0,none⟩=some (.int .i64 0):=XA.cell 0;have u1:(w9.alloc (.cells #[.int .i64 k2,.string x2,.string a2,.slice ad2 len2 cap2] 24)).frozen? ⟨K1,0,none⟩=false:=XA.fz 0;have u2:(w9.alloc (.cells #[.int .i64 k2,.string x2,.string a2,.slice ad2 len2 cap2] 24)).cell? ⟨K1,1,none⟩=some (.int .i64 0):=XA.cell 1;have u3:(w9.alloc (.cells #[.int .i64 k2,.string x2,.string a2,.slice ad2 len2 cap2] 24)).frozen? ⟨K1,1,none⟩=false:=XA.fz 1;obtain⟨u4,u5⟩:=XB.c2;have u6:(w9.alloc (.cells #[.int .i64 k2,.string x2,.string a2,.slice ad2 len2 cap2] 24)).drew.cell? ⟨K1,0,none⟩=some (.int .i64 0):=XA.cell 0;have u7:(w9.alloc (.cells #[.int .i64 k2,.string x2,.string a2,.slice ad2 len2 cap2] 24)).drew.frozen? ⟨K1,0,none⟩=false:=XA.fz 0;have u8:(w9.alloc (.cells #[.int .i64 k2,.string x2,.string a2,.slice ad2 len2 cap2] 24)).drew.cell? ⟨K1,1,none⟩=some (.int .i64 0):=XA.cell 1;have u9:(w9.alloc (.cells #[.int .i64 k2,.string x2,.string a2,.slice ad2 len2 cap2] 24)).drew.frozen? ⟨K1,1,none⟩=false:=XA.fz 1;obtain⟨u10,u11⟩:=XB.c2
  have HF:Hid (Below w.heap.size w (((w9.alloc (.cells #[.int .i64 k2,.string x2,.string a2,.slice ad2 len2 cap2] 24)).setCell ⟨K1,0,none⟩ (.int .i64 R2)).setCell ⟨K1,1,none⟩ (.int .i64 R3))/\Bx (((w9.alloc (.cells #[.int .i64 k2,.string x2,.string a2,.slice ad2 len2 cap2] 24)).setCell ⟨K1,0,none⟩ (.int .i64 R2)).setCell ⟨K1,1,none⟩ (.int .i64 R3)) w9.heap.size #[.int .i64 k2,.string x2,.string a2,.slice ad2 len2 cap2] 24/\Bx (((w9.alloc (.cells #[.int .i64 k2,.string x2,.string a2,.slice ad2 len2 cap2] 24)).setCell ⟨K1,0,none⟩ (.int .i64 R2)).setCell ⟨K1,1,none⟩ (.int .i64 R3)) K1 #[.int .i64 R2,.int .i64 R3] 33/\Kd w.heap.size (((w9.alloc (.cells #[.int .i64 k2,.string x2,.string a2,.slice ad2 len2 cap2] 24)).setCell ⟨K1,0,none⟩ (.int .i64 R2)).setCell ⟨K1,1,none⟩ (.int .i64 R3)) d [.int .i64 k2,.string x2,.string a2,.slice ad2 len2 cap2] [R1]):=by
   have hn:w9.heap.size≠K1:=by have:=HX.out.2.1.lt;omega
   have ht9:TrP w4.heap.size (((w9.alloc (.cells #[.int .i64 k2,.string x2,.string a2,.slice ad2 len2 cap2] 24)).setCell ⟨K1,0,none⟩ (.int .i64 R2)).setCell ⟨K1,1,none⟩ (.int .i64 R3)) d (.agg #[.int .i64 k2,.string x2,.string a2,.slice ad2 len2 cap2]) R1:=((HX.out.2.2.2.2.later BA).set hK1W).set hK1W;exact⟨((HX.out.1.trans (BA.mono HX.out.1.size)).setCell (p:=⟨K1,0,none⟩) hw1 _).setCell (p:=⟨K1,1,none⟩) hw1 _,((Bx.new w9 _ _).other hn _ _).other hn _ _,(XA.set 0 _).set 1 _,Kd.one (TrP.mono hWs ht9)⟩
  have hWB:w.heap.size<=w9.heap.size:=HX.out.1.size;clear HX BA XA XB;go_upto_region 9 with fail
  go_region;go_wp2;change bodyPost _ _ _ _ _ (((w9.alloc (.cells #[.int .i64 k2,.string x2,.string a2,.slice ad2 len2 cap2] 24)).setCell ⟨K1,0,none⟩ (.int .i64 R2)).setCell ⟨K1,1,none⟩ (.int .i64 R3)).drew;generalize ((w9.alloc (.cells #[.int .i64 k2,.string x2,.string a2,.slice ad2 len2 cap2] 24)).setCell ⟨K1,0,none⟩ (.int .i64 R2)).setCell ⟨K1,1,none⟩ (.int .i64 R3)=WW at HF |-;obtain⟨j0,j1⟩:=HF.out.2.2.1.c2;refine bodyPost_ret (v:=.tuple #[.slice (some ⟨w9.heap.size,0,none⟩) 1 1,.agg #[.int .i64 R2,.int .i64 R3]]) (by simp[results,Tryz.results36,go_sem,j0,j1]) rfl ?_;exact⟨w9.heap.size,[.int .i64 k2,.string x2,.string a2,.slice ad2 len2 cap2],rfl,hWB,HF.out.2.1.drew 1,HF.out.2.2.2.later ((Below.refl _ _).drew),HF.out.1.drew⟩
end Tre
namespace Tre
open Utf Rws Pln Flw
open Go.RowKit Go.Shelf
open Blk (Rw RwAt z3)
set_option maxHeartbeats 8000000
attribute [local go_sem] Oper.semAt_some
theorem four_bx (w:World) (c0 c1 c2 c3:Array Value) (t0 t1 t2 t3:TypeId) :
  Below w.heap.size w ((((w.alloc (.cells c0 t0)).alloc (.cells c1 t1)).alloc (.cells c2 t2)).alloc (.cells c3 t3))/\Bx ((((w.alloc (.cells c0 t0)).alloc (.cells c1 t1)).alloc (.cells c2 t2)).alloc (.cells c3 t3)) w.heap.size c0 t0 /\
  Bx ((((w.alloc (.cells c0 t0)).alloc (.cells c1 t1)).alloc (.cells c2 t2)).alloc (.cells c3 t3)) (w.heap.size+1) c1 t1/\Bx ((((w.alloc (.cells c0 t0)).alloc (.cells c1 t1)).alloc (.cells c2 t2)).alloc (.cells c3 t3)) (w.heap.size+1+1) c2 t2 /\
  Bx ((((w.alloc (.cells c0 t0)).alloc (.cells c1 t1)).alloc (.cells c2 t2)).alloc (.cells c3 t3)) (w.heap.size+1+1+1) c3 t3:=by
 have h:=three_new w c0 c1 c2 t0 t1 t2;have s:(((w.alloc (.cells c0 t0)).alloc (.cells c1 t1)).alloc (.cells c2 t2)).heap.size=w.heap.size+1+1+1:=by simp only[World.size_alloc]
 have b:=below_alloc (((w.alloc (.cells c0 t0)).alloc (.cells c1 t1)).alloc (.cells c2 t2)) (.cells c3 t3);have n:=Bx.new (((w.alloc (.cells c0 t0)).alloc (.cells c1 t1)).alloc (.cells c2 t2)) c3 t3;rw[s]at n;exact⟨h.1.trans (b.mono h.1.size),h.2.1.later b,h.2.2.1.later b,h.2.2.2.later b,n⟩
theorem own_ne {w:World} {B K:Nat} {e t:TypeId} {k n:Nat} {v:Value} {xs:List Value} {cs:Array Value} (h:w.ownsRow B e k v n xs) (hb:Bx w K cs t) (hne:e≠t):∀ j,v.ownBlock=some j->j≠K:=by
 intro j hj hk;subst hk;rcases h.2 with ⟨rfl,_⟩ | ⟨g,cap,cur,rfl,_,hh,_⟩
 ·cases hj
 ·cases hj;have:=hh.symm.trans hb;simp only[Option.some.injEq,Obj.cells.injEq]at this;exact hne this.2.1
theorem hdat_of {w:World} {B Bs:Nat} {ha:Option Addr} {n m hcap:Nat} {hs:List Hd} (h:w.ownsRow B 62 5 (.slice ha n hcap) n (hCs hs)) (hn:n=hs.length) (hm:m<=n) (hb:w.cell? ⟨Bs,0,none⟩=some (.slice ha m hcap)):HdAt w Bs ha m hcap (hs.take m):=by
 refine⟨hb,by rw[List.length_take];omega,fun i hi=> ?_⟩;rcases h.2 with ⟨q,h0⟩ | ⟨g,cap,cur,q,_,hh,h1,h2,h3,h4⟩
 ·omega
 ·simp only[Value.slice.injEq]at q
  have hc:∀ j,j<5->w.cell? ⟨g,i*5+j,none⟩=(hC (hs.getD i hd0))[j]?:=fun j hj=>by
   rw[Lib.cell_of_heap hh]
   have e:cur[i*5+j]?=(cur.toList.take (n*5))[i*5+j]?:=by
    rw[List.getElem?_take_of_lt (by omega)];simp
   rw[e,h4]
   have hd:hCs hs=hCs (hs.take i)++(hC (hs.getD i hd0)++hCs (hs.drop (i+1))):=by
    have e1:hs=hs.take i++(hs.getD i hd0::hs.drop (i+1)):=by
     rw[List.getD_eq_getElem?_getD,List.getElem?_eq_getElem (show i<hs.length by omega),Option.getD_some,<-List.drop_eq_getElem_cons,List.take_append_drop]
    conv=>lhs;rw[e1]
    unfold hCs;rw[List.flatMap_append,List.flatMap_cons]
   have hl:(hCs (hs.take i)).length=i*5:=by rw[hCs_len,List.length_take];congr 1;omega
   rw[hd,List.getElem?_append_right (by omega),hl,List.getElem?_append_left (by show i*5+j-i*5<5;omega)];congr 1;omega
  have hg:(hs.take m).getD i hd0=hs.getD i hd0:=by rw[List.getD_eq_getElem?_getD,List.getD_eq_getElem?_getD,List.getElem?_take_of_lt hi]
  rw[hg];exact⟨g,q.1,hc 0 (by decide),hc 1 (by decide),hc 2 (by decide),hc 3 (by decide),hc 4 (by decide)⟩
theorem own_set6 {w:World} {B KT KF n:Nat} {v x0 x1 x2 x3 y0 y1:Value} {xs:List Value} (h:w.ownsRow B 62 5 v n xs) (h1:∀ j,v.ownBlock=some j->j≠KT) (h2:∀ j,v.ownBlock=some j->j≠KF):(fill6 w KT KF x0 x1 x2 x3 y0 y1).ownsRow B 62 5 v n xs:=by
 refine⟨h.1,?_⟩;rcases h.2 with q | ⟨g,cap,cur,rfl,hb,hh,r⟩
 ·exact .inl q
 ·have e1:=h1 g rfl;have e2:=h2 g rfl;refine .inr ⟨g,cap,cur,rfl,hb,?_,r⟩;unfold fill6 fill4;rw[Below.heap_setCell _ _ _ _ e2,Below.heap_setCell _ _ _ _ e2,Below.heap_setCell _ _ _ _ e1,Below.heap_setCell _ _ _ _ e1,Below.heap_setCell _ _ _ _ e1,Below.heap_setCell _ _ _ _ e1];exact hh
structure B9 (w w9:World) (K2 K3 KT KF C d B:Nat) (ha:Option Addr) (hn hcap:Nat) (hs:List Hd) (k2:Int) (x2 a2:ByteArray) (ad2:Option Addr) (len2 cap2:Nat) (r:Tf):Prop where
 bl:Below w.heap.size w w9
 b2:Bx w9 K2 zT 24
 b3:Bx w9 K3 #[.int .i64 0,.int .i64 0] 33
 t:Bx w9 KT #[.int .i64 k2,.string x2,.string a2,.slice ad2 len2 cap2] 24
 f:Bx w9 KF #[.int .i64 r.2.1,.int .i64 r.2.2] 33
 tr:TrP C w9 d (.agg #[.int .i64 k2,.string x2,.string a2,.slice ad2 len2 cap2]) r.1
 own:w9.ownsRow B 62 5 (.slice ha hn hcap) hn (hCs hs)
 hT:KT<C
 hC:C<=w9.heap.size
theorem own_max {w:World} {B n:Nat} {v:Value} {xs:List Value} (h:w.ownsRow B 62 5 v n xs):n<=9223372036854775807:=by
 rcases h.2 with ⟨_,h2⟩ | ⟨_,_,_,_,_,_,h4,h5,_⟩
 ·omega
 ·have:maxLen=9223372036854775807:=rfl;omega
theorem grownB {w w':World} (h:Below w.heap.size w w'):w.grownBy w' none:=⟨h.os,h.tape,h.output,h.size,fun k hk _=>h.block k hk⟩
theorem kph_trans {Bs:Nat} {a:Option Addr} {A B C:World} (h:KpH Bs a A B) (k:KpH Bs a B C):KpH Bs a A C:=⟨k.1.trans h.1,fun g e=>(k.2 g e).trans (h.2 g e)⟩
theorem bx_grown {W W':World} {row:Option Nat} {K:Nat} {cs:Array Value} {t:TypeId} (h:Bx W K cs t) (hg:W.grownBy W' row) (hr:∀ r,row=some r->∃ o:Obj,W.heap[r]?=some o/\o.isCells=false):Bx W' K cs t:=by
 refine(hg.block K h.lt (fun e=> ?_)).trans h;obtain⟨o,ho,hc⟩:=hr K e.symm;rw[h]at ho;cases ho;cases hc
def Nrm {α:Type} (I:α->World->Prop) (F:α->Go.Act):Exit->Go.Act->World->Prop
 | .normal,a,w=>∃ p,I p w/\a=F p
 | _,_,_=>False
theorem wp_thenN {α:Type} {P:Program} {cd:Code} {Q:Exit->Go.Act->World->Prop} {a:Go.Act} {w:World} (F:α->Go.Act) (I:α->World->Prop) (h1:cd.wp P (Nrm I F) a w) (h2:∀ p w',I p w'->Q .normal (F p) w'):cd.wp P Q a w :=
 Code.wp_mono (fun e a w h=>by cases e<;>first | exact h.elim | (obtain⟨p,hi,rfl⟩:=h;exact h2 p w hi)) h1
theorem own_slice {w:World} {B:Nat} {e:TypeId} {k n:Nat} {v:Value} {xs:List Value} (h:w.ownsRow B e k v n xs):∃ a c,v=.slice a n c:=by
 rcases h.2 with ⟨rfl,rfl⟩ | ⟨g,cap,_,rfl,_⟩
 ·exact⟨_,_,rfl⟩
 ·exact⟨_,_,rfl⟩
theorem below_bad (d:Nat) (ar:Int) (c:Int) (x:Ln) (z:Int) (pa:Ln) (pt:Int) (a:Option Addr) (len cap:Nat) (rs:List Rw) (w:World) (hR:RowsIn w a len cap rs) (hlr:rs.length<=1048576) (hq:(hds (decide (ar=64)) (rs.length+1) c rs).2.2.1≠0) :
  Calls Tryz.prog 14 #[.int .i64 ar,rV c x z,.agg #[.string (mk pa),.int .i64 pt],.slice a len cap] w fun e w'=>TfD (d+1) (tr0,(hds (decide (ar=64)) (rs.length+1) c rs).2.2) w e w':=by
 obtain⟨q,HQ⟩:∃ q,Hid (q=(hds (decide (ar=64)) (rs.length+1) c rs)):=⟨_,rfl⟩
 have HHD:Hid (∀ w0,Below w.heap.size w w0->Calls Tryz.prog 18 #[.int .i64 ar,.agg #[.int .i64 c,.string (mk x),.int .i64 z,.string (mk pa),.int .i64 pt],.slice a len cap] w0 fun e w'=>HdRes q ((c,x,z),⟨pa,pt⟩) w0 e w'):=fun w0 hb=>by
  rw[HQ.out];exact heads_any ar ((c,x,z),⟨pa,pt⟩) a len cap rs w0 (hR.later hb) hlr
 have N4:Hid (_/\_/\_/\_/\_):=four_bx w #[.int .i64 c,.string (mk x),.int .i64 z] #[.string (mk pa),.int .i64 pt] zT #[.int .i64 0,.int .i64 0] 45 49 24 33;rw[<-HQ.out]at hq |-;clear hR;go_enter Tryz.func14,Tryz.ntmps14;go_wp2_with fail;change Calls _ _ _ ((((w.alloc (.cells #[.int .i64 c,.string (mk x),.int .i64 z] 45)).alloc (.cells #[.string (mk pa),.int .i64 pt] 49)).alloc (.cells zT 24)).alloc (.cells #[.int .i64 0,.int .i64 0] 33)) _;generalize (((w.alloc (.cells #[.int .i64 c,.string (mk x),.int .i64 z] 45)).alloc (.cells #[.string (mk pa),.int .i64 pt] 49)).alloc (.cells zT 24)).alloc (.cells #[.int .i64 0,.int .i64 0] 33)=W at N4 |-;obtain⟨K3,hK3⟩:∃ K,K=w.heap.size+1+1+1:=⟨_,rfl⟩;obtain⟨K2,hK2⟩:∃ K,K=w.heap.size+1+1:=⟨_,rfl⟩;obtain⟨K1,hK1⟩:∃ K,K=w.heap.size+1:=⟨_,rfl⟩;obtain⟨K0,hK0⟩:∃ K,K=w.heap.size:=⟨_,rfl⟩
 have HB:Hid (Below w.heap.size w W/\Bx W K0 #[.int .i64 c,.string (mk x),.int .i64 z] 45/\Bx W K1 #[.string (mk pa),.int .i64 pt] 49/\Bx W K2 zT 24/\Bx W K3 #[.int .i64 0,.int .i64 0] 33):=by
  rw[hK0,hK1,hK2,hK3];exact N4.out
 rw[<-hK3,<-hK2,<-hK1,<-hK0];have hK:w.heap.size<=K0/\K0<K1/\K1<K2/\K2<K3:=by omega
 have hwW:w.heap.size<=W.heap.size:=HB.out.1.size;clear N4 hK0 hK1 hK2 hK3;have HER:Hid (Calls Tryz.prog 18 #[.int .i64 ar,.agg #[.int .i64 c,.string (mk x),.int .i64 z,.string (mk pa),.int .i64 pt],.slice a len cap] W fun e w'=>e=.returned (.tuple #[.slice none 0 0,.slice none 0 0,.agg #[.int .i64 q.2.2.1,.int .i64 q.2.2.2]])/\Below W.heap.size W w'):=(HHD.out W HB.out.1).mono (fun e w' h=>⟨h.1 hq,h.2.2⟩);clear HHD HQ;obtain⟨q1,q2,qy,qz⟩:=q;replace hq:(qy != 0)=true:=by simpa using hq
 refine HER.out.mono ?_;rintro e w1 ⟨rfl,H1⟩
 have H2:Hid (∀ w2,w2=w1.alloc (.cells #[.int .i64 qy,.int .i64 qz] 33)->Below w.heap.size w w2/\Bx w2 K2 zT 24/\Bx w2 K3 #[.int .i64 0,.int .i64 0] 33/\Bx w2 w1.heap.size #[.int .i64 qy,.int .i64 qz] 33/\K3<w1.heap.size):=fun w2 e=>by
  subst e;have b:=H1.trans ((below_alloc w1 (.cells #[.int .i64 qy,.int .i64 qz] 33)).mono H1.size);exact⟨HB.out.1.trans (b.mono HB.out.1.size),HB.out.2.2.2.1.later b,HB.out.2.2.2.2.later b,Bx.new _ _ _,Nat.lt_of_lt_of_le HB.out.2.2.2.2.lt H1.size⟩
 clear H1 HB HER;go_upto_region 3 with fail
 have N2:=H2.out _ rfl;clear H2;generalize w1.alloc (.cells #[.int .i64 qy,.int .i64 qz] 33)=w2 at N2 |-;generalize w1.heap.size=KF at N2 |-;have HS:Hid (_/\_/\_/\_/\_):=N2;clear N2;obtain⟨i0,i1⟩:=HS.out.2.2.2.1.c2;obtain⟨d0,d1,d2,d3,d4,d5,z0,z1,z2,z3,z4,z5⟩:=c6_of HS.out.2.1 HS.out.2.2.1;have hn23:K2≠K3:=by omega
 have hn32:K3≠K2:=by omega
 have hn2:K2≠KF:=by have:=HS.out.2.2.2.2;omega
 have hn3:K3≠KF:=by have:=HS.out.2.2.2.2;omega
 have hn4:KF≠K2:=fun e=>hn2 e.symm
 have hn5:KF≠K3:=fun e=>hn3 e.symm
 have HF:Hid (_/\_/\_):=fill6_is HS.out.2.1 HS.out.2.2.1 hn23 HS.out.1 (by omega) (by omega) (.int .i64 0) (.string ⟨#[]⟩) (.string ⟨#[]⟩) (.slice none 0 0) (.int .i64 qy) (.int .i64 qz);clear HS;go_region
 all_goals
  go_wp2;change bodyPost _ _ _ _ _ (fill6 w2 K2 K3 (.int .i64 0) (.string ⟨#[]⟩) (.string ⟨#[]⟩) (.slice none 0 0) (.int .i64 qy) (.int .i64 qz)).drew;generalize fill6 w2 K2 K3 (.int .i64 0) (.string ⟨#[]⟩) (.string ⟨#[]⟩) (.slice none 0 0) (.int .i64 qy) (.int .i64 qz)=WF at HF |-;have j0:WF.drew.cell? ⟨K2,0,none⟩=_:=HF.out.2.1.cell 0;have j1:WF.drew.cell? ⟨K2,1,none⟩=_:=HF.out.2.1.cell 1;have j2:WF.drew.cell? ⟨K2,2,none⟩=_:=HF.out.2.1.cell 2;have j3:WF.drew.cell? ⟨K2,3,none⟩=_:=HF.out.2.1.cell 3;have j4:WF.drew.cell? ⟨K3,0,none⟩=_:=HF.out.2.2.cell 0;have j5:WF.drew.cell? ⟨K3,1,none⟩=_:=HF.out.2.2.cell 1;refine bodyPost_ret (v:=.tuple #[.agg #[.int .i64 0,.string ⟨#[]⟩,.string ⟨#[]⟩,.slice none 0 0],.agg #[.int .i64 qy,.int .i64 qz]]) (by simp[results,Tryz.results14,go_sem,j0,j1,j2,j3,j4,j5]) rfl ?_;exact⟨_,rfl,TrP.leaf 0 [] [] (by decide) (by decide) (by decide) d,HF.out.1.drew⟩
end Tre
namespace Tre
open Utf Rws Pln Flw
open Go.RowKit Go.Shelf
open Blk (Rw RwAt z3)
set_option maxHeartbeats 8000000
attribute [local go_sem] Oper.semAt_some
theorem below_some (d:Nat) (ar:Int) (c:Int) (x:Ln) (z:Int) (pa:Ln) (pt:Int) (a:Option Addr) (len cap:Nat) (rs:List Rw) (w:World) (hR:RowsIn w a len cap rs) (hlr:rs.length<=1048576) (hq:(hds (decide (ar=64)) (rs.length+1) c rs).2.2.1=0) (r:Rw) (rest:List Rw) (hrs:(hds (decide (ar=64)) (rs.length+1) c rs).2.1=r::rest) (V:Tf) (hd:1<=d) (hanc:∀ h∈((c,x,z),⟨pa,pt⟩)::(hds (decide (ar=64)) (rs.length+1) c rs).1,h.2.anc.length<=9223372036854775807)
  (HV:Hid (∀ a' len' cap' w0,RowsA w0 a' len' cap' rest->Below w.heap.size w w0->Calls Tryz.prog 19 #[.int .i64 ar,.agg (rA r),.slice a' len' cap'] w0 fun e w'=>TfD d V w0 e w')) :
  Calls Tryz.prog 14 #[.int .i64 ar,rV c x z,.agg #[.string (mk pa),.int .i64 pt],.slice a len cap] w fun e w'=>TfD d (bak (((c,x,z),⟨pa,pt⟩)::(hds (decide (ar=64)) (rs.length+1) c rs).1).reverse V) w e w':=by
 obtain⟨q,HQ⟩:∃ q,Hid (q=(hds (decide (ar=64)) (rs.length+1) c rs)):=⟨_,rfl⟩
 have HHD:Hid (∀ w0,Below w.heap.size w w0->Calls Tryz.prog 18 #[.int .i64 ar,.agg #[.int .i64 c,.string (mk x),.int .i64 z,.string (mk pa),.int .i64 pt],.slice a len cap] w0 fun e w'=>HdRes q ((c,x,z),⟨pa,pt⟩) w0 e w'):=fun w0 hb=>by
  rw[HQ.out];exact heads_any ar ((c,x,z),⟨pa,pt⟩) a len cap rs w0 (hR.later hb) hlr
 have N4:Hid (_/\_/\_/\_/\_):=four_bx w #[.int .i64 c,.string (mk x),.int .i64 z] #[.string (mk pa),.int .i64 pt] zT #[.int .i64 0,.int .i64 0] 45 49 24 33;rw[<-HQ.out]at hq hrs hanc |-;clear hR;refine(callsIn_wide (n:=4)).1 ?_;refine callsIn_of_wp_marks Tryz.func14 rfl trivial ?_ rfl;simp only[Tryz.ntmps14,List.size_toArray,List.length_cons,List.length_nil,Nat.reduceAdd,Nat.reduceSub,Array.replicate_succ,Array.replicate_zero,List.push_toArray,List.append_toArray,List.nil_append,List.cons_append];refine wpIn_wide.2 ?_;go_wp2_with fail;change Calls _ _ _ ((((w.alloc (.cells #[.int .i64 c,.string (mk x),.int .i64 z] 45)).alloc (.cells #[.string (mk pa),.int .i64 pt] 49)).alloc (.cells zT 24)).alloc (.cells #[.int .i64 0,.int .i64 0] 33)) _;generalize (((w.alloc (.cells #[.int .i64 c,.string (mk x),.int .i64 z] 45)).alloc (.cells #[.string (mk pa),.int .i64 pt] 49)).alloc (.cells zT 24)).alloc (.cells #[.int .i64 0,.int .i64 0] 33)=W at N4 |-;obtain⟨K3,hK3⟩:∃ K,K=w.heap.size+1+1+1:=⟨_,rfl⟩;obtain⟨K2,hK2⟩:∃ K,K=w.heap.size+1+1:=⟨_,rfl⟩;obtain⟨K1,hK1⟩:∃ K,K=w.heap.size+1:=⟨_,rfl⟩;obtain⟨K0,hK0⟩:∃ K,K=w.heap.size:=⟨_,rfl⟩
 have HB:Hid (Below w.heap.size w W/\Bx W K0 #[.int .i64 c,.string (mk x),.int .i64 z] 45/\Bx W K1 #[.string (mk pa),.int .i64 pt] 49/\Bx W K2 zT 24/\Bx W K3 #[.int .i64 0,.int .i64 0] 33):=by
  rw[hK0,hK1,hK2,hK3];exact N4.out
 rw[<-hK3,<-hK2,<-hK1,<-hK0];have hK:w.heap.size<=K0/\K0<K1/\K1<K2/\K2<K3:=by omega
 have hwW:w.heap.size<=W.heap.size:=HB.out.1.size;clear N4 hK0 hK1 hK2 hK3
 have HOK:Hid (Calls Tryz.prog 18 #[.int .i64 ar,.agg #[.int .i64 c,.string (mk x),.int .i64 z,.string (mk pa),.int .i64 pt],.slice a len cap] W fun e w'=>∃ ha hcap a1 len1 cap1,e=.returned (.tuple #[.slice ha (((c,x,z),⟨pa,pt⟩)::q.1).length hcap,.slice a1 len1 cap1,.agg #[.int .i64 0,.int .i64 0]])/\Hid (Below W.heap.size W w'/\w'.ownsRow W.heap.size 62 5 (.slice ha (((c,x,z),⟨pa,pt⟩)::q.1).length hcap) (((c,x,z),⟨pa,pt⟩)::q.1).length (hCs (((c,x,z),⟨pa,pt⟩)::q.1))/\RowsA W a1 len1 cap1 q.2.1)):=(HHD.out W HB.out.1).mono (fun e w' h=>by
  obtain⟨v,a1,len1,cap1,h1,h2,h3⟩:=h.2.1 hq;obtain⟨ha,hcap,rfl⟩:=own_slice h2;exact⟨ha,hcap,a1,len1,cap1,h1,h.2.2,h2,h3⟩)
 clear HHD;obtain⟨hs,Hhs⟩:∃ hs,Hid (hs=((c,x,z),⟨pa,pt⟩)::q.1):=⟨_,rfl⟩;rw[<-Hhs.out]at HOK;obtain⟨hn,HHN⟩:∃ hn,Hid (hn=hs.length):=⟨_,rfl⟩;rw[<-HHN.out]at HOK;refine HOK.out.mono ?_;rintro e w1 ⟨ha,hcap,a1,len1,cap1,rfl,H1⟩
 have H2:Hid (∀ w3,w3=(w1.alloc (.cells #[.int .i64 0,.int .i64 0] 33)).alloc (.cells zT 24)->Below w.heap.size w w3/\Bx w3 K2 zT 24/\Bx w3 K3 #[.int .i64 0,.int .i64 0] 33/\Bx w3 w1.heap.size #[.int .i64 0,.int .i64 0] 33/\Bx w3 (w1.heap.size+1) zT 24/\w3.ownsRow W.heap.size 62 5 (.slice ha hn hcap) hn (hCs hs)/\RowsA w3 a1 len1 cap1 q.2.1/\K3<w1.heap.size/\W.heap.size<=w1.heap.size/\w3.heap.size=w1.heap.size+1+1):=fun w3 e=>by
  subst e;have s1:(w1.alloc (.cells #[.int .i64 0,.int .i64 0] 33)).heap.size=w1.heap.size+1:=World.size_alloc _ _;have b1:=below_alloc w1 (.cells #[.int .i64 0,.int .i64 0] 33);have b2:=below_alloc (w1.alloc (.cells #[.int .i64 0,.int .i64 0] 33)) (.cells zT 24);have b:=b1.trans (b2.mono b1.size);have n2:=Bx.new (w1.alloc (.cells #[.int .i64 0,.int .i64 0] 33)) zT 24;rw[s1]at n2;have bw:=H1.out.1.trans (b.mono H1.out.1.size);exact⟨HB.out.1.trans (bw.mono HB.out.1.size),HB.out.2.2.2.1.later bw,HB.out.2.2.2.2.later bw,(Bx.new _ _ _).later b2,n2,ownH_keep H1.out.2.1 (fun j _ hj=>b.block j hj),H1.out.2.2.later bw,Nat.lt_of_lt_of_le HB.out.2.2.2.2.lt H1.out.1.size,H1.out.1.size,by rw[World.size_alloc,s1]⟩
 clear HB HOK H1;rw[hrs]at H2;have hlp:Hid (∀ w3,RowsA w3 a1 len1 cap1 (r::rest)->0<len1/\len1<=cap1/\cap1<=9223372036854775807):=fun w3 h=>⟨by have:=h.len;simp only[List.length_cons]at this;omega,h.1.2.1,h.1.2.2.1⟩
 have hl0:0<len1/\len1<=cap1/\cap1<=9223372036854775807:=hlp.out _ (H2.out _ rfl).2.2.2.2.2.2.1;have hl1:=hl0.1;have hl2:=hl0.2.1;have hl3:=hl0.2.2;have hl4:((len1:Int)>0):=by omega
 clear hlp hl0;obtain⟨rc,rt,rz⟩:=r;go_upto_region 6 with fail
 have N3:=H2.out _ rfl;clear H2;change Code.wp _ _ _ _ ((w1.alloc (.cells #[.int .i64 0,.int .i64 0] 33)).alloc (.cells zT 24));generalize (w1.alloc (.cells #[.int .i64 0,.int .i64 0] 33)).alloc (.cells zT 24)=w3 at N3 |-;generalize hKT:w1.heap.size+1=KT at N3 |-;generalize hKF:w1.heap.size=KF at N3 hKT |-;have HS3:Hid (Below w.heap.size w w3/\Bx w3 K2 zT 24/\Bx w3 K3 #[.int .i64 0,.int .i64 0] 33/\Bx w3 KF #[.int .i64 0,.int .i64 0] 33/\Bx w3 KT zT 24/\w3.ownsRow W.heap.size 62 5 (.slice ha hn hcap) hn (hCs hs)/\RowsA w3 a1 len1 cap1 ((rc,rt,rz)::rest)):=⟨N3.1,N3.2.1,N3.2.2.1,N3.2.2.2.1,N3.2.2.2.2.1,N3.2.2.2.2.2.1,N3.2.2.2.2.2.2.1⟩;have hK2:K3<KF/\KF<KT/\KT<w3.heap.size/\w.heap.size<=W.heap.size:=⟨N3.2.2.2.2.2.2.2.1,by omega,N3.2.2.2.2.1.lt,hwW⟩;clear N3 hKT hKF;obtain⟨b,off,had,hbw,hcell⟩:=HS3.out.2.2.2.2.2.2.1.1.2 hl1;obtain⟨n0,n1,n2⟩:=hcell 0 hl1;subst had;replace n0:w3.cell? ⟨b,off,none⟩=some (.int .i64 rc):=by simpa using n0
 replace n1:w3.cell? ⟨b,off+1,none⟩=some (.string (mk rt)):=by simpa using n1
 replace n2:w3.cell? ⟨b,off+2,none⟩=some (.int .i64 rz):=by simpa using n2
 have HDR:Hid (RowsA w3 (some (if cap1=1 then ⟨b,off,none⟩else ⟨b,off+3,none⟩)) (len1-1) (cap1-1) rest):=HS3.out.2.2.2.2.2.2.drop 1 hl1;obtain⟨V1,Vy,Vz⟩:=V;have hnTF:KT≠KF:=by omega
 have hnFT:KF≠KT:=by omega
 clear hcell;refine wp_thenN (fun (p:Int × ByteArray × ByteArray × Option Addr × Nat × Nat × Value)=>({ tmps:=#[.int .i64 ar,rV c x z,.agg #[.string (mk pa),.int .i64 pt],.slice (some ⟨b,off,none⟩) len1 cap1,undef,.pointer (some ⟨K0,0,none⟩),.pointer (some ⟨K1,0,none⟩),undef,.pointer (some ⟨K2,0,none⟩),.pointer (some ⟨K3,0,none⟩),.slice ha hn hcap,.pointer (some ⟨KF,0,none⟩),.pointer (some ⟨KT,0,none⟩),undef,undef,undef,.tuple #[.slice ha hn hcap,.slice (some ⟨b,off,none⟩) len1 cap1,.agg #[.int .i64 0,.int .i64 0]],.int .i64 ar,.agg #[.int .i64 c,.string (mk x),.int .i64 z],.agg #[.string (mk pa),.int .i64 pt],.agg #[.int .i64 c,.string (mk x),.int .i64 z,.string (mk pa),.int .i64 pt],.slice a len cap,.tuple #[.slice ha hn hcap,.slice (some ⟨b,off,none⟩) len1 cap1,.agg #[.int .i64 0,.int .i64 0]],.slice ha hn hcap,.slice (some ⟨b,off,none⟩) len1 cap1,.agg #[.int .i64 0,.int .i64 0],.pointer (some ⟨KF,0,none⟩),.int .i64 0,.bool false,undef,undef,.slice (some ⟨b,off,none⟩) len1 cap1,.int .i64 (len1:Int),.bool true,.tuple #[.agg #[.int .i64 p.1,.string p.2.1,.string p.2.2.1,.slice p.2.2.2.1 p.2.2.2.2.1 p.2.2.2.2.2.1],.agg #[.int .i64 Vy,.int .i64 Vz]],.int .i64 ar,.slice (some ⟨b,off,none⟩) len1 cap1,.pointer (some ⟨b,off,none⟩),.agg #[.int .i64 rc,.string (mk rt),.int .i64 rz],.slice (some ⟨b,off,none⟩) len1 cap1,p.2.2.2.2.2.2,.tuple #[.agg #[.int .i64 p.1,.string p.2.1,.string p.2.2.1,.slice p.2.2.2.1 p.2.2.2.2.1 p.2.2.2.2.2.1],.agg #[.int .i64 Vy,.int .i64 Vz]],.agg #[.int .i64 p.1,.string p.2.1,.string p.2.2.1,.slice p.2.2.2.1 p.2.2.2.2.1 p.2.2.2.2.2.1],.agg #[.int .i64 Vy,.int .i64 Vz],undef,undef,undef,undef,undef,undef,undef,undef,undef,undef,undef,undef,undef,undef,undef,undef,undef,undef,undef,undef,undef,undef,undef,undef,undef,undef,undef,undef,undef,undef,undef,undef,undef,undef,undef,undef,undef,undef,undef,undef],defers:=[] }:Go.Act)) (fun p w9=>∃ w8,w9=fill6 w8 KT KF (.int .i64 p.1) (.string p.2.1) (.string p.2.2.1) (.slice p.2.2.2.1 p.2.2.2.2.1 p.2.2.2.2.2.1) (.int .i64 Vy) (.int .i64 Vz)/\Hid (Below w3.heap.size w3 w8/\TrP w3.heap.size w8 d (.agg #[.int .i64 p.1,.string p.2.1,.string p.2.2.1,.slice p.2.2.2.1 p.2.2.2.2.1 p.2.2.2.2.2.1]) V1)) ?H1 ?H2
 case H1 =>
  by_cases hc1:cap1=1
  ·have HDR2:Hid (RowsA w3 (some ⟨b,off,none⟩) 0 0 rest):=by
    have:=HDR.out;rw[if_pos hc1,show len1-1=0 by omega,show cap1-1=0 by omega]at this;exact this
   clear HDR;subst hc1;obtain rfl:len1=1:=by omega
   have HVA:Hid (Calls Tryz.prog 19 #[.int .i64 ar,.agg #[.int .i64 rc,.string (mk rt),.int .i64 rz],.slice (some ⟨b,off,none⟩) 0 0] w3.drew fun e w8=>∃ k2 x2 a2 ad2 len2 cap2,e=.returned (.tuple #[.agg #[.int .i64 k2,.string x2,.string a2,.slice ad2 len2 cap2],.agg #[.int .i64 Vy,.int .i64 Vz]])/\w8.cell? ⟨KT,0,none⟩=some (.int .i64 0)/\w8.cell? ⟨KT,1,none⟩=some (.string ⟨#[]⟩)/\w8.cell? ⟨KT,2,none⟩=some (.string ⟨#[]⟩)/\w8.cell? ⟨KT,3,none⟩=some (.slice none 0 0)/\w8.cell? ⟨KF,0,none⟩=some (.int .i64 0)/\w8.cell? ⟨KF,1,none⟩=some (.int .i64 0)/\w8.frozen? ⟨KT,0,none⟩=false/\w8.frozen? ⟨KT,1,none⟩=false/\w8.frozen? ⟨KT,2,none⟩=false/\w8.frozen? ⟨KT,3,none⟩=false/\w8.frozen? ⟨KF,0,none⟩=false/\w8.frozen? ⟨KF,1,none⟩=false/\Hid (Below w3.heap.size w3 w8/\TrP w3.heap.size w8 d (.agg #[.int .i64 k2,.string x2,.string a2,.slice ad2 len2 cap2]) V1)):=by
    have hbd:Below w3.heap.size w3 w3.drew:=(Below.refl _ _).drew;refine(HV.out _ _ _ w3.drew (HDR2.out.later hbd) (HS3.out.1.trans (hbd.mono HS3.out.1.size))).mono ?_;rintro e w8 ⟨v,rfl,ht,hb8⟩;obtain⟨k2,x2,a2,ad2,len2,cap2,rfl⟩:=ht.cells;have hb9:=hbd.trans hb8;obtain⟨d0,d1,d2,d3,d4,d5,y0,y1,y2,y3,y4,y5⟩:=c6_of (HS3.out.2.2.2.2.1.later hb9) (HS3.out.2.2.2.1.later hb9);exact⟨k2,x2,a2,ad2,len2,cap2,rfl,d0,d1,d2,d3,d4,d5,y0,y1,y2,y3,y4,y5,hb9,ht⟩
   clear HV HDR2;go_region_with (go_at_call 19;refine HVA.out.mono ?_;rintro e w8 ⟨k2,x2,a2,ad2,len2,cap2,rfl,d0,d1,d2,d3,d4,d5,y0,y1,y2,y3,y4,y5,HB8⟩)
   all_goals exact⟨(k2,x2,a2,ad2,len2,cap2,_),⟨w8,rfl,HB8⟩,rfl⟩
  ·have HDR2:Hid (RowsA w3 (some ⟨b,off+3,none⟩) (len1-1) (cap1-1) rest):=by
    have:=HDR.out;rw[if_neg hc1]at this;exact this
   clear HDR
   have HVA:Hid (Calls Tryz.prog 19 #[.int .i64 ar,.agg #[.int .i64 rc,.string (mk rt),.int .i64 rz],.slice (some ⟨b,off+3,none⟩) (len1-1) (cap1-1)] w3.drew fun e w8=>∃ k2 x2 a2 ad2 len2 cap2,e=.returned (.tuple #[.agg #[.int .i64 k2,.string x2,.string a2,.slice ad2 len2 cap2],.agg #[.int .i64 Vy,.int .i64 Vz]])/\w8.cell? ⟨KT,0,none⟩=some (.int .i64 0)/\w8.cell? ⟨KT,1,none⟩=some (.string ⟨#[]⟩)/\w8.cell? ⟨KT,2,none⟩=some (.string ⟨#[]⟩)/\w8.cell? ⟨KT,3,none⟩=some (.slice none 0 0)/\w8.cell? ⟨KF,0,none⟩=some (.int .i64 0)/\w8.cell? ⟨KF,1,none⟩=some (.int .i64 0)/\w8.frozen? ⟨KT,0,none⟩=false/\w8.frozen? ⟨KT,1,none⟩=false/\w8.frozen? ⟨KT,2,none⟩=false/\w8.frozen? ⟨KT,3,none⟩=false/\w8.frozen? ⟨KF,0,none⟩=false/\w8.frozen? ⟨KF,1,none⟩=false/\Hid (Below w3.heap.size w3 w8/\TrP w3.heap.size w8 d (.agg #[.int .i64 k2,.string x2,.string a2,.slice ad2 len2 cap2]) V1)):=by
    have hbd:Below w3.heap.size w3 w3.drew:=(Below.refl _ _).drew;refine(HV.out _ _ _ w3.drew (HDR2.out.later hbd) (HS3.out.1.trans (hbd.mono HS3.out.1.size))).mono ?_;rintro e w8 ⟨v,rfl,ht,hb8⟩;obtain⟨k2,x2,a2,ad2,len2,cap2,rfl⟩:=ht.cells;have hb9:=hbd.trans hb8;obtain⟨d0,d1,d2,d3,d4,d5,y0,y1,y2,y3,y4,y5⟩:=c6_of (HS3.out.2.2.2.2.1.later hb9) (HS3.out.2.2.2.1.later hb9);exact⟨k2,x2,a2,ad2,len2,cap2,rfl,d0,d1,d2,d3,d4,d5,y0,y1,y2,y3,y4,y5,hb9,ht⟩
   clear HV HDR2;go_region_with (go_at_call 19;refine HVA.out.mono ?_;rintro e w8 ⟨k2,x2,a2,ad2,len2,cap2,rfl,d0,d1,d2,d3,d4,d5,y0,y1,y2,y3,y4,y5,HB8⟩)
   all_goals exact⟨(k2,x2,a2,ad2,len2,cap2,_),⟨w8,rfl,HB8⟩,rfl⟩
 case H2 =>
 rintro⟨k2,x2,a2,ad2,len2,cap2,t40⟩ w9 ⟨w8,rfl,HB8⟩
 try dsimp only
 have hb9:=HB8.out.1
 have H9:Hid (B9 w (fill6 w8 KT KF (.int .i64 k2) (.string x2) (.string a2) (.slice ad2 len2 cap2) (.int .i64 Vy) (.int .i64 Vz)) K2 K3 KT KF w3.heap.size d W.heap.size ha hn hcap hs k2 x2 a2 ad2 len2 cap2 (V1,Vy,Vz)):=by
  have g:=fill6_is (HS3.out.2.2.2.2.1.later hb9) (HS3.out.2.2.2.1.later hb9) hnTF (HS3.out.1.trans (hb9.mono HS3.out.1.size)) (by omega) (by omega) (.int .i64 k2) (.string x2) (.string a2) (.slice ad2 len2 cap2) (.int .i64 Vy) (.int .i64 Vz);have hTl:KT<w3.heap.size:=hK2.2.2.1;have hFl:KF<w3.heap.size:=by omega
  have hn2T:K2≠KT:=by omega
  have hn2F:K2≠KF:=by omega
  have hn3T:K3≠KT:=by omega
  have hn3F:K3≠KF:=by omega
  have hz:(fill6 w8 KT KF (.int .i64 k2) (.string x2) (.string a2) (.slice ad2 len2 cap2) (.int .i64 Vy) (.int .i64 Vz)).heap.size=w8.heap.size:=by unfold fill6 fill4;simp only[World.size_setCell]
  have hown:=ownH_keep HS3.out.2.2.2.2.2.1 (fun j _ hj=>hb9.block j hj);have hoT:=own_ne hown (HS3.out.2.2.2.2.1.later hb9) (by decide);have hoF:=own_ne hown (HS3.out.2.2.2.1.later hb9) (by decide);refine⟨g.1,?_,?_,g.2.1,g.2.2,(((((HB8.out.2.set hTl).set hTl).set hTl).set hTl).set hFl).set hFl,?_,hTl,by rw[hz];exact hb9.size⟩
  ·exact(((((HS3.out.2.1.later hb9).other hn2T _ _).other hn2T _ _).other hn2T _ _).other hn2T _ _).other hn2F _ _ |>.other hn2F _ _
  ·exact(((((HS3.out.2.2.1.later hb9).other hn3T _ _).other hn3T _ _).other hn3T _ _).other hn3T _ _).other hn3F _ _ |>.other hn3F _ _
  ·exact own_set6 hown hoT hoF
 clear HB8 hb9 HS3 HV HDR n0 n1 n2;generalize fill6 w8 KT KF (.int .i64 k2) (.string x2) (.string a2) (.slice ad2 len2 cap2) (.int .i64 Vy) (.int .i64 Vz)=w9 at H9 |-;obtain⟨_,_,_,e0,e1,e2,_⟩:=TrV.four (TrP.v H9.out.tr);simp only[Value.int.injEq,true_and,Value.string.injEq]at e0 e1 e2;subst e0 e1 e2;have HAN:Hid (∀ h∈hs,h.2.anc.length<=9223372036854775807):=fun h hh=>hanc h (by rw[<-Hhs.out];exact hh)
 have HRES:Hid (bak (((c,x,z),⟨pa,pt⟩)::q.1).reverse (V1,Vy,Vz)=bak (hs.take hn).reverse (V1,Vy,Vz)):=by
  show _=_;rw[<-Hhs.out,HHN.out,List.take_length]
 have hhn:hn<=9223372036854775807:=own_max H9.out.own;obtain⟨RES,HRE⟩:∃ RES,Hid (RES=bak (((c,x,z),⟨pa,pt⟩)::q.1).reverse (V1,Vy,Vz)):=⟨_,rfl⟩;rw[<-HRE.out]at HRES;clear hanc hrs hq HQ Hhs;generalize w3.heap.size=C at H9;have HBK:Hid (Calls Tryz.prog 21 #[.slice ha hn hcap] w9 fun e w'=>e=.returned (.func (.func 41) #[] #[.pointer (some ⟨w9.heap.size,0,none⟩)])/\w'=w9.alloc (.cells #[.slice ha hn hcap] 58)):=callsIn_wide.1 (back_in ha hn hcap 4 w9);go_wp2_with fail;refine HBK.out.mono ?_;rintro e w10 ⟨rfl,rfl⟩
 have H10:Hid (∀ w10,w10=w9.alloc (.cells #[.slice ha hn hcap] 58)->Be w10 w10 KT KF C d (ancs []) ((V1,Vy,Vz))/\HdAt w10 w9.heap.size ha hn hcap (hs.take hn)/\Below w.heap.size w w10/\Bx w10 K2 zT 24/\Bx w10 K3 #[.int .i64 0,.int .i64 0] 33/\w9.heap.size<w10.heap.size/\KT<C/\C<=w10.heap.size/\(∀ gg,ha=some ⟨gg,0,none⟩->gg<w10.heap.size/\gg≠KT/\gg≠KF)/\w9.heap.size≠KT/\w9.heap.size≠KF):=fun w10 e=>by
  subst e;have ba:=below_alloc w9 (.cells #[.slice ha hn hcap] 58);have sa:(w9.alloc (.cells #[.slice ha hn hcap] 58)).heap.size=w9.heap.size+1:=World.size_alloc _ _;have hC9:=H9.out.hC;refine⟨⟨rfl,rfl,rfl,Nat.le_refl _,fun j _ _ _=>rfl,?_,H9.out.f.later ba⟩,hdat_of (ownH_keep H9.out.own (fun j _ hj=>ba.block j hj)) HHN.out (by omega) ((Bx.new w9 #[.slice ha hn hcap] 58).cell 0),H9.out.bl.trans (ba.mono H9.out.bl.size),H9.out.b2.later ba,H9.out.b3.later ba,by omega,H9.out.hT,by omega,?_,by have:=H9.out.t.lt;omega,by have:=H9.out.f.lt;omega⟩
  ·exact⟨_,_,_,H9.out.t.later ba,fun _=>TrQ.wide (fun j h1 h2=>⟨h1,h2⟩) (H9.out.tr.later ba)⟩
  ·intro gg hgg;have h1:=H9.out.own;rw[hgg]at h1;have h2:=ownH_blk h1 (k:=gg) rfl;exact⟨by omega,own_ne h1 H9.out.t (by decide) gg rfl,own_ne h1 H9.out.f (by decide) gg rfl⟩
 go_upto_region 99 with fail
 have N10:=H10.out _ rfl;clear H10 H9 HBK;generalize w9.alloc (.cells #[.slice ha hn hcap] 58)=W0 at N10 |-;generalize w9.heap.size=Bs at N10 |-;obtain⟨hBe,hHd,hbl,hk2,hk3,hBs,hTC,hCW,hgg,hBT,hBF⟩:=N10;have HBL:Hid (Below w.heap.size w W0):=hbl;have hK2l:K2<W0.heap.size:=hk2.lt;have hK3l:K3<W0.heap.size:=hk3.lt;have hTl:KT<W0.heap.size:=by omega
 have hFl:KF<W0.heap.size:=by omega
 have hn23:K2≠K3:=by omega
 have hn32:K3≠K2:=by omega
 have hn2T:K2≠KT:=by omega
 have hn2F:K2≠KF:=by omega
 have hn3T:K3≠KT:=by omega
 have hn3F:K3≠KF:=by omega
 refine(wpIn_wide (n:=4)).1 ?_
 refine wpIn_rangeFunc_ownH rfl (by decide) (gf:=41) (lb:=#[.pointer (some ⟨Bs,0,none⟩)]) rfl trivial (enters_of Tryz.func41 (by kernel_rfl) rfl)
  (back_stops (4-1) (by decide) Bs ha hn hcap (hs.take hn) (by omega) W0 hBs (fun g e=>(hgg g e).1) hHd) (fun h k=>kph_trans h k) (fun X l o o' hl _ _ _=>⟨World.putObj_heap_other (fun e=>by omega),fun g e=>World.putObj_heap_other (fun e2=>by have:=(hgg g e).1;omega)⟩) (Below.refl _ _) (fun _=>rfl)
  (fun pre X=>Be W0 X KT KF C d (ancs pre) (cur pre ((V1,Vy,Vz)))/\okP pre ((V1,Vy,Vz)))
  (fun cc pre X=>(cc=.ret/\∃ qq xx,pre=qq++[xx]/\okP qq ((V1,Vy,Vz))/\(cur qq ((V1,Vy,Vz))).2.1≠0/\Bx X K2 zT 24/\Bx X K3 #[.int .i64 (cur qq ((V1,Vy,Vz))).2.1,.int .i64 (cur qq ((V1,Vy,Vz))).2.2] 33)/\Below w.heap.size w X)
  (be_own W0 KT KF C d hTl hFl ancs (fun pre=>cur pre ((V1,Vy,Vz))) (fun pre=>okP pre ((V1,Vy,Vz))))
  (fun cc=>OwnFrom.and (fun pre A B row ht hg hr=>by
   obtain⟨h1,qq,xx,h2,h3,h4,h5,h6⟩:=ht;exact⟨h1,qq,xx,h2,h3,h4,bx_grown h5 hg (fun r e=>(hr r e).2),bx_grown h6 hg (fun r e=>(hr r e).2)⟩) (ownFrom_below (Nat.le_refl _) HBL.out.size))
  ⟨hBe,okP_nil _⟩
  (fun xx a' X=>∃ KH,a'=({ tmps:=#[.int .i64 ar,rV c x z,.agg #[.string (mk pa),.int .i64 pt],.slice (some ⟨b,off,none⟩) len1 cap1,undef,.pointer (some ⟨K0,0,none⟩),.pointer (some ⟨K1,0,none⟩),undef,.pointer (some ⟨K2,0,none⟩),.pointer (some ⟨K3,0,none⟩),.slice ha hn hcap,.pointer (some ⟨KF,0,none⟩),.pointer (some ⟨KT,0,none⟩),undef,undef,.pointer (some ⟨KH,0,none⟩),.tuple #[.slice ha hn hcap,.slice (some ⟨b,off,none⟩) len1 cap1,.agg #[.int .i64 0,.int .i64 0]],.int .i64 ar,.agg #[.int .i64 c,.string (mk x),.int .i64 z],.agg #[.string (mk pa),.int .i64 pt],.agg #[.int .i64 c,.string (mk x),.int .i64 z,.string (mk pa),.int .i64 pt],.slice a len cap,.tuple #[.slice ha hn hcap,.slice (some ⟨b,off,none⟩) len1 cap1,.agg #[.int .i64 0,.int .i64 0]],.slice ha hn hcap,.slice (some ⟨b,off,none⟩) len1 cap1,.agg #[.int .i64 0,.int .i64 0],.pointer (some ⟨KF,0,none⟩),.int .i64 0,.bool false,undef,undef,.slice (some ⟨b,off,none⟩) len1 cap1,.int .i64 (len1:Int),.bool true,.tuple #[.agg #[.int .i64 V1.kind,.string (mk V1.text),.string (mk V1.anc),.slice ad2 len2 cap2],.agg #[.int .i64 Vy,.int .i64 Vz]],.int .i64 ar,.slice (some ⟨b,off,none⟩) len1 cap1,.pointer (some ⟨b,off,none⟩),.agg #[.int .i64 rc,.string (mk rt),.int .i64 rz],.slice (some ⟨b,off,none⟩) len1 cap1,t40,.tuple #[.agg #[.int .i64 V1.kind,.string (mk V1.text),.string (mk V1.anc),.slice ad2 len2 cap2],.agg #[.int .i64 Vy,.int .i64 Vz]],.agg #[.int .i64 V1.kind,.string (mk V1.text),.string (mk V1.anc),.slice ad2 len2 cap2],.agg #[.int .i64 Vy,.int .i64 Vz],undef,undef,undef,undef,undef,undef,undef,undef,undef,undef,undef,undef,undef,undef,undef,undef,undef,undef,undef,undef,.slice ha hn hcap,.func (.func 41) #[] #[.pointer (some ⟨Bs,0,none⟩)],.int .i64 (xx.1:Int),hV xx.2,undef,undef,undef,undef,undef,undef,undef,undef,undef,undef,undef,undef,undef,undef,undef,undef],defers:=[] }:Go.Act)/\Bx X KH (hC xx.2).toArray 62/\W0.heap.size<=KH)
  (fun xx a' _ A B row h hg hr=>by
   obtain⟨KH,h1,h2,h3⟩:=h;exact⟨KH,h1,bx_grown h2 hg (fun r e=>(hr r e).2),h3⟩)
  ?assign ?body ?done ?stop
 case assign =>
  rintro l pre xx X KK ⟨hI,hok⟩ hKK
  gi_wp2
  have ba:=below_alloc X (.cells #[.int .i64 xx.2.1.1,.string (mk xx.2.1.2.1),.int .i64 xx.2.1.2.2,.string (mk xx.2.2.anc),.int .i64 xx.2.2.tag] 62);have hsz:=hI.size
  exact hKK _ _ (KeepsFrom.of_grownBy (row:=none) ⟨ba.os,ba.tape,ba.output,ba.size,fun k hk _=>ba.block k hk⟩ (fun j e=>by cases e)) ⟨ba.block Bs (by omega),fun g e=>ba.block g (by have:=(hgg g e).1;omega)⟩
   ⟨hI.grown ba.size ba.os ba.tape ba.output (fun j hj=>ba.block j (by omega)) hTl hFl,hok⟩ ⟨X.heap.size,rfl,Bx.new _ _ _,hsz⟩
 case body =>
  rintro l pre xx a' X hl _ ⟨hI,hok⟩ ⟨KH,rfl,hX,hKH⟩ hlt;have HI:Hid (Be W0 X KT KF C d (ancs pre) (cur pre ((V1,Vy,Vz)))):=hI;have HOK:Hid (okP pre ((V1,Vy,Vz))):=hok;have HXX:Hid (Bx X KH (hC xx.2).toArray 62):=hX;have hnHT:KH≠KT:=by omega
  have hnHF:KH≠KF:=by omega
  obtain⟨i0,i1⟩:=hI.f.c2;have i2:=hI.f.fz 0;have i3:=hI.f.fz 1;obtain⟨ad,ln,cp,hbt,hq4⟩:=hI.t;obtain⟨t0,t1,t2,t3⟩:=hbt.c4;have u0:=hbt.fz 0;have u1:=hbt.fz 1;have u2:=hbt.fz 2;have u3:=hbt.fz 3;have HQ4:Hid (ancs pre->TrQ (fun g=>C<=g/\g<W0.heap.size) X d (.agg #[.int .i64 (cur pre ((V1,Vy,Vz))).1.kind,.string (mk (cur pre ((V1,Vy,Vz))).1.text),.string (mk (cur pre ((V1,Vy,Vz))).1.anc),.slice ad ln cp]) (cur pre ((V1,Vy,Vz))).1):=hq4;obtain⟨h0,h1,h2,h3,h4⟩:=hX.c5;have HSZ:Hid (W0.heap.size<=X.heap.size):=hI.size;have HX2:Hid (Bx X K2 zT 24/\Bx X K3 #[.int .i64 0,.int .i64 0] 33):=⟨(hI.keep K2 hK2l hn2T hn2F).trans hk2,(hI.keep K3 hK3l hn3T hn3F).trans hk3⟩;have HBX:Hid (Below w.heap.size w X):=⟨hI.os.trans HBL.out.os,hI.tape.trans HBL.out.tape,hI.out.trans HBL.out.output,Nat.le_trans HBL.out.size hI.size,fun j hj=>(hI.keep j (by have:=HBL.out.size;omega) (by omega) (by omega)).trans (HBL.out.block j hj)⟩;clear hI hX hbt hq4 hok hBe hHd hbl hk2 hk3;by_cases hy:(cur pre ((V1,Vy,Vz))).2.1=0
  ·have HY:Hid ((cur pre ((V1,Vy,Vz))).2.1=0):=hy;rw[hy]at i0;clear hy;have HON:Hid (Calls Tryz.prog 22 #[.agg #[.string (mk xx.2.2.anc),.int .i64 xx.2.2.tag],.agg #[.int .i64 (cur pre ((V1,Vy,Vz))).1.kind,.string (mk (cur pre ((V1,Vy,Vz))).1.text),.string (mk (cur pre ((V1,Vy,Vz))).1.anc),.slice ad ln cp],.agg #[.int .i64 xx.2.1.1,.string (mk xx.2.1.2.1),.int .i64 xx.2.1.2.2]] X fun e w'=>_):=onRows_all xx.2 (cur pre ((V1,Vy,Vz))).1 ad ln cp X;have hTX:KT<X.heap.size:=by have:=HSZ.out;omega
   have hFX:KF<X.heap.size:=by have:=HSZ.out;omega
   have HC6:Hid (∀ X2,Below X.heap.size X X2->X2.cell? ⟨KT,0,none⟩=some (.int .i64 (cur pre ((V1,Vy,Vz))).1.kind)/\X2.cell? ⟨KT,1,none⟩=some (.string (mk (cur pre ((V1,Vy,Vz))).1.text))/\X2.cell? ⟨KT,2,none⟩=some (.string (mk (cur pre ((V1,Vy,Vz))).1.anc))/\X2.cell? ⟨KT,3,none⟩=some (.slice ad ln cp)/\X2.cell? ⟨KF,0,none⟩=some (.int .i64 0)/\X2.cell? ⟨KF,1,none⟩=some (.int .i64 (cur pre ((V1,Vy,Vz))).2.2)/\X2.frozen? ⟨KT,0,none⟩=false/\X2.frozen? ⟨KT,1,none⟩=false/\X2.frozen? ⟨KT,2,none⟩=false/\X2.frozen? ⟨KT,3,none⟩=false/\X2.frozen? ⟨KF,0,none⟩=false/\X2.frozen? ⟨KF,1,none⟩=false):=fun X2 hb=>⟨(hb.cell (p:=⟨KT,0,none⟩) hTX).trans t0,(hb.cell (p:=⟨KT,1,none⟩) hTX).trans t1,(hb.cell (p:=⟨KT,2,none⟩) hTX).trans t2,(hb.cell (p:=⟨KT,3,none⟩) hTX).trans t3,(hb.cell (p:=⟨KF,0,none⟩) hFX).trans i0,(hb.cell (p:=⟨KF,1,none⟩) hFX).trans i1,(hb.frozen (p:=⟨KT,0,none⟩) hTX).trans u0,(hb.frozen (p:=⟨KT,1,none⟩) hTX).trans u1,(hb.frozen (p:=⟨KT,2,none⟩) hTX).trans u2,(hb.frozen (p:=⟨KT,3,none⟩) hTX).trans u3,(hb.frozen (p:=⟨KF,0,none⟩) hFX).trans i2,(hb.frozen (p:=⟨KF,1,none⟩) hFX).trans i3⟩
   dsimp only
   gi_wp2_with (first | (refine⟨trivial,?_⟩;gi_at_call 22;refine(CallsIn.inRound l (callsIn_wide.2 HON.out)).mono ?_;rintro e X2 ⟨⟨ad',ln',cp',rfl,HW⟩,hb2⟩;obtain⟨d0,d1,d2,d3,d4,d5,z0,z1,z2,z3,z4,z5⟩:=HC6.out X2 hb2))
   have hB2:Be W0 X2 KT KF C d (ancs pre) (cur pre ((V1,Vy,Vz))):=HI.out.grown hb2.size hb2.os hb2.tape hb2.output (fun j hj=>hb2.block j (by have:=HSZ.out;omega)) hTl hFl;have hQ2:ancs pre->TrQ (fun g=>C<=g/\g<W0.heap.size) X2 d (.agg #[.int .i64 (cur pre ((V1,Vy,Vz))).1.kind,.string (mk (cur pre ((V1,Vy,Vz))).1.text),.string (mk (cur pre ((V1,Vy,Vz))).1.anc),.slice ad ln cp]) (cur pre ((V1,Vy,Vz))).1:=fun hq9=>(HQ4.out hq9).keep hb2.size (fun j hj _=>hb2.block j (by have:=HSZ.out;have:=hj.2;omega))
   have hS:=be_set (A2:=ancs (pre++[xx])) hB2 (by omega) hTC (by omega) hTl hFl (orM xx.2 (cur pre ((V1,Vy,Vz))).1) ad' ln' cp' (fun hq9=>by
    have ha1:ancs pre:=fun y hy=>hq9 y (by simp[hy])
    have ha2:xx.2.2.anc.length<=9223372036854775807:=hq9 xx (by simp);rcases HW.out with ⟨rfl,rfl,rfl,k1,k2,k3,k4⟩ | ⟨rfl,rfl,rfl,k1⟩
    ·refine trq_anc (hQ2 ha1) k1 k2 k3 ?_;rcases k4 with e | e
     ·rw[e];exact trq_ancl (hQ2 ha1)
     ·rw[e];exact ha2
    ·rw[k1];exact trq_zero hd)
   have hbl6:Below 0 X2 (fill6 X2 KT KF (.int .i64 (orM xx.2 (cur pre ((V1,Vy,Vz))).1).1.kind) (.string (mk (orM xx.2 (cur pre ((V1,Vy,Vz))).1).1.text)) (.string (mk (orM xx.2 (cur pre ((V1,Vy,Vz))).1).1.anc)) (.slice ad' ln' cp') (.int .i64 (orM xx.2 (cur pre ((V1,Vy,Vz))).1).2.1) (.int .i64 (orM xx.2 (cur pre ((V1,Vy,Vz))).1).2.2)):=by
    unfold fill6 fill4;exact((((((Below.refl 0 X2).setCell (Nat.zero_le _) _).setCell (Nat.zero_le _) _).setCell (Nat.zero_le _) _).setCell (Nat.zero_le _) _).setCell (Nat.zero_le _) _).setCell (Nat.zero_le _) _
   have hks:KeepsOthers X2 (fill6 X2 KT KF (.int .i64 (orM xx.2 (cur pre ((V1,Vy,Vz))).1).1.kind) (.string (mk (orM xx.2 (cur pre ((V1,Vy,Vz))).1).1.text)) (.string (mk (orM xx.2 (cur pre ((V1,Vy,Vz))).1).1.anc)) (.slice ad' ln' cp') (.int .i64 (orM xx.2 (cur pre ((V1,Vy,Vz))).1).2.1) (.int .i64 (orM xx.2 (cur pre ((V1,Vy,Vz))).1).2.2)):=by
    unfold fill6 fill4;exact(((((KeepsOthers.setCell _ _ _).trans (KeepsOthers.setCell _ _ _)).trans (KeepsOthers.setCell _ _ _)).trans (KeepsOthers.setCell _ _ _)).trans (KeepsOthers.setCell _ _ _)).trans (KeepsOthers.setCell _ _ _)
   have hkp:∀ j,j<X.heap.size->j≠KT->j≠KF->(fill6 X2 KT KF (.int .i64 (orM xx.2 (cur pre ((V1,Vy,Vz))).1).1.kind) (.string (mk (orM xx.2 (cur pre ((V1,Vy,Vz))).1).1.text)) (.string (mk (orM xx.2 (cur pre ((V1,Vy,Vz))).1).1.anc)) (.slice ad' ln' cp') (.int .i64 (orM xx.2 (cur pre ((V1,Vy,Vz))).1).2.1) (.int .i64 (orM xx.2 (cur pre ((V1,Vy,Vz))).1).2.2)).heap[j]?=X.heap[j]?:=fun j hj h1 h2=>by
    unfold fill6 fill4;rw[Below.heap_setCell _ _ _ _ h2,Below.heap_setCell _ _ _ _ h2,Below.heap_setCell _ _ _ _ h1,Below.heap_setCell _ _ _ _ h1,Below.heap_setCell _ _ _ _ h1,Below.heap_setCell _ _ _ _ h1];exact hb2.block j hj
   refine⟨((KeepsOthers.of_grownBy (grownB hb2) (fun j o e=>by cases e)).trans hks).from _,⟨hkp Bs (by have:=HSZ.out;omega) hBT hBF,fun g e=>hkp g (by have:=HSZ.out;have:=(hgg g e).1;omega) (hgg g e).2.1 (hgg g e).2.2⟩,?_,okP_snoc HOK.out HY.out xx⟩;rw[cur_snoc];exact hS
  ·have HY:Hid ((cur pre ((V1,Vy,Vz))).2.1≠0):=hy;have hyb:((cur pre ((V1,Vy,Vz))).2.1 != 0)=true:=by simpa using hy
   clear hy;obtain⟨d0,d1,d2,d3,d4,d5,z0,z1,z2,z3,z4,z5⟩:=c6_of HX2.out.1 HX2.out.2;have hn42:KF≠K2:=by omega
   have hn43:KF≠K3:=by omega
   have HF:Hid (_/\_/\_):=fill6_is HX2.out.1 HX2.out.2 hn23 HBX.out (by omega) (by omega) (.int .i64 0) (.string ⟨#[]⟩) (.string ⟨#[]⟩) (.slice none 0 0) (.int .i64 (cur pre ((V1,Vy,Vz))).2.1) (.int .i64 (cur pre ((V1,Vy,Vz))).2.2)
   have hks:KeepsOthers X (fill6 X K2 K3 (.int .i64 0) (.string ⟨#[]⟩) (.string ⟨#[]⟩) (.slice none 0 0) (.int .i64 (cur pre ((V1,Vy,Vz))).2.1) (.int .i64 (cur pre ((V1,Vy,Vz))).2.2)):=by
    unfold fill6 fill4;exact(((((KeepsOthers.setCell _ _ _).trans (KeepsOthers.setCell _ _ _)).trans (KeepsOthers.setCell _ _ _)).trans (KeepsOthers.setCell _ _ _)).trans (KeepsOthers.setCell _ _ _)).trans (KeepsOthers.setCell _ _ _)
   have HKS:Hid (KeepsOthers X (fill6 X K2 K3 (.int .i64 0) (.string ⟨#[]⟩) (.string ⟨#[]⟩) (.slice none 0 0) (.int .i64 (cur pre ((V1,Vy,Vz))).2.1) (.int .i64 (cur pre ((V1,Vy,Vz))).2.2))):=hks;clear hks;dsimp only
   gi_wp2
   gi_region
   all_goals
    gi_wp2
    change ownPostG _ _ _ _ _ _ _ _ (fill6 X K2 K3 (.int .i64 0) (.string ⟨#[]⟩) (.string ⟨#[]⟩) (.slice none 0 0) (.int .i64 (cur pre ((V1,Vy,Vz))).2.1) (.int .i64 (cur pre ((V1,Vy,Vz))).2.2)).drew;generalize fill6 X K2 K3 (.int .i64 0) (.string ⟨#[]⟩) (.string ⟨#[]⟩) (.slice none 0 0) (.int .i64 (cur pre ((V1,Vy,Vz))).2.1) (.int .i64 (cur pre ((V1,Vy,Vz))).2.2)=WF at HF HKS |-;have hf2:Bx WF.drew K2 zT 24:=HF.out.2.1;have hf3:Bx WF.drew K3 #[.int .i64 (cur pre ((V1,Vy,Vz))).2.1,.int .i64 (cur pre ((V1,Vy,Vz))).2.2] 33:=HF.out.2.2;have hkd:KeepsOthers X WF.drew:=⟨HKS.out.size,HKS.out.same⟩;exact⟨hkd.from _,⟨rfl,pre,xx,rfl,HOK.out,HY.out,hf2,hf3⟩,HF.out.1.drew⟩
 case done =>
  rintro D xs X hD rfl ⟨hI,hok⟩ hK;obtain⟨S,HS0⟩:∃ S,Hid (S=cur (rv (hs.take hn) hn) ((V1,Vy,Vz))):=⟨_,rfl⟩;have hmp:=rv_map (hs.take hn) hn (by rw[List.length_take];have:=HHN.out;omega)
  have HRS:Hid (RES=S):=by
   show RES=S;have h:=bak_app (rv (hs.take hn) hn) ((V1,Vy,Vz)) [] hok;rw[hmp,List.append_nil,List.take_take,Nat.min_self]at h;rw[HRES.out,h,HS0.out];rfl
  have han:ancs (rv (hs.take hn) hn):=fun y hy=>by
   have h2:y.2∈(rv (hs.take hn) hn).map (·.2):=List.mem_map_of_mem hy;rw[hmp,List.mem_reverse]at h2;exact HAN.out y.2 (List.mem_of_mem_take (List.mem_of_mem_take h2))
  rw[<-HS0.out]at hI;obtain⟨ad,ln,cp,hbt,hq4⟩:=hI.t;have HQ4:Hid (TrQ _ X d _ _):=hq4 han;obtain⟨i0,i1⟩:=hI.f.c2;obtain⟨t0,t1,t2,t3⟩:=hbt.c4;have HX2:Hid (Bx X K2 zT 24/\Bx X K3 #[.int .i64 0,.int .i64 0] 33):=⟨(hI.keep K2 hK2l hn2T hn2F).trans hk2,(hI.keep K3 hK3l hn3T hn3F).trans hk3⟩;have HBX:Hid (Below w.heap.size w X):=⟨hI.os.trans HBL.out.os,hI.tape.trans HBL.out.tape,hI.out.trans HBL.out.output,Nat.le_trans HBL.out.size hI.size,fun j hj=>(hI.keep j (by have:=HBL.out.size;omega) (by omega) (by omega)).trans (HBL.out.block j hj)⟩;have HSZ:Hid (W0.heap.size<=X.heap.size):=hI.size;have HKD:Hid (X.heap[D]?=some (.deferred (some []))):=hK;clear hI hbt hq4 hok hBe hHd hbl hk2 hk3 hK hmp han HS0;obtain⟨d0,d1,d2,d3,d4,d5,z0,z1,z2,z3,z4,z5⟩:=c6_of HX2.out.1 HX2.out.2;have HF:Hid (_/\_/\_):=fill6_is HX2.out.1 HX2.out.2 hn23 HBX.out (by omega) (by omega) (.int .i64 S.1.kind) (.string (mk S.1.text)) (.string (mk S.1.anc)) (.slice ad ln cp) (.int .i64 S.2.1) (.int .i64 S.2.2);have hnT2:KT≠K2:=fun e=>hn2T e.symm
  have hnT3:KT≠K3:=fun e=>hn3T e.symm
  have hnF2:KF≠K2:=fun e=>hn2F e.symm
  have hnF3:KF≠K3:=fun e=>hn3F e.symm
  have HKS:Hid (KeepsOthers X (fill6 X K2 K3 (.int .i64 S.1.kind) (.string (mk S.1.text)) (.string (mk S.1.anc)) (.slice ad ln cp) (.int .i64 S.2.1) (.int .i64 S.2.2))/\∀ j,C<=j->(fill6 X K2 K3 (.int .i64 S.1.kind) (.string (mk S.1.text)) (.string (mk S.1.anc)) (.slice ad ln cp) (.int .i64 S.2.1) (.int .i64 S.2.2)).heap[j]?=X.heap[j]?):=by
   unfold fill6 fill4;refine⟨(((((KeepsOthers.setCell _ _ _).trans (KeepsOthers.setCell _ _ _)).trans (KeepsOthers.setCell _ _ _)).trans (KeepsOthers.setCell _ _ _)).trans (KeepsOthers.setCell _ _ _)).trans (KeepsOthers.setCell _ _ _),fun j hj=> ?_⟩;have h1:j≠K2:=by omega
   have h2:j≠K3:=by omega
   rw[Below.heap_setCell _ _ _ _ h2,Below.heap_setCell _ _ _ _ h2,Below.heap_setCell _ _ _ _ h1,Below.heap_setCell _ _ _ _ h1,Below.heap_setCell _ _ _ _ h1,Below.heap_setCell _ _ _ _ h1]
  go_wp2_with fail;go_region
  all_goals
   go_wp2;change bodyPostM _ _ _ _ _ _ _ (fill6 X K2 K3 (.int .i64 S.1.kind) (.string (mk S.1.text)) (.string (mk S.1.anc)) (.slice ad ln cp) (.int .i64 S.2.1) (.int .i64 S.2.2)).drew;generalize fill6 X K2 K3 (.int .i64 S.1.kind) (.string (mk S.1.text)) (.string (mk S.1.anc)) (.slice ad ln cp) (.int .i64 S.2.1) (.int .i64 S.2.2)=WF at HF HKS |-
   gi_wp2
   have hK':WF.drew.heap[D]?=some (.deferred (some [])):=HKS.out.1.same D _ HKD.out rfl;refine⟨by simp,.inl ⟨_,_,rfl,run_takeDeferred hK',?_⟩⟩;have kp:∀ a v,WF.drew.cell? a=some v->(WF.drew.putObj D (.deferred none)).cell? a=some v:=fun a v h=>cell_kept h (grownBy_putObj' _ D (.deferred none)) (fun r e=>by cases e;exact⟨_,hK',rfl⟩)
   have g0:=kp ⟨K2,0,none⟩ _ (HF.out.2.1.cell 0);have g1:=kp ⟨K2,1,none⟩ _ (HF.out.2.1.cell 1);have g2:=kp ⟨K2,2,none⟩ _ (HF.out.2.1.cell 2);have g3:=kp ⟨K2,3,none⟩ _ (HF.out.2.1.cell 3);have g4:=kp ⟨K3,0,none⟩ _ (HF.out.2.2.cell 0);have g5:=kp ⟨K3,1,none⟩ _ (HF.out.2.2.cell 1);refine⟨.tuple #[.agg #[.int .i64 S.1.kind,.string (mk S.1.text),.string (mk S.1.anc),.slice ad ln cp],.agg #[.int .i64 S.2.1,.int .i64 S.2.2]],by simp[results,Tryz.results14,go_sem,g0,g1,g2,g3,g4,g5],?_⟩;show TfD d (bak (((c,x,z),⟨pa,pt⟩)::q.1).reverse (V1,Vy,Vz)) w _ _;rw[<-HRE.out,HRS.out];have hwD:w.heap.size<=D:=by have:=HBL.out.size;omega
   refine⟨_,rfl,?_,HF.out.1.drew.trans (belowK_b (w:=w) (Nat.le_refl _) _ D _ _ hwD hK' rfl rfl)⟩;refine TrQ.wide (P:=fun g=>C<=g/\g<W0.heap.size) (fun j hj _=>by have:=hj.1;omega) (HQ4.out.keep ?_ (fun j hj _=> ?_))
   ·have h1:=HKS.out.1.size;show X.heap.size<=(WF.drew.putObj D (.deferred none)).heap.size;simp only[World.putObj,Array.size_setIfInBounds];exact h1
   ·rw[World.putObj_heap_other (fun e=>by have:=hj.2;omega)];exact HKS.out.2 j hj.1
 case stop =>
  rintro D cc pre X hD hpre ⟨⟨rfl,qq,xx,rfl,hq1,hq2,hx2,hx3⟩,hB⟩ hK;have hmp:=rv_map (hs.take hn) hn (by rw[List.length_take];have:=HHN.out;omega)
  have HRS:Hid (RES=(tr0,(cur qq ((V1,Vy,Vz))).2)):=by
   show RES=_;obtain⟨t,ht⟩:=hpre;rw[<-ht,List.append_assoc,List.map_append,List.take_take,Nat.min_self]at hmp;have h:=bak_app qq ((V1,Vy,Vz)) (([xx]++t).map (·.2)) hq1;rw[hmp]at h;rw[HRES.out,h,List.map_append,List.map_cons,List.map_nil,List.singleton_append,bak,if_pos hq2]
  gi_wp2
  refine⟨by simp,.inl ⟨_,_,rfl,run_takeDeferred hK,?_⟩⟩;have kp:∀ a v,X.cell? a=some v->(X.putObj D (.deferred none)).cell? a=some v:=fun a v h=>cell_kept h (grownBy_putObj' _ D (.deferred none)) (fun r e=>by cases e;exact⟨_,hK,rfl⟩)
  have g0:=kp ⟨K2,0,none⟩ _ (hx2.cell 0);have g1:=kp ⟨K2,1,none⟩ _ (hx2.cell 1);have g2:=kp ⟨K2,2,none⟩ _ (hx2.cell 2);have g3:=kp ⟨K2,3,none⟩ _ (hx2.cell 3);have g4:=kp ⟨K3,0,none⟩ _ (hx3.cell 0);have g5:=kp ⟨K3,1,none⟩ _ (hx3.cell 1);refine⟨.tuple #[.agg zT,.agg #[.int .i64 (cur qq ((V1,Vy,Vz))).2.1,.int .i64 (cur qq ((V1,Vy,Vz))).2.2]],by simp[results,Tryz.results14,go_sem,g0,g1,g2,g3,g4,g5,zT],?_⟩;show TfD d (bak (((c,x,z),⟨pa,pt⟩)::q.1).reverse (V1,Vy,Vz)) w _ _;rw[<-HRE.out,HRS.out];have hwD:w.heap.size<=D:=by have:=HBL.out.size;omega
  exact⟨_,rfl,TrP.more (TrP.leaf 0 [] [] (by decide) (by decide) (by decide) 0) hd,hB.trans (belowK_b (w:=w) (Nat.le_refl _) _ D _ _ hwD hK rfl rfl)⟩
end Tre
namespace Tre
open Utf Rws Pln Flw
open Go.RowKit Go.Shelf
open Blk (Rw RwAt z3)
set_option maxHeartbeats 8000000
attribute [local go_sem] Oper.semAt_some
theorem own_at {w:World} {B:Nat} {ha:Option Addr} {n hcap:Nat} {hs:List Hd} (h:w.ownsRow B 62 5 (.slice ha n hcap) n (hCs hs)) (hn:n=hs.length) (i:Nat) (hi:i<n):∃ g,ha=some ⟨g,0,none⟩/\w.cell? ⟨g,i*5,none⟩=some (.int .i64 (hs.getD i hd0).1.1)/\w.cell? ⟨g,i*5+1,none⟩=some (.string (mk (hs.getD i hd0).1.2.1))/\w.cell? ⟨g,i*5+2,none⟩=some (.int .i64 (hs.getD i hd0).1.2.2)/\w.cell? ⟨g,i*5+3,none⟩=some (.string (mk (hs.getD i hd0).2.anc))/\w.cell? ⟨g,i*5+4,none⟩=some (.int .i64 (hs.getD i hd0).2.tag):=by
 have hb:=below_alloc w (.cells #[.slice ha n hcap] 58);have hx:=Bx.new w #[.slice ha n hcap] 58;have h2:=hdat_of (m:=n) (ownH_keep h (fun j _ hj=>hb.block j hj)) hn (Nat.le_refl _) (hx.cell 0);obtain⟨g,e,c0,c1,c2,c3,c4⟩:=h2.ad i hi;have ht:hs.take n=hs:=by rw[hn,List.take_length]
 rw[ht]at c0 c1 c2 c3 c4;have hg:g<w.heap.size:=(ownH_blk h (k:=g) (by rw[e];rfl)).2;exact⟨g,e,(hb.cell (p:=⟨g,i*5,none⟩) hg).symm.trans c0,(hb.cell (p:=⟨g,i*5+1,none⟩) hg).symm.trans c1,(hb.cell (p:=⟨g,i*5+2,none⟩) hg).symm.trans c2,(hb.cell (p:=⟨g,i*5+3,none⟩) hg).symm.trans c3,(hb.cell (p:=⟨g,i*5+4,none⟩) hg).symm.trans c4⟩
theorem noM_tr {CC d:Nat} {w:World} (h:Hd) (ha:h.2.anc.length<=9223372036854775807) (hd:1<=d):TrP CC w d (.agg #[.int .i64 (noM h).1.kind,.string (mk (noM h).1.text),.string (mk (noM h).1.anc),.slice none 0 0]) (noM h).1:=by
 unfold noM;split
 ·exact TrP.more (trP_leaf 0 [] [] (by decide) (by decide) (by decide) 0) hd
 ·refine TrP.more (trP_leaf (nuK h.2) [] h.2.anc ?_ (by simp) ha 0) hd;unfold nuK;split<;>decide
theorem rev_last (hs:List Hd) (m:Nat) (h:hs.length=m+1):hs.reverse=hs.getD m hd0::(hs.take m).reverse:=by
 have e:hs=hs.take m++[hs.getD m hd0]:=by
  have h2:=List.take_add_one (l:=hs) (i:=m);rw[List.take_of_length_le (by omega)]at h2;rw[List.getD_eq_getElem?_getD,List.getElem?_eq_getElem (by omega)];rw[List.getElem?_eq_getElem (by omega)]at h2;exact h2
 conv=>lhs;rw[e]
 rw[List.reverse_append];rfl
theorem below_none (d:Nat) (ar:Int) (c:Int) (x:Ln) (z:Int) (pa:Ln) (pt:Int) (a:Option Addr) (len cap:Nat) (rs:List Rw) (w:World) (hR:RowsIn w a len cap rs) (hlr:rs.length<=1048576) (hq:(hds (decide (ar=64)) (rs.length+1) c rs).2.2.1=0) (hrs:(hds (decide (ar=64)) (rs.length+1) c rs).2.1=[]) (hd:1<=d) (hanc:∀ h∈((c,x,z),⟨pa,pt⟩)::(hds (decide (ar=64)) (rs.length+1) c rs).1,h.2.anc.length<=9223372036854775807) :
  Calls Tryz.prog 14 #[.int .i64 ar,rV c x z,.agg #[.string (mk pa),.int .i64 pt],.slice a len cap] w fun e w'=>TfD d (bak (((c,x,z),⟨pa,pt⟩)::(hds (decide (ar=64)) (rs.length+1) c rs).1).reverse.tail (noM ((((c,x,z),⟨pa,pt⟩)::(hds (decide (ar=64)) (rs.length+1) c rs).1).reverse.headD ((c,x,z),⟨pa,pt⟩)))) w e w':=by
 obtain⟨q,HQ⟩:∃ q,Hid (q=(hds (decide (ar=64)) (rs.length+1) c rs)):=⟨_,rfl⟩
 have HHD:Hid (∀ w0,Below w.heap.size w w0->Calls Tryz.prog 18 #[.int .i64 ar,.agg #[.int .i64 c,.string (mk x),.int .i64 z,.string (mk pa),.int .i64 pt],.slice a len cap] w0 fun e w'=>HdRes q ((c,x,z),⟨pa,pt⟩) w0 e w'):=fun w0 hb=>by
  rw[HQ.out];exact heads_any ar ((c,x,z),⟨pa,pt⟩) a len cap rs w0 (hR.later hb) hlr
 have N4:Hid (_/\_/\_/\_/\_):=four_bx w #[.int .i64 c,.string (mk x),.int .i64 z] #[.string (mk pa),.int .i64 pt] zT #[.int .i64 0,.int .i64 0] 45 49 24 33;rw[<-HQ.out]at hq hrs hanc |-;clear hR;refine(callsIn_wide (n:=4)).1 ?_;refine callsIn_of_wp_marks Tryz.func14 rfl trivial ?_ rfl;simp only[Tryz.ntmps14,List.size_toArray,List.length_cons,List.length_nil,Nat.reduceAdd,Nat.reduceSub,Array.replicate_succ,Array.replicate_zero,List.push_toArray,List.append_toArray,List.nil_append,List.cons_append];refine wpIn_wide.2 ?_;go_wp2_with fail;change Calls _ _ _ ((((w.alloc (.cells #[.int .i64 c,.string (mk x),.int .i64 z] 45)).alloc (.cells #[.string (mk pa),.int .i64 pt] 49)).alloc (.cells zT 24)).alloc (.cells #[.int .i64 0,.int .i64 0] 33)) _;generalize (((w.alloc (.cells #[.int .i64 c,.string (mk x),.int .i64 z] 45)).alloc (.cells #[.string (mk pa),.int .i64 pt] 49)).alloc (.cells zT 24)).alloc (.cells #[.int .i64 0,.int .i64 0] 33)=W at N4 |-;obtain⟨K3,hK3⟩:∃ K,K=w.heap.size+1+1+1:=⟨_,rfl⟩;obtain⟨K2,hK2⟩:∃ K,K=w.heap.size+1+1:=⟨_,rfl⟩;obtain⟨K1,hK1⟩:∃ K,K=w.heap.size+1:=⟨_,rfl⟩;obtain⟨K0,hK0⟩:∃ K,K=w.heap.size:=⟨_,rfl⟩
 have HB:Hid (Below w.heap.size w W/\Bx W K0 #[.int .i64 c,.string (mk x),.int .i64 z] 45/\Bx W K1 #[.string (mk pa),.int .i64 pt] 49/\Bx W K2 zT 24/\Bx W K3 #[.int .i64 0,.int .i64 0] 33):=by
  rw[hK0,hK1,hK2,hK3];exact N4.out
 rw[<-hK3,<-hK2,<-hK1,<-hK0];have hK:w.heap.size<=K0/\K0<K1/\K1<K2/\K2<K3:=by omega
 have hwW:w.heap.size<=W.heap.size:=HB.out.1.size;clear N4 hK0 hK1 hK2 hK3
 have HOK:Hid (Calls Tryz.prog 18 #[.int .i64 ar,.agg #[.int .i64 c,.string (mk x),.int .i64 z,.string (mk pa),.int .i64 pt],.slice a len cap] W fun e w'=>∃ ha hcap a1 len1 cap1,e=.returned (.tuple #[.slice ha (((c,x,z),⟨pa,pt⟩)::q.1).length hcap,.slice a1 len1 cap1,.agg #[.int .i64 0,.int .i64 0]])/\Hid (Below W.heap.size W w'/\w'.ownsRow W.heap.size 62 5 (.slice ha (((c,x,z),⟨pa,pt⟩)::q.1).length hcap) (((c,x,z),⟨pa,pt⟩)::q.1).length (hCs (((c,x,z),⟨pa,pt⟩)::q.1))/\RowsA W a1 len1 cap1 q.2.1)):=(HHD.out W HB.out.1).mono (fun e w' h=>by
  obtain⟨v,a1,len1,cap1,h1,h2,h3⟩:=h.2.1 hq;obtain⟨ha,hcap,rfl⟩:=own_slice h2;exact⟨ha,hcap,a1,len1,cap1,h1,h.2.2,h2,h3⟩)
 clear HHD;obtain⟨hs,Hhs⟩:∃ hs,Hid (hs=((c,x,z),⟨pa,pt⟩)::q.1):=⟨_,rfl⟩;rw[<-Hhs.out]at HOK;obtain⟨hn,HHN⟩:∃ hn,Hid (hn=hs.length):=⟨_,rfl⟩;rw[<-HHN.out]at HOK;refine HOK.out.mono ?_;rintro e w1 ⟨ha,hcap,a1,len1,cap1,rfl,H1⟩
 have H2:Hid (∀ w3,w3=(w1.alloc (.cells #[.int .i64 0,.int .i64 0] 33)).alloc (.cells zT 24)->Below w.heap.size w w3/\Bx w3 K2 zT 24/\Bx w3 K3 #[.int .i64 0,.int .i64 0] 33/\Bx w3 w1.heap.size #[.int .i64 0,.int .i64 0] 33/\Bx w3 (w1.heap.size+1) zT 24/\w3.ownsRow W.heap.size 62 5 (.slice ha hn hcap) hn (hCs hs)/\RowsA w3 a1 len1 cap1 q.2.1/\K3<w1.heap.size/\W.heap.size<=w1.heap.size/\w3.heap.size=w1.heap.size+1+1):=fun w3 e=>by
  subst e;have s1:(w1.alloc (.cells #[.int .i64 0,.int .i64 0] 33)).heap.size=w1.heap.size+1:=World.size_alloc _ _;have b1:=below_alloc w1 (.cells #[.int .i64 0,.int .i64 0] 33);have b2:=below_alloc (w1.alloc (.cells #[.int .i64 0,.int .i64 0] 33)) (.cells zT 24);have b:=b1.trans (b2.mono b1.size);have n2:=Bx.new (w1.alloc (.cells #[.int .i64 0,.int .i64 0] 33)) zT 24;rw[s1]at n2;have bw:=H1.out.1.trans (b.mono H1.out.1.size);exact⟨HB.out.1.trans (bw.mono HB.out.1.size),HB.out.2.2.2.1.later bw,HB.out.2.2.2.2.later bw,(Bx.new _ _ _).later b2,n2,ownH_keep H1.out.2.1 (fun j _ hj=>b.block j hj),H1.out.2.2.later bw,Nat.lt_of_lt_of_le HB.out.2.2.2.2.lt H1.out.1.size,H1.out.1.size,by rw[World.size_alloc,s1]⟩
 clear HB HOK H1;rw[hrs]at H2;have hl1:len1=0:=by have:=(H2.out _ rfl).2.2.2.2.2.2.1.len;simpa using this
 subst hl1;obtain⟨m,HM⟩:∃ m,hn=m+1:=⟨hn-1,by have:=HHN.out;rw[Hhs.out,List.length_cons]at this;omega⟩;subst HM;obtain⟨g,hga,_⟩:=own_at (H2.out _ rfl).2.2.2.2.2.1 HHN.out 0 (by omega);subst hga;have hmx:=own_max (H2.out _ rfl).2.2.2.2.2.1
 have hcx:m+1<=hcap/\hcap<=9223372036854775807:=by
  rcases(H2.out _ rfl).2.2.2.2.2.1.2 with ⟨h1,_⟩ | ⟨g2,cap2,cur2,h1,_,_,h2,h3,_⟩
  ·cases h1
  ·simp only[Value.slice.injEq]at h1;have:maxLen=9223372036854775807:=rfl;omega
 have hcx1:=hcx.1;have hcx2:=hcx.2;go_upto_region 8 with fail
 have N3:=H2.out _ rfl;clear H2;change Code.wp _ _ _ _ ((w1.alloc (.cells #[.int .i64 0,.int .i64 0] 33)).alloc (.cells zT 24));generalize (w1.alloc (.cells #[.int .i64 0,.int .i64 0] 33)).alloc (.cells zT 24)=w3 at N3 |-;generalize hKT:w1.heap.size+1=KT at N3 |-;generalize hKF:w1.heap.size=KF at N3 hKT |-;have HS3:Hid (Below w.heap.size w w3/\Bx w3 K2 zT 24/\Bx w3 K3 #[.int .i64 0,.int .i64 0] 33/\Bx w3 KF #[.int .i64 0,.int .i64 0] 33/\Bx w3 KT zT 24/\w3.ownsRow W.heap.size 62 5 (.slice (some ⟨g,0,none⟩) (m+1) hcap) (m+1) (hCs hs)):=⟨N3.1,N3.2.1,N3.2.2.1,N3.2.2.2.1,N3.2.2.2.2.1,N3.2.2.2.2.2.1⟩;have hK2:K3<KF/\KF<KT/\KT<w3.heap.size/\w.heap.size<=W.heap.size:=⟨N3.2.2.2.2.2.2.2.1,by omega,N3.2.2.2.2.1.lt,hwW⟩;clear N3 hKT hKF;obtain⟨g',hge,n0,n1,n2,n3,n4⟩:=own_at HS3.out.2.2.2.2.2 HHN.out m (by omega);obtain rfl:g=g':=by simpa using hge
 have HLH:Hid (∃ lh,lh=hs.getD m hd0):=⟨_,rfl⟩;obtain⟨lh,hlh⟩:=HLH.out;rw[<-hlh]at n0 n1 n2 n3 n4;have HL:Hid (lh=hs.getD m hd0):=hlh;clear hlh HLH hge;obtain⟨V,HVV⟩:∃ V,Hid (V=noM lh):=⟨_,rfl⟩
 have hlm:lh∈hs:=by
  have h1:=HHN.out;rw[HL.out,List.getD_eq_getElem?_getD,List.getElem?_eq_getElem (by omega)];exact List.getElem_mem _
 have hla:lh.2.anc.length<=9223372036854775807:=hanc lh (by rw[<-Hhs.out];exact hlm)
 have HTV:Hid (∀ CC w0,TrP CC w0 d (.agg #[.int .i64 V.1.kind,.string (mk V.1.text),.string (mk V.1.anc),.slice none 0 0]) V.1):=fun CC w0=>by
  rw[HVV.out];exact noM_tr lh hla hd
 have HNO:Hid (Calls Tryz.prog 20 #[.agg #[.string (mk lh.2.anc),.int .i64 lh.2.tag],.agg #[.int .i64 lh.1.1,.string (mk lh.1.2.1),.int .i64 lh.1.2.2]] w3.drew fun e w8=>e=.returned (.tuple #[.agg #[.int .i64 V.1.kind,.string (mk V.1.text),.string (mk V.1.anc),.slice none 0 0],.agg #[.int .i64 V.2.1,.int .i64 V.2.2]])/\w8.cell? ⟨KT,0,none⟩=some (.int .i64 0)/\w8.cell? ⟨KT,1,none⟩=some (.string ⟨#[]⟩)/\w8.cell? ⟨KT,2,none⟩=some (.string ⟨#[]⟩)/\w8.cell? ⟨KT,3,none⟩=some (.slice none 0 0)/\w8.cell? ⟨KF,0,none⟩=some (.int .i64 0)/\w8.cell? ⟨KF,1,none⟩=some (.int .i64 0)/\w8.frozen? ⟨KT,0,none⟩=false/\w8.frozen? ⟨KT,1,none⟩=false/\w8.frozen? ⟨KT,2,none⟩=false/\w8.frozen? ⟨KT,3,none⟩=false/\w8.frozen? ⟨KF,0,none⟩=false/\w8.frozen? ⟨KF,1,none⟩=false/\Hid (Below w3.heap.size w3 w8)):=by
  have hbd:Below w3.heap.size w3 w3.drew:=(Below.refl _ _).drew;rw[HVV.out];refine(onNothing_all lh w3.drew).mono ?_;rintro e w8 ⟨rfl,hb8⟩;have hb9:=hbd.trans hb8;obtain⟨d0,d1,d2,d3,d4,d5,y0,y1,y2,y3,y4,y5⟩:=c6_of (HS3.out.2.2.2.2.1.later hb9) (HS3.out.2.2.2.1.later hb9);exact⟨rfl,d0,d1,d2,d3,d4,d5,y0,y1,y2,y3,y4,y5,hb9⟩
 have hnTF:KT≠KF:=by omega
 have hnFT:KF≠KT:=by omega
 obtain⟨V1,Vy,Vz⟩:=V;refine wp_thenN (fun (_:Unit)=>({ tmps:=#[.int .i64 ar,rV c x z,.agg #[.string (mk pa),.int .i64 pt],.slice a1 0 cap1,undef,.pointer (some ⟨K0,0,none⟩),.pointer (some ⟨K1,0,none⟩),undef,.pointer (some ⟨K2,0,none⟩),.pointer (some ⟨K3,0,none⟩),.slice (some ⟨g,0,none⟩) (m+1) hcap,.pointer (some ⟨KF,0,none⟩),.pointer (some ⟨KT,0,none⟩),.int .i64 (m:Int),undef,undef,.tuple #[.slice (some ⟨g,0,none⟩) (m+1) hcap,.slice a1 0 cap1,.agg #[.int .i64 0,.int .i64 0]],.int .i64 ar,.agg #[.int .i64 c,.string (mk x),.int .i64 z],.agg #[.string (mk pa),.int .i64 pt],.agg #[.int .i64 c,.string (mk x),.int .i64 z,.string (mk pa),.int .i64 pt],.slice a len cap,.tuple #[.slice (some ⟨g,0,none⟩) (m+1) hcap,.slice a1 0 cap1,.agg #[.int .i64 0,.int .i64 0]],.slice (some ⟨g,0,none⟩) (m+1) hcap,.slice a1 0 cap1,.agg #[.int .i64 0,.int .i64 0],.pointer (some ⟨KF,0,none⟩),.int .i64 0,.bool false,undef,undef,.slice a1 0 cap1,.int .i64 0,.bool false,undef,undef,undef,undef,undef,undef,undef,undef,undef,undef,.slice (some ⟨g,0,none⟩) (m+1) hcap,.int .i64 ((m:Int)+1),.int .i64 (m:Int),.tuple #[.agg #[.int .i64 V1.kind,.string (mk V1.text),.string (mk V1.anc),.slice none 0 0],.agg #[.int .i64 Vy,.int .i64 Vz]],.slice (some ⟨g,0,none⟩) (m+1) hcap,.int .i64 (m:Int),.pointer (some ⟨g,m*5,none⟩),.pointer (some ⟨g,m*5+3,none⟩),.agg #[.string (mk lh.2.anc),.int .i64 lh.2.tag],.slice (some ⟨g,0,none⟩) (m+1) hcap,.int .i64 (m:Int),.pointer (some ⟨g,m*5,none⟩),.pointer (some ⟨g,m*5,none⟩),.agg #[.int .i64 lh.1.1,.string (mk lh.1.2.1),.int .i64 lh.1.2.2],.tuple #[.agg #[.int .i64 V1.kind,.string (mk V1.text),.string (mk V1.anc),.slice none 0 0],.agg #[.int .i64 Vy,.int .i64 Vz]],.agg #[.int .i64 V1.kind,.string (mk V1.text),.string (mk V1.anc),.slice none 0 0],.agg #[.int .i64 Vy,.int .i64 Vz],undef,undef,undef,undef,undef,undef,undef,undef,undef,undef,undef,undef,undef,undef,undef,undef,undef,undef,undef,undef,undef,undef,undef],defers:=[] }:Go.Act)) (fun _ w9=>∃ w8,w9=fill6 w8 KT KF (.int .i64 V1.kind) (.string (mk V1.text)) (.string (mk V1.anc)) (.slice none 0 0) (.int .i64 Vy) (.int .i64 Vz)/\Hid (Below w3.heap.size w3 w8)) ?H1 ?H2
 case H1 =>
  go_region_with (go_at_call 20;refine HNO.out.mono ?_;rintro e w8 ⟨rfl,d0,d1,d2,d3,d4,d5,y0,y1,y2,y3,y4,y5,HB8⟩)
  all_goals exact⟨(),⟨w8,rfl,HB8⟩,rfl⟩
 case H2 =>
 rintro _ w9 ⟨w8,rfl,HB8⟩;have hb9:=HB8.out
 have H9:Hid (B9 w (fill6 w8 KT KF (.int .i64 V1.kind) (.string (mk V1.text)) (.string (mk V1.anc)) (.slice none 0 0) (.int .i64 Vy) (.int .i64 Vz)) K2 K3 KT KF w3.heap.size d W.heap.size (some ⟨g,0,none⟩) (m+1) hcap hs V1.kind (mk V1.text) (mk V1.anc) none 0 0 (V1,Vy,Vz)):=by
  have gg:=fill6_is (HS3.out.2.2.2.2.1.later hb9) (HS3.out.2.2.2.1.later hb9) hnTF (HS3.out.1.trans (hb9.mono HS3.out.1.size)) (by omega) (by omega) (.int .i64 V1.kind) (.string (mk V1.text)) (.string (mk V1.anc)) (.slice none 0 0) (.int .i64 Vy) (.int .i64 Vz);have hTl:KT<w3.heap.size:=hK2.2.2.1;have hFl:KF<w3.heap.size:=by omega
  have hn2T:K2≠KT:=by omega
  have hn2F:K2≠KF:=by omega
  have hn3T:K3≠KT:=by omega
  have hn3F:K3≠KF:=by omega
  have hz:(fill6 w8 KT KF (.int .i64 V1.kind) (.string (mk V1.text)) (.string (mk V1.anc)) (.slice none 0 0) (.int .i64 Vy) (.int .i64 Vz)).heap.size=w8.heap.size:=by unfold fill6 fill4;simp only[World.size_setCell]
  have hown:=ownH_keep HS3.out.2.2.2.2.2 (fun j _ hj=>hb9.block j hj);have hoT:=own_ne hown (HS3.out.2.2.2.2.1.later hb9) (by decide);have hoF:=own_ne hown (HS3.out.2.2.2.1.later hb9) (by decide);refine⟨gg.1,?_,?_,gg.2.1,gg.2.2,HTV.out _ _,?_,hTl,by rw[hz];exact hb9.size⟩
  ·exact(((((HS3.out.2.1.later hb9).other hn2T _ _).other hn2T _ _).other hn2T _ _).other hn2T _ _).other hn2F _ _ |>.other hn2F _ _
  ·exact(((((HS3.out.2.2.1.later hb9).other hn3T _ _).other hn3T _ _).other hn3T _ _).other hn3T _ _).other hn3F _ _ |>.other hn3F _ _
  ·exact own_set6 hown hoT hoF
 have HAN:Hid (∀ h∈hs,h.2.anc.length<=9223372036854775807):=fun h hh=>hanc h (by rw[<-Hhs.out];exact hh)
 have HRES:Hid (bak (((c,x,z),⟨pa,pt⟩)::q.1).reverse.tail (noM ((((c,x,z),⟨pa,pt⟩)::q.1).reverse.headD ((c,x,z),⟨pa,pt⟩)))=bak (hs.take m).reverse (V1,Vy,Vz)):=by
  show _=_;rw[<-Hhs.out,rev_last hs m HHN.out.symm,List.tail_cons,List.headD_cons,<-HL.out,HVV.out]
 obtain⟨RES,HRE⟩:∃ RES,Hid (RES=bak (((c,x,z),⟨pa,pt⟩)::q.1).reverse.tail (noM ((((c,x,z),⟨pa,pt⟩)::q.1).reverse.headD ((c,x,z),⟨pa,pt⟩)))):=⟨_,rfl⟩;rw[<-HRE.out]at HRES;clear hb9 HB8 HS3 HNO hanc hrs hq HQ Hhs HTV hla hlm HL HVV n0 n1 n2 n3 n4;generalize w3.heap.size=C at H9;generalize fill6 w8 KT KF (.int .i64 V1.kind) (.string (mk V1.text)) (.string (mk V1.anc)) (.slice none 0 0) (.int .i64 Vy) (.int .i64 Vz)=w9 at H9 |-;have HBK:Hid (Calls Tryz.prog 21 #[.slice (some (⟨g,0,none⟩:Addr)) m hcap] w9 fun e w'=>e=.returned (.func (.func 41) #[] #[.pointer (some ⟨w9.heap.size,0,none⟩)])/\w'=w9.alloc (.cells #[.slice (some (⟨g,0,none⟩:Addr)) m hcap] 58)):=callsIn_wide.1 (back_in (some (⟨g,0,none⟩:Addr)) m hcap 4 w9);go_wp2_with fail;refine HBK.out.mono ?_;rintro e w10 ⟨rfl,rfl⟩
 have H10:Hid (∀ w10,w10=w9.alloc (.cells #[.slice (some (⟨g,0,none⟩:Addr)) m hcap] 58)->Be w10 w10 KT KF C d (ancs []) ((V1,Vy,Vz))/\HdAt w10 w9.heap.size (some (⟨g,0,none⟩:Addr)) m hcap (hs.take m)/\Below w.heap.size w w10/\Bx w10 K2 zT 24/\Bx w10 K3 #[.int .i64 0,.int .i64 0] 33/\w9.heap.size<w10.heap.size/\KT<C/\C<=w10.heap.size/\(∀ gg,(some (⟨g,0,none⟩:Addr))=some ⟨gg,0,none⟩->gg<w10.heap.size/\gg≠KT/\gg≠KF)/\w9.heap.size≠KT/\w9.heap.size≠KF):=fun w10 e=>by
  subst e;have ba:=below_alloc w9 (.cells #[.slice (some (⟨g,0,none⟩:Addr)) m hcap] 58);have sa:(w9.alloc (.cells #[.slice (some (⟨g,0,none⟩:Addr)) m hcap] 58)).heap.size=w9.heap.size+1:=World.size_alloc _ _;have hC9:=H9.out.hC;refine⟨⟨rfl,rfl,rfl,Nat.le_refl _,fun j _ _ _=>rfl,?_,H9.out.f.later ba⟩,hdat_of (ownH_keep H9.out.own (fun j _ hj=>ba.block j hj)) HHN.out (by omega) ((Bx.new w9 #[.slice (some (⟨g,0,none⟩:Addr)) m hcap] 58).cell 0),H9.out.bl.trans (ba.mono H9.out.bl.size),H9.out.b2.later ba,H9.out.b3.later ba,by omega,H9.out.hT,by omega,?_,by have:=H9.out.t.lt;omega,by have:=H9.out.f.lt;omega⟩
  ·exact⟨_,_,_,H9.out.t.later ba,fun _=>TrQ.wide (fun j h1 h2=>⟨h1,h2⟩) (H9.out.tr.later ba)⟩
  ·intro gg hgg;have h1:=H9.out.own;rw[hgg]at h1;have h2:=ownH_blk h1 (k:=gg) rfl;exact⟨by omega,own_ne h1 H9.out.t (by decide) gg rfl,own_ne h1 H9.out.f (by decide) gg rfl⟩
 go_upto_region 99 with fail
 have N10:=H10.out _ rfl;clear H10 H9 HBK;generalize w9.alloc (.cells #[.slice (some (⟨g,0,none⟩:Addr)) m hcap] 58)=W0 at N10 |-;generalize w9.heap.size=Bs at N10 |-;obtain⟨hBe,hHd,hbl,hk2,hk3,hBs,hTC,hCW,hgg,hBT,hBF⟩:=N10;have HBL:Hid (Below w.heap.size w W0):=hbl;have hK2l:K2<W0.heap.size:=hk2.lt;have hK3l:K3<W0.heap.size:=hk3.lt;have hTl:KT<W0.heap.size:=by omega
 have hFl:KF<W0.heap.size:=by omega
 have hn23:K2≠K3:=by omega
 have hn32:K3≠K2:=by omega
 have hn2T:K2≠KT:=by omega
 have hn2F:K2≠KF:=by omega
 have hn3T:K3≠KT:=by omega
 have hn3F:K3≠KF:=by omega
 refine(wpIn_wide (n:=4)).1 ?_
 refine wpIn_rangeFunc_ownH rfl (by decide) (gf:=41) (lb:=#[.pointer (some ⟨Bs,0,none⟩)]) rfl trivial (enters_of Tryz.func41 (by kernel_rfl) rfl)
  (back_stops (4-1) (by decide) Bs (some (⟨g,0,none⟩:Addr)) m hcap (hs.take m) (by omega) W0 hBs (fun g e=>(hgg g e).1) hHd) (fun h k=>kph_trans h k) (fun X l o o' hl _ _ _=>⟨World.putObj_heap_other (fun e=>by omega),fun g e=>World.putObj_heap_other (fun e2=>by have:=(hgg g e).1;omega)⟩) (Below.refl _ _) (fun _=>rfl)
  (fun pre X=>Be W0 X KT KF C d (ancs pre) (cur pre ((V1,Vy,Vz)))/\okP pre ((V1,Vy,Vz)))
  (fun cc pre X=>(cc=.ret/\∃ qq xx,pre=qq++[xx]/\okP qq ((V1,Vy,Vz))/\(cur qq ((V1,Vy,Vz))).2.1≠0/\Bx X K2 zT 24/\Bx X K3 #[.int .i64 (cur qq ((V1,Vy,Vz))).2.1,.int .i64 (cur qq ((V1,Vy,Vz))).2.2] 33)/\Below w.heap.size w X)
  (be_own W0 KT KF C d hTl hFl ancs (fun pre=>cur pre ((V1,Vy,Vz))) (fun pre=>okP pre ((V1,Vy,Vz))))
  (fun cc=>OwnFrom.and (fun pre A B row ht hg hr=>by
   obtain⟨h1,qq,xx,h2,h3,h4,h5,h6⟩:=ht;exact⟨h1,qq,xx,h2,h3,h4,bx_grown h5 hg (fun r e=>(hr r e).2),bx_grown h6 hg (fun r e=>(hr r e).2)⟩) (ownFrom_below (Nat.le_refl _) HBL.out.size))
  ⟨hBe,okP_nil _⟩
  (fun xx a' X=>∃ KH,a'=({ tmps:=#[.int .i64 ar,rV c x z,.agg #[.string (mk pa),.int .i64 pt],.slice a1 0 cap1,undef,.pointer (some ⟨K0,0,none⟩),.pointer (some ⟨K1,0,none⟩),undef,.pointer (some ⟨K2,0,none⟩),.pointer (some ⟨K3,0,none⟩),.slice (some ⟨g,0,none⟩) m hcap,.pointer (some ⟨KF,0,none⟩),.pointer (some ⟨KT,0,none⟩),.int .i64 (m:Int),undef,.pointer (some ⟨KH,0,none⟩),.tuple #[.slice (some ⟨g,0,none⟩) (m+1) hcap,.slice a1 0 cap1,.agg #[.int .i64 0,.int .i64 0]],.int .i64 ar,.agg #[.int .i64 c,.string (mk x),.int .i64 z],.agg #[.string (mk pa),.int .i64 pt],.agg #[.int .i64 c,.string (mk x),.int .i64 z,.string (mk pa),.int .i64 pt],.slice a len cap,.tuple #[.slice (some ⟨g,0,none⟩) (m+1) hcap,.slice a1 0 cap1,.agg #[.int .i64 0,.int .i64 0]],.slice (some ⟨g,0,none⟩) (m+1) hcap,.slice a1 0 cap1,.agg #[.int .i64 0,.int .i64 0],.pointer (some ⟨KF,0,none⟩),.int .i64 0,.bool false,undef,undef,.slice a1 0 cap1,.int .i64 0,.bool false,undef,undef,undef,undef,undef,undef,undef,undef,undef,undef,.slice (some ⟨g,0,none⟩) (m+1) hcap,.int .i64 ((m:Int)+1),.int .i64 (m:Int),.tuple #[.agg #[.int .i64 V1.kind,.string (mk V1.text),.string (mk V1.anc),.slice none 0 0],.agg #[.int .i64 Vy,.int .i64 Vz]],.slice (some ⟨g,0,none⟩) (m+1) hcap,.int .i64 (m:Int),.pointer (some ⟨g,m*5,none⟩),.pointer (some ⟨g,m*5+3,none⟩),.agg #[.string (mk lh.2.anc),.int .i64 lh.2.tag],.slice (some ⟨g,0,none⟩) (m+1) hcap,.int .i64 (m:Int),.pointer (some ⟨g,m*5,none⟩),.pointer (some ⟨g,m*5,none⟩),.agg #[.int .i64 lh.1.1,.string (mk lh.1.2.1),.int .i64 lh.1.2.2],.tuple #[.agg #[.int .i64 V1.kind,.string (mk V1.text),.string (mk V1.anc),.slice none 0 0],.agg #[.int .i64 Vy,.int .i64 Vz]],.agg #[.int .i64 V1.kind,.string (mk V1.text),.string (mk V1.anc),.slice none 0 0],.agg #[.int .i64 Vy,.int .i64 Vz],.slice (some ⟨g,0,none⟩) (m+1) hcap,.int .i64 (m:Int),.slice (some ⟨g,0,none⟩) m hcap,.slice (some (⟨g,0,none⟩:Addr)) m hcap,.func (.func 41) #[] #[.pointer (some ⟨Bs,0,none⟩)],.int .i64 (xx.1:Int),hV xx.2,undef,undef,undef,undef,undef,undef,undef,undef,undef,undef,undef,undef,undef,undef,undef,undef],defers:=[] }:Go.Act)/\Bx X KH (hC xx.2).toArray 62/\W0.heap.size<=KH)
  (fun xx a' _ A B row h hg hr=>by
   obtain⟨KH,h1,h2,h3⟩:=h;exact⟨KH,h1,bx_grown h2 hg (fun r e=>(hr r e).2),h3⟩)
  ?assign ?body ?done ?stop
 case assign =>
  rintro l pre xx X KK ⟨hI,hok⟩ hKK
  gi_wp2
  have ba:=below_alloc X (.cells #[.int .i64 xx.2.1.1,.string (mk xx.2.1.2.1),.int .i64 xx.2.1.2.2,.string (mk xx.2.2.anc),.int .i64 xx.2.2.tag] 62);have hsz:=hI.size
  exact hKK _ _ (KeepsFrom.of_grownBy (row:=none) ⟨ba.os,ba.tape,ba.output,ba.size,fun k hk _=>ba.block k hk⟩ (fun j e=>by cases e)) ⟨ba.block Bs (by omega),fun g e=>ba.block g (by have:=(hgg g e).1;omega)⟩
   ⟨hI.grown ba.size ba.os ba.tape ba.output (fun j hj=>ba.block j (by omega)) hTl hFl,hok⟩ ⟨X.heap.size,rfl,Bx.new _ _ _,hsz⟩
 case body =>
  rintro l pre xx a' X hl _ ⟨hI,hok⟩ ⟨KH,rfl,hX,hKH⟩ hlt;have HI:Hid (Be W0 X KT KF C d (ancs pre) (cur pre ((V1,Vy,Vz)))):=hI;have HOK:Hid (okP pre ((V1,Vy,Vz))):=hok;have HXX:Hid (Bx X KH (hC xx.2).toArray 62):=hX;have hnHT:KH≠KT:=by omega
  have hnHF:KH≠KF:=by omega
  obtain⟨i0,i1⟩:=hI.f.c2;have i2:=hI.f.fz 0;have i3:=hI.f.fz 1;obtain⟨ad,ln,cp,hbt,hq4⟩:=hI.t;obtain⟨t0,t1,t2,t3⟩:=hbt.c4;have u0:=hbt.fz 0;have u1:=hbt.fz 1;have u2:=hbt.fz 2;have u3:=hbt.fz 3;have HQ4:Hid (ancs pre->TrQ (fun g=>C<=g/\g<W0.heap.size) X d (.agg #[.int .i64 (cur pre ((V1,Vy,Vz))).1.kind,.string (mk (cur pre ((V1,Vy,Vz))).1.text),.string (mk (cur pre ((V1,Vy,Vz))).1.anc),.slice ad ln cp]) (cur pre ((V1,Vy,Vz))).1):=hq4;obtain⟨h0,h1,h2,h3,h4⟩:=hX.c5;have HSZ:Hid (W0.heap.size<=X.heap.size):=hI.size;have HX2:Hid (Bx X K2 zT 24/\Bx X K3 #[.int .i64 0,.int .i64 0] 33):=⟨(hI.keep K2 hK2l hn2T hn2F).trans hk2,(hI.keep K3 hK3l hn3T hn3F).trans hk3⟩;have HBX:Hid (Below w.heap.size w X):=⟨hI.os.trans HBL.out.os,hI.tape.trans HBL.out.tape,hI.out.trans HBL.out.output,Nat.le_trans HBL.out.size hI.size,fun j hj=>(hI.keep j (by have:=HBL.out.size;omega) (by omega) (by omega)).trans (HBL.out.block j hj)⟩;clear hI hX hbt hq4 hok hBe hHd hbl hk2 hk3;by_cases hy:(cur pre ((V1,Vy,Vz))).2.1=0
  ·have HY:Hid ((cur pre ((V1,Vy,Vz))).2.1=0):=hy;rw[hy]at i0;clear hy;have HON:Hid (Calls Tryz.prog 22 #[.agg #[.string (mk xx.2.2.anc),.int .i64 xx.2.2.tag],.agg #[.int .i64 (cur pre ((V1,Vy,Vz))).1.kind,.string (mk (cur pre ((V1,Vy,Vz))).1.text),.string (mk (cur pre ((V1,Vy,Vz))).1.anc),.slice ad ln cp],.agg #[.int .i64 xx.2.1.1,.string (mk xx.2.1.2.1),.int .i64 xx.2.1.2.2]] X fun e w'=>_):=onRows_all xx.2 (cur pre ((V1,Vy,Vz))).1 ad ln cp X;have hTX:KT<X.heap.size:=by have:=HSZ.out;omega
   have hFX:KF<X.heap.size:=by have:=HSZ.out;omega
   have HC6:Hid (∀ X2,Below X.heap.size X X2->X2.cell? ⟨KT,0,none⟩=some (.int .i64 (cur pre ((V1,Vy,Vz))).1.kind)/\X2.cell? ⟨KT,1,none⟩=some (.string (mk (cur pre ((V1,Vy,Vz))).1.text))/\X2.cell? ⟨KT,2,none⟩=some (.string (mk (cur pre ((V1,Vy,Vz))).1.anc))/\X2.cell? ⟨KT,3,none⟩=some (.slice ad ln cp)/\X2.cell? ⟨KF,0,none⟩=some (.int .i64 0)/\X2.cell? ⟨KF,1,none⟩=some (.int .i64 (cur pre ((V1,Vy,Vz))).2.2)/\X2.frozen? ⟨KT,0,none⟩=false/\X2.frozen? ⟨KT,1,none⟩=false/\X2.frozen? ⟨KT,2,none⟩=false/\X2.frozen? ⟨KT,3,none⟩=false/\X2.frozen? ⟨KF,0,none⟩=false/\X2.frozen? ⟨KF,1,none⟩=false):=fun X2 hb=>⟨(hb.cell (p:=⟨KT,0,none⟩) hTX).trans t0,(hb.cell (p:=⟨KT,1,none⟩) hTX).trans t1,(hb.cell (p:=⟨KT,2,none⟩) hTX).trans t2,(hb.cell (p:=⟨KT,3,none⟩) hTX).trans t3,(hb.cell (p:=⟨KF,0,none⟩) hFX).trans i0,(hb.cell (p:=⟨KF,1,none⟩) hFX).trans i1,(hb.frozen (p:=⟨KT,0,none⟩) hTX).trans u0,(hb.frozen (p:=⟨KT,1,none⟩) hTX).trans u1,(hb.frozen (p:=⟨KT,2,none⟩) hTX).trans u2,(hb.frozen (p:=⟨KT,3,none⟩) hTX).trans u3,(hb.frozen (p:=⟨KF,0,none⟩) hFX).trans i2,(hb.frozen (p:=⟨KF,1,none⟩) hFX).trans i3⟩
   dsimp only
   gi_wp2_with (first | (refine⟨trivial,?_⟩;gi_at_call 22;refine(CallsIn.inRound l (callsIn_wide.2 HON.out)).mono ?_;rintro e X2 ⟨⟨ad',ln',cp',rfl,HW⟩,hb2⟩;obtain⟨d0,d1,d2,d3,d4,d5,z0,z1,z2,z3,z4,z5⟩:=HC6.out X2 hb2))
   have hB2:Be W0 X2 KT KF C d (ancs pre) (cur pre ((V1,Vy,Vz))):=HI.out.grown hb2.size hb2.os hb2.tape hb2.output (fun j hj=>hb2.block j (by have:=HSZ.out;omega)) hTl hFl;have hQ2:ancs pre->TrQ (fun g=>C<=g/\g<W0.heap.size) X2 d (.agg #[.int .i64 (cur pre ((V1,Vy,Vz))).1.kind,.string (mk (cur pre ((V1,Vy,Vz))).1.text),.string (mk (cur pre ((V1,Vy,Vz))).1.anc),.slice ad ln cp]) (cur pre ((V1,Vy,Vz))).1:=fun hq9=>(HQ4.out hq9).keep hb2.size (fun j hj _=>hb2.block j (by have:=HSZ.out;have:=hj.2;omega))
   have hS:=be_set (A2:=ancs (pre++[xx])) hB2 (by omega) hTC (by omega) hTl hFl (orM xx.2 (cur pre ((V1,Vy,Vz))).1) ad' ln' cp' (fun hq9=>by
    have ha1:ancs pre:=fun y hy=>hq9 y (by simp[hy])
    have ha2:xx.2.2.anc.length<=9223372036854775807:=hq9 xx (by simp);rcases HW.out with ⟨rfl,rfl,rfl,k1,k2,k3,k4⟩ | ⟨rfl,rfl,rfl,k1⟩
    ·refine trq_anc (hQ2 ha1) k1 k2 k3 ?_;rcases k4 with e | e
     ·rw[e];exact trq_ancl (hQ2 ha1)
     ·rw[e];exact ha2
    ·rw[k1];exact trq_zero hd)
   have hbl6:Below 0 X2 (fill6 X2 KT KF (.int .i64 (orM xx.2 (cur pre ((V1,Vy,Vz))).1).1.kind) (.string (mk (orM xx.2 (cur pre ((V1,Vy,Vz))).1).1.text)) (.string (mk (orM xx.2 (cur pre ((V1,Vy,Vz))).1).1.anc)) (.slice ad' ln' cp') (.int .i64 (orM xx.2 (cur pre ((V1,Vy,Vz))).1).2.1) (.int .i64 (orM xx.2 (cur pre ((V1,Vy,Vz))).1).2.2)):=by
    unfold fill6 fill4;exact((((((Below.refl 0 X2).setCell (Nat.zero_le _) _).setCell (Nat.zero_le _) _).setCell (Nat.zero_le _) _).setCell (Nat.zero_le _) _).setCell (Nat.zero_le _) _).setCell (Nat.zero_le _) _
   have hks:KeepsOthers X2 (fill6 X2 KT KF (.int .i64 (orM xx.2 (cur pre ((V1,Vy,Vz))).1).1.kind) (.string (mk (orM xx.2 (cur pre ((V1,Vy,Vz))).1).1.text)) (.string (mk (orM xx.2 (cur pre ((V1,Vy,Vz))).1).1.anc)) (.slice ad' ln' cp') (.int .i64 (orM xx.2 (cur pre ((V1,Vy,Vz))).1).2.1) (.int .i64 (orM xx.2 (cur pre ((V1,Vy,Vz))).1).2.2)):=by
    unfold fill6 fill4;exact(((((KeepsOthers.setCell _ _ _).trans (KeepsOthers.setCell _ _ _)).trans (KeepsOthers.setCell _ _ _)).trans (KeepsOthers.setCell _ _ _)).trans (KeepsOthers.setCell _ _ _)).trans (KeepsOthers.setCell _ _ _)
   have hkp:∀ j,j<X.heap.size->j≠KT->j≠KF->(fill6 X2 KT KF (.int .i64 (orM xx.2 (cur pre ((V1,Vy,Vz))).1).1.kind) (.string (mk (orM xx.2 (cur pre ((V1,Vy,Vz))).1).1.text)) (.string (mk (orM xx.2 (cur pre ((V1,Vy,Vz))).1).1.anc)) (.slice ad' ln' cp') (.int .i64 (orM xx.2 (cur pre ((V1,Vy,Vz))).1).2.1) (.int .i64 (orM xx.2 (cur pre ((V1,Vy,Vz))).1).2.2)).heap[j]?=X.heap[j]?:=fun j hj h1 h2=>by
    unfold fill6 fill4;rw[Below.heap_setCell _ _ _ _ h2,Below.heap_setCell _ _ _ _ h2,Below.heap_setCell _ _ _ _ h1,Below.heap_setCell _ _ _ _ h1,Below.heap_setCell _ _ _ _ h1,Below.heap_setCell _ _ _ _ h1];exact hb2.block j hj
   refine⟨((KeepsOthers.of_grownBy (grownB hb2) (fun j o e=>by cases e)).trans hks).from _,⟨hkp Bs (by have:=HSZ.out;omega) hBT hBF,fun g e=>hkp g (by have:=HSZ.out;have:=(hgg g e).1;omega) (hgg g e).2.1 (hgg g e).2.2⟩,?_,okP_snoc HOK.out HY.out xx⟩;rw[cur_snoc];exact hS
  ·have HY:Hid ((cur pre ((V1,Vy,Vz))).2.1≠0):=hy;have hyb:((cur pre ((V1,Vy,Vz))).2.1 != 0)=true:=by simpa using hy
   clear hy;obtain⟨d0,d1,d2,d3,d4,d5,z0,z1,z2,z3,z4,z5⟩:=c6_of HX2.out.1 HX2.out.2;have hn42:KF≠K2:=by omega
   have hn43:KF≠K3:=by omega
   have HF:Hid (_/\_/\_):=fill6_is HX2.out.1 HX2.out.2 hn23 HBX.out (by omega) (by omega) (.int .i64 0) (.string ⟨#[]⟩) (.string ⟨#[]⟩) (.slice none 0 0) (.int .i64 (cur pre ((V1,Vy,Vz))).2.1) (.int .i64 (cur pre ((V1,Vy,Vz))).2.2)
   have hks:KeepsOthers X (fill6 X K2 K3 (.int .i64 0) (.string ⟨#[]⟩) (.string ⟨#[]⟩) (.slice none 0 0) (.int .i64 (cur pre ((V1,Vy,Vz))).2.1) (.int .i64 (cur pre ((V1,Vy,Vz))).2.2)):=by
    unfold fill6 fill4;exact(((((KeepsOthers.setCell _ _ _).trans (KeepsOthers.setCell _ _ _)).trans (KeepsOthers.setCell _ _ _)).trans (KeepsOthers.setCell _ _ _)).trans (KeepsOthers.setCell _ _ _)).trans (KeepsOthers.setCell _ _ _)
   have HKS:Hid (KeepsOthers X (fill6 X K2 K3 (.int .i64 0) (.string ⟨#[]⟩) (.string ⟨#[]⟩) (.slice none 0 0) (.int .i64 (cur pre ((V1,Vy,Vz))).2.1) (.int .i64 (cur pre ((V1,Vy,Vz))).2.2))):=hks;clear hks;dsimp only
   gi_wp2
   gi_region
   all_goals
    gi_wp2
    change ownPostG _ _ _ _ _ _ _ _ (fill6 X K2 K3 (.int .i64 0) (.string ⟨#[]⟩) (.string ⟨#[]⟩) (.slice none 0 0) (.int .i64 (cur pre ((V1,Vy,Vz))).2.1) (.int .i64 (cur pre ((V1,Vy,Vz))).2.2)).drew;generalize fill6 X K2 K3 (.int .i64 0) (.string ⟨#[]⟩) (.string ⟨#[]⟩) (.slice none 0 0) (.int .i64 (cur pre ((V1,Vy,Vz))).2.1) (.int .i64 (cur pre ((V1,Vy,Vz))).2.2)=WF at HF HKS |-;have hf2:Bx WF.drew K2 zT 24:=HF.out.2.1;have hf3:Bx WF.drew K3 #[.int .i64 (cur pre ((V1,Vy,Vz))).2.1,.int .i64 (cur pre ((V1,Vy,Vz))).2.2] 33:=HF.out.2.2;have hkd:KeepsOthers X WF.drew:=⟨HKS.out.size,HKS.out.same⟩;exact⟨hkd.from _,⟨rfl,pre,xx,rfl,HOK.out,HY.out,hf2,hf3⟩,HF.out.1.drew⟩
 case done =>
  rintro D xs X hD rfl ⟨hI,hok⟩ hK;obtain⟨S,HS0⟩:∃ S,Hid (S=cur (rv (hs.take m) m) ((V1,Vy,Vz))):=⟨_,rfl⟩;have hmp:=rv_map (hs.take m) m (by rw[List.length_take];have:=HHN.out;omega)
  have HRS:Hid (RES=S):=by
   show RES=S;have h:=bak_app (rv (hs.take m) m) ((V1,Vy,Vz)) [] hok;rw[hmp,List.append_nil,List.take_take,Nat.min_self]at h;rw[HRES.out,h,HS0.out];rfl
  have han:ancs (rv (hs.take m) m):=fun y hy=>by
   have h2:y.2∈(rv (hs.take m) m).map (·.2):=List.mem_map_of_mem hy;rw[hmp,List.mem_reverse]at h2;exact HAN.out y.2 (List.mem_of_mem_take (List.mem_of_mem_take h2))
  rw[<-HS0.out]at hI;obtain⟨ad,ln,cp,hbt,hq4⟩:=hI.t;have HQ4:Hid (TrQ _ X d _ _):=hq4 han;obtain⟨i0,i1⟩:=hI.f.c2;obtain⟨t0,t1,t2,t3⟩:=hbt.c4;have HX2:Hid (Bx X K2 zT 24/\Bx X K3 #[.int .i64 0,.int .i64 0] 33):=⟨(hI.keep K2 hK2l hn2T hn2F).trans hk2,(hI.keep K3 hK3l hn3T hn3F).trans hk3⟩;have HBX:Hid (Below w.heap.size w X):=⟨hI.os.trans HBL.out.os,hI.tape.trans HBL.out.tape,hI.out.trans HBL.out.output,Nat.le_trans HBL.out.size hI.size,fun j hj=>(hI.keep j (by have:=HBL.out.size;omega) (by omega) (by omega)).trans (HBL.out.block j hj)⟩;have HSZ:Hid (W0.heap.size<=X.heap.size):=hI.size;have HKD:Hid (X.heap[D]?=some (.deferred (some []))):=hK;clear hI hbt hq4 hok hBe hHd hbl hk2 hk3 hK hmp han HS0;obtain⟨d0,d1,d2,d3,d4,d5,z0,z1,z2,z3,z4,z5⟩:=c6_of HX2.out.1 HX2.out.2;have HF:Hid (_/\_/\_):=fill6_is HX2.out.1 HX2.out.2 hn23 HBX.out (by omega) (by omega) (.int .i64 S.1.kind) (.string (mk S.1.text)) (.string (mk S.1.anc)) (.slice ad ln cp) (.int .i64 S.2.1) (.int .i64 S.2.2);have hnT2:KT≠K2:=fun e=>hn2T e.symm
  have hnT3:KT≠K3:=fun e=>hn3T e.symm
  have hnF2:KF≠K2:=fun e=>hn2F e.symm
  have hnF3:KF≠K3:=fun e=>hn3F e.symm
  have HKS:Hid (KeepsOthers X (fill6 X K2 K3 (.int .i64 S.1.kind) (.string (mk S.1.text)) (.string (mk S.1.anc)) (.slice ad ln cp) (.int .i64 S.2.1) (.int .i64 S.2.2))/\∀ j,C<=j->(fill6 X K2 K3 (.int .i64 S.1.kind) (.string (mk S.1.text)) (.string (mk S.1.anc)) (.slice ad ln cp) (.int .i64 S.2.1) (.int .i64 S.2.2)).heap[j]?=X.heap[j]?):=by
   unfold fill6 fill4;refine⟨(((((KeepsOthers.setCell _ _ _).trans (KeepsOthers.setCell _ _ _)).trans (KeepsOthers.setCell _ _ _)).trans (KeepsOthers.setCell _ _ _)).trans (KeepsOthers.setCell _ _ _)).trans (KeepsOthers.setCell _ _ _),fun j hj=> ?_⟩;have h1:j≠K2:=by omega
   have h2:j≠K3:=by omega
   rw[Below.heap_setCell _ _ _ _ h2,Below.heap_setCell _ _ _ _ h2,Below.heap_setCell _ _ _ _ h1,Below.heap_setCell _ _ _ _ h1,Below.heap_setCell _ _ _ _ h1,Below.heap_setCell _ _ _ _ h1]
  go_wp2_with fail;go_region
  all_goals
   go_wp2;change bodyPostM _ _ _ _ _ _ _ (fill6 X K2 K3 (.int .i64 S.1.kind) (.string (mk S.1.text)) (.string (mk S.1.anc)) (.slice ad ln cp) (.int .i64 S.2.1) (.int .i64 S.2.2)).drew;generalize fill6 X K2 K3 (.int .i64 S.1.kind) (.string (mk S.1.text)) (.string (mk S.1.anc)) (.slice ad ln cp) (.int .i64 S.2.1) (.int .i64 S.2.2)=WF at HF HKS |-
   gi_wp2
   have hK':WF.drew.heap[D]?=some (.deferred (some [])):=HKS.out.1.same D _ HKD.out rfl;refine⟨by simp,.inl ⟨_,_,rfl,run_takeDeferred hK',?_⟩⟩;have kp:∀ a v,WF.drew.cell? a=some v->(WF.drew.putObj D (.deferred none)).cell? a=some v:=fun a v h=>cell_kept h (grownBy_putObj' _ D (.deferred none)) (fun r e=>by cases e;exact⟨_,hK',rfl⟩)
   have g0:=kp ⟨K2,0,none⟩ _ (HF.out.2.1.cell 0);have g1:=kp ⟨K2,1,none⟩ _ (HF.out.2.1.cell 1);have g2:=kp ⟨K2,2,none⟩ _ (HF.out.2.1.cell 2);have g3:=kp ⟨K2,3,none⟩ _ (HF.out.2.1.cell 3);have g4:=kp ⟨K3,0,none⟩ _ (HF.out.2.2.cell 0);have g5:=kp ⟨K3,1,none⟩ _ (HF.out.2.2.cell 1);refine⟨.tuple #[.agg #[.int .i64 S.1.kind,.string (mk S.1.text),.string (mk S.1.anc),.slice ad ln cp],.agg #[.int .i64 S.2.1,.int .i64 S.2.2]],by simp[results,Tryz.results14,go_sem,g0,g1,g2,g3,g4,g5],?_⟩;show TfD d (bak (((c,x,z),⟨pa,pt⟩)::q.1).reverse.tail (noM ((((c,x,z),⟨pa,pt⟩)::q.1).reverse.headD ((c,x,z),⟨pa,pt⟩)))) w _ _;rw[<-HRE.out,HRS.out];have hwD:w.heap.size<=D:=by have:=HBL.out.size;omega
   refine⟨_,rfl,?_,HF.out.1.drew.trans (belowK_b (w:=w) (Nat.le_refl _) _ D _ _ hwD hK' rfl rfl)⟩;refine TrQ.wide (P:=fun g=>C<=g/\g<W0.heap.size) (fun j hj _=>by have:=hj.1;omega) (HQ4.out.keep ?_ (fun j hj _=> ?_))
   ·have h1:=HKS.out.1.size;show X.heap.size<=(WF.drew.putObj D (.deferred none)).heap.size;simp only[World.putObj,Array.size_setIfInBounds];exact h1
   ·rw[World.putObj_heap_other (fun e=>by have:=hj.2;omega)];exact HKS.out.2 j hj.1
 case stop =>
  rintro D cc pre X hD hpre ⟨⟨rfl,qq,xx,rfl,hq1,hq2,hx2,hx3⟩,hB⟩ hK;have hmp:=rv_map (hs.take m) m (by rw[List.length_take];have:=HHN.out;omega)
  have HRS:Hid (RES=(tr0,(cur qq ((V1,Vy,Vz))).2)):=by
   show RES=_;obtain⟨t,ht⟩:=hpre;rw[<-ht,List.append_assoc,List.map_append,List.take_take,Nat.min_self]at hmp;have h:=bak_app qq ((V1,Vy,Vz)) (([xx]++t).map (·.2)) hq1;rw[hmp]at h;rw[HRES.out,h,List.map_append,List.map_cons,List.map_nil,List.singleton_append,bak,if_pos hq2]
  gi_wp2
  refine⟨by simp,.inl ⟨_,_,rfl,run_takeDeferred hK,?_⟩⟩;have kp:∀ a v,X.cell? a=some v->(X.putObj D (.deferred none)).cell? a=some v:=fun a v h=>cell_kept h (grownBy_putObj' _ D (.deferred none)) (fun r e=>by cases e;exact⟨_,hK,rfl⟩)
  have g0:=kp ⟨K2,0,none⟩ _ (hx2.cell 0);have g1:=kp ⟨K2,1,none⟩ _ (hx2.cell 1);have g2:=kp ⟨K2,2,none⟩ _ (hx2.cell 2);have g3:=kp ⟨K2,3,none⟩ _ (hx2.cell 3);have g4:=kp ⟨K3,0,none⟩ _ (hx3.cell 0);have g5:=kp ⟨K3,1,none⟩ _ (hx3.cell 1);refine⟨.tuple #[.agg zT,.agg #[.int .i64 (cur qq ((V1,Vy,Vz))).2.1,.int .i64 (cur qq ((V1,Vy,Vz))).2.2]],by simp[results,Tryz.results14,go_sem,g0,g1,g2,g3,g4,g5,zT],?_⟩;show TfD d (bak (((c,x,z),⟨pa,pt⟩)::q.1).reverse.tail (noM ((((c,x,z),⟨pa,pt⟩)::q.1).reverse.headD ((c,x,z),⟨pa,pt⟩)))) w _ _;rw[<-HRE.out,HRS.out];have hwD:w.heap.size<=D:=by have:=HBL.out.size;omega
  exact⟨_,rfl,TrP.more (TrP.leaf 0 [] [] (by decide) (by decide) (by decide) 0) hd,hB.trans (belowK_b (w:=w) (Nat.le_refl _) _ D _ _ hwD hK rfl rfl)⟩
end Tre
namespace Tre
open Utf Rws Pln Flw
open Go.RowKit
open Blk (Rw RwAt z3)
set_option maxHeartbeats 8000000
theorem kids_any (g:FuncId) (hcf:∀ (vs:Array Value) (w:World),(callFunc g vs).run Tryz.prog w=.ok (.enter g vs) w) (d:Nat) (wi:Int) (part:Rw->List Rw->List Tr × Int × Int) (c:Int) (x:Ln) (z:Int) (a:Option Addr) (len cap:Nat) (rs:List Rw) (w:World) (hR:RowsA w a len cap rs) (hlr:rs.length<=1048576) (hP2:∀ r us,(part r us).1.length<=2)
  (HP:Hid (∀ (r:Rw) (us:List Rw) (a':Option Addr) (len' cap':Nat) (w1:World),(r::us) <:+: ((c,x,z)::rs)->RowsA w a' len' cap' us->Below w.heap.size w w1->Calls Tryz.prog g #[.int .i64 wi,.agg (rA r),.slice a' len' cap'] w1 fun e w'=>PtD d (part r us) w1 e w')) :
  Calls Tryz.prog 35 #[rV c x z,.slice a len cap,.func (.func g) #[.int .i64 wi] #[]] w fun e w'=>KiRes d (kiM part c (rs.length+1) (c,x,z) rs []) w e w':=by
 obtain⟨R,HR0⟩:∃ R,Hid (R=kiM part c (rs.length+1) (c,x,z) rs []):=⟨_,rfl⟩;rw[<-HR0.out];obtain⟨it,hi,hz0,hz1,hz2⟩:=info_parts infoTree;have HRA:Hid (RowsA w a len cap rs):=hR;clear hR;have N3:Hid (_/\_/\_/\_):=three_new w #[.int .i64 c,.string (mk x),.int .i64 z] #[.int .i64 0,.int .i64 0] #[.int .i64 c,.string (mk x),.int .i64 z] 45 33 45;have hsz:(((w.alloc (.cells #[.int .i64 c,.string (mk x),.int .i64 z] 45)).alloc (.cells #[.int .i64 0,.int .i64 0] 33)).alloc (.cells #[.int .i64 c,.string (mk x),.int .i64 z] 45)).heap.size=w.heap.size+1+1+1:=by simp only[World.size_alloc]
 go_enter Tryz.func35,Tryz.ntmps35;go_upto_region 3 with fail
 change Code.wp _ _ _ _ (((w.alloc (.cells #[.int .i64 c,.string (mk x),.int .i64 z] 45)).alloc (.cells #[.int .i64 0,.int .i64 0] 33)).alloc (.cells #[.int .i64 c,.string (mk x),.int .i64 z] 45));generalize ((w.alloc (.cells #[.int .i64 c,.string (mk x),.int .i64 z] 45)).alloc (.cells #[.int .i64 0,.int .i64 0] 33)).alloc (.cells #[.int .i64 c,.string (mk x),.int .i64 z] 45)=W at N3 hsz |-;obtain⟨C,hC⟩:∃ K,K=w.heap.size+1+1+1:=⟨_,rfl⟩;obtain⟨KR,hKR⟩:∃ K,K=w.heap.size+1+1:=⟨_,rfl⟩;obtain⟨K1,hK1⟩:∃ K,K=w.heap.size+1:=⟨_,rfl⟩;obtain⟨K0,hK0⟩:∃ K,K=w.heap.size:=⟨_,rfl⟩
 have HK:Hid (Ki w W d C K0 K1 KR #[.int .i64 c,.string (mk x),.int .i64 z] (c,x,z) (.slice none 0 0) 0 [] []) :=
  ⟨N3.out.1,by rw[hK0];exact N3.out.2.1,by rw[hK1];exact N3.out.2.2.1,by rw[hKR];exact N3.out.2.2.2,World.ownsRow_nil _ _ _ _,KdQ.nil d,by omega,by omega,by omega,by omega,by rw[hsz,hC];exact Nat.le_refl _⟩
 rw[<-hKR,<-hK1,<-hK0];clear N3 hsz hC hKR hK1 hK0
 go_loopw [1,8] (fun u1 u8 wr=>∃ (k m:Nat) (r:Rw) (a':Option Addr) (len' cap':Nat) (more:List Rw) (xs:List Value) (ks:List Tr),u1=.slice a' len' cap'/\Hid (RowsA w a' len' cap' more)/\Hid ((r::more) <:+ ((c,x,z)::rs))/\more.length<k/\m+2*(more.length+1)<=2*(rs.length+1)/\Hid (m=ks.length)/\Hid (Ki w wr d C K0 K1 KR #[.int .i64 c,.string (mk x),.int .i64 z] r u8 m xs ks)/\Hid (R=kiM part c k r more ks)) (fun u1 _ _=>slLen u1)
 case atStart=>exact⟨rs.length+1,0,(c,x,z),a,len,cap,rs,[],[],rfl,HRA,List.suffix_refl _,by omega,by omega,rfl,HK,HR0⟩
 case round =>
  clear HRA HK HR0;obtain⟨k,m,r,a',len',cap',more,xs,ks,rfl,HA,HSU,hk,hm,HMK,HB,HRR⟩:=hrel;obtain⟨rc,rt,rz⟩:=r;obtain⟨k',rfl⟩:∃ k',k=k'+1:=⟨k-1,by omega⟩;have hlen:Hid (len'=more.length):=HA.out.len;have hlc:len'<=cap':=HA.out.1.2.1;have hcm:cap'<=9223372036854775807:=HA.out.1.2.2.1;obtain⟨n,HN⟩:∃ n,Hid (n=dpn more c):=⟨_,rfl⟩;have hnl:n<=len':=by rw[HN.out,hlen.out];exact dpn_le more c
  have HDE:Hid (Calls Tryz.prog 54 #[.slice a' len' cap',.int .i64 c] wr fun e w'=>e=.returned (.int .i64 (n:Int))/\Below wr.heap.size wr w'):=by
   rw[HN.out];exact deeper_any a' len' cap' more c wr (HA.out.1.later HB.out.bl)
  have HR1:Hid (R=_):=HRR.out.trans (kiM_at part c k' (rc,rt,rz) more ks);rw[<-HN.out]at HR1;clear HRR;obtain⟨q,HQ⟩:∃ q,Hid (q=part (rc,rt,rz) (more.take n)):=⟨_,rfl⟩;rw[<-HQ.out]at HR1;have HTK:Hid (RowsA w a' n cap' (more.take n)):=HA.out.take n hnl
  have HPC:Hid (∀ w1,Below w.heap.size w w1->Calls Tryz.prog g #[.int .i64 wi,.agg (rA (rc,rt,rz)),.slice a' n cap'] w1 fun e w'=>PtD d q w1 e w'):=fun w1 hb=>by
   rw[HQ.out];exact HP.out (rc,rt,rz) (more.take n) a' n cap' w1 (List.IsInfix.trans ⟨[],more.drop n,by simp⟩ HSU.out.isInfix) HTK.out hb
  obtain⟨r0,r1,r2⟩:=HB.out.kr.c3;have g0:=HB.out.kr.fz 0;have g1:=HB.out.kr.fz 1;have g2:=HB.out.kr.fz 2;obtain⟨f0,f1,f2⟩:=HB.out.k0.c3;go_wp2_with fail;refine HDE.out.mono ?_;rintro e w1 ⟨rfl,hb1⟩;have HB1:Hid (Ki w w1 d C K0 K1 KR #[.int .i64 c,.string (mk x),.int .i64 z] (rc,rt,rz) u8 m xs ks):=HB.out.later hb1;clear r0 r1 r2 g0 g1 g2 f0 f1 f2 HB HDE hb1;obtain⟨r0,r1,r2⟩:=HB1.out.kr.c3;have g0:=HB1.out.kr.fz 0;have g1:=HB1.out.kr.fz 1;have g2:=HB1.out.kr.fz 2;obtain⟨f0,f1,f2⟩:=HB1.out.k0.c3;go_upto_region 4 with fail
  have hb0:Below w1.heap.size w1 w1.drew:=(Below.refl _ _).drew;have hb1:Below w1.heap.size w1 (w1.alloc (.cells #[.int .i64 0,.int .i64 0] 33)).drew:=(below_alloc w1 (.cells #[.int .i64 0,.int .i64 0] 33)).drew;have hs1:(w1.alloc (.cells #[.int .i64 0,.int .i64 0] 33)).drew.heap.size=w1.heap.size+1:=World.size_alloc _ _;have hX1:Bx (w1.alloc (.cells #[.int .i64 0,.int .i64 0] 33)).drew w1.heap.size #[.int .i64 0,.int .i64 0] 33:=Bx.new w1 _ _;have hw1C:C<=w1.heap.size:=HB1.out.hc;have hKC:K1<C/\K1<KR:=by have h1:=HB1.out.h2;have h2:=HB1.out.h3;omega
  have HKR:Hid (Bx (w1.alloc (.cells #[.int .i64 0,.int .i64 0] 33)) KR (rA (rc,rt,rz)) 45):=HB1.out.kr.later (below_alloc _ _);obtain⟨s0,s1,s2⟩:=HKR.out.c3;obtain⟨s3,s4,s5⟩:=HKR.out.c3;have HWA:Hid (∀ W1,Below w1.heap.size w1 W1->Below w.heap.size w W1):=fun W1 hb=>HB1.out.bl.trans (hb.mono HB1.out.bl.size)
  by_cases hq:q.2.1=0
  ·have HPO:Hid (Calls Tryz.prog g #[.int .i64 wi,.agg #[.int .i64 rc,.string (mk rt),.int .i64 rz],.slice a' n cap'] w1.drew fun e w'=>∃ B ys,e=.returned (.tuple #[.slice (some ⟨B,0,none⟩) q.1.length q.1.length,.agg #[.int .i64 0,.int .i64 q.2.2]])/\Hid (Below w1.heap.size w1 w'/\Bx w' B ys.toArray 24/\Kd w1.heap.size w' d ys q.1)):=by
    refine(HPC.out _ (HWA.out _ hb0)).mono (fun e w' hr=> ?_);obtain⟨⟨B,ys,h1,h2,h3,h4,h5⟩,_⟩:=hr.2.1 hq;exact⟨B,ys,h1,hb0.trans h5,h3,h4⟩
   have HPB:Hid (Calls Tryz.prog g #[.int .i64 wi,.agg #[.int .i64 rc,.string (mk rt),.int .i64 rz],.slice a' n cap'] (w1.alloc (.cells #[.int .i64 0,.int .i64 0] 33)).drew fun e w'=>∃ B ys,e=.returned (.tuple #[.slice (some ⟨B,0,none⟩) q.1.length q.1.length,.agg #[.int .i64 0,.int .i64 q.2.2]])/\w'.cell? ⟨w1.heap.size,0,none⟩=some (.int .i64 0)/\w'.cell? ⟨w1.heap.size,1,none⟩=some (.int .i64 0)/\w'.frozen? ⟨w1.heap.size,0,none⟩=false/\w'.frozen? ⟨w1.heap.size,1,none⟩=false/\Hid (Below w1.heap.size w1 w'/\Bx w' B ys.toArray 24/\w1.heap.size+1<=B/\Kd (w1.heap.size+1) w' d ys q.1/\Bx w' w1.heap.size #[.int .i64 0,.int .i64 0] 33)):=by
    refine(HPC.out _ (HWA.out _ hb1)).mono (fun e w' hr=> ?_);obtain⟨⟨B,ys,h1,h2,h3,h4,h5⟩,_⟩:=hr.2.1 hq;have hX:=hX1.later h5;rw[hs1]at h2 h4;exact⟨B,ys,h1,hX.cell 0,hX.cell 1,hX.fz 0,hX.fz 1,hb1.trans (h5.mono hb1.size),h3,h2,h4,hX⟩
   have hq2:q.1.length<=2:=by rw[HQ.out];exact hP2 _ _
   have HR2:Hid (R=_):=HR1.out.trans (if_neg (fun h=>h hq));clear HPC HR1 hX1 hb0 hb1 HQ HKR hs1 HWA hq;obtain⟨q1,qy,qz⟩:=q;have HQL:∃ L,L=q1.length:=⟨_,rfl⟩;obtain⟨L,HQL0⟩:=HQL;have HQL:Hid (L=q1.length):=HQL0;rw[<-HQL0]at HPO HPB hq2;clear HQL0;have HOU:Hid (∀ j,w1.heap.size<=j->Out C u8 j):=fun j hj=>⟨Nat.le_trans hw1C hj,fun k hk=>by have h6:=(own_blk HB1.out.own hk).2;omega⟩
   refine wp_then2 (fun KF B=>({ tmps:=#[rV c x z,Value.slice a' len' cap',Value.func (Fn.func g) #[Value.int IntKind.i64 wi] #[],Value.pointer (some { block:=K0,off:=0 }),undef,undef,u6,Value.pointer (some { block:=K1,off:=0 }),u8,Value.pointer (some { block:=KR,off:=0 }),Value.int IntKind.i64 (n:Int),Value.slice (some { block:=B,off:=0 }) L L,Value.pointer (some { block:=KF,off:=0 }),Value.agg #[Value.int IntKind.i64 c,Value.string (mk x),Value.int IntKind.i64 z],Value.slice a' len' cap',Value.pointer (some { block:=K0,off:=0 }),Value.int IntKind.i64 c,Value.int IntKind.i64 (n:Int),Value.tuple #[Value.slice (some { block:=B,off:=0 }) L L,Value.agg #[Value.int IntKind.i64 0,Value.int IntKind.i64 qz]],Value.func (Fn.func g) #[Value.int IntKind.i64 wi] #[],Value.agg #[Value.int IntKind.i64 rc,Value.string (mk rt),Value.int IntKind.i64 rz],Value.slice a' len' cap',Value.int IntKind.i64 (n:Int),Value.slice a' n cap',Value.tuple #[Value.slice (some { block:=B,off:=0 }) L L,Value.agg #[Value.int IntKind.i64 0,Value.int IntKind.i64 qz]],Value.slice (some { block:=B,off:=0 }) L L,Value.agg #[Value.int IntKind.i64 0,Value.int IntKind.i64 qz],u27,u28,u29,u30,u31,u32,u33,u34,u35,u36,u37,u38,u39,u40,u41,u42,u43,u44,u45,u46,u47,u48,u49,u50,u51,u52,u53,u54],defers:=[] }:Go.Act)) (fun KF B WW=>∃ ys,Hid (Ki w WW d C K0 K1 KR #[.int .i64 c,.string (mk x),.int .i64 z] (rc,rt,rz) u8 m xs ks/\Bx WW KF #[.int .i64 0,.int .i64 qz] 33/\Bx WW B ys.toArray 24/\KdQ (Out C u8) WW d ys q1)) ?H1 ?H2
   case H1 =>
    intro HQQ;go_region_with (first | (refine HPO.out.mono ?_;rintro e w2 ⟨B,ys,rfl,HB2⟩) | (refine HPB.out.mono ?_;rintro e w2 ⟨B,ys,rfl,c0,c1,z0,z1,HB2⟩))
    all_goals first
     | (refine HQQ.out w2.heap.size B _ ⟨ys,?_⟩;have hba:=below_alloc w2 (.cells #[.int .i64 0,.int .i64 qz] 33);exact⟨HB1.out.later (HB2.out.1.trans (hba.mono HB2.out.1.size)),Bx.new _ _ _,HB2.out.2.1.later hba,KdQ.wide (KdQ.later HB2.out.2.2 hba) (fun j hj _=>HOU.out j hj)⟩)
     | (refine HQQ.out w1.heap.size B _ ⟨ys,?_⟩;have hBn:B≠w1.heap.size:=(by have:=HB2.out.2.2.1;omega);exact⟨HB1.out.later ((HB2.out.1.setCell (p:=⟨w1.heap.size,0,none⟩) (Nat.le_refl _) _).setCell (p:=⟨w1.heap.size,1,none⟩) (Nat.le_refl _) _),(HB2.out.2.2.2.2.set 0 _).set 1 _,(HB2.out.2.1.other hBn _ _).other hBn _ _,KdQ.wide ((Kd.set (Kd.set HB2.out.2.2.2.1 (Nat.lt_succ_self _)) (Nat.lt_succ_self _))) (fun j hj _=>HOU.out j (Nat.le_of_succ_le hj))⟩)
   case H2 =>
    rintro KF B w3 ⟨ys,HS⟩;clear r0 r1 r2 g0 g1 g2 f0 f1 f2 s0 s1 s2 s3 s4 s5 HPO HPB HB1 HOU hw1C;have i0:w3.cell? ⟨KF,0,none⟩=some (.int .i64 0):=HS.out.2.1.cell 0;have HYS:Hid (KdQ (Out C u8) w3 d ys q1):=HS.out.2.2.2;have HSB:Hid (Bx w3 B ys.toArray 24):=HS.out.2.2.1;have HSK:Hid (Ki w w3 d C K0 K1 KR #[.int .i64 c,.string (mk x),.int .i64 z] (rc,rt,rz) u8 m xs ks):=HS.out.1;clear HS;have hbs:(m+L)*64<=140737488355328:=by omega
    have hml:m+L<=maxLen:=by unfold maxLen;omega
    have hyl:ys.length=L*4:=by rw[HYS.out.1,HQL.out]
    have hyc:∀ j u,ys[j]?=some u->w3.cell? ((⟨B,0,none⟩:Addr).add j)=some u:=fun j u hj=>by
     have e:(⟨B,0,none⟩:Addr).add j=⟨B,j,none⟩:=by simp[Addr.add];exact fun h=>h.symm
     rw[e,HSB.out.cell j];simpa using hj
    go_wp2_with (at_builtin;refine wpList_append_own_at _ rfl _ _ 22 rfl C 24 it (.agg zT) 4 64 Tryz.underlying22 hi hz0 hz1 hz2 rfl (by decide) u8 m xs rfl HSK.out.own ⟨B,0,none⟩ L L ys rfl hyl hyc HYS.out.2.1 hml hbs HSK.out.hc ?_);intro v' w5 hown5 hgr5 _ hat5;have HB5:Hid (Ki w w5 d C K0 K1 KR #[.int .i64 c,.string (mk x),.int .i64 z] (rc,rt,rz) v' (m+L) (xs++ys) (ks++q1)):=HSK.out.more hown5 hgr5 hat5 HYS.out;clear HSK HSB HYS hown5 hgr5 hat5 hyc hyl hml hbs i0 hi hz0 hz1 hz2;have HML:Hid (m+L=(ks++q1).length):=by show m+L=_;rw[List.length_append,<-HMK.out,<-HQL.out]
    clear HMK HQL;by_cases hnl2:n=len'
    ·have HV:Hid (R=(ks++q1,0,0)):=by show R=_;rw[HR2.out,if_pos (by rw[hnl2,hlen.out])]
     have hnb:((n:Int)==(len':Int))=true:=by rw[hnl2];exact beq_self_eq_true _
     clear HR2 hnl2;obtain⟨y0,y1⟩:=HB5.out.k1.c2;have v0:=HB5.out.k1.fz 0;have v1:=HB5.out.k1.fz 1;have HO:Hid (_/\_/\_/\_):=HB5.out.out (.int .i64 0) (.int .i64 0);clear HB5;go_wp2;generalize (w5.setCell ⟨K1,0,none⟩ (.int .i64 0)).setCell ⟨K1,1,none⟩ (.int .i64 0)=WF at HO |-;have j0:WF.cell? ⟨K1,0,none⟩=_:=HO.out.2.1.cell 0;have j1:WF.cell? ⟨K1,1,none⟩=_:=HO.out.2.1.cell 1;refine bodyPost_ret (v:=.tuple #[v',.agg #[.int .i64 0,.int .i64 0]]) (by simp[results,Tryz.results35,go_sem,j0,j1]) rfl ?_;rw[HV.out];exact⟨fun h=>absurd rfl h,fun _=>⟨v',_,_,rfl,HO.out.2.2.1,HML.out,HO.out.2.2.2⟩,HO.out.1⟩
    ·have hnb:((n:Int)==(len':Int))=false:=by rw[beq_eq_false_iff_ne];omega
     have hnlt:n<len':=by omega
     obtain⟨b,off,had,hbw,hcell⟩:=HA.out.1.1.2 (by omega);obtain⟨x0,x1,x2⟩:=hcell n hnlt;subst had;have HDR:Hid (RowsA w (some (if cap'=n+1 then ⟨b,off,none⟩else ⟨b,off+(n+1)*3,none⟩)) (len'-(n+1)) (cap'-(n+1)) (more.drop (n+1))):=HA.out.drop (n+1) (by omega);obtain⟨pc,pt,pz,HPR⟩:∃ pc pt pz,Hid (more.getD n z3=(pc,pt,pz)):=⟨_,_,_,rfl⟩;rw[HPR.out]at x0 x1 x2;replace x0:w5.cell? ⟨b,off+n*3,none⟩=some (.int .i64 pc):=(HB5.out.bl.cell (p:=⟨b,off+n*3,none⟩) hbw).trans x0;replace x1:w5.cell? ⟨b,off+n*3+1,none⟩=some (.string (mk pt)):=(HB5.out.bl.cell (p:=⟨b,off+n*3+1,none⟩) hbw).trans x1;replace x2:w5.cell? ⟨b,off+n*3+2,none⟩=some (.int .i64 pz):=(HB5.out.bl.cell (p:=⟨b,off+n*3+2,none⟩) hbw).trans x2
     have HR3:Hid (R=if pc<c then ([],9,pz)else kiM part c k' (pc,pt,pz) (more.drop (n+1)) (ks++q1)):=by
      show R=_;rw[HR2.out,if_neg (by rw[<-hlen.out];exact hnl2),HPR.out]
     have HSU2:Hid (((pc,pt,pz)::more.drop (n+1)) <:+ ((c,x,z)::rs)):=by
      rw[<-HPR.out,<-Blk.drop_getR more n (by have:=hlen.out;omega)];exact(List.drop_suffix n more).trans ((List.suffix_cons _ _).trans HSU.out)
     have hml2:(more.drop (n+1)).length=more.length-(n+1):=List.length_drop;have hlen2:len'=more.length:=hlen.out;have hm3:m+L+2*((more.drop (n+1)).length+1)<=2*(rs.length+1):=by omega
     have hk3:(more.drop (n+1)).length<k':=by omega
     have HH3:Hid (m+L+2*((more.drop (n+1)).length+1)<=2*(rs.length+1)/\(more.drop (n+1)).length<k'):=⟨hm3,hk3⟩;clear hcell HR2 HPR HSU HA HN hnl2 hml2 hlen2 hm3 hk3 hlen hm hk HTK;have HKW:Hid (Ki w _ d C K0 K1 KR #[.int .i64 c,.string (mk x),.int .i64 z] (pc,pt,pz) v' (m+L) (xs++ys) (ks++q1)):=ki_row HB5.out (pc,pt,pz);obtain⟨r0,r1,r2⟩:=HB5.out.kr.c3;have g0:=HB5.out.kr.fz 0;have g1:=HB5.out.kr.fz 1;have g2:=HB5.out.kr.fz 2;obtain⟨f0,f1,f2⟩:=HB5.out.k0.c3;go_upto_region 10 with fail
     by_cases hc1:cap'=n+1
     ·have HDR2:Hid (RowsA w (some ⟨b,off,none⟩) 0 0 (more.drop (n+1))):=by
       have:=HDR.out;rw[if_pos hc1,show len'-(n+1)=0 by omega,show cap'-(n+1)=0 by omega]at this;exact this
      clear HDR;subst hc1;obtain rfl:len'=n+1:=by omega
      go_region;have HB6:Hid (Ki w (((w5.setCell ⟨KR,0,none⟩ (.int .i64 pc)).setCell ⟨KR,1,none⟩ (.string (mk pt))).setCell ⟨KR,2,none⟩ (.int .i64 pz)).drew d C K0 K1 KR #[.int .i64 c,.string (mk x),.int .i64 z] (pc,pt,pz) v' (m+L) (xs++ys) (ks++q1)):=HKW.out.later (Below.refl _ _).drew;clear HKW HB5 r0 r1 r2 g0 g1 g2 f0 f1 f2 x0 x1 x2;generalize (((w5.setCell ⟨KR,0,none⟩ (.int .i64 pc)).setCell ⟨KR,1,none⟩ (.string (mk pt))).setCell ⟨KR,2,none⟩ (.int .i64 pz)).drew=w6 at HB6 |-;have f0:w6.cell? ⟨K0,0,none⟩=some (.int .i64 c):=HB6.out.k0.cell 0;obtain⟨r0,r1,r2⟩:=HB6.out.kr.c3;by_cases hpc:pc<c
      ·have HV:Hid (R=([],9,pz)):=HR3.out.trans (if_pos hpc);have HFO:Hid (Calls Tryz.prog 31 #[.int .i64 9,rV pc pt pz] w6 fun e w'=>e=.returned (fV 9 pz)/\Below w6.heap.size w6 w'):=faultOf_any 9 pc pt pz w6;clear HR3;go_wp2_with fail;refine HFO.out.mono ?_;rintro e w7 ⟨rfl,H7⟩;have HB7:Hid (Ki w w7 d C K0 K1 KR #[.int .i64 c,.string (mk x),.int .i64 z] (pc,pt,pz) v' (m+L) (xs++ys) (ks++q1)):=HB6.out.later H7;clear HB6 H7 f0 r0 r1 r2 HFO;obtain⟨y0,y1⟩:=HB7.out.k1.c2;have v0:=HB7.out.k1.fz 0;have v1:=HB7.out.k1.fz 1;have HO:Hid (_/\_/\_/\_):=HB7.out.out (.int .i64 9) (.int .i64 pz);clear HB7;go_wp2;generalize (w7.setCell ⟨K1,0,none⟩ (.int .i64 9)).setCell ⟨K1,1,none⟩ (.int .i64 pz)=WF at HO |-;have j0:WF.cell? ⟨K1,0,none⟩=_:=HO.out.2.1.cell 0;have j1:WF.cell? ⟨K1,1,none⟩=_:=HO.out.2.1.cell 1;refine bodyPost_ret (v:=.tuple #[.slice none 0 0,.agg #[.int .i64 9,.int .i64 pz]]) (by simp[results,Tryz.results35,go_sem,j0,j1]) rfl ?_;rw[HV.out];exact⟨fun _=>rfl,fun h=>absurd h (show ¬ (9:Int)=0 by decide),HO.out.1⟩
      ·have HV:Hid (R=kiM part c k' (pc,pt,pz) (more.drop (n+1)) (ks++q1)):=HR3.out.trans (if_neg hpc);have hpb:decide (pc<c)=false:=decide_eq_false hpc;clear HR3;go_wp2_with fail;go_roundw
       case rel =>
        exact⟨k',m+L,(pc,pt,pz),some ⟨b,off,none⟩,0,0,more.drop (n+1),xs++ys,ks++q1,rfl,HDR2,HSU2,HH3.out.2,HH3.out.1,HML,HB6,HV⟩
       case measure=>simp only[slLen];omega
     ·have HDR2:Hid (RowsA w (some ⟨b,off+(n+1)*3,none⟩) (len'-(n+1)) (cap'-(n+1)) (more.drop (n+1))):=by
       have:=HDR.out;rw[if_neg hc1]at this;exact this
      clear HDR;go_region;have HB6:Hid (Ki w (((w5.setCell ⟨KR,0,none⟩ (.int .i64 pc)).setCell ⟨KR,1,none⟩ (.string (mk pt))).setCell ⟨KR,2,none⟩ (.int .i64 pz)).drew d C K0 K1 KR #[.int .i64 c,.string (mk x),.int .i64 z] (pc,pt,pz) v' (m+L) (xs++ys) (ks++q1)):=HKW.out.later (Below.refl _ _).drew;clear HKW HB5 r0 r1 r2 g0 g1 g2 f0 f1 f2 x0 x1 x2;generalize (((w5.setCell ⟨KR,0,none⟩ (.int .i64 pc)).setCell ⟨KR,1,none⟩ (.string (mk pt))).setCell ⟨KR,2,none⟩ (.int .i64 pz)).drew=w6 at HB6 |-;have f0:w6.cell? ⟨K0,0,none⟩=some (.int .i64 c):=HB6.out.k0.cell 0;obtain⟨r0,r1,r2⟩:=HB6.out.kr.c3;by_cases hpc:pc<c
      ·have HV:Hid (R=([],9,pz)):=HR3.out.trans (if_pos hpc);have HFO:Hid (Calls Tryz.prog 31 #[.int .i64 9,rV pc pt pz] w6 fun e w'=>e=.returned (fV 9 pz)/\Below w6.heap.size w6 w'):=faultOf_any 9 pc pt pz w6;clear HR3;go_wp2_with fail;refine HFO.out.mono ?_;rintro e w7 ⟨rfl,H7⟩;have HB7:Hid (Ki w w7 d C K0 K1 KR #[.int .i64 c,.string (mk x),.int .i64 z] (pc,pt,pz) v' (m+L) (xs++ys) (ks++q1)):=HB6.out.later H7;clear HB6 H7 f0 r0 r1 r2 HFO;obtain⟨y0,y1⟩:=HB7.out.k1.c2;have v0:=HB7.out.k1.fz 0;have v1:=HB7.out.k1.fz 1;have HO:Hid (_/\_/\_/\_):=HB7.out.out (.int .i64 9) (.int .i64 pz);clear HB7;go_wp2;generalize (w7.setCell ⟨K1,0,none⟩ (.int .i64 9)).setCell ⟨K1,1,none⟩ (.int .i64 pz)=WF at HO |-;have j0:WF.cell? ⟨K1,0,none⟩=_:=HO.out.2.1.cell 0;have j1:WF.cell? ⟨K1,1,none⟩=_:=HO.out.2.1.cell 1;refine bodyPost_ret (v:=.tuple #[.slice none 0 0,.agg #[.int .i64 9,.int .i64 pz]]) (by simp[results,Tryz.results35,go_sem,j0,j1]) rfl ?_;rw[HV.out];exact⟨fun _=>rfl,fun h=>absurd h (show ¬ (9:Int)=0 by decide),HO.out.1⟩
      ·have HV:Hid (R=kiM part c k' (pc,pt,pz) (more.drop (n+1)) (ks++q1)):=HR3.out.trans (if_neg hpc);have hpb:decide (pc<c)=false:=decide_eq_false hpc;clear HR3;go_wp2_with fail;go_roundw
       case rel =>
        exact⟨k',m+L,(pc,pt,pz),some ⟨b,off+(n+1)*3,none⟩,(len'-(n+1)),(cap'-(n+1)),more.drop (n+1),xs++ys,ks++q1,rfl,HDR2,HSU2,HH3.out.2,HH3.out.1,HML,HB6,HV⟩
       case measure=>simp only[slLen];omega
  ·have HPO:Hid (Calls Tryz.prog g #[.int .i64 wi,.agg #[.int .i64 rc,.string (mk rt),.int .i64 rz],.slice a' n cap'] w1.drew fun e w'=>∃ ad m2 n2,e=.returned (.tuple #[.slice ad m2 n2,.agg #[.int .i64 q.2.1,.int .i64 q.2.2]])/\Hid (Below w1.heap.size w1 w')):=by
    refine(HPC.out _ (HWA.out _ hb0)).mono (fun e w' hr=> ?_);obtain⟨ad,m2,n2,h1⟩:=hr.1 hq;exact⟨ad,m2,n2,h1,hb0.trans hr.2.2⟩
   have HPB:Hid (Calls Tryz.prog g #[.int .i64 wi,.agg #[.int .i64 rc,.string (mk rt),.int .i64 rz],.slice a' n cap'] (w1.alloc (.cells #[.int .i64 0,.int .i64 0] 33)).drew fun e w'=>∃ ad m2 n2,e=.returned (.tuple #[.slice ad m2 n2,.agg #[.int .i64 q.2.1,.int .i64 q.2.2]])/\w'.cell? ⟨w1.heap.size,0,none⟩=some (.int .i64 0)/\w'.cell? ⟨w1.heap.size,1,none⟩=some (.int .i64 0)/\w'.frozen? ⟨w1.heap.size,0,none⟩=false/\w'.frozen? ⟨w1.heap.size,1,none⟩=false/\Hid (Below w1.heap.size w1 w'/\Bx w' w1.heap.size #[.int .i64 0,.int .i64 0] 33)):=by
    refine(HPC.out _ (HWA.out _ hb1)).mono (fun e w' hr=> ?_);obtain⟨ad,m2,n2,h1⟩:=hr.1 hq;have hX:=hX1.later hr.2.2;exact⟨ad,m2,n2,h1,hX.cell 0,hX.cell 1,hX.fz 0,hX.fz 1,hb1.trans (hr.2.2.mono hb1.size),hX⟩
   have HV:Hid (R=([],q.2)):=by show R=_;rw[HR1.out,if_pos hq]
   clear HPC HR1 hX1 hb0 hb1 HQ HKR hs1 HWA;obtain⟨q1,qy,qz⟩:=q;have HQ0:Hid (qy≠0):=hq;replace hq:(qy != 0)=true:=by simpa using hq
   go_region_with (first | (refine HPO.out.mono ?_;rintro e w2 ⟨ad,m2,n2,rfl,HB2⟩) | (refine HPB.out.mono ?_;rintro e w2 ⟨ad,m2,n2,rfl,c0,c1,z0,z1,HB2⟩))
   all_goals first
    | (have HS:Hid (Ki w (w2.alloc (.cells #[.int .i64 qy,.int .i64 qz] 33)) d C K0 K1 KR #[.int .i64 c,.string (mk x),.int .i64 z] (rc,rt,rz) u8 m xs ks/\Bx (w2.alloc (.cells #[.int .i64 qy,.int .i64 qz] 33)) w2.heap.size #[.int .i64 qy,.int .i64 qz] 33/\K1≠w2.heap.size):=⟨HB1.out.later (HB2.out.trans ((below_alloc w2 _).mono HB2.out.size)),Bx.new _ _ _,by have:=HB2.out.size;omega⟩
       clear HB1 HB2 HPO HPB;generalize w2.alloc (.cells #[.int .i64 qy,.int .i64 qz] 33)=w3 at HS |-;generalize w2.heap.size=KF at HS |-)
    | (have HS:Hid (Ki w ((w2.setCell ⟨w1.heap.size,0,none⟩ (.int .i64 qy)).setCell ⟨w1.heap.size,1,none⟩ (.int .i64 qz)) d C K0 K1 KR #[.int .i64 c,.string (mk x),.int .i64 z] (rc,rt,rz) u8 m xs ks/\Bx ((w2.setCell ⟨w1.heap.size,0,none⟩ (.int .i64 qy)).setCell ⟨w1.heap.size,1,none⟩ (.int .i64 qz)) w1.heap.size #[.int .i64 qy,.int .i64 qz] 33/\K1≠w1.heap.size):=⟨HB1.out.later ((HB2.out.1.setCell (p:=⟨w1.heap.size,0,none⟩) (Nat.le_refl _) _).setCell (p:=⟨w1.heap.size,1,none⟩) (Nat.le_refl _) _),(HB2.out.2.set 0 _).set 1 _,by omega⟩
       clear HB1 HB2 HPO HPB c0 c1 z0 z1;generalize (w2.setCell ⟨w1.heap.size,0,none⟩ (.int .i64 qy)).setCell ⟨w1.heap.size,1,none⟩ (.int .i64 qz)=w3 at HS |-;generalize w1.heap.size=KF at *)
   all_goals
    clear r0 r1 r2 g0 g1 g2 f0 f1 f2;obtain⟨i0,i1⟩:=HS.out.2.1.c2;obtain⟨y0,y1⟩:=HS.out.1.k1.c2;have v0:=HS.out.1.k1.fz 0;have v1:=HS.out.1.k1.fz 1;have hne1:K1≠KF:=HS.out.2.2;have hne2:KF≠K1:=fun e=>hne1 e.symm
    have HO:Hid (_/\_/\_/\_):=HS.out.1.out (.int .i64 qy) (.int .i64 qz);clear HS;go_wp2_with fail;go_region
    all_goals
     go_wp2;generalize (w3.setCell ⟨K1,0,none⟩ (.int .i64 qy)).setCell ⟨K1,1,none⟩ (.int .i64 qz)=WF at HO |-;have j0:WF.drew.cell? ⟨K1,0,none⟩=_:=HO.out.2.1.cell 0;have j1:WF.drew.cell? ⟨K1,1,none⟩=_:=HO.out.2.1.cell 1;refine bodyPost_ret (v:=.tuple #[.slice none 0 0,.agg #[.int .i64 qy,.int .i64 qz]]) (by simp[results,Tryz.results35,go_sem,j0,j1]) rfl ?_;rw[HV.out];exact⟨fun _=>rfl,fun h=>absurd h HQ0.out,HO.out.1.drew⟩
end Tre
end Go.Proofs.YtidhpmcmbooaoaaGreatDoor
