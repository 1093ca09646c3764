/- . -/
import Derived.Test.YtalijhclfppohaaGreatDoorR39TreeBel0
import Derived.Deep.RegionWith
import Derived.Test.YtalijhclfppohaaGreatDoorR34TreeKey
import Derived.Test.YtalijhclfppohaaGreatDoorR33TreeMean
set_option linter.unusedSimpArgs false
set_option linter.unusedVariables false
set_option maxRecDepth 100000
namespace Go.Proofs.YtalijhclfppohaaGreatDoor
namespace Tre
open Utf Rws Pln Flw
open Go.RowKit
set_option maxHeartbeats 8000000
variable {w:World}
theorem wp_thenQ {α:Type} {P:Program} {cd:Code} {Q:Exit->Go.Act->World->Prop} {a:Go.Act} {w:World} (F:α->Go.Act) (I:α->World->Prop) (h1:Hid (∀ p w',I p w'->Q .normal (F p) w')->cd.wp P Q a w) (h2:∀ p w',I p w'->Q .normal (F p) w'):cd.wp P Q a w:=h1 h2
theorem item_val (d:Nat) (ar:Int) (c:Int) (x:Ln) (z:Int) (a:Option Addr) (len cap:Nat) (hx:x.length<=140737488351232) (hxs:(itR x).length<=140737488351232) (hT:Tb w) (hi:isIt x=true) (hh:isIt (itR x)=true\/isIt (itR x)=false/\isEn (itR x)=true) (hc1: -9223372036854775808<=c) (hc2:c<=9223372036854775807) (hc3:itN x<=9223372036854775807) (R:Tr × Int × Int)
  (HME:Hid (∀ w0,Below w.heap.size w w0->Calls Tryz.prog 41 #[.int .i64 ar,.agg #[.int .i64 (mvd c (itN x)),.string (mk (itR x)),.int .i64 z],.slice a len cap] w0 fun e w'=>TfD d R w0 e w')) :
  Calls Tryz.prog 67 #[.int .i64 ar,rV c x z,.slice a len cap] w fun e w'=>PaD d [R.1] R.2.1 R.2.2 w e w':=by
 have HI:Hid (∀ w0,Calls Tryz.prog 92 #[.string (mk x)] w0 fun e w'=>e=.returned (.tuple #[.string (mk (itR x)),.int .i64 (itN x:Int),.bool true])/\w0=w'):=fun w0=>by
  have h:=item0_any x w0 (by omega);rw[hi]at h;exact h
 have HII:Hid (∀ w0,Calls Tryz.prog 65 #[.string (mk (itR x))] w0 fun e w'=>e=.returned (.bool (isIt (itR x)))/\w0=w'):=fun w0=>isItem_any (itR x) w0 (by omega)
 have HIE:Hid (∀ w0,Tb w0->Calls Tryz.prog 68 #[.string (mk (itR x))] w0 fun e w'=>e=.returned (.bool (isEn (itR x)))/\Below w0.heap.size w0 w'):=fun w0 ht=>isEntry_any (itR x) w0 (by omega) ht
 have HMV:Hid (∀ w0,Calls Tryz.prog 94 #[.int .i64 c,.int .i64 (itN x:Int)] w0 fun e w'=>e=.returned (.int .i64 (mvd c (itN x)))/\w0=w'):=fun w0=>moved_any c (itN x) w0 hc1 hc2 hc3
 have HTb:Hid (Tb w):=hT;clear hT hi;generalize isIt (itR x)=bI at *;generalize isEn (itR x)=bE at *;generalize itR x=aR at *;generalize mvd c (itN x)=mc at *;generalize itN x=aN at *;rcases hh with rfl | ⟨rfl,rfl⟩
 all_goals
  have N2:Hid (_/\_/\_):=two_new w #[.int .i64 c,.string (mk x),.int .i64 z] #[.int .i64 0,.int .i64 0] 52 32;go_enter Tryz.func67,Tryz.ntmps67;go_wp2_with fail;change Calls _ _ _ ((w.alloc (.cells #[.int .i64 c,.string (mk x),.int .i64 z] 52)).alloc (.cells #[.int .i64 0,.int .i64 0] 32)) _;generalize (w.alloc (.cells #[.int .i64 c,.string (mk x),.int .i64 z] 52)).alloc (.cells #[.int .i64 0,.int .i64 0] 32)=W at N2 |-;obtain⟨K1,hK1⟩:∃ K,K=w.heap.size+1:=⟨_,rfl⟩;obtain⟨K0,hK0⟩:∃ K,K=w.heap.size:=⟨_,rfl⟩
  have HB:Hid (Below w.heap.size w W/\Bx W K0 #[.int .i64 c,.string (mk x),.int .i64 z] 52/\Bx W K1 #[.int .i64 0,.int .i64 0] 32):=by
   rw[hK0,hK1];exact N2.out
  rw[<-hK1,<-hK0];have hw1:w.heap.size<=K1:=by omega
  have h01:K0≠K1:=by omega
  have h10:K1≠K0:=by omega
  clear N2 hK0 hK1;refine(HI.out W).mono ?_;rintro e w' ⟨rfl,rfl⟩;have N3:Hid (_/\_/\_):=two_new W zT #[.int .i64 0,.int .i64 0] 35 32;go_wp2_with fail;change Calls _ _ _ ((W.alloc (.cells zT 35)).alloc (.cells #[.int .i64 0,.int .i64 0] 32)) _;generalize (W.alloc (.cells zT 35)).alloc (.cells #[.int .i64 0,.int .i64 0] 32)=W3 at N3 |-;obtain⟨KF,hKF⟩:∃ K,K=W.heap.size+1:=⟨_,rfl⟩;obtain⟨KT,hKT⟩:∃ K,K=W.heap.size:=⟨_,rfl⟩
  have HB3:Hid (Below w.heap.size w W3/\Bx W3 K0 #[.int .i64 c,.string (mk x),.int .i64 z] 52/\Bx W3 K1 #[.int .i64 0,.int .i64 0] 32/\Bx W3 KT zT 35/\Bx W3 KF #[.int .i64 0,.int .i64 0] 32):=by
   rw[hKF,hKT];exact⟨HB.out.1.trans (N3.out.1.mono HB.out.1.size),HB.out.2.1.later N3.out.1,HB.out.2.2.later N3.out.1,N3.out.2.1,N3.out.2.2⟩
  rw[<-hKF,<-hKT];have hTF:KT≠KF:=by omega
  have hFT:KF≠KT:=by omega
  have hK1T:K1<KT:=by have:=HB.out.2.2.lt;omega
  have hwT:w.heap.size<=KT:=by omega
  have hwF:w.heap.size<=KF:=by omega
  have hT1:KT≠K1:=by omega
  have hF1:KF≠K1:=by omega
  have h1T:K1≠KT:=by omega
  have h1F:K1≠KF:=by omega
  clear N3 HB hKF hKT;refine(HII.out _).mono ?_;rintro e w' ⟨rfl,rfl⟩
  first
  | (have hx:bE=bE:=rfl
     obtain⟨w4,hx⟩:∃ X,X=W3:=⟨_,rfl⟩;subst hx;have H4:=Below.refl w4.heap.size w4;obtain⟨vA,vB,vC,hA,hB,hC⟩:∃ a b c:Value,a=.bool true/\b=undef/\c=undef:=⟨_,_,_,rfl,rfl,rfl⟩)
  | (go_wp2_with fail
     refine(HIE.out _ (HTb.out.later HB3.out.1)).mono ?_;rintro e w4 ⟨rfl,H4⟩;obtain⟨vA,vB,vC,hA,hB,hC⟩:∃ a b c:Value,a=.bool false/\b=.string (mk aR)/\c=.bool true:=⟨_,_,_,rfl,rfl,rfl⟩)
  have HB4:Hid (Below w.heap.size w w4/\Bx w4 K0 #[.int .i64 c,.string (mk x),.int .i64 z] 52/\Bx w4 K1 #[.int .i64 0,.int .i64 0] 32/\Bx w4 KT zT 35/\Bx w4 KF #[.int .i64 0,.int .i64 0] 32) :=
   ⟨HB3.out.1.trans (H4.mono HB3.out.1.size),HB3.out.2.1.later H4,HB3.out.2.2.1.later H4,HB3.out.2.2.2.1.later H4,HB3.out.2.2.2.2.later H4⟩
  clear H4 HB3;obtain⟨r0,r1,r2⟩:=HB4.out.2.1.c3
  have HVA:Hid (Calls Tryz.prog 41 #[.int .i64 ar,.agg #[.int .i64 mc,.string (mk aR),.int .i64 z],.slice a len cap] w4.drew fun e w8=>∃ k2 x2 a2 ad2 len2 cap2,e=.returned (.tuple #[.agg #[.int .i64 k2,.string x2,.string a2,.slice ad2 len2 cap2],.agg #[.int .i64 R.2.1,.int .i64 R.2.2]])/\w8.cell? ⟨KT,0,none⟩=some (.int .i64 0)/\w8.cell? ⟨KT,1,none⟩=some (.string ⟨#[]⟩)/\w8.cell? ⟨KT,2,none⟩=some (.string ⟨#[]⟩)/\w8.cell? ⟨KT,3,none⟩=some (.slice none 0 0)/\w8.cell? ⟨KF,0,none⟩=some (.int .i64 0)/\w8.cell? ⟨KF,1,none⟩=some (.int .i64 0)/\w8.frozen? ⟨KT,0,none⟩=false/\w8.frozen? ⟨KT,1,none⟩=false/\w8.frozen? ⟨KT,2,none⟩=false/\w8.frozen? ⟨KT,3,none⟩=false/\w8.frozen? ⟨KF,0,none⟩=false/\w8.frozen? ⟨KF,1,none⟩=false/\Hid (Below w.heap.size w w8/\Bx w8 K1 #[.int .i64 0,.int .i64 0] 32/\Bx w8 KT zT 35/\Bx w8 KF #[.int .i64 0,.int .i64 0] 32/\TrP w4.heap.size w8 d (.agg #[.int .i64 k2,.string x2,.string a2,.slice ad2 len2 cap2]) R.1)):=by
   have hbd:Below w4.heap.size w4 w4.drew:=(Below.refl _ _).drew;refine(HME.out w4.drew (HB4.out.1.trans (hbd.mono HB4.out.1.size))).mono ?_;rintro e w8 ⟨v,rfl,ht,hb8⟩;obtain⟨k2,x2,a2,ad2,len2,cap2,rfl⟩:=ht.cells;have hb9:=hbd.trans hb8;have e3:=HB4.out.2.2.2.1.later hb9;have e4:=HB4.out.2.2.2.2.later hb9;obtain⟨d0,d1,d2,d3,d4,d5,y0,y1,y2,y3,y4,y5⟩:=c6_of e3 e4;exact⟨k2,x2,a2,ad2,len2,cap2,rfl,d0,d1,d2,d3,d4,d5,y0,y1,y2,y3,y4,y5,HB4.out.1.trans (hb9.mono HB4.out.1.size),HB4.out.2.2.1.later hb9,e3,e4,ht⟩
  obtain⟨R1,R2,R3⟩:=R;have hKTW:KT<w4.heap.size:=HB4.out.2.2.2.1.lt;have hKFW:KF<w4.heap.size:=HB4.out.2.2.2.2.lt;have hK1W:K1<w4.heap.size:=HB4.out.2.2.1.lt;have hWs:w.heap.size<=w4.heap.size:=HB4.out.1.size;clear HB4 HME;go_upto_region 7 with fail
  refine wp_thenQ (fun (p:Int × ByteArray × ByteArray × Option Addr × Nat × Nat)=>({ tmps:=#[.int .i64 ar,rV c x z,.slice a len cap,undef,.pointer (some ⟨K0,0,none⟩),undef,.slice none 0 0,.pointer (some ⟨K1,0,none⟩),.string (mk aR),.int .i64 (aN:Int),.bool true,.pointer (some ⟨KT,0,none⟩),.pointer (some ⟨KF,0,none⟩),.tuple #[.string (mk aR),.int .i64 (aN:Int),.bool true],.pointer (some ⟨K0,1,none⟩),.string (mk x),.tuple #[.string (mk aR),.int .i64 (aN:Int),.bool true],.string (mk aR),.int .i64 (aN:Int),.bool true,.bool true,.bool false,undef,undef,.string (mk aR),vA,vA,vB,vC,.bool true,.tuple #[.agg #[.int .i64 p.1,.string p.2.1,.string p.2.2.1,.slice p.2.2.2.1 p.2.2.2.2.1 p.2.2.2.2.2],.agg #[.int .i64 R2,.int .i64 R3]],.int .i64 ar,.pointer (some ⟨K0,0,none⟩),.int .i64 c,.int .i64 (aN:Int),.int .i64 mc,.string (mk aR),.pointer (some ⟨K0,2,none⟩),.int .i64 z,.agg #[.int .i64 mc,.string (mk aR),.int .i64 z],.slice a len cap,.tuple #[.agg #[.int .i64 p.1,.string p.2.1,.string p.2.2.1,.slice p.2.2.2.1 p.2.2.2.2.1 p.2.2.2.2.2],.agg #[.int .i64 R2,.int .i64 R3]],.agg #[.int .i64 p.1,.string p.2.1,.string p.2.2.1,.slice p.2.2.2.1 p.2.2.2.2.1 p.2.2.2.2.2],.agg #[.int .i64 R2,.int .i64 R3],undef,undef,undef,undef,undef,undef,undef,undef,undef,undef,undef],defers:=[] }:Go.Act)) (fun p w9=>∃ w8,w9=fill6 w8 KT KF (.int .i64 p.1) (.string p.2.1) (.string p.2.2.1) (.slice p.2.2.2.1 p.2.2.2.2.1 p.2.2.2.2.2) (.int .i64 R2) (.int .i64 R3)/\Hid (Below w.heap.size w w8/\Bx w8 K1 #[.int .i64 0,.int .i64 0] 32/\Bx w8 KT zT 35/\Bx w8 KF #[.int .i64 0,.int .i64 0] 32/\TrP w4.heap.size w8 d (.agg #[.int .i64 p.1,.string p.2.1,.string p.2.2.1,.slice p.2.2.2.1 p.2.2.2.2.1 p.2.2.2.2.2]) R1)) ?H1 ?H2
  case H1 =>
   subst hA hB hC;intro HQQ;go_region_with (first | (go_at_call 94;refine(HMV.out _).mono ?_;rintro e w' ⟨rfl,rfl⟩) | (go_at_call 41;refine HVA.out.mono ?_;rintro e w8 ⟨k2,x2,a2,ad2,len2,cap2,rfl,d0,d1,d2,d3,d4,d5,y0,y1,y2,y3,y4,y5,HB8⟩))
   all_goals exact HQQ.out (k2,x2,a2,ad2,len2,cap2) _ ⟨w8,rfl,HB8⟩
  case H2 =>
  rintro⟨k2,x2,a2,ad2,len2,cap2⟩ w9 ⟨w8,rfl,HB8⟩;clear r0 r1 r2 HVA hA hB hC
  have H9:Hid (∀ w9,w9=fill6 w8 KT KF (.int .i64 k2) (.string x2) (.string a2) (.slice ad2 len2 cap2) (.int .i64 R2) (.int .i64 R3)->(Below w.heap.size w w9/\Bx w9 K1 #[.int .i64 0,.int .i64 0] 32/\Bx w9 KT #[.int .i64 k2,.string x2,.string a2,.slice ad2 len2 cap2] 35/\Bx w9 KF #[.int .i64 R2,.int .i64 R3] 32/\TrP w4.heap.size w9 d (.agg #[.int .i64 k2,.string x2,.string a2,.slice ad2 len2 cap2]) R1)):=fun w9 e=>by
   subst e;have g:=fill6_is HB8.out.2.2.1 HB8.out.2.2.2.1 (by omega) HB8.out.1 (by omega) (by omega) (.int .i64 k2) (.string x2) (.string a2) (.slice ad2 len2 cap2) (.int .i64 R2) (.int .i64 R3);exact⟨g.1,(((((HB8.out.2.1.other h1T _ _).other h1T _ _).other h1T _ _).other h1T _ _).other h1F _ _).other h1F _ _,g.2.1,g.2.2,(((((HB8.out.2.2.2.2.set hKTW).set hKTW).set hKTW).set hKTW).set hKFW).set hKFW⟩
  clear HB8;have N9:=H9.out _ rfl;clear H9
  try dsimp only
  change Exit.then _ _ _ _ (fill6 w8 KT KF (.int .i64 k2) (.string x2) (.string a2) (.slice ad2 len2 cap2) (.int .i64 R2) (.int .i64 R3));generalize fill6 w8 KT KF (.int .i64 k2) (.string x2) (.string a2) (.slice ad2 len2 cap2) (.int .i64 R2) (.int .i64 R3)=w9 at N9 |-;have HX:Hid (_/\_/\_/\_/\_):=N9;clear N9;obtain⟨p0,p1,p2,p3⟩:=HX.out.2.2.1.c4;obtain⟨q0,q1⟩:=HX.out.2.2.2.1.c2;obtain⟨c0,c1⟩:=HX.out.2.1.c2;have z0:=HX.out.2.1.fz 0;have z1:=HX.out.2.1.fz 1;have BA:=below_alloc w9 (.cells #[.int .i64 k2,.string x2,.string a2,.slice ad2 len2 cap2] 35);have XA:=HX.out.2.1.later BA;have XB:=HX.out.2.2.2.1.later BA;have u0:(w9.alloc (.cells #[.int .i64 k2,.string x2,.string a2,.slice ad2 len2 cap2] 35)).cell? ⟨K1,0,none⟩=some (.int .i64 0):=XA.cell 0;have u1:(w9.alloc (.cells #[.int .i64 k2,.string x2,.string a2,.slice ad2 len2 cap2] 35)).frozen? ⟨K1,0,none⟩=false:=XA.fz 0;have u2:(w9.alloc (.cells #[.int .i64 k2,.string x2,.string a2,.slice ad2 len2 cap2] 35)).cell? ⟨K1,1,none⟩=some (.int .i64 0):=XA.cell 1;have u3:(w9.alloc (.cells #[.int .i64 k2,.string x2,.string a2,.slice ad2 len2 cap2] 35)).frozen? ⟨K1,1,none⟩=false:=XA.fz 1;obtain⟨u4,u5⟩:=XB.c2;have u6:(w9.alloc (.cells #[.int .i64 k2,.string x2,.string a2,.slice ad2 len2 cap2] 35)).drew.cell? ⟨K1,0,none⟩=some (.int .i64 0):=XA.cell 0;have u7:(w9.alloc (.cells #[.int .i64 k2,.string x2,.string a2,.slice ad2 len2 cap2] 35)).drew.frozen? ⟨K1,0,none⟩=false:=XA.fz 0;have u8:(w9.alloc (.cells #[.int .i64 k2,.string x2,.string a2,.slice ad2 len2 cap2] 35)).drew.cell? ⟨K1,1,none⟩=some (.int .i64 0):=XA.cell 1;have u9:(w9.alloc (.cells #[.int .i64 k2,.string x2,.string a2,.slice ad2 len2 cap2] 35)).drew.frozen? ⟨K1,1,none⟩=false:=XA.fz 1;obtain⟨u10,u11⟩:=XB.c2
  have HF:Hid (Below w.heap.size w (((w9.alloc (.cells #[.int .i64 k2,.string x2,.string a2,.slice ad2 len2 cap2] 35)).setCell ⟨K1,0,none⟩ (.int .i64 R2)).setCell ⟨K1,1,none⟩ (.int .i64 R3))/\Bx (((w9.alloc (.cells #[.int .i64 k2,.string x2,.string a2,.slice ad2 len2 cap2] 35)).setCell ⟨K1,0,none⟩ (.int .i64 R2)).setCell ⟨K1,1,none⟩ (.int .i64 R3)) w9.heap.size #[.int .i64 k2,.string x2,.string a2,.slice ad2 len2 cap2] 35/\Bx (((w9.alloc (.cells #[.int .i64 k2,.string x2,.string a2,.slice ad2 len2 cap2] 35)).setCell ⟨K1,0,none⟩ (.int .i64 R2)).setCell ⟨K1,1,none⟩ (.int .i64 R3)) K1 #[.int .i64 R2,.int .i64 R3] 32/\Kd w.heap.size (((w9.alloc (.cells #[.int .i64 k2,.string x2,.string a2,.slice ad2 len2 cap2] 35)).setCell ⟨K1,0,none⟩ (.int .i64 R2)).setCell ⟨K1,1,none⟩ (.int .i64 R3)) d [.int .i64 k2,.string x2,.string a2,.slice ad2 len2 cap2] [R1]):=by
   have hn:w9.heap.size≠K1:=by have:=HX.out.2.1.lt;omega
   have ht9:TrP w4.heap.size (((w9.alloc (.cells #[.int .i64 k2,.string x2,.string a2,.slice ad2 len2 cap2] 35)).setCell ⟨K1,0,none⟩ (.int .i64 R2)).setCell ⟨K1,1,none⟩ (.int .i64 R3)) d (.agg #[.int .i64 k2,.string x2,.string a2,.slice ad2 len2 cap2]) R1:=((HX.out.2.2.2.2.later BA).set hK1W).set hK1W;exact⟨((HX.out.1.trans (BA.mono HX.out.1.size)).setCell (p:=⟨K1,0,none⟩) hw1 _).setCell (p:=⟨K1,1,none⟩) hw1 _,((Bx.new w9 _ _).other hn _ _).other hn _ _,(XA.set 0 _).set 1 _,Kd.one (TrP.mono hWs ht9)⟩
  have hWB:w.heap.size<=w9.heap.size:=HX.out.1.size;clear HX BA XA XB;go_upto_region 9 with fail
  go_region;go_wp2;change bodyPost _ _ _ _ _ (((w9.alloc (.cells #[.int .i64 k2,.string x2,.string a2,.slice ad2 len2 cap2] 35)).setCell ⟨K1,0,none⟩ (.int .i64 R2)).setCell ⟨K1,1,none⟩ (.int .i64 R3)).drew;generalize ((w9.alloc (.cells #[.int .i64 k2,.string x2,.string a2,.slice ad2 len2 cap2] 35)).setCell ⟨K1,0,none⟩ (.int .i64 R2)).setCell ⟨K1,1,none⟩ (.int .i64 R3)=WW at HF |-;obtain⟨j0,j1⟩:=HF.out.2.2.1.c2;refine bodyPost_ret (v:=.tuple #[.slice (some ⟨w9.heap.size,0,none⟩) 1 1,.agg #[.int .i64 R2,.int .i64 R3]]) (by simp[results,Tryz.results67,go_sem,j0,j1]) rfl ?_;exact⟨w9.heap.size,[.int .i64 k2,.string x2,.string a2,.slice ad2 len2 cap2],rfl,hWB,HF.out.2.1.drew 1,HF.out.2.2.2.later ((Below.refl _ _).drew),HF.out.1.drew⟩
end Tre
end Go.Proofs.YtalijhclfppohaaGreatDoor
