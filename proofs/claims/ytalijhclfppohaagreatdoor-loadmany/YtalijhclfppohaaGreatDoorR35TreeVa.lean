/- . -/
import Derived.Test.YtalijhclfppohaaGreatDoorR34TreeKey
import Derived.Test.YtalijhclfppohaaGreatDoorR33TreeMean
set_option linter.unusedSimpArgs false
set_option linter.unusedVariables false
set_option maxRecDepth 100000
namespace Go.Proofs.YtalijhclfppohaaGreatDoor
namespace Tre
open Utf Rws Pln Flw
open Go.RowKit
open Blk (Rw RwAt z3)
set_option maxHeartbeats 8000000
theorem value_deep (d:Nat) (hd:1<=d) (c:Int) (x:Ln) (z:Int) (a:Option Addr) (len cap:Nat) (w:World) :
  Calls Tryz.prog 41 #[.int .i64 64,rV c x z,.slice a len cap] w fun e w'=>TfD d (tr0,10,z) w e w':=by
 have N3:Hid (_/\_/\_/\_):=three_new w #[.int .i64 c,.string (mk x),.int .i64 z] zT #[.int .i64 0,.int .i64 0] 52 35 32;go_enter Tryz.func41,Tryz.ntmps41;go_wp2_with fail;change Calls _ _ _ (((w.alloc (.cells #[.int .i64 c,.string (mk x),.int .i64 z] 52)).alloc (.cells zT 35)).alloc (.cells #[.int .i64 0,.int .i64 0] 32)) _;generalize ((w.alloc (.cells #[.int .i64 c,.string (mk x),.int .i64 z] 52)).alloc (.cells zT 35)).alloc (.cells #[.int .i64 0,.int .i64 0] 32)=W at N3 |-;obtain⟨K2,hK2⟩:∃ K,K=w.heap.size+1+1:=⟨_,rfl⟩;obtain⟨K1,hK1⟩:∃ K,K=w.heap.size+1:=⟨_,rfl⟩;obtain⟨K0,hK0⟩:∃ K,K=w.heap.size:=⟨_,rfl⟩
 have HN:Hid (Below w.heap.size w W/\Bx W K0 #[.int .i64 c,.string (mk x),.int .i64 z] 52/\Bx W K1 zT 35/\Bx W K2 #[.int .i64 0,.int .i64 0] 32):=by
  rw[hK0,hK1,hK2];exact N3.out
 rw[<-hK2,<-hK1,<-hK0];have hwW:w.heap.size<=K0/\K0<K1/\K1<K2:=by omega
 have hK2W:K2<W.heap.size:=HN.out.2.2.2.lt;have hn12:K1≠K2:=by omega
 have hn21:K2≠K1:=by omega
 clear N3 hK0 hK1 hK2;have HFO:Hid (Calls Tryz.prog 62 #[.int .i64 10,rV c x z] W fun e w'=>e=.returned (fV 10 z)/\Below W.heap.size W w'):=faultOf_any 10 c x z W;refine HFO.out.mono ?_;rintro e w3 ⟨rfl,H3⟩;have HS:Hid (Below w.heap.size w w3/\Bx w3 K1 zT 35/\Bx w3 K2 #[.int .i64 0,.int .i64 0] 32):=⟨HN.out.1.trans (H3.mono HN.out.1.size),HN.out.2.2.1.later H3,HN.out.2.2.2.later H3⟩;clear HN H3 HFO;obtain⟨d0,d1,d2,d3,d4,d5,z0,z1,z2,z3,z4,z5⟩:=c6_of HS.out.2.1 HS.out.2.2;have HF:Hid (_/\_/\_):=fill6_is HS.out.2.1 HS.out.2.2 hn12 HS.out.1 (by omega) (by omega) (.int .i64 0) (.string ⟨#[]⟩) (.string ⟨#[]⟩) (.slice none 0 0) (.int .i64 10) (.int .i64 z);have HTF:Hid True:=trivial;clear HS;go_wp2;change bodyPost _ _ _ _ _ (fill6 w3 K1 K2 (.int .i64 0) (.string ⟨#[]⟩) (.string ⟨#[]⟩) (.slice none 0 0) (.int .i64 10) (.int .i64 z));generalize fill6 w3 K1 K2 (.int .i64 0) (.string ⟨#[]⟩) (.string ⟨#[]⟩) (.slice none 0 0) (.int .i64 10) (.int .i64 z)=WF at HF HTF |-;have j0:WF.cell? ⟨K1,0,none⟩=_:=HF.out.2.1.cell 0;have j1:WF.cell? ⟨K1,1,none⟩=_:=HF.out.2.1.cell 1;have j2:WF.cell? ⟨K1,2,none⟩=_:=HF.out.2.1.cell 2;have j3:WF.cell? ⟨K1,3,none⟩=_:=HF.out.2.1.cell 3;have j4:WF.cell? ⟨K2,0,none⟩=_:=HF.out.2.2.cell 0;have j5:WF.cell? ⟨K2,1,none⟩=_:=HF.out.2.2.cell 1;refine bodyPost_ret (v:=.tuple #[.agg #[.int .i64 0,.string ⟨#[]⟩,.string ⟨#[]⟩,.slice none 0 0],.agg #[.int .i64 10,.int .i64 z]]) (by simp[results,Tryz.results41,go_sem,j0,j1,j2,j3,j4,j5]) rfl ?_;exact⟨_,rfl,TrP.more (TrP.leaf 0 [] [] (by decide) (by decide) (by decide) 0) hd,HF.out.1⟩
theorem value_mean (d:Nat) (ar:Int) (c:Int) (x:Ln) (z:Int) (a:Option Addr) (len cap:Nat) (w:World) (hx:x.length<=140737488351232) (hT:Tb w) (har:ar≠64) (hb1: -9223372036854775808<=ar) (hb2:ar<=64) (hi:isIt x=false) (he:isEn x=false) (R:Tf)
  (HME:Hid (∀ w0,Below w.heap.size w w0->Calls Tryz.prog 70 #[.int .i64 ar,.agg #[.int .i64 c,.string (mk x),.int .i64 z],.string (mk x),.slice a len cap] w0 fun e w'=>TfD d R w0 e w')) :
  Calls Tryz.prog 41 #[.int .i64 ar,rV c x z,.slice a len cap] w fun e w'=>TfD d R w e w':=by
 have HII:Hid (∀ w0,Calls Tryz.prog 65 #[.string (mk x)] w0 fun e w'=>e=.returned (.bool false)/\w0=w'):=fun w0=>by
  have h:=isItem_any x w0 (by omega);rw[hi]at h;exact h
 have HIE:Hid (∀ w0,Tb w0->Calls Tryz.prog 68 #[.string (mk x)] w0 fun e w'=>e=.returned (.bool false)/\Below w0.heap.size w0 w'):=fun w0 ht=>by
  have h:=isEntry_any x w0 (by omega) ht;rw[he]at h;exact h
 have HTb:Hid (Tb w):=hT;have harb:(ar==64)=false:=by rw[beq_eq_false_iff_ne];exact har
 clear hT hi he har;have N3:Hid (_/\_/\_/\_):=three_new w #[.int .i64 c,.string (mk x),.int .i64 z] zT #[.int .i64 0,.int .i64 0] 52 35 32;go_enter Tryz.func41,Tryz.ntmps41;go_wp2_with fail;change Calls _ _ _ (((w.alloc (.cells #[.int .i64 c,.string (mk x),.int .i64 z] 52)).alloc (.cells zT 35)).alloc (.cells #[.int .i64 0,.int .i64 0] 32)) _;generalize ((w.alloc (.cells #[.int .i64 c,.string (mk x),.int .i64 z] 52)).alloc (.cells zT 35)).alloc (.cells #[.int .i64 0,.int .i64 0] 32)=W at N3 |-;obtain⟨K2,hK2⟩:∃ K,K=w.heap.size+1+1:=⟨_,rfl⟩;obtain⟨K1,hK1⟩:∃ K,K=w.heap.size+1:=⟨_,rfl⟩;obtain⟨K0,hK0⟩:∃ K,K=w.heap.size:=⟨_,rfl⟩
 have HN:Hid (Below w.heap.size w W/\Bx W K0 #[.int .i64 c,.string (mk x),.int .i64 z] 52/\Bx W K1 zT 35/\Bx W K2 #[.int .i64 0,.int .i64 0] 32):=by
  rw[hK0,hK1,hK2];exact N3.out
 rw[<-hK2,<-hK1,<-hK0];have hwW:w.heap.size<=K0/\K0<K1/\K1<K2:=by omega
 have hK2W:K2<W.heap.size:=HN.out.2.2.2.lt;have hn12:K1≠K2:=by omega
 have hn21:K2≠K1:=by omega
 clear N3 hK0 hK1 hK2;refine(HII.out _).mono ?_;rintro e w' ⟨rfl,rfl⟩;obtain⟨r0,r1,r2⟩:=HN.out.2.1.c3;go_wp2_with fail;refine(HIE.out _ (HTb.out.later HN.out.1)).mono ?_;rintro e w4 ⟨rfl,H4⟩;have HS:Hid (Below w.heap.size w w4/\Bx w4 K0 #[.int .i64 c,.string (mk x),.int .i64 z] 52/\Bx w4 K1 zT 35/\Bx w4 K2 #[.int .i64 0,.int .i64 0] 32/\W.heap.size<=w4.heap.size):=⟨HN.out.1.trans (H4.mono HN.out.1.size),HN.out.2.1.later H4,HN.out.2.2.1.later H4,HN.out.2.2.2.later H4,H4.size⟩;clear HN H4 r0 r1 r2;obtain⟨r0,r1,r2⟩:=HS.out.2.1.c3;go_wp2_with fail;refine(HME.out w4 HS.out.1).mono ?_;rintro e w8 ⟨v,rfl,ht,hb8⟩;obtain⟨k2,x2,a2,ad2,len2,cap2,rfl⟩:=ht.cells;obtain⟨R1,R2,R3⟩:=R;have B8:Hid (Below w.heap.size w w8/\Bx w8 K1 zT 35/\Bx w8 K2 #[.int .i64 0,.int .i64 0] 32):=⟨HS.out.1.trans (hb8.mono HS.out.1.size),HS.out.2.2.1.later hb8,HS.out.2.2.2.1.later hb8⟩;have HT8:Hid (TrP W.heap.size w8 d (.agg #[.int .i64 k2,.string x2,.string a2,.slice ad2 len2 cap2]) R1):=TrP.mono HS.out.2.2.2.2 ht;clear ht hb8 HS r0 r1 r2;obtain⟨d0,d1,d2,d3,d4,d5,z0,z1,z2,z3,z4,z5⟩:=c6_of B8.out.2.1 B8.out.2.2;have hq1:K1<W.heap.size:=by omega
 have HF:Hid (_/\_/\_):=fill6_is B8.out.2.1 B8.out.2.2 hn12 B8.out.1 (by omega) (by omega) (.int .i64 k2) (.string x2) (.string a2) (.slice ad2 len2 cap2) (.int .i64 R2) (.int .i64 R3)
 have HTF:Hid (TrP w.heap.size (fill6 w8 K1 K2 (.int .i64 k2) (.string x2) (.string a2) (.slice ad2 len2 cap2) (.int .i64 R2) (.int .i64 R3)) d (.agg #[.int .i64 k2,.string x2,.string a2,.slice ad2 len2 cap2]) R1) :=
  TrP.mono (c:=W.heap.size) (by omega) ((((((HT8.out.set hq1).set hq1).set hq1).set hq1).set hK2W).set hK2W)
 clear B8 HT8;go_wp2;change bodyPost _ _ _ _ _ (fill6 w8 K1 K2 (.int .i64 k2) (.string x2) (.string a2) (.slice ad2 len2 cap2) (.int .i64 R2) (.int .i64 R3));generalize fill6 w8 K1 K2 (.int .i64 k2) (.string x2) (.string a2) (.slice ad2 len2 cap2) (.int .i64 R2) (.int .i64 R3)=WF at HF HTF |-;have j0:WF.cell? ⟨K1,0,none⟩=_:=HF.out.2.1.cell 0;have j1:WF.cell? ⟨K1,1,none⟩=_:=HF.out.2.1.cell 1;have j2:WF.cell? ⟨K1,2,none⟩=_:=HF.out.2.1.cell 2;have j3:WF.cell? ⟨K1,3,none⟩=_:=HF.out.2.1.cell 3;have j4:WF.cell? ⟨K2,0,none⟩=_:=HF.out.2.2.cell 0;have j5:WF.cell? ⟨K2,1,none⟩=_:=HF.out.2.2.cell 1;refine bodyPost_ret (v:=.tuple #[.agg #[.int .i64 k2,.string x2,.string a2,.slice ad2 len2 cap2],.agg #[.int .i64 R2,.int .i64 R3]]) (by simp[results,Tryz.results41,go_sem,j0,j1,j2,j3,j4,j5]) rfl ?_;exact⟨_,rfl,HTF.out,HF.out.1⟩
theorem value_seq (d:Nat) (ar:Int) (c:Int) (x:Ln) (z:Int) (a:Option Addr) (len cap:Nat) (w:World) (hx:x.length<=140737488351232) (hT:Tb w) (har:ar≠64) (hb1:0<=ar) (hb2:ar<=64) (hi:isIt x=true) (q:List Tr × Int × Int) (hq0:q.2.1≠0->q.1=[])
  (HKI:Hid (∀ w0,Below w.heap.size w w0->Calls Tryz.prog 66 #[rV c x z,.slice a len cap,.func (.func 67) #[.int .i64 (ar+1)] #[]] w0 fun e w'=>KiRes d q w0 e w')) :
  Calls Tryz.prog 41 #[.int .i64 ar,rV c x z,.slice a len cap] w fun e w'=>TfD (d+1) (⟨5,[],[],q.1⟩,q.2) w e w':=by
 have HII:Hid (∀ w0,Calls Tryz.prog 65 #[.string (mk x)] w0 fun e w'=>e=.returned (.bool true)/\w0=w'):=fun w0=>by
  have h:=isItem_any x w0 (by omega);rw[hi]at h;exact h
 have HTb:Hid (Tb w):=hT;have harb:(ar==64)=false:=by rw[beq_eq_false_iff_ne];exact har
 clear hT hi har;have N3:Hid (_/\_/\_/\_):=three_new w #[.int .i64 c,.string (mk x),.int .i64 z] zT #[.int .i64 0,.int .i64 0] 52 35 32;go_enter Tryz.func41,Tryz.ntmps41;go_wp2_with fail;change Calls _ _ _ (((w.alloc (.cells #[.int .i64 c,.string (mk x),.int .i64 z] 52)).alloc (.cells zT 35)).alloc (.cells #[.int .i64 0,.int .i64 0] 32)) _;generalize ((w.alloc (.cells #[.int .i64 c,.string (mk x),.int .i64 z] 52)).alloc (.cells zT 35)).alloc (.cells #[.int .i64 0,.int .i64 0] 32)=W at N3 |-;obtain⟨K2,hK2⟩:∃ K,K=w.heap.size+1+1:=⟨_,rfl⟩;obtain⟨K1,hK1⟩:∃ K,K=w.heap.size+1:=⟨_,rfl⟩;obtain⟨K0,hK0⟩:∃ K,K=w.heap.size:=⟨_,rfl⟩
 have HN:Hid (Below w.heap.size w W/\Bx W K0 #[.int .i64 c,.string (mk x),.int .i64 z] 52/\Bx W K1 zT 35/\Bx W K2 #[.int .i64 0,.int .i64 0] 32):=by
  rw[hK0,hK1,hK2];exact N3.out
 rw[<-hK2,<-hK1,<-hK0];have hwW:w.heap.size<=K0/\K0<K1/\K1<K2:=by omega
 have hK2W:K2<W.heap.size:=HN.out.2.2.2.lt;have hn12:K1≠K2:=by omega
 have hn21:K2≠K1:=by omega
 clear N3 hK0 hK1 hK2;refine(HII.out _).mono ?_;rintro e w' ⟨rfl,rfl⟩;have HS:Hid (Below w.heap.size w W/\Bx W K0 #[.int .i64 c,.string (mk x),.int .i64 z] 52/\Bx W K1 zT 35/\Bx W K2 #[.int .i64 0,.int .i64 0] 32/\W.heap.size<=W.heap.size):=⟨HN.out.1,HN.out.2.1,HN.out.2.2.1,HN.out.2.2.2,Nat.le_refl _⟩;clear HN;obtain⟨r0,r1,r2⟩:=HS.out.2.1.c3
 have HKC:Hid (Calls Tryz.prog 66 #[rV c x z,.slice a len cap,.func (.func 67) #[.int .i64 (ar+1)] #[]] W fun e w'=>∃ sa sl sc,e=.returned (.tuple #[.slice sa sl sc,.agg #[.int .i64 q.2.1,.int .i64 q.2.2]])/\Hid (Below W.heap.size W w'/\TrP W.heap.size w' (d+1) (.agg #[.int .i64 5,.string ⟨#[]⟩,.string ⟨#[]⟩,.slice sa sl sc]) ⟨5,[],[],q.1⟩)):=by
  refine(HKI.out W HS.out.1).mono (fun e w' h=> ?_);by_cases hq:q.2.1=0
  ·obtain⟨v,n,xs,h1,h2,h3,h4⟩:=h.2.1 hq;obtain⟨ad,ln,cp,rfl,h5⟩:=TrP.node h2 h4 h3 5 (by decide) [] (by decide);exact⟨ad,ln,cp,h1,h.2.2,h5⟩
  ·rw[hq0 hq];exact⟨none,0,0,h.1 hq,h.2.2,TrP.leaf 5 [] [] (by decide) (by decide) (by decide) d⟩
 clear HKI;obtain⟨q1,qy,qz⟩:=q;go_wp2_with fail;refine HKC.out.mono ?_;rintro e w5 ⟨sa,sl,sc,rfl,H5⟩
 have H6:Hid (∀ w6,w6=w5.alloc (.cells #[.int .i64 qy,.int .i64 qz] 32)->Below w.heap.size w w6/\Bx w6 K1 zT 35/\Bx w6 K2 #[.int .i64 0,.int .i64 0] 32/\Bx w6 w5.heap.size #[.int .i64 qy,.int .i64 qz] 32/\K2<w5.heap.size/\TrP W.heap.size w6 (d+1) (.agg #[.int .i64 5,.string ⟨#[]⟩,.string ⟨#[]⟩,.slice sa sl sc]) ⟨5,[],[],q1⟩):=fun w6 e=>by
  subst e;have b1:=below_alloc w5 (.cells #[.int .i64 qy,.int .i64 qz] 32);have b:=H5.out.1.trans (b1.mono H5.out.1.size);exact⟨HS.out.1.trans (b.mono HS.out.1.size),HS.out.2.2.1.later b,HS.out.2.2.2.1.later b,Bx.new _ _ _,Nat.lt_of_lt_of_le HS.out.2.2.2.1.lt H5.out.1.size,TrP.mono HS.out.2.2.2.2 (H5.out.2.later b1)⟩
 clear H5 HS r0 r1 r2 HKC;go_upto_region 6 with fail
 have N6:=H6.out _ rfl;clear H6;generalize w5.alloc (.cells #[.int .i64 qy,.int .i64 qz] 32)=w6 at N6 |-;generalize w5.heap.size=KF at N6 |-;have HS:Hid (_/\_/\_/\_/\_/\_):=N6;clear N6;obtain⟨i0,i1⟩:=HS.out.2.2.2.1.c2;obtain⟨d0,d1,d2,d3,d4,d5,z0,z1,z2,z3,z4,z5⟩:=c6_of HS.out.2.1 HS.out.2.2.1;have hq5:K2<KF:=HS.out.2.2.2.2.1;have hn1:K1≠KF:=by omega
 have hn2:K2≠KF:=by omega
 have hn3:KF≠K1:=by omega
 have hn4:KF≠K2:=by omega
 have hq1:K1<W.heap.size:=by omega
 have HF:Hid (_/\_/\_):=fill6_is HS.out.2.1 HS.out.2.2.1 hn12 HS.out.1 (by omega) (by omega) (.int .i64 5) (.string ⟨#[]⟩) (.string ⟨#[]⟩) (.slice sa sl sc) (.int .i64 qy) (.int .i64 qz)
 have HTF:Hid (TrP w.heap.size (fill6 w6 K1 K2 (.int .i64 5) (.string ⟨#[]⟩) (.string ⟨#[]⟩) (.slice sa sl sc) (.int .i64 qy) (.int .i64 qz)) (d+1) (.agg #[.int .i64 5,.string ⟨#[]⟩,.string ⟨#[]⟩,.slice sa sl sc]) ⟨5,[],[],q1⟩) :=
  TrP.mono (c:=W.heap.size) (by omega) ((((((HS.out.2.2.2.2.2.set hq1).set hq1).set hq1).set hq1).set hK2W).set hK2W)
 clear HS;go_region
 all_goals
  go_wp2;change bodyPost _ _ _ _ _ (fill6 w6 K1 K2 (.int .i64 5) (.string ⟨#[]⟩) (.string ⟨#[]⟩) (.slice sa sl sc) (.int .i64 qy) (.int .i64 qz)).drew;generalize fill6 w6 K1 K2 (.int .i64 5) (.string ⟨#[]⟩) (.string ⟨#[]⟩) (.slice sa sl sc) (.int .i64 qy) (.int .i64 qz)=WF at HF HTF |-;have j0:WF.drew.cell? ⟨K1,0,none⟩=_:=HF.out.2.1.cell 0;have j1:WF.drew.cell? ⟨K1,1,none⟩=_:=HF.out.2.1.cell 1;have j2:WF.drew.cell? ⟨K1,2,none⟩=_:=HF.out.2.1.cell 2;have j3:WF.drew.cell? ⟨K1,3,none⟩=_:=HF.out.2.1.cell 3;have j4:WF.drew.cell? ⟨K2,0,none⟩=_:=HF.out.2.2.cell 0;have j5:WF.drew.cell? ⟨K2,1,none⟩=_:=HF.out.2.2.cell 1;refine bodyPost_ret (v:=.tuple #[.agg #[.int .i64 5,.string ⟨#[]⟩,.string ⟨#[]⟩,.slice sa sl sc],.agg #[.int .i64 qy,.int .i64 qz]]) (by simp[results,Tryz.results41,go_sem,j0,j1,j2,j3,j4,j5]) rfl ?_;exact⟨_,rfl,HTF.out.later (Below.refl _ _).drew,HF.out.1.drew⟩
theorem value_map (d:Nat) (ar:Int) (c:Int) (x:Ln) (z:Int) (a:Option Addr) (len cap:Nat) (w:World) (hx:x.length<=140737488351232) (hT:Tb w) (har:ar≠64) (hb1:0<=ar) (hb2:ar<=64) (hi:isIt x=false) (he:isEn x=true) (q:List Tr × Int × Int) (hq0:q.2.1≠0->q.1=[])
  (HKI:Hid (∀ w0,Below w.heap.size w w0->Calls Tryz.prog 66 #[rV c x z,.slice a len cap,.func (.func 69) #[.int .i64 (ar+1)] #[]] w0 fun e w'=>KiRes d q w0 e w')) :
  Calls Tryz.prog 41 #[.int .i64 ar,rV c x z,.slice a len cap] w fun e w'=>TfD (d+1) (⟨6,[],[],q.1⟩,q.2) w e w':=by
 have HII:Hid (∀ w0,Calls Tryz.prog 65 #[.string (mk x)] w0 fun e w'=>e=.returned (.bool false)/\w0=w'):=fun w0=>by
  have h:=isItem_any x w0 (by omega);rw[hi]at h;exact h
 have HIE:Hid (∀ w0,Tb w0->Calls Tryz.prog 68 #[.string (mk x)] w0 fun e w'=>e=.returned (.bool true)/\Below w0.heap.size w0 w'):=fun w0 ht=>by
  have h:=isEntry_any x w0 (by omega) ht;rw[he]at h;exact h
 have HTb:Hid (Tb w):=hT;have harb:(ar==64)=false:=by rw[beq_eq_false_iff_ne];exact har
 clear hT hi he har;have N3:Hid (_/\_/\_/\_):=three_new w #[.int .i64 c,.string (mk x),.int .i64 z] zT #[.int .i64 0,.int .i64 0] 52 35 32;go_enter Tryz.func41,Tryz.ntmps41;go_wp2_with fail;change Calls _ _ _ (((w.alloc (.cells #[.int .i64 c,.string (mk x),.int .i64 z] 52)).alloc (.cells zT 35)).alloc (.cells #[.int .i64 0,.int .i64 0] 32)) _;generalize ((w.alloc (.cells #[.int .i64 c,.string (mk x),.int .i64 z] 52)).alloc (.cells zT 35)).alloc (.cells #[.int .i64 0,.int .i64 0] 32)=W at N3 |-;obtain⟨K2,hK2⟩:∃ K,K=w.heap.size+1+1:=⟨_,rfl⟩;obtain⟨K1,hK1⟩:∃ K,K=w.heap.size+1:=⟨_,rfl⟩;obtain⟨K0,hK0⟩:∃ K,K=w.heap.size:=⟨_,rfl⟩
 have HN:Hid (Below w.heap.size w W/\Bx W K0 #[.int .i64 c,.string (mk x),.int .i64 z] 52/\Bx W K1 zT 35/\Bx W K2 #[.int .i64 0,.int .i64 0] 32):=by
  rw[hK0,hK1,hK2];exact N3.out
 rw[<-hK2,<-hK1,<-hK0];have hwW:w.heap.size<=K0/\K0<K1/\K1<K2:=by omega
 have hK2W:K2<W.heap.size:=HN.out.2.2.2.lt;have hn12:K1≠K2:=by omega
 have hn21:K2≠K1:=by omega
 clear N3 hK0 hK1 hK2;refine(HII.out _).mono ?_;rintro e w' ⟨rfl,rfl⟩;obtain⟨r0,r1,r2⟩:=HN.out.2.1.c3;go_wp2_with fail;refine(HIE.out _ (HTb.out.later HN.out.1)).mono ?_;rintro e w4 ⟨rfl,H4⟩;have HS:Hid (Below w.heap.size w w4/\Bx w4 K0 #[.int .i64 c,.string (mk x),.int .i64 z] 52/\Bx w4 K1 zT 35/\Bx w4 K2 #[.int .i64 0,.int .i64 0] 32/\W.heap.size<=w4.heap.size):=⟨HN.out.1.trans (H4.mono HN.out.1.size),HN.out.2.1.later H4,HN.out.2.2.1.later H4,HN.out.2.2.2.later H4,H4.size⟩;clear HN H4 r0 r1 r2;obtain⟨r0,r1,r2⟩:=HS.out.2.1.c3
 have HKC:Hid (Calls Tryz.prog 66 #[rV c x z,.slice a len cap,.func (.func 69) #[.int .i64 (ar+1)] #[]] w4 fun e w'=>∃ sa sl sc,e=.returned (.tuple #[.slice sa sl sc,.agg #[.int .i64 q.2.1,.int .i64 q.2.2]])/\Hid (Below w4.heap.size w4 w'/\TrP w4.heap.size w' (d+1) (.agg #[.int .i64 6,.string ⟨#[]⟩,.string ⟨#[]⟩,.slice sa sl sc]) ⟨6,[],[],q.1⟩)):=by
  refine(HKI.out w4 HS.out.1).mono (fun e w' h=> ?_);by_cases hq:q.2.1=0
  ·obtain⟨v,n,xs,h1,h2,h3,h4⟩:=h.2.1 hq;obtain⟨ad,ln,cp,rfl,h5⟩:=TrP.node h2 h4 h3 6 (by decide) [] (by decide);exact⟨ad,ln,cp,h1,h.2.2,h5⟩
  ·rw[hq0 hq];exact⟨none,0,0,h.1 hq,h.2.2,TrP.leaf 6 [] [] (by decide) (by decide) (by decide) d⟩
 clear HKI;obtain⟨q1,qy,qz⟩:=q;go_wp2_with fail;refine HKC.out.mono ?_;rintro e w5 ⟨sa,sl,sc,rfl,H5⟩
 have H6:Hid (∀ w6,w6=w5.alloc (.cells #[.int .i64 qy,.int .i64 qz] 32)->Below w.heap.size w w6/\Bx w6 K1 zT 35/\Bx w6 K2 #[.int .i64 0,.int .i64 0] 32/\Bx w6 w5.heap.size #[.int .i64 qy,.int .i64 qz] 32/\K2<w5.heap.size/\TrP W.heap.size w6 (d+1) (.agg #[.int .i64 6,.string ⟨#[]⟩,.string ⟨#[]⟩,.slice sa sl sc]) ⟨6,[],[],q1⟩):=fun w6 e=>by
  subst e;have b1:=below_alloc w5 (.cells #[.int .i64 qy,.int .i64 qz] 32);have b:=H5.out.1.trans (b1.mono H5.out.1.size);exact⟨HS.out.1.trans (b.mono HS.out.1.size),HS.out.2.2.1.later b,HS.out.2.2.2.1.later b,Bx.new _ _ _,Nat.lt_of_lt_of_le HS.out.2.2.2.1.lt H5.out.1.size,TrP.mono HS.out.2.2.2.2 (H5.out.2.later b1)⟩
 clear H5 HS r0 r1 r2 HKC;go_upto_region 9 with fail
 have N6:=H6.out _ rfl;clear H6;generalize w5.alloc (.cells #[.int .i64 qy,.int .i64 qz] 32)=w6 at N6 |-;generalize w5.heap.size=KF at N6 |-;have HS:Hid (_/\_/\_/\_/\_/\_):=N6;clear N6;obtain⟨i0,i1⟩:=HS.out.2.2.2.1.c2;obtain⟨d0,d1,d2,d3,d4,d5,z0,z1,z2,z3,z4,z5⟩:=c6_of HS.out.2.1 HS.out.2.2.1;have hq5:K2<KF:=HS.out.2.2.2.2.1;have hn1:K1≠KF:=by omega
 have hn2:K2≠KF:=by omega
 have hn3:KF≠K1:=by omega
 have hn4:KF≠K2:=by omega
 have hq1:K1<W.heap.size:=by omega
 have HF:Hid (_/\_/\_):=fill6_is HS.out.2.1 HS.out.2.2.1 hn12 HS.out.1 (by omega) (by omega) (.int .i64 6) (.string ⟨#[]⟩) (.string ⟨#[]⟩) (.slice sa sl sc) (.int .i64 qy) (.int .i64 qz)
 have HTF:Hid (TrP w.heap.size (fill6 w6 K1 K2 (.int .i64 6) (.string ⟨#[]⟩) (.string ⟨#[]⟩) (.slice sa sl sc) (.int .i64 qy) (.int .i64 qz)) (d+1) (.agg #[.int .i64 6,.string ⟨#[]⟩,.string ⟨#[]⟩,.slice sa sl sc]) ⟨6,[],[],q1⟩) :=
  TrP.mono (c:=W.heap.size) (by omega) ((((((HS.out.2.2.2.2.2.set hq1).set hq1).set hq1).set hq1).set hK2W).set hK2W)
 clear HS;go_region
 all_goals
  go_wp2;change bodyPost _ _ _ _ _ (fill6 w6 K1 K2 (.int .i64 6) (.string ⟨#[]⟩) (.string ⟨#[]⟩) (.slice sa sl sc) (.int .i64 qy) (.int .i64 qz)).drew;generalize fill6 w6 K1 K2 (.int .i64 6) (.string ⟨#[]⟩) (.string ⟨#[]⟩) (.slice sa sl sc) (.int .i64 qy) (.int .i64 qz)=WF at HF HTF |-;have j0:WF.drew.cell? ⟨K1,0,none⟩=_:=HF.out.2.1.cell 0;have j1:WF.drew.cell? ⟨K1,1,none⟩=_:=HF.out.2.1.cell 1;have j2:WF.drew.cell? ⟨K1,2,none⟩=_:=HF.out.2.1.cell 2;have j3:WF.drew.cell? ⟨K1,3,none⟩=_:=HF.out.2.1.cell 3;have j4:WF.drew.cell? ⟨K2,0,none⟩=_:=HF.out.2.2.cell 0;have j5:WF.drew.cell? ⟨K2,1,none⟩=_:=HF.out.2.2.cell 1;refine bodyPost_ret (v:=.tuple #[.agg #[.int .i64 6,.string ⟨#[]⟩,.string ⟨#[]⟩,.slice sa sl sc],.agg #[.int .i64 qy,.int .i64 qz]]) (by simp[results,Tryz.results41,go_sem,j0,j1,j2,j3,j4,j5]) rfl ?_;exact⟨_,rfl,HTF.out.later (Below.refl _ _).drew,HF.out.1.drew⟩
end Tre
end Go.Proofs.YtalijhclfppohaaGreatDoor
