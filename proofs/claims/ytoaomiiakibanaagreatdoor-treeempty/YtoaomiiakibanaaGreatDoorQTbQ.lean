/- . -/
import Derived.Test.YtoaomiiakibanaaGreatDoorQTbL
import Derived.Test.YtoaomiiakibanaaGreatDoorQFbY
import Derived.Test.YtoaomiiakibanaaGreatDoorQFlowRsame
import Derived.ProofKit
import Derived.OpenShut
import Derived.SizedLaws
import Derived.Deep.SlicePairs
import Derived.Lib.SmallJoins
set_option linter.unusedSimpArgs false
set_option linter.unusedVariables false
set_option maxRecDepth 100000
namespace Go.Proofs.YtoaomiiakibanaaGreatDoor
namespace Tre
open Utf Rws Pln Flw
open Go.RowKit
open Blk (Rw RwAt z3 StrsAt rowV rw_own)
set_option maxHeartbeats 4000000
theorem eql_flt (x1 y1 x2 y2:Int) (w:World):(binOp .eql 34 (.agg #[.int .i64 x1,.int .i64 x2]) (.agg #[.int .i64 y1,.int .i64 y2])).run Tryz.prog w=.ok (.bool (x1==y1 && x2==y2)) w:=by
 rw[run_eql_struct,run_equalIn_struct w 9999 34 _ _ (by kernel_rfl) (by kernel_rfl)];cases h1:x1==y1<;>cases h2:x2==y2<;>simp[go_sem,Program.fieldsOf,Tryz.underlying34,Tryz.underlying32,Tryz.underlying3,h1,h2]
theorem rows_ownA {w:World} {B:Nat} {v:Value} {rs:List Rw} (h:w.ownsRow B 40 3 v rs.length (rowV rs)) (hb:∀ r∈rs,r.2.1.length<=140737488351232):∃ a cap,v=.slice a rs.length cap/\RowsA w a rs.length cap rs:=by
 have h2:=h.2;obtain⟨a,cap,rfl,hc,hr,hg⟩:=rw_own h;rcases h2 with ⟨e,h0⟩ | ⟨g,cap2,cur,e,_,_,_,hm,_⟩
 ·simp only[Value.slice.injEq]at e;obtain⟨rfl,e2,rfl⟩:=e;refine⟨none,0,rfl,⟨hr,by omega,Nat.zero_le _,hb⟩,.inr ⟨rfl,h0,rfl⟩⟩
 ·simp only[Value.slice.injEq]at e;obtain⟨rfl,_,rfl⟩:=e;exact⟨_,_,rfl,⟨hr,hc,hm,hb⟩,.inl ⟨_,_,rfl⟩⟩
theorem live_sim:sim 64 liveT:=by
 have l1:∀ (m:Nat) (k:Int) (x:Ln),x.length<=65536->plS k x->sim m ⟨k,x,[],[]⟩:=fun m k x hx h=>by
  cases m with
  | zero=>exact⟨rfl,hx,h⟩
  | succ m=>exact⟨rfl,hx,.inl h⟩
 have l2:∀ (m:Nat) (k:Int) (s t:Tr),k=5\/k=6->sim m s->sim m t->sim (m+1) ⟨k,[],[],[s,t]⟩:=fun m k s t hk hs ht=>⟨rfl,Nat.zero_le _,.inr ⟨hk,fun i hi=>by
  match i,hi with
  | 0,_=>exact hs
  | 1,_=>exact ht
  | n+2,hi=>exact absurd hi (by show ¬ n+2<2;omega)⟩⟩
 have l3:∀ (m:Nat) (x:Ln),x.length<=65536->isP x true=true->knd x=4->sim m ⟨4,x,[],[]⟩:=fun m x hx h1 h2=>l1 m 4 x hx (.inr ⟨rfl,h1,h2⟩)
 exact l2 63 6 _ _ (.inr rfl) (l3 _ _ (by decide) (by kernel_rfl) (by kernel_rfl)) (l2 62 5 _ _ (.inl rfl) (l1 _ _ _ (by decide) (.inl rfl)) (l2 61 6 _ _ (.inr rfl) (l3 _ _ (by decide) (by kernel_rfl) (by kernel_rfl)) (l3 _ _ (by decide) (by kernel_rfl) (by kernel_rfl))))
theorem alive_any {w:World} (hT:Tb w):Calls Tryz.prog 14 #[] w fun e w'=>e=.returned (.bool true)/\Below w.heap.size w w':=by
 have HTb:Hid (Tb w):=hT;have b1:=below_alloc w (.cells #[.string ⟨#[97,58]⟩,.string ⟨#[32,32,45,32,49]⟩,.string ⟨#[32,32,45,32,98,58,32,99]⟩] 9);have x1:=Bx.new w #[.string ⟨#[97,58]⟩,.string ⟨#[32,32,45,32,49]⟩,.string ⟨#[32,32,45,32,98,58,32,99]⟩] 9
 have HN:Hid (Below w.heap.size w (w.alloc (.cells #[.string ⟨#[97,58]⟩,.string ⟨#[32,32,45,32,49]⟩,.string ⟨#[32,32,45,32,98,58,32,99]⟩] 9))/\StrsAt (w.alloc (.cells #[.string ⟨#[97,58]⟩,.string ⟨#[32,32,45,32,49]⟩,.string ⟨#[32,32,45,32,98,58,32,99]⟩] 9)) (some ⟨w.heap.size,0,none⟩) 3 [[97,58],[32,32,45,32,49],[32,32,45,32,98,58,32,99]]):=by
  refine⟨b1,rfl,fun _=>⟨w.heap.size,0,rfl,x1.lt,fun i hi=> ?_⟩⟩
  match i,hi with
  | 0,_=>exact x1.cell 0
  | 1,_=>exact x1.cell 1
  | 2,_=>exact x1.cell 2
  | n+3,hi=>omega
 clear b1 x1 hT;go_enter Tryz.func14,Tryz.ntmps14;go_wp2_with fail;generalize w.alloc (.cells #[.string ⟨#[97,58]⟩,.string ⟨#[32,32,45,32,49]⟩,.string ⟨#[32,32,45,32,98,58,32,99]⟩] 9)=W at HN |-;refine(rowsOf_any (some ⟨w.heap.size,0,none⟩) 3 3 [[97,58],[32,32,45,32,49],[32,32,45,32,98,58,32,99]] W HN.out.2 (by decide) (by decide) (by decide) (by decide)).mono ?_;rintro e w2 ⟨⟨v,rfl,hown⟩,hb2⟩;rw[live_rows]at hown;obtain⟨a,cap,rfl,hra⟩:=rows_ownA (rs:=rows0) hown (by decide);have HB2:Hid (Below w.heap.size w w2):=HN.out.1.trans (hb2.mono HN.out.1.size)
 have HPA:Hid (Calls Tryz.prog 17 #[.slice a 3 cap] w2 fun e w'=>TfD 129 (liveT,0,0) w2 e w'):=by
  have h:=parse_any 100 a 3 cap rows0 w2 (HTb.out.later HB2.out) hra.1 live_good (by decide);rw[live_pa]at h;exact h
 clear hra hown hb2 HN;go_wp2_with fail;refine HPA.out.mono ?_;rintro e w3 ⟨v,rfl,ht,hb3⟩;obtain⟨k2,x2,a2,ad2,len2,cap2,rfl⟩:=ht.cells
 have H5:Hid (∀ w5,w5=(w3.alloc (.cells #[.int .i64 k2,.string x2,.string a2,.slice ad2 len2 cap2] 26)).alloc (.cells #[.int .i64 0,.int .i64 0] 34)->Below w.heap.size w w5/\Bx w5 w3.heap.size #[.int .i64 k2,.string x2,.string a2,.slice ad2 len2 cap2] 26/\Bx w5 (w3.heap.size+1) #[.int .i64 0,.int .i64 0] 34/\TrV w5 129 (.agg #[.int .i64 k2,.string x2,.string a2,.slice ad2 len2 cap2]) liveT):=fun w5 e=>by
  subst e;have h2:=two_b w3 #[.int .i64 k2,.string x2,.string a2,.slice ad2 len2 cap2] #[.int .i64 0,.int .i64 0] 26 34;have b:=hb3.trans (h2.1.mono hb3.size);exact⟨HB2.out.trans (b.mono HB2.out.size),h2.2.1,h2.2.2,TrP.v (ht.later h2.1)⟩
 clear ht hb3 HB2 HPA;go_upto_region 2 with fail
 have N5:=H5.out _ rfl;clear H5;generalize (w3.alloc (.cells #[.int .i64 k2,.string x2,.string a2,.slice ad2 len2 cap2] 26)).alloc (.cells #[.int .i64 0,.int .i64 0] 34)=w5 at N5 |-;generalize w3.heap.size+1=KF at N5 |-;generalize w3.heap.size=KT at N5 |-;have HS:Hid (_/\_/\_/\_):=N5;clear N5;obtain⟨t0,t1,t2,t3⟩:=HS.out.2.1.c4
 have HWR:Hid (Calls Tryz.prog 33 #[.agg #[.int .i64 k2,.string x2,.string a2,.slice ad2 len2 cap2]] w5 fun e w'=>e=.returned (.tuple #[.string (mk [123,97,58,32,91,49,44,32,123,98,58,32,99,125,93,125]),.int .i64 0])/\Below w5.heap.size w5 w'):=by
  have h:=writeS live_bri HS.out.2.2.2 (HTb.out.later HS.out.1) live_sim live_rgh (by rw[live_wr];decide);rw[live_wr]at h;exact h
 go_wp2_with fail;refine HWR.out.mono ?_;rintro e w6 ⟨rfl,H6⟩;have e6:=HS.out.2.2.1.later H6;obtain⟨f0,f1⟩:=e6.c2;have HBF:Hid (Below w.heap.size w w6):=HS.out.1.trans (H6.mono HS.out.1.size);have heq:=eql_flt 0 0 0 0 w6;have hmk:mk [123,97,58,32,91,49,44,32,123,98,58,32,99,125,93,125]=⟨#[123,97,58,32,91,49,44,32,123,98,58,32,99,125,93,125]⟩:=rfl;clear HS H6 t0 t1 t2 t3 e6 HWR;rw[hmk];clear hmk;go_wp2;go_ret;exact⟨rfl,HBF.out⟩
end Tre
namespace Tre
open Utf Rws Pln Flw
open Go.RowKit
open Blk (Rw RwAt z3 StrsAt rowV rw_own)
set_option maxHeartbeats 4000000
theorem rEmp_any (c k:Int) (t:List UInt8) (w:World):Calls Tryz.prog 21 #[.agg #[.int .i64 c,.string (mk t),.int .i64 k]] w fun e w'=>e=.returned (.bool (noth t))/\Below w.heap.size w w':=by
 cases t with
 | nil =>
  have hz:mk []=ByteArray.empty:=rfl;go_enter Tryz.func21,Tryz.ntmps21;go_wp2;go_ret;exact⟨rfl,(Below.refl _ _).alloc (Nat.le_refl _) _⟩
 | cons b r =>
  have hne:((mk (b::r)).toList==[])=false:=by rw[ByteArray.toList_eq,mk_data];rfl
  have hsz:(mk (b::r)).size=r.length+1:=by rw[mk_size];simp
  have hg:∀ h,(mk (b::r))[0]'h=b:=fun h=>by rw[mk_get];rfl
  have hb:=Pln.b35 b
  have HE:Hid (noth (b::r)=(b==35)):=by
   show noth (b::r)=(b==35);unfold noth;rw[hd_cons];simp
  go_enter Tryz.func21,Tryz.ntmps21;go_wp2;go_ret;rw[HE.out];exact⟨rfl,(Below.refl _ _).alloc (Nat.le_refl _) _⟩
theorem neq_flt (x1 y1 x2 y2:Int) (w:World):(binOp .neq 34 (.agg #[.int .i64 x1,.int .i64 x2]) (.agg #[.int .i64 y1,.int .i64 y2])).run Tryz.prog w=.ok (.bool (!(x1==y1 && x2==y2))) w:=by
 rw[run_neq_struct,run_equalIn_struct w 9999 34 _ _ (by kernel_rfl) (by kernel_rfl)];cases h1:x1==y1<;>cases h2:x2==y2<;>simp[go_sem,Program.fieldsOf,Tryz.underlying34,Tryz.underlying32,Tryz.underlying3,h1,h2]
def nul:Tr:=⟨1,[],[],[]⟩
theorem cnt_none {rs:List Rw} (h:∀ r∈rs,noth r.2.1=true):cnt rs=[]:=by
 unfold cnt
 induction rs with
 | nil=>rfl
 | cons r t ih =>
  rw[List.dropWhile_cons,if_pos (h r (by simp))];exact ih (fun x hx=>h x (by simp[hx]))
theorem pa_may (n:Nat) (rs:List Rw) (hg:Good rs):(∃ q a,paM n rs=(tr0,q,a)/\q≠0)\/(∃ t,paM n rs=(t,0,0)/\rgh 129 t=true/\brT 129 t/\((∀ r∈rs,noth r.2.1=true)->t=nul)):=by
 have hbr:brT 129 (beM (vaM n 0) false top rs).1:=beM_bri (by decide) hg.txt (by decide) (fun r rest hs=>vaM_bri n 0 r rest (by decide) (by decide) (hg.txt r (hs.subset (by simp))) (hg.sub ((List.suffix_cons r rest).trans hs).isInfix))
 have hnu:(∀ r∈rs,noth r.2.1=true)->(beM (vaM n 0) false top rs).1=nul:=fun h=>by
  have hq:hds false (rs.length+1) top.1.1 rs=([],[],0,0):=by rw[hds,cnt_none h]
  unfold beM;dsimp only;rw[hq];rfl
 unfold paM;generalize beM (vaM n 0) false top rs=R at *;by_cases h1:R.2.1≠0
 ·rw[if_pos h1];exact .inl ⟨_,_,rfl,h1⟩
 ·rw[if_neg h1];by_cases h2:rgh 129 R.1=false
  ·rw[if_pos h2];exact .inl ⟨_,_,rfl,by decide⟩
  ·rw[if_neg h2];exact .inr ⟨_,rfl,by simpa using h2,hbr,hnu⟩
theorem trv_leaf (w:World) (k:Int) (h: -9223372036854775808<=k/\k<=9223372036854775807):TrV w 1 (.agg #[.int .i64 k,.string ⟨#[]⟩,.string ⟨#[]⟩,.slice none 0 0]) ⟨k,[],[],[]⟩ :=
 ⟨none,0,0,rfl,rfl,Nat.le_refl _,Nat.zero_le _,⟨h.1,h.2,by simp,by simp⟩,fun h=>absurd h (by decide)⟩
def TArg (W:World) (a:Option Addr) (len cap:Nat) (rs:List Rw):Prop:=RowsIn W a len cap rs/\∀ r∈rs,-9223372036854775808<=r.1/\r.1<=9223372036854775807
theorem good_wid {rs:List Rw} (h:widR rs=false) (hc:∀ r∈rs,-9223372036854775808<=r.1):Good rs/\msr rs<7000/\rs.length<=300:=by
 obtain⟨h1,h2,h3⟩:=widR_no h;refine⟨good_of (by omega) (by omega) (fun r hr=>⟨hc r hr,by have:=h3 r hr;omega⟩),?_,h1⟩;rw[msr_sum];omega
theorem may_bad {T:Tr} {q z:Int} (hT0:T=tr0) (hq:q≠0) (a:Option Addr) (len cap:Nat) (rs:List Rw) (w:World) (hR:RowsIn w a len cap rs) (hT:Tb w) (hl:len<=300)
  (HAL:Hid (∀ w0,Below w.heap.size w w0->Calls Tryz.prog 14 #[] w0 fun e w'=>e=.returned (.bool true)/\Hid (Below w.heap.size w w')))
  (HW:Hid (Calls Tryz.prog 20 #[.slice a len cap] w fun e w'=>e=.returned (.bool false)/\Hid (Below w.heap.size w w')))
  (HP:Hid (∀ w0,Below w.heap.size w w0->Calls Tryz.prog 17 #[.slice a len cap] w0 fun e w'=>TfD 129 (T,q,z) w0 e w')) :
  Calls Tryz.prog 8 #[.slice a len cap] w fun e w'=>e=.returned (.bool true)/\Below w.heap.size w w':=by
 go_enter Tryz.func8,Tryz.ntmps8;go_wp2_with fail;refine HW.out.mono ?_;rintro e w1 ⟨rfl,H1⟩;go_wp2_with fail;refine(HP.out w1 H1.out).mono ?_;rintro e w3 ⟨v,rfl,ht,hb3⟩;obtain⟨k2,x2,a2,ad2,len2,cap2,rfl⟩:=ht.cells
 have H5:Hid (∀ w5,w5=(w3.alloc (.cells #[.int .i64 k2,.string x2,.string a2,.slice ad2 len2 cap2] 26)).alloc (.cells #[.int .i64 q,.int .i64 z] 34)->Below w.heap.size w w5/\Bx w5 w3.heap.size #[.int .i64 k2,.string x2,.string a2,.slice ad2 len2 cap2] 26/\Bx w5 (w3.heap.size+1) #[.int .i64 q,.int .i64 z] 34/\TrV w5 129 (.agg #[.int .i64 k2,.string x2,.string a2,.slice ad2 len2 cap2]) T):=fun w5 e=>by
  subst e;have h2:=two_b w3 #[.int .i64 k2,.string x2,.string a2,.slice ad2 len2 cap2] #[.int .i64 q,.int .i64 z] 26 34;have b:=hb3.trans (h2.1.mono hb3.size);exact⟨H1.out.trans (b.mono H1.out.size),h2.2.1,h2.2.2,TrP.v (ht.later h2.1)⟩
 clear ht hb3 HW HP;go_upto_region 4 with fail
 have N5:=H5.out _ rfl;clear H5;generalize (w3.alloc (.cells #[.int .i64 k2,.string x2,.string a2,.slice ad2 len2 cap2] 26)).alloc (.cells #[.int .i64 q,.int .i64 z] 34)=w5 at N5 |-;generalize w3.heap.size+1=KF at N5 |-;generalize w3.heap.size=KT at N5 |-;have HS:Hid (_/\_/\_/\_):=N5;clear N5 H1;obtain⟨t0,t1,t2,t3⟩:=HS.out.2.1.c4;obtain⟨f0,f1⟩:=HS.out.2.2.1.c2;have he:=neq_flt q 0 z 0;have hqb:(!(q==0 && z==0))=true:=by simp[hq]
 rw[hqb]at he;have hqn:(q != 0)=true:=by simp[hq]
 have HSA:Hid (Calls Tryz.prog 13 #[.agg #[.int .i64 k2,.string x2,.string a2,.slice ad2 len2 cap2],.agg #[.int .i64 0,.string ⟨#[]⟩,.string ⟨#[]⟩,.slice none 0 0]] w5 fun e w'=>e=.returned (.bool true)/\Hid (Below w5.heap.size w5 w')):=by
  have h:=HS.out.2.2.2;rw[hT0]at h;exact(rsame_any _ _ _ _ _ _ w5 h (trv_leaf w5 0 (by decide))).mono (fun e w' g=>by obtain⟨y,e1,hy,hb⟩:=g;rw[hy.2 rfl]at e1;exact⟨e1,hb⟩)
 clear hqb hT0;go_wp2_with fail;refine HSA.out.mono ?_;rintro e w7 ⟨rfl,H7⟩;have B7:Hid (Below w.heap.size w w7):=HS.out.1.trans (H7.out.mono HS.out.1.size);have g0:w7.cell? ⟨KF,0,none⟩=some (.int .i64 q):=(HS.out.2.2.1.later H7.out).cell 0;clear HSA t0 t1 t2 t3 f0 f1;go_wp2_with fail;refine(HAL.out w7 B7.out).mono ?_;rintro e w8 ⟨rfl,H8⟩;go_wp2;go_ret;exact⟨rfl,H8.out⟩
theorem may_ok {T:Tr} {q z:Int} (hq:q=0) (hz:z=0) (hr:rgh 129 T=true) (hbr:brT 129 T) (a:Option Addr) (len cap:Nat) (rs:List Rw) (w:World) (hnu:(∀ r∈rs,noth r.2.1=true)->T=nul) (hR:RowsIn w a len cap rs) (hT:Tb w) (hl:len<=300)
  (HAL:Hid (∀ w0,Below w.heap.size w w0->Calls Tryz.prog 14 #[] w0 fun e w'=>e=.returned (.bool true)/\Hid (Below w.heap.size w w')))
  (HW:Hid (Calls Tryz.prog 20 #[.slice a len cap] w fun e w'=>e=.returned (.bool false)/\Hid (Below w.heap.size w w')))
  (HP:Hid (∀ w0,Below w.heap.size w w0->Calls Tryz.prog 17 #[.slice a len cap] w0 fun e w'=>TfD 129 (T,q,z) w0 e w')) :
  Calls Tryz.prog 8 #[.slice a len cap] w fun e w'=>e=.returned (.bool true)/\Below w.heap.size w w':=by
 subst hq hz;have HRW:Hid (RwAt w a len rs):=hR.1;have HRG:Hid (rgh 129 T=true/\brT 129 T):=⟨hr,hbr⟩;have HNU:Hid ((∀ r∈rs,noth r.2.1=true)->T=nul):=hnu;have HTb:Hid (Tb w):=hT;have hcl:len<=cap:=hR.2.1;have hcm:cap<=9223372036854775807:=hR.2.2.1;clear hR hr hbr hnu hT;go_enter Tryz.func8,Tryz.ntmps8;go_wp2_with fail;refine HW.out.mono ?_;rintro e w1 ⟨rfl,H1⟩;go_wp2_with fail;refine(HP.out w1 H1.out).mono ?_;rintro e w3 ⟨v,rfl,ht,hb3⟩;obtain⟨k2,x2,a2,ad2,len2,cap2,rfl⟩:=ht.cells
 have H5:Hid (∀ w5,w5=(w3.alloc (.cells #[.int .i64 k2,.string x2,.string a2,.slice ad2 len2 cap2] 26)).alloc (.cells #[.int .i64 0,.int .i64 0] 34)->Below w.heap.size w w5/\Bx w5 w3.heap.size #[.int .i64 k2,.string x2,.string a2,.slice ad2 len2 cap2] 26/\Bx w5 (w3.heap.size+1) #[.int .i64 0,.int .i64 0] 34/\TrV w5 129 (.agg #[.int .i64 k2,.string x2,.string a2,.slice ad2 len2 cap2]) T):=fun w5 e=>by
  subst e;have h2:=two_b w3 #[.int .i64 k2,.string x2,.string a2,.slice ad2 len2 cap2] #[.int .i64 0,.int .i64 0] 26 34;have b:=hb3.trans (h2.1.mono hb3.size);exact⟨H1.out.trans (b.mono H1.out.size),h2.2.1,h2.2.2,TrP.v (ht.later h2.1)⟩
 clear ht hb3 HW HP;go_upto_region 4 with fail
 have N5:=H5.out _ rfl;clear H5;generalize (w3.alloc (.cells #[.int .i64 k2,.string x2,.string a2,.slice ad2 len2 cap2] 26)).alloc (.cells #[.int .i64 0,.int .i64 0] 34)=w5 at N5 |-;generalize w3.heap.size+1=KF at N5 |-;generalize w3.heap.size=KT at N5 |-;have HS:Hid (_/\_/\_/\_):=N5;clear N5 H1;obtain⟨t0,t1,t2,t3⟩:=HS.out.2.1.c4;obtain⟨f0,f1⟩:=HS.out.2.2.1.c2;have he:=neq_flt 0 0 0 0;go_wp2_with fail
 go_loopw [31] (fun ui wr=>∃ j:Nat,j<=len/\ui=.int .i64 (j:Int)/\Hid (Below w5.heap.size w5 wr/\∀ i,i<j->noth (rs.getD i z3).2.1=true)) (fun ui _=>len-(intOf ui).toNat)
 case atStart=>exact⟨0,Nat.zero_le _,rfl,Below.refl _ _,fun i hi=>absurd hi (Nat.not_lt_zero _)⟩
 case round =>
  clear t0 t1 t2 t3 f0 f1;obtain⟨j,hj,rfl,HL⟩:=hrel;by_cases hlt:j<len
  ·obtain⟨b,off,had,hb,hcell⟩:=HRW.out.2 (by omega);obtain⟨x0,x1,x2'⟩:=hcell j hlt;subst had;have HB1:Hid (Below w.heap.size w wr):=HS.out.1.trans (HL.out.1.mono HS.out.1.size);have c0:=(HB1.out.cell (p:=⟨b,off+j*3,none⟩) hb).trans x0;have c1:=(HB1.out.cell (p:=⟨b,off+j*3+1,none⟩) hb).trans x1;have c2:=(HB1.out.cell (p:=⟨b,off+j*3+2,none⟩) hb).trans x2'
   have HZ:Hid (∀ i,i<j+1->noth (rs.getD j z3).2.1=true->noth (rs.getD i z3).2.1=true):=fun i hi h=>by
    by_cases e:i=j
    ·rw[e];exact h
    ·exact HL.out.2 i (by omega)
   obtain⟨x,hx⟩:∃ x,x=rs.getD j z3:=⟨_,rfl⟩;rw[<-hx]at c0 c1 c2 HZ;obtain⟨y1,y2,y3⟩:=x;simp only at c0 c1 c2 HZ;clear x0 x1 x2' hcell hb hx;have HA:Hid (Below w5.heap.size w5 (wr.alloc (.cells #[.int .i64 y1,.string (mk y2),.int .i64 y3] 40))):=HL.out.1.trans ((below_alloc wr _).mono HL.out.1.size);go_wp2_with fail;refine(rEmp_any y1 y3 y2 _).mono ?_;rintro e w6 ⟨rfl,h6⟩;have H6:Hid (Below w5.heap.size w5 w6):=HA.out.trans (h6.mono HA.out.size);clear h6 HA c0 c1 c2 HB1;by_cases hn:noth y2=true
   ·have HZ2:Hid (∀ i,i<j+1->noth (rs.getD i z3).2.1=true):=fun i hi=>HZ.out i hi hn
    rw[hn];clear hn HZ;go_wp2;go_roundw
    case rel=>exact⟨j+1,by omega,by go_num,H6.out,HZ2.out⟩
    case measure=>(simp[intOf]<;>omega)
   ·have hn0:noth y2=false:=by simpa using hn
    rw[hn0];clear hn hn0 HZ;have b6:=HS.out.2.1.later H6.out;obtain⟨u0,u1,u2,u3⟩:=b6.c4;have B6:Hid (Below w.heap.size w w6):=HS.out.1.trans (H6.out.mono HS.out.1.size)
    have HRI:Hid (Calls Tryz.prog 16 #[.agg #[.int .i64 k2,.string x2,.string a2,.slice ad2 len2 cap2]] w6 fun e w'=>e=.returned (.bool true)/\Hid (Below w.heap.size w w')):=by
     have h:=right_big HRG.out.2 (HS.out.2.2.2.later H6.out (Nat.le_refl _)) (HTb.out.later B6.out);rw[HRG.out.1]at h;exact h.mono (fun e w' g=>⟨g.1,B6.out.trans (g.2.mono B6.out.size)⟩)
    clear b6;go_wp2_with fail;refine HRI.out.mono ?_;rintro e w7 ⟨rfl,B7⟩;clear HRI u0 u1 u2 u3;go_wp2_with fail;refine(HAL.out w7 B7.out).mono ?_;rintro e w8 ⟨rfl,H8⟩;go_wp2;go_ret;exact⟨rfl,H8.out⟩
  ·have hjl:j=len:=by omega
   have b6:=HS.out.2.1.later HL.out.1;obtain⟨u0,u1,u2,u3⟩:=b6.c4;have B6:Hid (Below w.heap.size w wr):=HS.out.1.trans (HL.out.1.mono HS.out.1.size)
   have HSA:Hid (Calls Tryz.prog 13 #[.agg #[.int .i64 k2,.string x2,.string a2,.slice ad2 len2 cap2],.agg #[.int .i64 1,.string ⟨#[]⟩,.string ⟨#[]⟩,.slice none 0 0]] wr fun e w'=>e=.returned (.bool true)/\Hid (Below w.heap.size w w')):=by
    have h:=HS.out.2.2.2.later HL.out.1 (Nat.le_refl _)
    rw[HNU.out (fun r hr=>by
     obtain⟨i,hi,rfl⟩:=List.getElem_of_mem hr;have hlen:=HRW.out.1;have:=HL.out.2 i (by omega)
     rwa [List.getD_eq_getElem?_getD,List.getElem?_eq_getElem hi]at this)]at h
    exact(rsame_any _ _ _ _ _ _ wr h (trv_leaf wr 1 (by decide))).mono (fun e w' g=>by obtain⟨y,e1,hy,hb⟩:=g;rw[hy.2 rfl]at e1;exact⟨e1,B6.out.trans (hb.mono B6.out.size)⟩)
   clear b6 hjl;go_wp2_with fail;refine HSA.out.mono ?_;rintro e w7 ⟨rfl,B7⟩;clear HSA u0 u1 u2 u3;go_wp2_with fail;refine(HAL.out w7 B7.out).mono ?_;rintro e w8 ⟨rfl,H8⟩;go_wp2;go_ret;exact⟨rfl,H8.out⟩
theorem may_walk (a:Option Addr) (len cap:Nat) (rs:List Rw) (w:World) (h:TArg w a len cap rs) (hT:Tb w) :
  Calls Tryz.prog 8 #[.slice a len cap] w fun e w'=>e=.returned (.bool true)/\Below w.heap.size w w':=by
 have HAL:Hid (∀ w0,Below w.heap.size w w0->Calls Tryz.prog 14 #[] w0 fun e w'=>e=.returned (.bool true)/\Hid (Below w.heap.size w w')):=fun w0 b=>(alive_any (hT.later b)).mono (fun e w' h=>⟨h.1,b.trans (h.2.mono b.size)⟩)
 have HW:=wide_any a len cap rs w h.1.1 h.1.2.1 h.1.2.2.1 h.1.2.2.2
 cases hw:widR rs with
 | true =>
  rw[hw]at HW;have HW2:Hid (Calls Tryz.prog 20 #[.slice a len cap] w fun e w'=>e=.returned (.bool true)/\Below w.heap.size w w'):=HW;clear HW;clear hw h hT;go_enter Tryz.func8,Tryz.ntmps8;go_wp2_with fail;refine HW2.out.mono ?_;rintro e w1 ⟨rfl,h1⟩;have B7:Hid (Below w.heap.size w w1):=h1;clear h1;go_wp2_with fail;refine(HAL.out w1 B7.out).mono ?_;rintro e w8 ⟨rfl,H8⟩;go_wp2;go_ret;exact⟨rfl,H8.out⟩
 | false =>
  rw[hw]at HW;obtain⟨hg,hm,h300⟩:=good_wid hw (fun r hr=>(h.2 r hr).1);have hl:len<=300:=by have:=h.1.1.1;omega
  have HP:∀ w0,Below w.heap.size w w0->Calls Tryz.prog 17 #[.slice a len cap] w0 fun e w'=>TfD 129 (paM 7000 rs) w0 e w':=fun w0 hb=>parse_any 7000 a len cap rs w0 (hT.later hb) (h.1.later hb) hg hm
  rcases pa_may 7000 rs hg with ⟨q,z,e,hq⟩ | ⟨t,e,hr,hbr,hnu⟩
  ·rw[e]at HP;exact may_bad rfl hq a len cap rs w h.1 hT hl HAL (HW.mono (fun e w' g=>⟨g.1,g.2⟩)) HP
  ·rw[e]at HP;exact may_ok rfl rfl hr hbr a len cap rs w hnu h.1 hT hl HAL (HW.mono (fun e w' g=>⟨g.1,g.2⟩)) HP
end Tre
namespace Tre
open Go.ChangeShapes Go.WideShapes Go.ChangeAt Go.RowKit
open Rws (mk mk_data mk_size mk_of mk_ext mk_get mk_inj)
open Blk (Rw RwAt z3)
theorem weights_all {H:Type} {P:Program} {e:TypeId}:∀ {ds:List (DataW H)} {d:DataW H},d∈ds->∀ n∈d.weights P e,n∈DataW.weightsAll P e ds
 | [],d,h,_,_=>by cases h
 | x::r,d,h,n,hn=>by
  simp only[DataW.weightsAll,List.mem_append];rcases List.mem_cons.1 h with rfl | h
  ·exact .inl hn
  ·exact .inr (weights_all h n hn)
theorem sized_in {H:Type} {P:Program} {ts:List TypeId} {ds:List (DataW H)} (h:(DataW.weightsEach P ts ds).all (· <= reachBytes)=true) {j:Nat} {t e:TypeId} {elems spare:List (DataW H)} (ht:ts[j]?=some t) (hd:ds[j]?=some (.slice elems spare)) (hu:P.underlying t=some (.slice e)) :
  ∀ d∈elems,∀ n∈d.weights P e,n<=reachBytes:=by
 intro d hd' n hn
 have:=List.all_eq_true.1 h _ (DataW.weights_mem_each ht hd n (by
  simp only[DataW.weights,hu,List.mem_cons,List.mem_append];exact .inr (.inl (weights_all hd' n hn))))
 simpa using this
def dat {H:Type} (r:Rw):DataW H:=.agg [.lit (.int .i64 r.1),.lit (.string r.2.1),.lit (.int .i64 r.2.2)]
theorem came_trows {H:Type} {enc:TypeId × Value->H} {W:World} {fuel:Nat} {a:Option Addr} {len cap:Nat} {x:DataW H × List MemPlace}
  (hf:DataW.trod enc Tryz.prog W 0 (fun _=>true) true fuel 41 [.slice a len cap]=some x)
  (hs:∀ elems spare,x.1=.slice elems spare->∀ d∈elems,∀ n∈d.weights Tryz.prog 40,n<=reachBytes):∃ rs,TArg W a len cap rs/\(a=none->cap=0):=by
 have ce:Tryz.prog.cellsOf 40=3:=by kernel_rfl
 have ci:Tryz.prog.cellsOf 3=1:=by kernel_rfl
 have cst:Tryz.prog.cellsOf 9=1:=by kernel_rfl
 rcases Deep.open_slice Tryz.underlying41 hf with ⟨hcs,_⟩ | ⟨ad,len',cap',m,n,D,Pl,hcs,hb,hl,hm,hmm,rfl,hx⟩
 ·simp at hcs;obtain⟨rfl,rfl,rfl⟩:=hcs;exact⟨[],⟨⟨⟨rfl,fun h=>absurd h (by decide)⟩,Nat.le_refl _,Nat.zero_le _,fun x h=>by cases h⟩,fun x h=>by cases h⟩,fun _=>rfl⟩
 simp at hcs;obtain⟨rfl,rfl,rfl⟩:=hcs;have hlm:len<=m:=by rw[hmm];split<;>omega
 have each:∀ i,i<m->∃ q:Rw,W.cell? (ad.add (i*3))=some (.int .i64 q.1)/\W.cell? (ad.add (i*3+1))=some (.string (mk q.2.1))/\W.cell? (ad.add (i*3+2))=some (.int .i64 q.2.2)/\D i=dat q/\ -9223372036854775808<=q.1/\q.1<=9223372036854775807:=by
  intro i hi;obtain⟨cs',h1,h2⟩:=hx i hi;rw[ce]at h1;obtain⟨_,hlen,hcell⟩:=World.cells?_some h1;obtain⟨y0,y1,y2,k,hxy,_,g0,g1,g2⟩:=Deep.trod_struct3 Tryz.underlying40 h2;simp only[ci,cst]at g0 g1 g2
  match cs',hlen with
  | [v0,v1,v2],_ =>
   simp at g0 g1 g2;obtain⟨z0,e0,d0,w0⟩:=DataW.trod_int Tryz.underlying3 g0;obtain⟨z1,e1,d1,_⟩:=DataW.trod_string Tryz.underlying9 g1;obtain⟨z2,e2,d2,_⟩:=DataW.trod_int Tryz.underlying3 g2;cases e0;cases e1;cases e2;have c0:=hcell 0 (by omega);have c1:=hcell 1 (by omega);have c2:=hcell 2 (by omega);rw[Deep.add_add]at c0 c1 c2;simp only[Prod.mk.injEq]at hxy;refine⟨(z0,z1.data.toList,z2),by simpa using c0,by rw[mk_of];simpa using c1,by simpa using c2,?_,(bounds_i64 w0).1,(bounds_i64 w0).2⟩;rw[hxy.1,d0,d1,d2];rfl
 have inh:Inhabited Rw:=⟨z3⟩;obtain⟨q,hq⟩:=Deep.choose_lt each;refine⟨(List.range len).map q,⟨⟨⟨by simp,fun hp=> ?_⟩,hl,hm,?_⟩,fun r hr=> ?_⟩,fun e=>by cases e⟩
 ·obtain⟨b,off,spot⟩:=ad;have hspot:spot=none:=by simpa [Addr.add]using World.cell?_spot (hq 0 (by omega)).1
  subst hspot;refine⟨b,off,rfl,World.block_lt_of_cell? W ⟨b,off+0*3,none⟩ (by have:=(hq 0 (by omega)).1;rwa [Blk.add_plain]at this),fun i hi=> ?_⟩;obtain⟨c0,c1,c2,_⟩:=hq i (by omega);rw[Blk.add_plain]at c0 c1 c2
  have e:((List.range len).map q).getD i z3=q i:=by
   rw[List.getD_eq_getElem?_getD,List.getElem?_map,List.getElem?_range hi];rfl
  rw[e];exact⟨c0,c1,c2⟩
 ·intro r hr;obtain⟨i,hi,rfl⟩:=List.mem_map.1 hr;have hi':=List.mem_range.1 hi;obtain⟨_,_,_,hd,hle⟩:=hq i (by omega)
  have:=hs _ _ rfl (D i) (List.mem_map.2 ⟨i,hi,rfl⟩) (q i).2.1.length (by
   rw[hd];unfold dat;simp[DataW.weights,Tryz.underlying40,DataW.weightsEach])
  simp only[reachBytes]at this;omega
 ·obtain⟨i,hi,rfl⟩:=List.mem_map.1 hr;have hi':=List.mem_range.1 hi;exact(hq i (by omega)).2.2.2.2
end Tre
end Go.Proofs.YtoaomiiakibanaaGreatDoor
