/- . -/
import Derived.Test.YtommfbbpomfnfaaGreatDoorQTbL
import Derived.Test.YtommfbbpomfnfaaGreatDoorQFbW
set_option linter.unusedSimpArgs false
set_option linter.unusedVariables false
set_option maxRecDepth 100000
namespace Go.Proofs.YtommfbbpomfnfaaGreatDoor
namespace Tre
open Utf Rws Pln Flw
open Go.RowKit
open Blk (Rw RwAt z3 StrsAt rowV rw_own)
set_option maxHeartbeats 4000000
theorem eql_flt (x1 y1 x2 y2:Int) (w:World):(binOp .eql 34 (.agg #[.int .i64 x1,.int .i64 x2]) (.agg #[.int .i64 y1,.int .i64 y2])).run Tryz.prog w=.ok (.bool (x1==y1 && x2==y2)) w:=by
 rw[run_eql_struct,run_equalIn_struct w 9999 34 _ _ (by kernel_rfl) (by kernel_rfl)];cases h1:x1==y1<;>cases h2:x2==y2<;>simp[go_sem,Program.fieldsOf,Tryz.underlying34,Tryz.underlying32,Tryz.underlying3,h1,h2]
theorem rows_ownA {w:World} {B:Nat} {v:Value} {rs:List Rw} (h:w.ownsRow B 40 3 v rs.length (rowV rs)) (hb:∀ r∈rs,r.2.1.length<=140737488351232):∃ a cap,v=.slice a rs.length cap/\RowsA w a rs.length cap rs:=by
 have h2:=h.2;obtain⟨a,cap,rfl,hc,hr,hg⟩:=rw_own h;rcases h2 with ⟨e,h0⟩ | ⟨g,cap2,cur,e,_,_,_,hm,_⟩
 ·simp only[Value.slice.injEq]at e;obtain⟨rfl,e2,rfl⟩:=e;refine⟨none,0,rfl,⟨hr,by omega,Nat.zero_le _,hb⟩,.inr ⟨rfl,h0,rfl⟩⟩
 ·simp only[Value.slice.injEq]at e;obtain⟨rfl,_,rfl⟩:=e;exact⟨_,_,rfl,⟨hr,hc,hm,hb⟩,.inl ⟨_,_,rfl⟩⟩
theorem live_sim:sim 64 liveT:=by
 have l1:∀ (m:Nat) (k:Int) (x:Ln),x.length<=65536->plS k x->sim m ⟨k,x,[],[]⟩:=fun m k x hx h=>by
  cases m with
  | zero=>exact⟨rfl,hx,h⟩
  | succ m=>exact⟨rfl,hx,.inl h⟩
 have l2:∀ (m:Nat) (k:Int) (s t:Tr),k=5\/k=6->sim m s->sim m t->sim (m+1) ⟨k,[],[],[s,t]⟩:=fun m k s t hk hs ht=>⟨rfl,Nat.zero_le _,.inr ⟨hk,fun i hi=>by
  match i,hi with
  | 0,_=>exact hs
  | 1,_=>exact ht
  | n+2,hi=>exact absurd hi (by show ¬ n+2<2;omega)⟩⟩
 have l3:∀ (m:Nat) (x:Ln),x.length<=65536->isP x true=true->knd x=4->sim m ⟨4,x,[],[]⟩:=fun m x hx h1 h2=>l1 m 4 x hx (.inr ⟨rfl,h1,h2⟩)
 exact l2 63 6 _ _ (.inr rfl) (l3 _ _ (by decide) (by kernel_rfl) (by kernel_rfl)) (l2 62 5 _ _ (.inl rfl) (l1 _ _ _ (by decide) (.inl rfl)) (l2 61 6 _ _ (.inr rfl) (l3 _ _ (by decide) (by kernel_rfl) (by kernel_rfl)) (l3 _ _ (by decide) (by kernel_rfl) (by kernel_rfl))))
theorem alive_any {w:World} (hT:Tb w):Calls Tryz.prog 14 #[] w fun e w'=>e=.returned (.bool true)/\Below w.heap.size w w':=by
 have HTb:Hid (Tb w):=hT;have b1:=below_alloc w (.cells #[.string ⟨#[97,58]⟩,.string ⟨#[32,32,45,32,49]⟩,.string ⟨#[32,32,45,32,98,58,32,99]⟩] 9);have x1:=Bx.new w #[.string ⟨#[97,58]⟩,.string ⟨#[32,32,45,32,49]⟩,.string ⟨#[32,32,45,32,98,58,32,99]⟩] 9
 have HN:Hid (Below w.heap.size w (w.alloc (.cells #[.string ⟨#[97,58]⟩,.string ⟨#[32,32,45,32,49]⟩,.string ⟨#[32,32,45,32,98,58,32,99]⟩] 9))/\StrsAt (w.alloc (.cells #[.string ⟨#[97,58]⟩,.string ⟨#[32,32,45,32,49]⟩,.string ⟨#[32,32,45,32,98,58,32,99]⟩] 9)) (some ⟨w.heap.size,0,none⟩) 3 [[97,58],[32,32,45,32,49],[32,32,45,32,98,58,32,99]]):=by
  refine⟨b1,rfl,fun _=>⟨w.heap.size,0,rfl,x1.lt,fun i hi=> ?_⟩⟩
  match i,hi with
  | 0,_=>exact x1.cell 0
  | 1,_=>exact x1.cell 1
  | 2,_=>exact x1.cell 2
  | n+3,hi=>omega
 clear b1 x1 hT;go_enter Tryz.func14,Tryz.ntmps14;go_wp2_with fail;generalize w.alloc (.cells #[.string ⟨#[97,58]⟩,.string ⟨#[32,32,45,32,49]⟩,.string ⟨#[32,32,45,32,98,58,32,99]⟩] 9)=W at HN |-;refine(rowsOf_any (some ⟨w.heap.size,0,none⟩) 3 3 [[97,58],[32,32,45,32,49],[32,32,45,32,98,58,32,99]] W HN.out.2 (by decide) (by decide) (by decide) (by decide)).mono ?_;rintro e w2 ⟨⟨v,rfl,hown⟩,hb2⟩;rw[live_rows]at hown;obtain⟨a,cap,rfl,hra⟩:=rows_ownA (rs:=rows0) hown (by decide);have HB2:Hid (Below w.heap.size w w2):=HN.out.1.trans (hb2.mono HN.out.1.size)
 have HPA:Hid (Calls Tryz.prog 17 #[.slice a 3 cap] w2 fun e w'=>TfD 129 (liveT,0,0) w2 e w'):=by
  have h:=parse_any 100 a 3 cap rows0 w2 (HTb.out.later HB2.out) hra.1 live_good (by decide);rw[live_pa]at h;exact h
 clear hra hown hb2 HN;go_wp2_with fail;refine HPA.out.mono ?_;rintro e w3 ⟨v,rfl,ht,hb3⟩;obtain⟨k2,x2,a2,ad2,len2,cap2,rfl⟩:=ht.cells
 have H5:Hid (∀ w5,w5=(w3.alloc (.cells #[.int .i64 k2,.string x2,.string a2,.slice ad2 len2 cap2] 26)).alloc (.cells #[.int .i64 0,.int .i64 0] 34)->Below w.heap.size w w5/\Bx w5 w3.heap.size #[.int .i64 k2,.string x2,.string a2,.slice ad2 len2 cap2] 26/\Bx w5 (w3.heap.size+1) #[.int .i64 0,.int .i64 0] 34/\TrV w5 129 (.agg #[.int .i64 k2,.string x2,.string a2,.slice ad2 len2 cap2]) liveT):=fun w5 e=>by
  subst e;have h2:=two_b w3 #[.int .i64 k2,.string x2,.string a2,.slice ad2 len2 cap2] #[.int .i64 0,.int .i64 0] 26 34;have b:=hb3.trans (h2.1.mono hb3.size);exact⟨HB2.out.trans (b.mono HB2.out.size),h2.2.1,h2.2.2,TrP.v (ht.later h2.1)⟩
 clear ht hb3 HB2 HPA;go_upto_region 2 with fail
 have N5:=H5.out _ rfl;clear H5;generalize (w3.alloc (.cells #[.int .i64 k2,.string x2,.string a2,.slice ad2 len2 cap2] 26)).alloc (.cells #[.int .i64 0,.int .i64 0] 34)=w5 at N5 |-;generalize w3.heap.size+1=KF at N5 |-;generalize w3.heap.size=KT at N5 |-;have HS:Hid (_/\_/\_/\_):=N5;clear N5;obtain⟨t0,t1,t2,t3⟩:=HS.out.2.1.c4
 have HWR:Hid (Calls Tryz.prog 33 #[.agg #[.int .i64 k2,.string x2,.string a2,.slice ad2 len2 cap2]] w5 fun e w'=>e=.returned (.tuple #[.string (mk [123,97,58,32,91,49,44,32,123,98,58,32,99,125,93,125]),.int .i64 0])/\Below w5.heap.size w5 w'):=by
  have h:=writeS live_bri HS.out.2.2.2 (HTb.out.later HS.out.1) live_sim live_rgh (by rw[live_wr];decide);rw[live_wr]at h;exact h
 go_wp2_with fail;refine HWR.out.mono ?_;rintro e w6 ⟨rfl,H6⟩;have e6:=HS.out.2.2.1.later H6;obtain⟨f0,f1⟩:=e6.c2;have HBF:Hid (Below w.heap.size w w6):=HS.out.1.trans (H6.mono HS.out.1.size);have heq:=eql_flt 0 0 0 0 w6;have hmk:mk [123,97,58,32,91,49,44,32,123,98,58,32,99,125,93,125]=⟨#[123,97,58,32,91,49,44,32,123,98,58,32,99,125,93,125]⟩:=rfl;clear HS H6 t0 t1 t2 t3 e6 HWR;rw[hmk];clear hmk;go_wp2;go_ret;exact⟨rfl,HBF.out⟩
end Tre
end Go.Proofs.YtommfbbpomfnfaaGreatDoor
