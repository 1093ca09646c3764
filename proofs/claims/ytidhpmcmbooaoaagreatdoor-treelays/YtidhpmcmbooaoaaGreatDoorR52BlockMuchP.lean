/- . -/
import Derived.Test.YtidhpmcmbooaoaaGreatDoorR27BlockMem
import Derived.Test.YtidhpmcmbooaoaaGreatDoorR42TreeJoin
import Derived.Test.YtidhpmcmbooaoaaGreatDoorR45TreeRof
import Derived.Test.YtidhpmcmbooaoaaGreatDoorR46FlowWr
import Derived.Test.YtidhpmcmbooaoaaGreatDoorR49TreeKys
import Derived.Test.YtidhpmcmbooaoaaGreatDoorR51TreeFar
import Derived.Test.YtidhpmcmbooaoaaGreatDoorR39TreeHds
set_option linter.unusedSimpArgs false
set_option linter.unusedVariables false
set_option maxRecDepth 100000
namespace Go.Proofs.YtidhpmcmbooaoaaGreatDoor
namespace Blk
open Go.RowKit
open Rws (mk mk_data mk_size mk_of mk_ext mk_get mk_inj)
def sumL (xs:List Ln):Nat:=(xs.map List.length).sum
theorem sumL_cons (x:Ln) (r:List Ln):sumL (x::r)=x.length+sumL r:=by simp[sumL]
theorem sumL_app (a b:List Ln):sumL (a++b)=sumL a+sumL b:=by simp[sumL]
theorem sumL_take (xs:List Ln) (k:Nat):sumL (xs.take k)<=sumL xs:=by
 conv=>rhs;rw[<-List.take_append_drop k xs]
 rw[sumL_app];omega
theorem join_len (c:UInt8):∀ xs:List Ln,(joinW c xs).length<=sumL xs+xs.length
 | []=>by simp[joinW]
 | [x]=>by simp[joinW,sumL]
 | x::y::t=>by
  have ih:=join_len c (y::t);rw[join_cons,List.length_append,List.length_cons,sumL_cons,List.length_cons];omega
theorem sep_len (x:Ln) (r:List Ln):(sep x r).length<=1:=by
 unfold sep;split
 ·simp
 ·split
  ·split<;>simp
  ·simp
theorem fld_len:∀ xs:List Ln,(fld xs).length<=sumL xs+xs.length
 | []=>by simp[fld]
 | [x]=>by simp[fld,sumL]
 | x::y::t=>by
  have ih:=fld_len (y::t);have hs:=sep_len x (y::t);rw[fld_cons,List.length_append,List.length_append,sumL_cons,List.length_cons];omega
end Blk
namespace Blk
open Go.RowKit
open Rws (mk mk_data mk_size mk_of mk_ext mk_get mk_inj)
def sumT (rs:List Rw):Nat:=(rs.map fun r=>r.2.1.length).sum
theorem sumT_cons (r:Rw) (t:List Rw):sumT (r::t)=r.2.1.length+sumT t:=by simp[sumT]
theorem sumT_app (a b:List Rw):sumT (a++b)=sumT a+sumT b:=by simp[sumT]
def far (rs:List Rw):Bool:=rs.any fun r=>decide (300<r.1)
def wid (rs:List Rw):Bool:=far (rs.take 500) || (decide (500<rs.length) || decide (20000<sumT (rs.take 500)))
theorem lo_sum (C:Nat):∀ (b:Option Nat) (l:List Rw) (m:List Ln),lo b l=.inl m->(∀ r∈l,r.1<=(C:Int))->sumL m<=sumT l+l.length*C
 | b,[],m,h,_=>by cases h;simp[sumL]
 | b,r::t,m,h,hc=>by
  have hc':∀ x∈t,x.1<=(C:Int):=fun x hx=>hc x (by simp[hx])
  have hr:=hc r (by simp);have hm:mx r.1<=C:=by unfold mx;omega
  rw[lo]at h;rw[sumT_cons,List.length_cons,Nat.succ_mul];split at h
  ·cases hq:lo b t with
   | inl k=>rw[hq]at h;cases h;have:=lo_sum C b t k hq hc';rw[sumL_app];simp[sumL]at this |-;omega
   | inr a=>rw[hq]at h;cases h
  ·split at h
   ·cases h
   ·cases hq:lo (some (b.getD (mx r.1))) t with
    | inl k =>
     rw[hq]at h;cases h;have:=lo_sum C _ t k hq hc';rw[sumL_app];have e:sumL [List.replicate (mx r.1-b.getD (mx r.1)) 32++r.2.1]=(mx r.1-b.getD (mx r.1))+r.2.1.length:=by simp[sumL]
     rw[e];omega
    | inr a=>rw[hq]at h;cases h
theorem rws_sub (rs:List Rw) (col:Int):(rws rs col).length<=rs.length/\sumT (rws rs col)<=sumT rs/\∀ r∈rws rs col,r∈rs:=by
 induction rs with
 | nil=>exact⟨Nat.le_refl _,Nat.le_refl _,fun r h=>h⟩
 | cons r t ih =>
  obtain⟨h1,h2,h3⟩:=ih;rw[rws_cons];split
  ·refine⟨by simp;omega,by rw[sumT_cons,sumT_cons];omega,fun x hx=> ?_⟩;rcases List.mem_cons.1 hx with rfl | hx
   ·simp
   ·simp[h3 x hx]
  ·exact⟨by simp,by simp[sumT],fun x hx=>by cases hx⟩
theorem tak_bd {rs:List Rw} {col:Int} {C S:Nat} (hc:∀ r∈rs,r.1<=(C:Int)) (hs:sumT rs+rs.length*C+rs.length<=S):∀ ls,lo none (rws rs col)=.inl ls->(joinW 10 (trm ls)).length<=S/\(fld (trm ls)).length<=S:=by
 intro ls hl;obtain⟨h1,h2,h3⟩:=rws_sub rs col;have h4:=lo_sum C _ _ _ hl (fun r hr=>hc r (h3 r hr));have h5:=lo_len _ _ _ hl;have h6:=trm_le ls;have h7:sumL (trm ls)<=sumL ls:=by rw[<-trm_take ls];exact sumL_take ls _
 have h8:=join_len 10 (trm ls);have h9:=fld_len (trm ls);have h10:(rws rs col).length*C<=rs.length*C:=Nat.mul_le_mul_right _ h1;omega
end Blk
namespace Tre
open Utf Rws Pln Flw
open Go.RowKit
open Blk (Rw RwAt z3 lo rws joinW trm fld headO hdV sumT)
set_option maxHeartbeats 1000000
theorem bkok_of {rs:List Rw} {C:Nat} (hc:∀ r∈rs,r.1<=(C:Int)) (hs:sumT rs+rs.length*C+rs.length<=1000000000):BkOk rs:=by
 intro us hu c ls hls
 have h1:sumT us<=sumT rs:=by
  obtain⟨A,B,rfl⟩:=hu;rw[Blk.sumT_app,Blk.sumT_app];omega
 have h2:=hu.length_le;have h3:us.length*C<=rs.length*C:=Nat.mul_le_mul_right _ h2;exact Blk.tak_bd (fun r hr=>hc r (hu.subset hr)) (S:=1000000000) (by omega) ls hls
theorem sumT_mem:∀ (rs:List Rw) (r:Rw),r∈rs->r.2.1.length<=sumT rs
 | x::t,r,h=>by
  rw[Blk.sumT_cons];rcases List.mem_cons.1 h with rfl | h
  ·omega
  ·have:=sumT_mem t r h;omega
theorem msr_sum (rs:List Rw):msr rs=sumT rs+rs.length:=by
 induction rs with
 | nil=>rfl
 | cons r t ih=>rw[msr_cons,Blk.sumT_cons,ih,List.length_cons];omega
theorem good_of {rs:List Rw} (h1:rs.length<=1000) (h2:sumT rs<=60000) (h3:∀ r∈rs,-9223372036854775808<=r.1/\r.1<=1000):Good rs:=by
 refine⟨by omega,fun r hr=> ?_,fun r hr=>⟨(h3 r hr).1,by have:=(h3 r hr).2;omega⟩,bkok_of (C:=1000) (fun r hr=>(h3 r hr).2) (by omega)⟩;have:=sumT_mem rs r hr;omega
def rows0:List Rw:=[(0,[97,58],1),(2,[45,32,49],2),(2,[45,32,98,58,32,99],3)]
def liveT:Tr:=⟨6,[],[],[⟨4,[97],[],[]⟩,⟨5,[],[],[⟨3,[49],[],[]⟩,⟨6,[],[],[⟨4,[98],[],[]⟩,⟨4,[99],[],[]⟩]⟩]⟩]⟩
theorem live_rows:lnRs [[97,58],[32,32,45,32,49],[32,32,45,32,98,58,32,99]] 3=rows0:=by kernel_rfl
theorem live_pa:paM 100 rows0=(liveT,0,0):=by kernel_rfl
theorem live_wr:wrt 64 liveT=[123,97,58,32,91,49,44,32,123,98,58,32,99,125,93,125]:=by kernel_rfl
theorem live_rgh:rgh 129 liveT=true:=by kernel_rfl
theorem live_bri:brief 129 liveT:=by
 have l1:∀ (d:Nat) (k:Int) (x:Ln),x.length<=65536->brief (d+1) ⟨k,x,[],[]⟩:=fun d k x hx=>⟨hx,Nat.zero_le _,fun i hi=>absurd hi (Nat.not_lt_zero _)⟩
 have l2:∀ (d:Nat) (k:Int) (s t:Tr),brief (d+1) s->brief (d+1) t->brief (d+2) ⟨k,[],[],[s,t]⟩:=fun d k s t hs ht=>⟨Nat.zero_le _,Nat.zero_le _,fun i hi=>by
  match i,hi with
  | 0,_=>exact hs
  | 1,_=>exact ht
  | n+2,hi=>exact absurd hi (by show ¬ n+2<2;omega)⟩
 exact l2 127 6 _ _ (l1 _ _ _ (by decide)) (l2 126 5 _ _ (l1 _ _ _ (by decide)) (l2 125 6 _ _ (l1 _ _ _ (by decide)) (l1 _ _ _ (by decide))))
theorem live_good:Good rows0:=good_of (by decide) (by decide) (fun r hr=>by
 simp only[rows0,List.mem_cons,List.not_mem_nil,or_false]at hr;rcases hr with rfl | rfl | rfl<;>(constructor<;>decide))
end Tre
namespace Tre
open Utf Rws Pln Flw
open Go.RowKit
open Blk (Rw RwAt z3 StrsAt rowV rw_own)
set_option maxHeartbeats 4000000
theorem eql_flt (x1 y1 x2 y2:Int) (w:World):(binOp .eql 33 (.agg #[.int .i64 x1,.int .i64 x2]) (.agg #[.int .i64 y1,.int .i64 y2])).run Tryz.prog w=.ok (.bool (x1==y1 && x2==y2)) w:=by
 rw[run_eql_struct,run_equalIn_struct w 9999 33 _ _ (by kernel_rfl) (by kernel_rfl)];cases h1:x1==y1<;>cases h2:x2==y2<;>simp[go_sem,Program.fieldsOf,Tryz.underlying33,Tryz.underlying31,Tryz.underlying3,h1,h2]
theorem rows_ownA {w:World} {B:Nat} {v:Value} {rs:List Rw} (h:w.ownsRow B 45 3 v rs.length (rowV rs)) (hb:∀ r∈rs,r.2.1.length<=140737488351232):∃ a cap,v=.slice a rs.length cap/\RowsA w a rs.length cap rs:=by
 have h2:=h.2;obtain⟨a,cap,rfl,hc,hr,hg⟩:=rw_own h;rcases h2 with ⟨e,h0⟩ | ⟨g,cap2,cur,e,_,_,_,hm,_⟩
 ·simp only[Value.slice.injEq]at e;obtain⟨rfl,e2,rfl⟩:=e;refine⟨none,0,rfl,⟨hr,by omega,Nat.zero_le _,hb⟩,.inr ⟨rfl,h0,rfl⟩⟩
 ·simp only[Value.slice.injEq]at e;obtain⟨rfl,_,rfl⟩:=e;exact⟨_,_,rfl,⟨hr,hc,hm,hb⟩,.inl ⟨_,_,rfl⟩⟩
theorem alive_any {w:World} (hT:Tb w):Calls Tryz.prog 5 #[] w fun e w'=>e=.returned (.bool true)/\Below w.heap.size w w':=by
 have HTb:Hid (Tb w):=hT;have b1:=below_alloc w (.cells #[.string ⟨#[97,58]⟩,.string ⟨#[32,32,45,32,49]⟩,.string ⟨#[32,32,45,32,98,58,32,99]⟩] 9);have x1:=Bx.new w #[.string ⟨#[97,58]⟩,.string ⟨#[32,32,45,32,49]⟩,.string ⟨#[32,32,45,32,98,58,32,99]⟩] 9
 have HN:Hid (Below w.heap.size w (w.alloc (.cells #[.string ⟨#[97,58]⟩,.string ⟨#[32,32,45,32,49]⟩,.string ⟨#[32,32,45,32,98,58,32,99]⟩] 9))/\StrsAt (w.alloc (.cells #[.string ⟨#[97,58]⟩,.string ⟨#[32,32,45,32,49]⟩,.string ⟨#[32,32,45,32,98,58,32,99]⟩] 9)) (some ⟨w.heap.size,0,none⟩) 3 [[97,58],[32,32,45,32,49],[32,32,45,32,98,58,32,99]]):=by
  refine⟨b1,rfl,fun _=>⟨w.heap.size,0,rfl,x1.lt,fun i hi=> ?_⟩⟩
  match i,hi with
  | 0,_=>exact x1.cell 0
  | 1,_=>exact x1.cell 1
  | 2,_=>exact x1.cell 2
  | n+3,hi=>omega
 clear b1 x1 hT;go_enter Tryz.func5,Tryz.ntmps5;go_wp2_with fail;generalize w.alloc (.cells #[.string ⟨#[97,58]⟩,.string ⟨#[32,32,45,32,49]⟩,.string ⟨#[32,32,45,32,98,58,32,99]⟩] 9)=W at HN |-;refine(rowsOf_any (some ⟨w.heap.size,0,none⟩) 3 3 [[97,58],[32,32,45,32,49],[32,32,45,32,98,58,32,99]] W HN.out.2 (by decide) (by decide) (by decide) (by decide)).mono ?_;rintro e w2 ⟨⟨v,rfl,hown⟩,hb2⟩;rw[live_rows]at hown;obtain⟨a,cap,rfl,hra⟩:=rows_ownA (rs:=rows0) hown (by decide);have HB2:Hid (Below w.heap.size w w2):=HN.out.1.trans (hb2.mono HN.out.1.size)
 have HPA:Hid (Calls Tryz.prog 7 #[.slice a 3 cap] w2 fun e w'=>TfD 129 (liveT,0,0) w2 e w'):=by
  have h:=parse_any 100 a 3 cap rows0 w2 (HTb.out.later HB2.out) hra.1 live_good (by decide);rw[live_pa]at h;exact h
 clear hra hown hb2 HN;go_wp2_with fail;refine HPA.out.mono ?_;rintro e w3 ⟨v,rfl,ht,hb3⟩;obtain⟨k2,x2,a2,ad2,len2,cap2,rfl⟩:=ht.cells
 have H5:Hid (∀ w5,w5=(w3.alloc (.cells #[.int .i64 k2,.string x2,.string a2,.slice ad2 len2 cap2] 24)).alloc (.cells #[.int .i64 0,.int .i64 0] 33)->Below w.heap.size w w5/\Bx w5 w3.heap.size #[.int .i64 k2,.string x2,.string a2,.slice ad2 len2 cap2] 24/\Bx w5 (w3.heap.size+1) #[.int .i64 0,.int .i64 0] 33/\TrV w5 129 (.agg #[.int .i64 k2,.string x2,.string a2,.slice ad2 len2 cap2]) liveT):=fun w5 e=>by
  subst e;have h2:=two_b w3 #[.int .i64 k2,.string x2,.string a2,.slice ad2 len2 cap2] #[.int .i64 0,.int .i64 0] 24 33;have b:=hb3.trans (h2.1.mono hb3.size);exact⟨HB2.out.trans (b.mono HB2.out.size),h2.2.1,h2.2.2,TrP.v (ht.later h2.1)⟩
 clear ht hb3 HB2 HPA;go_upto_region 2 with fail
 have N5:=H5.out _ rfl;clear H5;generalize (w3.alloc (.cells #[.int .i64 k2,.string x2,.string a2,.slice ad2 len2 cap2] 24)).alloc (.cells #[.int .i64 0,.int .i64 0] 33)=w5 at N5 |-;generalize w3.heap.size+1=KF at N5 |-;generalize w3.heap.size=KT at N5 |-;have HS:Hid (_/\_/\_/\_):=N5;clear N5;obtain⟨t0,t1,t2,t3⟩:=HS.out.2.1.c4
 have HWR:Hid (Calls Tryz.prog 10 #[.agg #[.int .i64 k2,.string x2,.string a2,.slice ad2 len2 cap2]] w5 fun e w'=>e=.returned (.tuple #[.string (mk [123,97,58,32,91,49,44,32,123,98,58,32,99,125,93,125]),.int .i64 0])/\Below w5.heap.size w5 w'):=by
  have h:=write_yes live_bri HS.out.2.2.2 (HTb.out.later HS.out.1) (by decide) live_rgh (by rw[live_wr];decide);rw[live_wr]at h;exact h
 go_wp2_with fail;refine HWR.out.mono ?_;rintro e w6 ⟨rfl,H6⟩;have e6:=HS.out.2.2.1.later H6;obtain⟨f0,f1⟩:=e6.c2;have HBF:Hid (Below w.heap.size w w6):=HS.out.1.trans (H6.mono HS.out.1.size);have heq:=eql_flt 0 0 0 0 w6;have hmk:mk [123,97,58,32,91,49,44,32,123,98,58,32,99,125,93,125]=⟨#[123,97,58,32,91,49,44,32,123,98,58,32,99,125,93,125]⟩:=rfl;clear HS H6 t0 t1 t2 t3 e6 HWR;rw[hmk];clear hmk;go_wp2;go_ret;exact⟨rfl,HBF.out⟩
end Tre
namespace Tre
open Utf Rws Pln Flw
open Go.RowKit
open Blk (Rw RwAt z3 StrsAt rC rowV rowV_app rowV_len rw_own cell_three row_one sumT)
set_option maxHeartbeats 4000000
theorem lyo_pos {d m:Nat} {t:Tr} {c:Int} (hr:rgt m t=true):0<(lyo d t c).length:=by
 cases d with
 | zero=>exact Nat.one_pos
 | succ d =>
  rw[lyo];split
  ·exact Nat.one_pos
  ·rename_i he;have hk:t.kids≠[]:=fun e=>he (List.isEmpty_iff.2 e)
   rw[List.length_append];refine Nat.lt_of_lt_of_le ?_ (Nat.le_add_left _ _);split
   ·rename_i e6;obtain⟨inner,hi⟩:=rgt_step hr;obtain⟨v,ev,hv,_⟩:=(rstep_inv hi).2.2.2.2.2 (.inr e6);have hev:=(hv e6).1
    match hks:t.kids with
    | []=>exact absurd hks hk
    | [x]=>rw[hks]at hev;exact absurd hev (by simp)
    | x::y::ks=>rw[lyM];simp
   ·match hks:t.kids with
    | []=>exact absurd hks hk
    | x::ks=>rw[lyS];simp
theorem sum_le (B:Nat):∀ (rs:List Rw),(∀ r∈rs,r.2.1.length<=B)->sumT rs<=rs.length*B
 | [],_=>Nat.zero_le _
 | r::rs,h=>by
  have h1:=h r List.mem_cons_self;have h2:=sum_le B rs (fun x hx=>h x (List.mem_cons_of_mem _ hx));rw[Blk.sumT_cons,List.length_cons,Nat.succ_mul];omega
theorem ly_good {d m:Nat} {t:Tr} (hr:rgt m t=true) (hf:fineT d t) (hc:cntT d t<=600):Good (nrw 1 (lyo d t 0))/\msr (nrw 1 (lyo d t 0))<100000000/\(lyo d t 0).length<=1200:=by
 have h1:=lyo_len d t 0;have hlen:(lyo d t 0).length<=1200:=by omega
 have htx:∀ r∈nrw 1 (lyo d t 0),r.2.1.length<=40001:=fun r hr'=>lyo_txt d m t 0 hr hf _ (nrw_mem _ _ _ hr')
 have hcl:∀ r∈nrw 1 (lyo d t 0),0<=r.1/\r.1<=1800:=fun r hr'=>by
  have a:=lyo_col d t 0 _ (nrw_mem _ _ _ hr');have b:=lyo_colU d t 0 _ (nrw_mem _ _ _ hr');simp only at a b;omega
 have hs:=sum_le 40001 _ htx;rw[nrw_len]at hs;have hs2:sumT (nrw 1 (lyo d t 0))<=48001200:=Nat.le_trans hs (by omega);refine⟨⟨by rw[nrw_len];omega,fun r hr'=>Nat.le_trans (htx r hr') (by decide),fun r hr'=>⟨by have:=(hcl r hr').1;omega,by have:=(hcl r hr').2;omega⟩,bkok_of (C:=1800) (fun r hr'=>(hcl r hr').2) (by rw[nrw_len];omega)⟩,?_,hlen⟩;rw[msr_sum,nrw_len];omega
theorem sfx_of {w:World} (hT:Tb w):Sfx:=fun l hl x h=>by
 have hR:Rd (w.alloc (.cells #[.string (mk l),.int .i64 0,.int .i64 0] 161)) w.heap.size l 0 0:=Bx.new _ _ _;have hTB:TbB w.heap.size (w.alloc (.cells #[.string (mk l),.int .i64 0,.int .i64 0] 161)):=⟨w,hT,Nat.le_refl _,below_alloc _ _⟩;obtain⟨e,w',fr,hv,_⟩:=value_all 64 0 rfl w.heap.size l false _ 0 hR (Nat.zero_le _) hl hTB [];rw[List.drop_zero,h]at hv;obtain⟨v,_,_,⟨q,hq,hx,_⟩,_⟩:=hv;exact⟨q,hq,hx⟩
structure MyB (w W:World) (tc:Array Value):Prop where
 b:Bx W w.heap.size tc 24
 bl:Below w.heap.size w W
theorem MyB.later {w W W':World} {tc:Array Value} (h:MyB w W tc) (hb:Below W.heap.size W W'):MyB w W' tc:=⟨h.b.later hb,h.bl.trans (hb.mono h.bl.size)⟩
theorem MyB.far {w W:World} {tc:Array Value} (h:Below (w.heap.size+1) (w.alloc (.cells tc 24)) W):MyB w W tc:=by
 have b1:=below_alloc w (.cells tc 24);have s1:(w.alloc (.cells tc 24)).heap.size=w.heap.size+1:=World.size_alloc _ _;rw[<-s1]at h;exact⟨(Bx.new w tc _).later h,b1.trans (h.mono b1.size)⟩
theorem lays_core {w:World} {d:Nat} {k:Int} {x a:Ln} {ad:Option Addr} {len cap:Nat} {t:Tr} (hd:64<d) (hV:TrV w d (tv k x a ad len cap) t) (hT:Tb w) :
  Calls Tryz.prog 3 #[tv k x a ad len cap] w fun e w'=>e=.returned (.bool true)/\Below w.heap.size w w':=by
 have HA:Hid (∀ W,Below w.heap.size w W->Calls Tryz.prog 5 #[] W fun e W'=>e=.returned (.bool true)/\Hid (Below w.heap.size w W')):=fun W b=>(alive_any (hT.later b)).mono (fun e W' q=>⟨q.1,b.trans (q.2.mono b.size)⟩)
 have HF:Hid (Calls Tryz.prog 4 _ _ _):=far_new hV
 -- what laid answers,in a world behind
 have HL:Hid (fineT d t->cntT d t<=600->∀ W,Hid (MyB w W #[.int .i64 k,.string (mk x),.string (mk a),.slice ad len cap])->Calls Tryz.prog 6 #[tv k x a ad len cap] W fun e W'=>∃ v b,e=.returned (.tuple #[v,.bool b])/\Hid (MyB w W' #[.int .i64 k,.string (mk x),.string (mk a),.slice ad len cap] /\
   (b=true->∃ g n c,v=.slice (some ⟨g,0,none⟩) n c/\Hid (RowsIn W' (some ⟨g,0,none⟩) n c (nrw 1 (lyo d t 0))/\rgt 64 t=true/\rgh d t=true/\kyB d t 0=true)))):=fun hf hc W hW=>by
  have hV2:=hV.later hW.out.bl (Nat.le_refl _);have hT2:=hT.later hW.out.bl;have hbr:=brief_of hV2 hf;have hll:=lyo_len d t 0
  have hrr:rgh d t=true->rgt 64 t=true:=fun h=>by
   rw[rgh_iff hd]at h;simp only[Bool.and_eq_true]at h;exact h.1
  refine laid_core k (mk x) (mk a) ad len cap W (rgh d t) (kyB d t 0) (lyo d t 0) (fun h1 h2=>lyo_pos (hrr h1)) (by omega) ?_ ?_ ?_ (fun v b W'=>Hid (MyB w W' #[.int .i64 k,.string (mk x),.string (mk a),.slice ad len cap]/\(b=true->∃ g n c,v=.slice (some ⟨g,0,none⟩) n c/\Hid (RowsIn W' (some ⟨g,0,none⟩) n c (nrw 1 (lyo d t 0))/\rgt 64 t=true/\rgh d t=true/\kyB d t 0=true)))) ?_ ?_
  ·intro w1 h1;exact(right_any hbr (hV2.later h1 (Nat.le_refl _)) (hT2.later h1)).mono (fun e w' g=>⟨g.1,g.2⟩)
  ·intro w1 h1;exact keys_any d _ t W w1 0 hV2 h1 (by omega)
  ·intro w1 h1 h2 h3
   exact(lay_any d 64 _ t W w1 0 (.slice none 0 0) [] (hrr h1) hV2 hf hT2 ⟨h3,World.ownsRow_nil _ _ _ _⟩ (by have:=lyo_len d t ((0:Nat):Int);simp only[List.length_nil];omega) (by omega)).mono (fun e w' g=>by
    obtain⟨v',e1,h⟩:=g;exact⟨v',e1,h.out.1⟩)
  ·intro w' h1 h2;exact⟨hW.out.later h2,fun h=>by cases h⟩
  ·intro g c w' h1 h2 h3;simp only[Bool.and_eq_true]at h1;refine⟨hW.out.later h2,fun _=>⟨g,_,c,rfl,⟨?_,hrr h1.1,h1.1,h1.2⟩⟩⟩;have h4:=h3;rw[<-nrw_len (lyo d t 0) 1]at h4;obtain⟨a',cap',e,q1,q2,q3⟩:=rw_own h4
   have hm:c<=maxLen:=by
    rcases h3.2 with ⟨e2,_⟩ | ⟨g2,cap2,cur,e2,_,_,_,hm2,_⟩
    ·cases e2
    ·cases e2;exact hm2
   rw[nrw_len]at e q1 q2;cases e;exact⟨q2,q1,hm,fun r hr=>Nat.le_trans (lyo_txt d 64 t 0 (hrr h1.1) hf _ (nrw_mem _ _ _ hr)) (by decide)⟩
 have HPA:Hid (fineT d t->cntT d t<=600->rgt 64 t=true->rgh d t=true->kyB d t 0=true->∀ W g n c,Hid (MyB w W #[.int .i64 k,.string (mk x),.string (mk a),.slice ad len cap])->RowsIn W (some ⟨g,0,none⟩) n c (nrw 1 (lyo d t 0))->Calls Tryz.prog 7 #[.slice (some ⟨g,0,none⟩) n c] W fun e W'=>TfD 129 (t,0,0) W e W'):=fun hf hc h64 h9 hy W g n c hW hR=>by
  obtain⟨g1,g2,_⟩:=ly_good h64 hf hc;have:=parse_any 100000000 _ n c _ W (hT.later hW.out.bl) hR g1 g2;rw[ly_pa (sfx_of hT) h64 (by rw[rgh_iff (by omega)]at h9 |-;exact h9) hd (by omega) hf hy]at this;exact this
 have HSA:Hid (∀ W k2 x2 a2 ad2 len2 cap2,Hid (MyB w W #[.int .i64 k,.string (mk x),.string (mk a),.slice ad len cap])->TrV W 129 (.agg #[.int .i64 k2,.string x2,.string a2,.slice ad2 len2 cap2]) t->Calls Tryz.prog 8 #[tv k x a ad len cap,.agg #[.int .i64 k2,.string x2,.string a2,.slice ad2 len2 cap2]] W fun e W'=>e=.returned (.bool true)/\Hid (MyB w W' #[.int .i64 k,.string (mk x),.string (mk a),.slice ad len cap])):=fun W k2 x2 a2 ad2 len2 cap2 hW h =>
  (rsame_any _ _ _ _ _ _ W (hV.later hW.out.bl (Nat.le_refl _)) h).mono (fun e w' g=>by
   obtain⟨y,e1,hy,hb⟩:=g;rw[hy.2 rfl]at e1;exact⟨e1,hW.out.later hb⟩)
 clear hV hT;go_enter Tryz.func3,Tryz.ntmps3;go_wp2_with fail;refine HF.out.mono ?_;rintro e w3 ⟨q,rfl,B3,_,hq,_⟩;have H3:Hid (MyB w w3 #[.int .i64 k,.string (mk x),.string (mk a),.slice ad len cap]):=MyB.far B3.out;clear HF B3;cases q
 rotate_left
 ·clear HL HPA HSA hq;go_wp2_with fail;refine(HA.out _ H3.out.bl).mono ?_;rintro e w4 ⟨rfl,H4⟩;go_wp2_with fail;go_ret;exact⟨rfl,H4.out⟩
 obtain⟨HFI,HCN⟩:Hid (fineT d t)/\Hid (cntT d t<=600):=hq.out rfl;have HL2:=HL.out HFI.out HCN.out w3 H3;have HPA2:Hid (_->_->_->_):=HPA.out HFI.out HCN.out;obtain⟨c0,c1,c2,c3⟩:=H3.out.b.c4;clear HL HPA hq HFI HCN;go_wp2_with fail;refine HL2.mono ?_;rintro e w4 ⟨v,b,rfl,H4⟩;clear HL2 c0 c1 c2 c3 H3
 cases b with
 | false =>
  clear HPA2 HSA;go_wp2_with fail;refine(HA.out _ H4.out.1.bl).mono ?_;rintro e w5 ⟨rfl,H5⟩;go_wp2_with fail;go_ret;exact⟨rfl,H5.out⟩
 | true =>
  obtain⟨g,n,c,hv,HR⟩:=H4.out.2 rfl;subst hv;have HB4:Hid (MyB w w4 #[.int .i64 k,.string (mk x),.string (mk a),.slice ad len cap]):=H4.out.1;have HP:=HPA2.out HR.out.2.1 HR.out.2.2.1 HR.out.2.2.2 w4 g n c HB4 HR.out.1;clear H4 HPA2 HR;go_wp2_with fail;refine HP.mono ?_;rintro e w5 ⟨v,rfl,ht,hb5⟩;obtain⟨k2,x2,a2,ad2,len2,cap2,rfl⟩:=ht.cells;have HB5:Hid (MyB w w5 #[.int .i64 k,.string (mk x),.string (mk a),.slice ad len cap]):=HB4.out.later hb5
  have H6:Hid (∀ w6,w6=(w5.alloc (.cells #[.int .i64 k2,.string x2,.string a2,.slice ad2 len2 cap2] 24)).alloc (.cells #[.int .i64 0,.int .i64 0] 33)->MyB w w6 #[.int .i64 k,.string (mk x),.string (mk a),.slice ad len cap]/\Bx w6 w5.heap.size #[.int .i64 k2,.string x2,.string a2,.slice ad2 len2 cap2] 24/\Bx w6 (w5.heap.size+1) #[.int .i64 0,.int .i64 0] 33/\TrV w6 129 (.agg #[.int .i64 k2,.string x2,.string a2,.slice ad2 len2 cap2]) t):=fun w6 e=>by
   subst e;have h2:=two_b w5 #[.int .i64 k2,.string x2,.string a2,.slice ad2 len2 cap2] #[.int .i64 0,.int .i64 0] 24 33;exact⟨HB5.out.later h2.1,h2.2.1,h2.2.2,TrP.v (ht.later h2.1)⟩
  clear ht hb5 HP HB5 HB4;go_upto_region 8 with fail
  have HS:Hid (_/\_/\_/\_):=H6.out _ rfl;clear H6;generalize (w5.alloc (.cells #[.int .i64 k2,.string x2,.string a2,.slice ad2 len2 cap2] 24)).alloc (.cells #[.int .i64 0,.int .i64 0] 33)=w6 at HS |-;generalize w5.heap.size+1=KF at HS |-;generalize w5.heap.size=KT at HS |-;obtain⟨t0,t1,t2,t3⟩:=HS.out.2.1.c4;obtain⟨f0,f1⟩:=HS.out.2.2.1.c2;obtain⟨c0,c1,c2,c3⟩:=HS.out.1.b.c4;have he:=eql_flt 0 0 0 0;have HSA2:=HSA.out w6 k2 x2 a2 ad2 len2 cap2 HS.out.1 HS.out.2.2.2;clear HSA;go_wp2_with fail;refine HSA2.mono ?_;rintro e w7 ⟨rfl,H7⟩;clear HSA2 t0 t1 t2 t3 f0 f1 c0 c1 c2 c3 HS;go_wp2_with fail;refine(HA.out _ H7.out.bl).mono ?_;rintro e w8 ⟨rfl,H8⟩;go_wp2_with fail;go_ret;exact⟨rfl,H8.out⟩
theorem lays_walk (d:Nat) (v:Value) (t:Tr) (w:World) (hV:TrV w d v t) (hT:Tb w):Calls Tryz.prog 3 #[v] w fun e w'=>e=.returned (.bool true)/\Below w.heap.size w w':=by
 have h:=hV.more (show d<=d+129 by omega);obtain⟨ad,len,cap,rfl⟩:=h.open4;exact lays_core (by omega) h hT
end Tre
end Go.Proofs.YtidhpmcmbooaoaaGreatDoor
