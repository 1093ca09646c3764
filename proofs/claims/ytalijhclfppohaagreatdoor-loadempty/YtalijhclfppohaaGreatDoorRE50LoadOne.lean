/- . -/
import Derived.Test.YtalijhclfppohaaGreatDoorR49LoadLd
import Derived.Test.YtalijhclfppohaaGreatDoorR38FlowRsame
import Derived.Test.YtalijhclfppohaaGreatDoorR23RowsNum
set_option linter.unusedSimpArgs false
set_option linter.unusedVariables false
set_option maxRecDepth 100000
namespace Go.Proofs.YtalijhclfppohaaGreatDoor
namespace Lod
open Utf Rws Pln Flw Tre
open Go.RowKit
open Blk (Rw RwAt z3)
set_option maxHeartbeats 4000000
theorem load_any (s:Ln) (hs:s.length<=65536) (w:World) (hT:Tb w) (hg:∀ d∈docs (rwW s),Tre.Good d.2):Calls Tryz.prog 14 #[.string (mk s)] w (LdRes (ldM s) w):=by
 unfold ldM;by_cases h1:(rwF s).1≠0
 ·rw[if_pos h1];exact load_a s hs w h1
 ·rw[if_neg h1];have h1':(rwF s).1=0:=by simpa using h1
  by_cases h2:(tmF (docs (rwW s))).1≠0
  ·rw[if_pos h2];exact load_b s hs w h1' h2
  ·rw[if_neg h2];exact load_c (p:=paD) (fun rs a len cap W hg hT hR=>parse_any (msr rs+1) a len cap rs W hT hR hg (Nat.lt_succ_self _)) s hs w hT h1' (by simpa using h2) hg
theorem trv_leaf (k:Int) (w:World) (n:Nat) (h: -9223372036854775808<=k/\k<=9223372036854775807):TrV w (n+1) (.agg #[.int .i64 k,.string ⟨#[]⟩,.string ⟨#[]⟩,.slice none 0 0]) ⟨k,[],[],[]⟩ :=
 ⟨none,0,0,rfl,rfl,Nat.le_refl _,Nat.zero_le _,⟨h.1,h.2,by simp,by simp⟩,fun h=>absurd h (by omega)⟩
structure OnS (w W:World) (B0 B1:Nat):Prop where
 b0:Bx W B0 #[.int .i64 0,.string ⟨#[]⟩,.string ⟨#[]⟩,.slice none 0 0] 35
 b1:Bx W B1 #[.int .i64 0,.int .i64 0] 32
 bl:Below w.heap.size w W
 h0:w.heap.size<=B0
 h1:B0<B1
theorem OnS.later {w W W':World} {B0 B1:Nat} (h:OnS w W B0 B1) (hb:Below W.heap.size W W'):OnS w W' B0 B1:=⟨h.b0.later hb,h.b1.later hb,h.bl.trans (hb.mono h.bl.size),h.h0,h.h1⟩
theorem OnS.fill {w W:World} {B0 B1:Nat} (h:OnS w W B0 B1) (u0 u1 u2 u3 f0 f1:Value):Bx (fill6 W B0 B1 u0 u1 u2 u3 f0 f1) B0 #[u0,u1,u2,u3] 35/\Bx (fill6 W B0 B1 u0 u1 u2 u3 f0 f1) B1 #[f0,f1] 32/\Below w.heap.size w (fill6 W B0 B1 u0 u1 u2 u3 f0 f1):=by
 have h0:=h.h0;have h1:=h.h1;have hn:B0≠B1:=by omega
 have hn':B1≠B0:=by omega
 unfold fill6 fill4;exact⟨(((((h.b0.set 0 _).set 1 _).set 2 _).set 3 _).other hn _ _).other hn _ _,(((((h.b1.other hn' _ _).other hn' _ _).other hn' _ _).other hn' _ _).set 0 _).set 1 _,(((((h.bl.setCell (p:=⟨B0,0,none⟩) h0 _).setCell (p:=⟨B0,1,none⟩) h0 _).setCell (p:=⟨B0,2,none⟩) h0 _).setCell (p:=⟨B0,3,none⟩) h0 _).setCell (p:=⟨B1,0,none⟩) (by show _<=B1;omega) _).setCell (p:=⟨B1,1,none⟩) (by show _<=B1;omega) _⟩
theorem OnS.new (w:World):OnS w ((w.alloc (.cells #[.int .i64 0,.string ⟨#[]⟩,.string ⟨#[]⟩,.slice none 0 0] 35)).alloc (.cells #[.int .i64 0,.int .i64 0] 32)) w.heap.size (w.heap.size+1):=by
 have h:=two_b w #[.int .i64 0,.string ⟨#[]⟩,.string ⟨#[]⟩,.slice none 0 0] #[.int .i64 0,.int .i64 0] 35 32;exact⟨h.2.1,h.2.2,h.1,Nat.le_refl _,Nat.lt_succ_self _⟩
end Lod
namespace Lod
open Utf Rws Pln Flw Tre
open Go.RowKit
open Blk (Rw RwAt z3)
set_option maxHeartbeats 4000000
theorem eql_flt (x1 y1 x2 y2:Int) (w:World):(binOp .eql 32 (.agg #[.int .i64 x1,.int .i64 x2]) (.agg #[.int .i64 y1,.int .i64 y2])).run Tryz.prog w=.ok (.bool (x1==y1 && x2==y2)) w:=by
 rw[run_eql_struct,run_equalIn_struct w 9999 32 _ _ (by kernel_rfl) (by kernel_rfl)];cases h1:x1==y1<;>cases h2:x2==y2<;>simp[go_sem,Program.fieldsOf,Tryz.underlying32,Tryz.underlying30,Tryz.underlying3,h1,h2]
theorem neq_flt (x1 y1 x2 y2:Int) (w:World):(binOp .neq 32 (.agg #[.int .i64 x1,.int .i64 x2]) (.agg #[.int .i64 y1,.int .i64 y2])).run Tryz.prog w=.ok (.bool (!(x1==y1 && x2==y2))) w:=by
 rw[run_neq_struct,run_equalIn_struct w 9999 32 _ _ (by kernel_rfl) (by kernel_rfl)];cases h1:x1==y1<;>cases h2:x2==y2<;>simp[go_sem,Program.fieldsOf,Tryz.underlying32,Tryz.underlying30,Tryz.underlying3,h1,h2]
def lvS:Ln:=[97,10,45,45,45,10,98,58,32,53,10]
def lvT1:Tr:=⟨4,[97],[],[]⟩
def lvT2:Tr:=⟨6,[],[],[⟨4,[98],[],[]⟩,⟨3,[53],[],[]⟩]⟩
theorem lv_ld:ldM lvS=([lvT1,lvT2],0,0):=by kernel_rfl
theorem alive_any {w:World} (hT:Tb w):Calls Tryz.prog 7 #[] w fun e w'=>e=.returned (.bool true)/\Below w.heap.size w w':=by
 have HL:Hid (Calls Tryz.prog 14 #[.string ⟨#[97,10,45,45,45,10,98,58,32,53,10]⟩] w (LdRes ([lvT1,lvT2],0,0) w)):=by
  have h:=load_any lvS (by decide) w hT (good_docs (by decide));rw[lv_ld]at h;exact h
 have he:=eql_flt 0 0 0 0;clear hT;go_enter Tryz.func7,Tryz.ntmps7;go_wp2_with fail;refine HL.out.mono ?_;rintro e w1 ⟨a,cap,rfl,hk,hb⟩;obtain⟨b,off,rfl,hbc,hbl,hcell⟩:=hk.out.1.2 (by decide);obtain⟨x0,x1,x2,x3,e0,e1,e2,e3,ht⟩:=hcell 0 (by decide);obtain⟨y0,y1,y2,y3,f0,f1,f2,f3,ht'⟩:=hcell 1 (by decide);obtain⟨ad,tl,tc,g1⟩:=(TrP.v ht).open4;obtain⟨ad',tl',tc',g2⟩:=(TrP.v ht').open4;unfold tv at g1 g2;simp only[Value.agg.injEq,Array.mk.injEq,List.cons.injEq,and_true]at g1 g2;obtain⟨rfl,rfl,rfl,rfl⟩:=g1;obtain⟨rfl,rfl,rfl,rfl⟩:=g2;rw[Nat.zero_mul,Nat.add_zero]at e1;rw[Nat.one_mul,Nat.add_zero]at f0;replace e1:w1.cell? ⟨b,off+1,none⟩=some (.string (mk [97])):=e1;replace f0:w1.cell? ⟨b,off+4,none⟩=some (.int .i64 6):=f0;have HB:Hid (Below w.heap.size w w1):=hb.out;have hcp:(2:Nat)<=cap:=hk.out.2.1;have hcm:cap<=9223372036854775807:=hk.out.2.2;have hs:((mk [97]).toList==[97])=true:=by rw[ByteArray.toList_eq,mk_data];rfl
 clear HL hk hb hcell ht ht' e0 e2 e3 f1 f2 f3 hbc;simp only[List.length_cons,List.length_nil]at *;go_wp2;go_ret;exact⟨rfl,HB.out.trans ((below_alloc _ _).mono HB.out.size)⟩
end Lod
namespace Lod
open Utf Rws Pln Flw Tre
open Go.RowKit
open Blk (Rw RwAt z3)
set_option maxHeartbeats 4000000
end Lod
namespace Lod
open Utf Rws Pln Flw Tre
open Go.RowKit
open Blk (Rw RwAt z3)
set_option maxHeartbeats 4000000
theorem rsame_is {d d':Nat} {v v':Value} {t:Tr} {w:World} (h:TrV w d v t) (h':TrV w d' v' t):Calls Tryz.prog 16 #[v,v'] w fun e w'=>e=.returned (.bool true)/\Below w.heap.size w w' :=
 (rsame_any d d' v v' t t w h h').mono (fun e w' q=>by
  obtain⟨b,rfl,h1,h2⟩:=q;exact⟨by rw[h1.2 rfl],h2⟩)
structure TfS (w W:World) (K0 K1:Nat) (k:Int) (x y:ByteArray) (ad:Option Addr) (l c:Nat) (q1 q2:Int) (t:Tr):Prop where
 b0:Bx W K0 #[.int .i64 k,.string x,.string y,.slice ad l c] 35
 b1:Bx W K1 #[.int .i64 q1,.int .i64 q2] 32
 bl:Below w.heap.size w W
 t:TrV W 129 (.agg #[.int .i64 k,.string x,.string y,.slice ad l c]) t
theorem TfS.later {w W W':World} {K0 K1:Nat} {k:Int} {x y:ByteArray} {ad:Option Addr} {l c:Nat} {q1 q2:Int} {t:Tr} (h:TfS w W K0 K1 k x y ad l c q1 q2 t) (hb:Below W.heap.size W W'):TfS w W' K0 K1 k x y ad l c q1 q2 t:=⟨h.b0.later hb,h.b1.later hb,h.bl.trans (hb.mono h.bl.size),h.t.later hb (Nat.le_refl _)⟩
theorem TfS.new {w W:World} {k:Int} {x y:ByteArray} {ad:Option Addr} {l c:Nat} {q1 q2:Int} {t:Tr} (hb:Below w.heap.size w W) (h:TrV W 129 (.agg #[.int .i64 k,.string x,.string y,.slice ad l c]) t):TfS w ((W.alloc (.cells #[.int .i64 k,.string x,.string y,.slice ad l c] 35)).alloc (.cells #[.int .i64 q1,.int .i64 q2] 32)) W.heap.size (W.heap.size+1) k x y ad l c q1 q2 t:=by
 have h2:=two_b W #[.int .i64 k,.string x,.string y,.slice ad l c] #[.int .i64 q1,.int .i64 q2] 35 32;exact⟨h2.2.1,h2.2.2,hb.trans (h2.1.mono hb.size),h.later h2.1 (Nat.le_refl _)⟩
end Lod
namespace Rws
open Utf
theorem bef_app (a b:List UInt8) (h:has 10 a=true):bef (a++b)=bef a/\has 10 (a++b)=true/\aft (a++b)=aft a++b:=by
 have h2:has 10 (a++b)=true:=by unfold has at *;rw[List.any_append,h];rfl
 have h1:bef (a++b)=bef a:=by
  induction a with
  | nil=>cases h
  | cons x r ih =>
   unfold bef at *;rw[List.cons_append,List.takeWhile_cons,List.takeWhile_cons];by_cases hx:not10 x=true
   ·rw[if_pos hx,if_pos hx]
    have hr:has 10 r=true:=by
     rw[has_cons]at h;have:(x==10)=false:=by unfold not10 at hx;simpa using hx
     rw[this]at h;simpa using h
    have hr2:has 10 (r++b)=true:=by unfold has at *;rw[List.any_append,hr];rfl
    rw[ih hr hr2]
   ·rw[if_neg hx,if_neg hx]
 refine⟨h1,h2,?_⟩;unfold aft;rw[h1];have hlt:(bef a).length<a.length:=take_lt h;rw[List.drop_append_of_le_length (by omega)]
theorem aft_end (s:List UInt8):aft (s++[10])=[]\/∃ r,aft (s++[10])=r++[10]/\r.length<s.length+1:=by
 have hh:has 10 (s++[10])=true:=by unfold has;rw[List.any_append];simp
 have hlt:(bef (s++[10])).length<(s++[10]).length:=take_lt hh;rw[List.length_append]at hlt;simp at hlt;unfold aft;by_cases he:(bef (s++[10])).length+1=s.length+1
 ·left;exact List.drop_of_length_le (by simp;omega)
 ·right;refine⟨s.drop ((bef (s++[10])).length+1),?_,by rw[List.length_drop];omega⟩;rw[List.drop_append_of_le_length (by omega)]
theorem lns_app (n:Nat):∀ s t:List UInt8,s.length<=n->lns (s++[10]++t)=lns (s++[10])++lns t:=by
 induction n with
 | zero =>
  intro s t hs;obtain rfl:s=[]:=List.eq_nil_iff_length_eq_zero.2 (by omega);rw[List.nil_append,lns_next ([10]++t) (by simp),lns_next [10] (by simp)];have h:=bef_app [10] t rfl;have e1:line ([10]++t)=line [10]:=by unfold line;rw[h.2.1,h.1];rfl
  rw[e1,h.2.2];have e2:aft [10]=[]:=rfl;rw[e2,lns_nil];rfl
 | succ n ih =>
  intro s t hs;have hh:has 10 (s++[10])=true:=by unfold has;rw[List.any_append];simp
  have h:=bef_app (s++[10]) t hh;rw[lns_next (s++[10]++t) (by simp),lns_next (s++[10]) (by simp)];have e1:line (s++[10]++t)=line (s++[10]):=by unfold line;rw[h.2.1,h.1,hh];rfl
  rw[e1,h.2.2];rcases aft_end s with e | ⟨r,e,hr⟩
  ·rw[e,lns_nil];rfl
  ·rw[e];have hl:(aft (s++[10])).length<(s++[10]).length:=aft_len _ (by simp);rw[e]at hl;simp at hl;rw[ih r t (by omega)];rfl
theorem okay_both (A B:List (List UInt8)):okay (A++B)=(okay A && okay B):=by unfold okay;rw[List.all_append]
theorem mk_app (a b:List UInt8):mk a++mk b=mk (a++b):=by
 have h:(mk a++mk b).data.toList=a++b:=by
  rw[ByteArray.data_append,Array.toList_append,mk_data,mk_data]
 rw[<-mk_of (mk a++mk b),h]
end Rws
namespace Lod
open Utf Rws Pln Flw Tre
open Go.RowKit
open Blk (Rw RwAt z3)
set_option maxHeartbeats 4000000
def em1:Nat->Ln
 | 0=>[]
 | k+1=>em1 k++[35,32,110,10,10]
def em2 (k:Nat):Nat->Ln
 | 0=>em1 k
 | n+1=>em2 k n++[45,45,45,10]
theorem em1_len (k:Nat):(em1 k).length=5*k:=by
 induction k with
 | zero=>rfl
 | succ k ih=>rw[em1,List.length_append,ih];simp;omega
theorem em2_len (k n:Nat):(em2 k n).length=5*k+4*n:=by
 induction n with
 | zero=>exact em1_len k
 | succ n ih=>rw[em2,List.length_append,ih];simp;omega
def mkM:Nat->Nat->List Rw
 | _,0=>[]
 | c,n+1=>(0,[45,45,45],(c:Int))::mkM (c+1) n
theorem mkM_snoc:∀ (n c:Nat),mkM c (n+1)=mkM c n++[(0,[45,45,45],((c+n:Nat):Int))]
 | 0,c=>rfl
 | n+1,c=>by
  rw[mkM,mkM_snoc n (c+1),mkM,List.cons_append,show c+1+n=c+(n+1) by omega]
def emD:Nat->Nat->List (Int × List Rw)
 | _,0=>[]
 | c,n+1=>((c:Int),[])::emD (c+1) n
theorem emD_len:∀ (n c:Nat),(emD c n).length=n
 | 0,c=>rfl
 | n+1,c=>by rw[emD,List.length_cons,emD_len n]
theorem emD_at:∀ (n c i:Nat),i<n->(emD c n)[i]?=some (((c+i:Nat):Int),[])
 | 0,c,i,h=>absurd h (Nat.not_lt_zero _)
 | n+1,c,0,h=>rfl
 | n+1,c,i+1,h=>by
  rw[emD,List.getElem?_cons_succ,emD_at n (c+1) i (by omega),show c+1+i=c+(i+1) by omega]
theorem emD_snd:∀ (n c:Nat),(emD c n).map (fun d=>d.2)=List.replicate n []
 | 0,c=>rfl
 | n+1,c=>by rw[emD,List.map_cons,emD_snd n,List.replicate_succ]
theorem ahd_mkM:∀ (c n:Nat),ahd (mkM c n)=[]/\lft (mkM c n)=mkM c n
 | c,0=>⟨rfl,rfl⟩
 | c,n+1=>⟨rfl,rfl⟩
theorem doc1_mkM:∀ (n c f:Nat),n<f->doc1 f (mkM c n)=emD c n
 | 0,c,0,h=>rfl
 | 0,c,f+1,h=>rfl
 | n+1,c,0,h=>absurd h (Nat.not_lt_zero _)
 | n+1,c,f+1,h=>by
  obtain⟨h1,h2⟩:=ahd_mkM (c+1) n;rw[mkM,doc1,h1,h2,doc1_mkM n (c+1) f (by omega),emD]
theorem docs_mkM {A:List Rw} (h1:A.any mkr=false) (h2:A.any ful=false) (c n:Nat):docs (A++mkM c n)=emD c n:=by
 have hA:∀ r∈A,(!mkr r)=true:=fun r hr=>by
  have:mkr r=false:=by
   cases hm:mkr r
   ·rfl
   ·rw[List.any_eq_true.2 ⟨r,hr,hm⟩]at h1;cases h1
  rw[this];rfl
 obtain⟨h3,h4⟩:=ahd_mkM c n
 have e1:ahd (A++mkM c n)=A:=by
  unfold ahd at h3 |-;rw[List.takeWhile_append_of_pos hA,h3,List.append_nil]
 have e2:lft (A++mkM c n)=mkM c n:=by
  unfold lft at h4 |-;rw[List.dropWhile_append_of_pos hA,h4]
 unfold docs;rw[e1,e2,h2,if_neg (by decide),List.nil_append];refine doc1_mkM n c _ ?_
 have:(mkM c n).length=n:=by
  clear e1 e2 h3 h4
  induction n generalizing c with
  | zero=>rfl
  | succ n ih=>rw[mkM,List.length_cons,ih]
 rw[List.length_append,this];omega
theorem num_snoc:∀ (L:List Ln) (k:Nat) (x:Ln),num k (L++[x])=num k L++[(k+L.length,cl x)]
 | [],k,x=>rfl
 | l::r,k,x=>by
  rw[List.cons_append,num,num_snoc r (k+1) x,num,List.cons_append,List.length_cons,show k+1+r.length=k+(r.length+1) by omega]
theorem rw_mark (s:Ln) (hok:okay (lns (s++[10]))=true):okay (lns (s++[10]++[45,45,45,10]))=true/\(lns (s++[10]++[45,45,45,10])).length=(lns (s++[10])).length+1/\rwW (s++[10]++[45,45,45,10])=rwW (s++[10])++[(0,[45,45,45],((1+(lns (s++[10])).length:Nat):Int))]:=by
 have e0:lns [45,45,45,10]=[[45,45,45]]:=by decide +kernel
 have e:=lns_app s.length s [45,45,45,10] (Nat.le_refl _);rw[e0]at e
 have ho:okay (lns (s++[10]++[45,45,45,10]))=true:=by
  rw[e,okay_both,hok];decide +kernel
 refine⟨ho,by rw[e,List.length_append];rfl,?_⟩;unfold rwW Rws.rws;rw[if_pos ho,if_pos hok,e,num_snoc,List.map_append];rfl
theorem rw_mark0:okay (lns [45,45,45,10])=true/\(lns [45,45,45,10]).length=1/\rwW [45,45,45,10]=[(0,[45,45,45],1)]:=by
 refine⟨by decide +kernel,by decide +kernel,?_⟩;unfold rwW Rws.rws;rw[if_pos (by decide +kernel),show lns [45,45,45,10]=[[45,45,45]] by decide +kernel];rfl
theorem em2_end (k n:Nat):em2 k n=[]/\k=0/\n=0\/∃ s,em2 k n=s++[10]:=by
 cases n with
 | succ n=>exact .inr ⟨em2 k n++[45,45,45],by rw[em2,List.append_assoc];rfl⟩
 | zero =>
  cases k with
  | zero=>exact .inl ⟨rfl,rfl,rfl⟩
  | succ k=>exact .inr ⟨em1 k++[35,32,110,10],by rw[em2,em1,List.append_assoc];rfl⟩
theorem em1_all:∀ k,k<5->okay (lns (em1 k))=true/\(lns (em1 k)).length=2*k:=by decide +kernel
theorem em1_rows:∀ k,k<5->(rwW (em1 k)).any mkr=false/\(rwW (em1 k)).any ful=false:=by decide +kernel
theorem em_rows (k:Nat) (hk:k<5):∀ n,okay (lns (em2 k n))=true/\(lns (em2 k n)).length=2*k+n/\rwW (em2 k n)=rwW (em1 k)++mkM (2*k+1) n
 | 0=>⟨(em1_all k hk).1,(em1_all k hk).2,by rw[mkM,List.append_nil];rfl⟩
 | n+1=>by
  obtain⟨h1,h2,h3⟩:=em_rows k hk n;rcases em2_end k n with ⟨e,rfl,rfl⟩ | ⟨s,e⟩
  ·obtain⟨g1,g2,g3⟩:=rw_mark0;have e2:em2 0 (0+1)=[45,45,45,10]:=rfl;rw[e2];exact⟨g1,g2,g3⟩
  ·rw[e]at h1 h2 h3;obtain⟨g1,g2,g3⟩:=rw_mark s h1;have e2:em2 k (n+1)=s++[10]++[45,45,45,10]:=by rw[em2,e]
   rw[e2];refine⟨g1,by rw[g2,h2];omega,?_⟩;rw[g3,h3,mkM_snoc,List.append_assoc,h2,show 1+(2*k+n)=2*k+1+n by omega]
theorem em_all (k:Nat) (hk:k<5) (n:Nat):rwF (em2 k n)=(0,0)/\docs (rwW (em2 k n))=emD (2*k+1) n:=by
 obtain⟨h1,h2,h3⟩:=em_rows k hk n;refine⟨flt_ok _ h1 1,?_⟩;rw[h3];exact docs_mkM (em1_rows k hk).1 (em1_rows k hk).2 _ _
theorem pad_nil:paD []=(⟨1,[],[],[]⟩,0,0):=by kernel_rfl
theorem ldG_nils:∀ (n:Nat) (acc:List Tr),ldG paD (List.replicate n []) acc=(acc++List.replicate n ⟨1,[],[],[]⟩,0,0)
 | 0,acc=>by rw[List.replicate_zero,ldG,List.replicate_zero,List.append_nil]
 | n+1,acc=>by
  rw[List.replicate_succ,ldG,pad_nil,if_pos rfl,ldG_nils n,List.append_assoc,List.replicate_succ];rfl
theorem em_ld {k n:Nat} (hk:k<5):ldM (em2 k n)=if 64<n then ([],5,((2*k+65:Nat):Int))else (List.replicate n ⟨1,[],[],[]⟩,0,0):=by
 obtain⟨h1,h2⟩:=em_all k hk n;unfold ldM;rw[h1,h2,if_neg (by simp)];have hl:=emD_len n (2*k+1)
 have hm:tmF (emD (2*k+1) n)=if 64<n then (5,((2*k+65:Nat):Int))else (0,0):=by
  unfold tmF;by_cases h:64<n
  ·rw[if_pos h,emD_at n _ 64 h,show 2*k+1+64=2*k+65 by omega]
  ·rw[if_neg h,List.getElem?_eq_none (by omega)]
 rw[hm];by_cases h:64<n
 ·rw[if_pos h,if_pos (by show (5:Int)≠0;decide),if_pos h]
 ·rw[if_neg h,if_neg (by simp),if_neg h,emD_snd,ldG_nils];rfl
end Lod
namespace Lod
open Utf Rws Pln Flw Tre
open Go.RowKit
open Blk (Rw RwAt z3)
set_option maxHeartbeats 4000000
theorem getD_rep (n i:Nat) (t u:Tr) (h:i<n):(List.replicate n t).getD i u=t:=by
 rw[List.getD_eq_getElem?_getD,List.getElem?_replicate,if_pos h];rfl
theorem lempty_core (k n:Nat) (a b:Int) (w:World) (hT:Tb w) (hk:k<5) (hn:n<70) (ha0:0<=a) (ha1:a<=255) (hb0:0<=b) (hb1:b<=255) (hka:b % 5=(k:Int)) (hna:a % 70=(n:Int)) :
  Calls Tryz.prog 5 #[.int .u8 a,.int .u8 b] w fun e w'=>e=.returned (.bool true)/\Below w.heap.size w w':=by
 have HA:Hid (∀ W,Below w.heap.size w W->Calls Tryz.prog 7 #[] W fun e W'=>e=.returned (.bool true)/\Hid (Below w.heap.size w W')):=fun W b=>(alive_any (hT.later b)).mono (fun e W' q=>⟨q.1,b.trans (q.2.mono b.size)⟩)
 have hlen:(em2 k n).length<=20000:=by rw[em2_len];omega
 have HL:Hid (Calls Tryz.prog 14 #[.string (mk (em2 k n))] w (LdRes (ldM (em2 k n)) w)):=load_any _ (by omega) w hT (good_docs hlen);have HM1:Hid (∀ l:Ln,mk l++(⟨#[35,32,110,10,10]⟩:ByteArray)=mk (l++[35,32,110,10,10])):=fun l=>mk_app l [35,32,110,10,10]
 have HM2:Hid (∀ l:Ln,mk l++(⟨#[45,45,45,10]⟩:ByteArray)=mk (l++[45,45,45,10])):=fun l=>mk_app l [45,45,45,10]
 have w1:IntKind.i64.wrap a=a:=by rw[IntKind.wrap_i64];omega
 have w2:IntKind.i64.wrap b=b:=by rw[IntKind.wrap_i64];omega
 go_enter Tryz.func5,Tryz.ntmps5;go_wp2_with fail
 try rw[hna]
 go_loop [6,18] (fun ut ui=>∃ j:Nat,j<=k/\ui=.int .i64 (j:Int)/\ut=.string (mk (em1 j))) (fun _ ui=>k-(intOf ui).toNat)
 case atStart=>exact⟨0,Nat.zero_le _,rfl,rfl⟩
 case round =>
  obtain⟨j,hj,rfl,rfl⟩:=hrel;have hs1:(mk (em1 j)).size=5*j:=by rw[mk_size,em1_len]
  by_cases hlt:j<k
  ·have hj1:(j:Int)<(k:Int):=by omega
   go_wp2_with fail;go_round
   case rel=>exact⟨j+1,by omega,by go_num,by rw[HM1.out];rfl⟩
   case measure=>(simp[intOf]<;>omega)
  ·have e:j=k:=by omega
   subst e;go_wp2_with fail
   go_loop [6,28] (fun ut ui=>∃ i:Nat,i<=n/\ui=.int .i64 (i:Int)/\ut=.string (mk (em2 j i))) (fun _ ui=>n-(intOf ui).toNat)
   case atStart=>exact⟨0,Nat.zero_le _,rfl,rfl⟩
   case round =>
    obtain⟨i,hi,rfl,rfl⟩:=hrel;have hs2:(mk (em2 j i)).size=5*j+4*i:=by rw[mk_size,em2_len]
    by_cases hlt:i<n
    ·have hi1:(i:Int)<(n:Int):=by omega
     go_wp2_with fail;go_round
     case rel=>exact⟨i+1,by omega,by go_num,by rw[HM2.out];rfl⟩
     case measure=>(simp[intOf]<;>omega)
    ·have e:i=n:=by omega
     subst e;have hi70:(i:Int)<70:=by omega
     by_cases h64:64<i
     ·have h64i:(64:Int)<(i:Int):=by omega
      have hc:((2*j+65:Nat):Int)=2*(j:Int)+65:=by omega
      rw[em_ld hk,if_pos h64,hc]at HL;unfold LdRes at HL;dsimp only[List.length_nil]at HL;have he:=eql_flt 5 5 (2*(j:Int)+65) (2*(j:Int)+65);simp only[beq_self_eq_true,Bool.and_self]at he;clear hT h64 hc;go_wp2_with (first | (go_at_call 14;refine HL.out.mono ?_;rintro e w1 ⟨a1,cap1,rfl,hk1,hb1⟩;have H1:Hid (Below w.heap.size w (w1.alloc (.cells #[.int .i64 5,.int .i64 (2*(j:Int)+65)] 32))):=hb1.out.trans ((below_alloc _ _).mono hb1.out.size)) | (go_at_call 7;refine(HA.out _ H1.out).mono ?_;rintro e w2 ⟨rfl,H2⟩));go_ret;exact⟨rfl,H2.out⟩
     ·have h64i: ¬ (64:Int)<(i:Int):=by omega
      rw[em_ld hk,if_neg h64]at HL;unfold LdRes at HL;dsimp only at HL;rw[List.length_replicate]at HL;have he:=neq_flt 0 0 0 0;have HSm:Hid (∀ W v,TrP w.heap.size W 129 v ⟨1,[],[],[]⟩->Calls Tryz.prog 16 #[v,.agg #[.int .i64 1,.string ⟨#[]⟩,.string ⟨#[]⟩,.slice none 0 0]] W fun e W'=>e=.returned (.bool true)/\Hid (Below W.heap.size W W')):=fun W v h=>rsame_is (TrP.v h) (trv_leaf 1 W 128 (by constructor<;>decide))
      clear hT h64;go_wp2_with (go_at_call 14;refine HL.out.mono ?_;rintro e w1 ⟨a1,cap1,rfl,hk1,hb1⟩);have H1:Hid (Below w.heap.size w (w1.alloc (.cells #[.int .i64 0,.int .i64 0] 32))):=hb1.out.trans ((below_alloc _ _).mono hb1.out.size);have K1:Hid (KAtP w.heap.size (w1.alloc (.cells #[.int .i64 0,.int .i64 0] 32)) a1 i (List.replicate i ⟨1,[],[],[]⟩)):=hk1.out.1.later (below_alloc _ _);have hcl:i<=cap1:=hk1.out.2.1;have hcm:cap1<=9223372036854775807:=hk1.out.2.2;generalize w1.alloc (.cells #[.int .i64 0,.int .i64 0] 32)=W1 at H1 K1 |-;clear HL hk1 hb1
      go_loopw [64] (fun ui wr=>∃ q:Nat,q<=i/\ui=.int .i64 (q:Int)/\Hid (Below w.heap.size w wr/\KAtP w.heap.size wr a1 i (List.replicate i ⟨1,[],[],[]⟩))) (fun ui _=>i-(intOf ui).toNat)
      case atStart=>exact⟨0,Nat.zero_le _,rfl,H1.out,K1.out⟩
      case round =>
       obtain⟨q,hq,rfl,HQ⟩:=hrel;clear H1 K1;by_cases hlt:q<i
       ·obtain⟨b2,off,rfl,hbc,hbl,hcell⟩:=HQ.out.2.2 (by omega);obtain⟨x0,x1,x2,x3,e0,e1,e2,e3,ht⟩:=hcell q hlt;obtain⟨tk,tx,ta,ad,tl,tc,rfl,rfl,rfl,rfl⟩:=(TrP.v ht).cells;rw[getD_rep _ _ _ _ hlt]at ht;have hq0:(0:Int)<=(q:Int):=by omega
        have hq1:(q:Int)<(i:Int):=by omega
        have HT:Hid (TrP w.heap.size (wr.alloc (.cells #[.int .i64 tk,.string tx,.string ta,.slice ad tl tc] 35)) 129 (.agg #[.int .i64 tk,.string tx,.string ta,.slice ad tl tc]) ⟨1,[],[],[]⟩):=ht.later (below_alloc _ _);have HQ2:Hid (Below w.heap.size w (wr.alloc (.cells #[.int .i64 tk,.string tx,.string ta,.slice ad tl tc] 35))/\KAtP w.heap.size (wr.alloc (.cells #[.int .i64 tk,.string tx,.string ta,.slice ad tl tc] 35)) (some ⟨b2,off,none⟩) i (List.replicate i ⟨1,[],[],[]⟩)):=⟨HQ.out.1.trans ((below_alloc _ _).mono HQ.out.1.size),HQ.out.2.later (below_alloc _ _)⟩;clear hcell ht HQ hbc;go_wp2_with (go_at_call 16;refine(HSm.out _ _ HT.out).mono ?_;rintro e w5 ⟨rfl,B5⟩);go_roundw
        case rel=>exact⟨q+1,by omega,by go_num,HQ2.out.1.trans (B5.out.mono HQ2.out.1.size),HQ2.out.2.later B5.out⟩
        case measure=>(simp[intOf]<;>omega)
       ·have e:q=i:=by omega
        subst e;have HB:Hid (Below w.heap.size w wr):=HQ.out.1;clear HQ;go_wp2_with (go_at_call 7;refine(HA.out _ HB.out).mono ?_;rintro e w2 ⟨rfl,H2⟩);go_ret;exact⟨rfl,H2.out⟩
theorem lempty_walk (n m:Int) (w:World) (hn:(Lit.int .u8 n).wf=true) (hm:(Lit.int .u8 m).wf=true) (hT:Tb w):Calls Tryz.prog 5 #[.int .u8 n,.int .u8 m] w fun e w'=>e=.returned (.bool true)/\Below w.heap.size w w':=by
 obtain⟨a0,a1⟩:=bounds_u8 hn;obtain⟨b0,b1⟩:=bounds_u8 hm;refine lempty_core (m % 5).toNat (n % 70).toNat n m w hT ?_ ?_ ?_ ?_ ?_ ?_ ?_ ?_<;>omega
end Lod
end Go.Proofs.YtalijhclfppohaaGreatDoor
