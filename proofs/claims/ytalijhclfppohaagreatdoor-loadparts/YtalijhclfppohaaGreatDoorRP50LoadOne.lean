/- . -/
import Derived.Test.YtalijhclfppohaaGreatDoorR49LoadLd
set_option linter.unusedSimpArgs false
set_option linter.unusedVariables false
set_option maxRecDepth 100000
namespace Go.Proofs.YtalijhclfppohaaGreatDoor
namespace Lod
open Utf Rws Pln Flw Tre
open Go.RowKit
open Blk (Rw RwAt z3)
set_option maxHeartbeats 4000000
theorem load_any (s:Ln) (hs:s.length<=65536) (w:World) (hT:Tb w) (hg:∀ d∈docs (rwW s),Tre.Good d.2):Calls Tryz.prog 14 #[.string (mk s)] w (LdRes (ldM s) w):=by
 unfold ldM;by_cases h1:(rwF s).1≠0
 ·rw[if_pos h1];exact load_a s hs w h1
 ·rw[if_neg h1];have h1':(rwF s).1=0:=by simpa using h1
  by_cases h2:(tmF (docs (rwW s))).1≠0
  ·rw[if_pos h2];exact load_b s hs w h1' h2
  ·rw[if_neg h2];exact load_c (p:=paD) (fun rs a len cap W hg hT hR=>parse_any (msr rs+1) a len cap rs W hT hR hg (Nat.lt_succ_self _)) s hs w hT h1' (by simpa using h2) hg
end Lod
namespace Lod
open Utf Rws Pln Flw Tre
open Go.RowKit
open Blk (Rw RwAt z3)
set_option maxHeartbeats 4000000
theorem eql_flt (x1 y1 x2 y2:Int) (w:World):(binOp .eql 32 (.agg #[.int .i64 x1,.int .i64 x2]) (.agg #[.int .i64 y1,.int .i64 y2])).run Tryz.prog w=.ok (.bool (x1==y1 && x2==y2)) w:=by
 rw[run_eql_struct,run_equalIn_struct w 9999 32 _ _ (by kernel_rfl) (by kernel_rfl)];cases h1:x1==y1<;>cases h2:x2==y2<;>simp[go_sem,Program.fieldsOf,Tryz.underlying32,Tryz.underlying30,Tryz.underlying3,h1,h2]
def lvS:Ln:=[97,10,45,45,45,10,98,58,32,53,10]
def lvT1:Tr:=⟨4,[97],[],[]⟩
def lvT2:Tr:=⟨6,[],[],[⟨4,[98],[],[]⟩,⟨3,[53],[],[]⟩]⟩
theorem lv_ld:ldM lvS=([lvT1,lvT2],0,0):=by kernel_rfl
theorem alive_any {w:World} (hT:Tb w):Calls Tryz.prog 7 #[] w fun e w'=>e=.returned (.bool true)/\Below w.heap.size w w':=by
 have HL:Hid (Calls Tryz.prog 14 #[.string ⟨#[97,10,45,45,45,10,98,58,32,53,10]⟩] w (LdRes ([lvT1,lvT2],0,0) w)):=by
  have h:=load_any lvS (by decide) w hT (good_docs (by decide));rw[lv_ld]at h;exact h
 have he:=eql_flt 0 0 0 0;clear hT;go_enter Tryz.func7,Tryz.ntmps7;go_wp2_with fail;refine HL.out.mono ?_;rintro e w1 ⟨a,cap,rfl,hk,hb⟩;obtain⟨b,off,rfl,hbc,hbl,hcell⟩:=hk.out.1.2 (by decide);obtain⟨x0,x1,x2,x3,e0,e1,e2,e3,ht⟩:=hcell 0 (by decide);obtain⟨y0,y1,y2,y3,f0,f1,f2,f3,ht'⟩:=hcell 1 (by decide);obtain⟨ad,tl,tc,g1⟩:=(TrP.v ht).open4;obtain⟨ad',tl',tc',g2⟩:=(TrP.v ht').open4;unfold tv at g1 g2;simp only[Value.agg.injEq,Array.mk.injEq,List.cons.injEq,and_true]at g1 g2;obtain⟨rfl,rfl,rfl,rfl⟩:=g1;obtain⟨rfl,rfl,rfl,rfl⟩:=g2;rw[Nat.zero_mul,Nat.add_zero]at e1;rw[Nat.one_mul,Nat.add_zero]at f0;replace e1:w1.cell? ⟨b,off+1,none⟩=some (.string (mk [97])):=e1;replace f0:w1.cell? ⟨b,off+4,none⟩=some (.int .i64 6):=f0;have HB:Hid (Below w.heap.size w w1):=hb.out;have hcp:(2:Nat)<=cap:=hk.out.2.1;have hcm:cap<=9223372036854775807:=hk.out.2.2;have hs:((mk [97]).toList==[97])=true:=by rw[ByteArray.toList_eq,mk_data];rfl
 clear HL hk hb hcell ht ht' e0 e2 e3 f1 f2 f3 hbc;simp only[List.length_cons,List.length_nil]at *;go_wp2;go_ret;exact⟨rfl,HB.out.trans ((below_alloc _ _).mono HB.out.size)⟩
end Lod
namespace Lod
open Utf Rws Pln Flw Tre
open Go.RowKit
open Blk (Rw RwAt z3)
set_option maxHeartbeats 4000000
theorem rEmp_any (c k:Int) (t:List UInt8) (w:World):Calls Tryz.prog 21 #[.agg #[.int .i64 c,.string (mk t),.int .i64 k]] w fun e w'=>e=.returned (.bool (noth t))/\Below w.heap.size w w':=by
 cases t with
 | nil =>
  have hz:mk []=ByteArray.empty:=rfl;go_enter Tryz.func21,Tryz.ntmps21;go_wp2;go_ret;exact⟨rfl,(Below.refl _ _).alloc (Nat.le_refl _) _⟩
 | cons b r =>
  have hne:((mk (b::r)).toList==[])=false:=by rw[ByteArray.toList_eq,mk_data];rfl
  have hsz:(mk (b::r)).size=r.length+1:=by rw[mk_size];simp
  have hg:∀ h,(mk (b::r))[0]'h=b:=fun h=>by rw[mk_get];rfl
  have hb:=Rws.b35 b
  have HE:Hid (noth (b::r)=(b==35)):=by
   show noth (b::r)=(b==35);unfold noth;rw[hd_cons];simp
  go_enter Tryz.func21,Tryz.ntmps21;go_wp2;go_ret;rw[HE.out];exact⟨rfl,(Below.refl _ _).alloc (Nat.le_refl _) _⟩
theorem any_snoc (p:Rw->Bool) {rs:List Rw} {j:Nat} (h:j<rs.length):(rs.take (j+1)).any p=((rs.take j).any p || p (rs.getD j z3)):=by
 rw[List.take_succ_eq_append_getElem h,List.any_append,List.any_cons,List.any_nil,Bool.or_false,List.getD_eq_getElem?_getD,List.getElem?_eq_getElem h];rfl
end Lod
namespace Lod
open Utf Rws Pln Flw Tre
open Go.RowKit
open Blk (Rw RwAt z3)
set_option maxHeartbeats 1000000
def dpL (rs:List Rw):List (List Rw):=(docs rs).map fun d=>d.2
def cont (rs:List Rw) (f:Nat):List (List Rw):=if f=0 then dpL rs else if f<=rs.length then ahd (rs.drop f)::(doc1 (rs.length+1) (lft (rs.drop f))).map fun d=>d.2 else []
structure PrI (rs:List Rw) (i f:Nat) (out:List (List Rw)):Prop where
 fi:f<=i
 il:i<=rs.length+1
 no:∀ r∈(rs.drop f).take (i-f),mkr r=false
 eq:out++cont rs f=dpL rs
theorem PrI.start (rs:List Rw):PrI rs 0 0 []:=⟨Nat.le_refl _,Nat.zero_le _,fun r h=>(by rw[Nat.sub_self,List.take_zero]at h;cases h),by unfold cont;rw[if_pos rfl];rfl⟩
theorem PrI.skip {rs:List Rw} {i f:Nat} {out:List (List Rw)} (h:PrI rs i f out) (hi:i<rs.length) (hm:mkr (rs.getD i z3)=false):PrI rs (i+1) f out:=by
 have h1:=h.fi;refine⟨by omega,by omega,fun r hr=> ?_,h.eq⟩;rw[show i+1-f=(i-f)+1 by omega,List.take_succ_eq_append_getElem (by rw[List.length_drop];omega)]at hr;rcases List.mem_append.1 hr with hr | hr
 ·exact h.no r hr
 ·obtain rfl:=List.mem_singleton.1 hr;rw[List.getElem_drop];rw[List.getD_eq_getElem?_getD,List.getElem?_eq_getElem hi]at hm;have e:f+(i-f)=i:=by omega
  simp only[e];exact hm
theorem ahd_cut {rs:List Rw} {i f:Nat} (hf:f<=i) (hno:∀ r∈(rs.drop f).take (i-f),mkr r=false) (hi:i=rs.length\/(i<rs.length/\mkr (rs.getD i z3)=true)):ahd (rs.drop f)=(rs.drop f).take (i-f)/\lft (rs.drop f)=rs.drop i:=by
 have hs:rs.drop f=(rs.drop f).take (i-f)++rs.drop i:=by
  rw[show rs.drop i=(rs.drop f).drop (i-f) by rw[List.drop_drop,show f+(i-f)=i by omega],List.take_append_drop]
 have hp:∀ r∈(rs.drop f).take (i-f),(!mkr r)=true:=fun r hr=>by rw[hno r hr];rfl
 have he:(rs.drop i).takeWhile (fun r=> !mkr r)=[]/\(rs.drop i).dropWhile (fun r=> !mkr r)=rs.drop i:=by
  rcases hi with rfl | ⟨h1,h2⟩
  ·rw[List.drop_length];exact⟨rfl,rfl⟩
  ·rw[List.getD_eq_getElem?_getD,List.getElem?_eq_getElem h1]at h2;rw[List.drop_eq_getElem_cons h1,List.takeWhile_cons,List.dropWhile_cons];have:mkr rs[i]=true:=h2;rw[this];exact⟨rfl,rfl⟩
 constructor
 ·unfold ahd
  conv=>lhs;rw[hs]
  rw[List.takeWhile_append_of_pos hp,he.1,List.append_nil]
 ·unfold lft
  conv=>lhs;rw[hs]
  rw[List.dropWhile_append_of_pos hp,he.2]
theorem doc1_any (n m:Nat) (l:List Rw) (h1:l.length<n) (h2:l.length<m):doc1 n l=doc1 m l:=doc1_fuel n m l h1 h2
theorem cont_next {rs:List Rw} {i:Nat} (hi:i=rs.length\/(i<rs.length/\mkr (rs.getD i z3)=true)):(doc1 (rs.length+1) (rs.drop i)).map (fun d=>d.2)=cont rs (i+1):=by
 unfold cont;rw[if_neg (by omega)];rcases hi with rfl | ⟨h1,h2⟩
 ·rw[if_neg (by omega),List.drop_length];rfl
 ·rw[if_pos (by omega),List.drop_eq_getElem_cons h1,doc1,List.map_cons];have hl:=lft_len (rs.drop (i+1));rw[List.length_drop]at hl;rw[doc1_any rs.length (rs.length+1) (lft (rs.drop (i+1))) (by omega) (by omega)]
theorem PrI.take {rs:List Rw} {i f:Nat} {out:List (List Rw)} (h:PrI rs i f out) (hi:i=rs.length\/(i<rs.length/\mkr (rs.getD i z3)=true)) (hq:0<f\/(rs.take i).any ful=true):PrI rs (i+1) (i+1) (out++[(rs.drop f).take (i-f)]):=by
 obtain⟨h1,h2⟩:=ahd_cut h.fi h.no hi;refine⟨Nat.le_refl _,by have:=h.il;omega,fun r hr=>(by rw[Nat.sub_self,List.take_zero]at hr;cases hr),?_⟩;rw[<-h.eq,List.append_assoc];congr 1;rw[<-cont_next hi];unfold cont;by_cases hf:f=0
 ·subst hf;rw[if_pos rfl,Nat.sub_zero,List.drop_zero]at *;have hqq:(rs.take i).any ful=true:=by rcases hq with hq | hq;exact absurd hq (by omega);exact hq
  unfold dpL docs;rw[h1,h2,if_pos hqq];rfl
 ·have hfl:f<=rs.length:=by have:=h.fi;omega
  rw[if_neg hf,if_pos hfl,h1,h2];rfl
theorem PrI.pass {rs:List Rw} {i f:Nat} {out:List (List Rw)} (h:PrI rs i f out) (hi:i=rs.length\/(i<rs.length/\mkr (rs.getD i z3)=true)) (hf:f=0) (hq:(rs.take i).any ful=false):PrI rs (i+1) (i+1) out:=by
 subst hf;obtain⟨h1,h2⟩:=ahd_cut h.fi h.no hi;refine⟨Nat.le_refl _,by have:=h.il;omega,fun r hr=>(by rw[Nat.sub_self,List.take_zero]at hr;cases hr),?_⟩;rw[<-h.eq];congr 1;rw[<-cont_next hi];unfold cont;rw[if_pos rfl];rw[Nat.sub_zero,List.drop_zero]at h1;rw[List.drop_zero]at h2;unfold dpL docs;rw[h1,h2,hq,if_neg (by decide)];rfl
theorem PrI.done {rs:List Rw} {f:Nat} {out:List (List Rw)} (h:PrI rs (rs.length+1) f out) (hf:f=rs.length+1):out=dpL rs:=by
 have:=h.eq;unfold cont at this;rw[if_neg (by omega),if_neg (by omega),List.append_nil]at this;exact this
end Lod
end Go.Proofs.YtalijhclfppohaaGreatDoor
