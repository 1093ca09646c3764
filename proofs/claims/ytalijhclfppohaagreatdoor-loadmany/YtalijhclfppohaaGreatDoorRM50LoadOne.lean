/- . -/
import Derived.Test.YtalijhclfppohaaGreatDoorR49LoadLd
import Derived.Test.YtalijhclfppohaaGreatDoorR38FlowRsame
import Derived.Test.YtalijhclfppohaaGreatDoorR23RowsNum
import Derived.Test.YtalijhclfppohaaGreatDoorR46TreeBri
set_option linter.unusedSimpArgs false
set_option linter.unusedVariables false
set_option maxRecDepth 100000
namespace Go.Proofs.YtalijhclfppohaaGreatDoor
namespace Lod
open Utf Rws Pln Flw Tre
open Go.RowKit
open Blk (Rw RwAt z3)
set_option maxHeartbeats 4000000
theorem load_any (s:Ln) (hs:s.length<=65536) (w:World) (hT:Tb w) (hg:∀ d∈docs (rwW s),Tre.Good d.2):Calls Tryz.prog 14 #[.string (mk s)] w (LdRes (ldM s) w):=by
 unfold ldM;by_cases h1:(rwF s).1≠0
 ·rw[if_pos h1];exact load_a s hs w h1
 ·rw[if_neg h1];have h1':(rwF s).1=0:=by simpa using h1
  by_cases h2:(tmF (docs (rwW s))).1≠0
  ·rw[if_pos h2];exact load_b s hs w h1' h2
  ·rw[if_neg h2];exact load_c (p:=paD) (fun rs a len cap W hg hT hR=>parse_any (msr rs+1) a len cap rs W hT hR hg (Nat.lt_succ_self _)) s hs w hT h1' (by simpa using h2) hg
structure OnS (w W:World) (B0 B1:Nat):Prop where
 b0:Bx W B0 #[.int .i64 0,.string ⟨#[]⟩,.string ⟨#[]⟩,.slice none 0 0] 35
 b1:Bx W B1 #[.int .i64 0,.int .i64 0] 32
 bl:Below w.heap.size w W
 h0:w.heap.size<=B0
 h1:B0<B1
theorem OnS.later {w W W':World} {B0 B1:Nat} (h:OnS w W B0 B1) (hb:Below W.heap.size W W'):OnS w W' B0 B1:=⟨h.b0.later hb,h.b1.later hb,h.bl.trans (hb.mono h.bl.size),h.h0,h.h1⟩
theorem OnS.fill {w W:World} {B0 B1:Nat} (h:OnS w W B0 B1) (u0 u1 u2 u3 f0 f1:Value):Bx (fill6 W B0 B1 u0 u1 u2 u3 f0 f1) B0 #[u0,u1,u2,u3] 35/\Bx (fill6 W B0 B1 u0 u1 u2 u3 f0 f1) B1 #[f0,f1] 32/\Below w.heap.size w (fill6 W B0 B1 u0 u1 u2 u3 f0 f1):=by
 have h0:=h.h0;have h1:=h.h1;have hn:B0≠B1:=by omega
 have hn':B1≠B0:=by omega
 unfold fill6 fill4;exact⟨(((((h.b0.set 0 _).set 1 _).set 2 _).set 3 _).other hn _ _).other hn _ _,(((((h.b1.other hn' _ _).other hn' _ _).other hn' _ _).other hn' _ _).set 0 _).set 1 _,(((((h.bl.setCell (p:=⟨B0,0,none⟩) h0 _).setCell (p:=⟨B0,1,none⟩) h0 _).setCell (p:=⟨B0,2,none⟩) h0 _).setCell (p:=⟨B0,3,none⟩) h0 _).setCell (p:=⟨B1,0,none⟩) (by show _<=B1;omega) _).setCell (p:=⟨B1,1,none⟩) (by show _<=B1;omega) _⟩
theorem OnS.new (w:World):OnS w ((w.alloc (.cells #[.int .i64 0,.string ⟨#[]⟩,.string ⟨#[]⟩,.slice none 0 0] 35)).alloc (.cells #[.int .i64 0,.int .i64 0] 32)) w.heap.size (w.heap.size+1):=by
 have h:=two_b w #[.int .i64 0,.string ⟨#[]⟩,.string ⟨#[]⟩,.slice none 0 0] #[.int .i64 0,.int .i64 0] 35 32;exact⟨h.2.1,h.2.2,h.1,Nat.le_refl _,Nat.lt_succ_self _⟩
end Lod
namespace Lod
open Utf Rws Pln Flw Tre
open Go.RowKit
open Blk (Rw RwAt z3)
set_option maxHeartbeats 4000000
theorem eql_flt (x1 y1 x2 y2:Int) (w:World):(binOp .eql 32 (.agg #[.int .i64 x1,.int .i64 x2]) (.agg #[.int .i64 y1,.int .i64 y2])).run Tryz.prog w=.ok (.bool (x1==y1 && x2==y2)) w:=by
 rw[run_eql_struct,run_equalIn_struct w 9999 32 _ _ (by kernel_rfl) (by kernel_rfl)];cases h1:x1==y1<;>cases h2:x2==y2<;>simp[go_sem,Program.fieldsOf,Tryz.underlying32,Tryz.underlying30,Tryz.underlying3,h1,h2]
theorem neq_flt (x1 y1 x2 y2:Int) (w:World):(binOp .neq 32 (.agg #[.int .i64 x1,.int .i64 x2]) (.agg #[.int .i64 y1,.int .i64 y2])).run Tryz.prog w=.ok (.bool (!(x1==y1 && x2==y2))) w:=by
 rw[run_neq_struct,run_equalIn_struct w 9999 32 _ _ (by kernel_rfl) (by kernel_rfl)];cases h1:x1==y1<;>cases h2:x2==y2<;>simp[go_sem,Program.fieldsOf,Tryz.underlying32,Tryz.underlying30,Tryz.underlying3,h1,h2]
def lvS:Ln:=[97,10,45,45,45,10,98,58,32,53,10]
def lvT1:Tr:=⟨4,[97],[],[]⟩
def lvT2:Tr:=⟨6,[],[],[⟨4,[98],[],[]⟩,⟨3,[53],[],[]⟩]⟩
theorem lv_ld:ldM lvS=([lvT1,lvT2],0,0):=by kernel_rfl
theorem alive_any {w:World} (hT:Tb w):Calls Tryz.prog 7 #[] w fun e w'=>e=.returned (.bool true)/\Below w.heap.size w w':=by
 have HL:Hid (Calls Tryz.prog 14 #[.string ⟨#[97,10,45,45,45,10,98,58,32,53,10]⟩] w (LdRes ([lvT1,lvT2],0,0) w)):=by
  have h:=load_any lvS (by decide) w hT (good_docs (by decide));rw[lv_ld]at h;exact h
 have he:=eql_flt 0 0 0 0;clear hT;go_enter Tryz.func7,Tryz.ntmps7;go_wp2_with fail;refine HL.out.mono ?_;rintro e w1 ⟨a,cap,rfl,hk,hb⟩;obtain⟨b,off,rfl,hbc,hbl,hcell⟩:=hk.out.1.2 (by decide);obtain⟨x0,x1,x2,x3,e0,e1,e2,e3,ht⟩:=hcell 0 (by decide);obtain⟨y0,y1,y2,y3,f0,f1,f2,f3,ht'⟩:=hcell 1 (by decide);obtain⟨ad,tl,tc,g1⟩:=(TrP.v ht).open4;obtain⟨ad',tl',tc',g2⟩:=(TrP.v ht').open4;unfold tv at g1 g2;simp only[Value.agg.injEq,Array.mk.injEq,List.cons.injEq,and_true]at g1 g2;obtain⟨rfl,rfl,rfl,rfl⟩:=g1;obtain⟨rfl,rfl,rfl,rfl⟩:=g2;rw[Nat.zero_mul,Nat.add_zero]at e1;rw[Nat.one_mul,Nat.add_zero]at f0;replace e1:w1.cell? ⟨b,off+1,none⟩=some (.string (mk [97])):=e1;replace f0:w1.cell? ⟨b,off+4,none⟩=some (.int .i64 6):=f0;have HB:Hid (Below w.heap.size w w1):=hb.out;have hcp:(2:Nat)<=cap:=hk.out.2.1;have hcm:cap<=9223372036854775807:=hk.out.2.2;have hs:((mk [97]).toList==[97])=true:=by rw[ByteArray.toList_eq,mk_data];rfl
 clear HL hk hb hcell ht ht' e0 e2 e3 f1 f2 f3 hbc;simp only[List.length_cons,List.length_nil]at *;go_wp2;go_ret;exact⟨rfl,HB.out.trans ((below_alloc _ _).mono HB.out.size)⟩
end Lod
namespace Lod
open Utf Rws Pln Flw Tre
open Go.RowKit
open Blk (Rw RwAt z3)
set_option maxHeartbeats 4000000
theorem rEmp_any (c k:Int) (t:List UInt8) (w:World):Calls Tryz.prog 21 #[.agg #[.int .i64 c,.string (mk t),.int .i64 k]] w fun e w'=>e=.returned (.bool (noth t))/\Below w.heap.size w w':=by
 cases t with
 | nil =>
  have hz:mk []=ByteArray.empty:=rfl;go_enter Tryz.func21,Tryz.ntmps21;go_wp2;go_ret;exact⟨rfl,(Below.refl _ _).alloc (Nat.le_refl _) _⟩
 | cons b r =>
  have hne:((mk (b::r)).toList==[])=false:=by rw[ByteArray.toList_eq,mk_data];rfl
  have hsz:(mk (b::r)).size=r.length+1:=by rw[mk_size];simp
  have hg:∀ h,(mk (b::r))[0]'h=b:=fun h=>by rw[mk_get];rfl
  have hb:=Rws.b35 b
  have HE:Hid (noth (b::r)=(b==35)):=by
   show noth (b::r)=(b==35);unfold noth;rw[hd_cons];simp
  go_enter Tryz.func21,Tryz.ntmps21;go_wp2;go_ret;rw[HE.out];exact⟨rfl,(Below.refl _ _).alloc (Nat.le_refl _) _⟩
def whO (s:Ln):Bool:= !(rwW s).any mkr && (((rwF s).1==0 && (rwF s).2==0) && (rwW s).any ful)
theorem any_snoc (p:Rw->Bool) {rs:List Rw} {j:Nat} (h:j<rs.length):(rs.take (j+1)).any p=((rs.take j).any p || p (rs.getD j z3)):=by
 rw[List.take_succ_eq_append_getElem h,List.any_append,List.any_cons,List.any_nil,Bool.or_false,List.getD_eq_getElem?_getD,List.getElem?_eq_getElem h];rfl
theorem whole_any (s:Ln) (hs:s.length<=65536) (w:World):Calls Tryz.prog 11 #[.string (mk s)] w fun e w'=>e=.returned (.bool (whO s))/\Below w.heap.size w w':=by
 have HR:Hid (∀ W,Calls Tryz.prog 13 #[.string (mk s)] W (RdRes s W)):=fun W=>read_rw s hs W
 unfold RdRes at HR;obtain⟨V,HV⟩:∃ V,Hid (V=whO s):=⟨_,rfl⟩;rw[<-HV.out];unfold whO at HV;have hlb:(rwW s).length<=65536:=Nat.le_trans (rwW_small hs).1 hs;generalize rwF s=F at *;generalize rwW s=R at *;obtain⟨f1,f2⟩:=F;dsimp only at HR HV;have he:=eql_flt f1 0 f2 0;go_enter Tryz.func11,Tryz.ntmps11;go_upto_region 2 with (go_at_call 13;refine(HR.out _).mono ?_;rintro e w1 ⟨a,cap,rfl,hr,hb⟩)
 have N5:=Bx.new w1 #[.int .i64 f1,.int .i64 f2] 32;have HB5:Hid (Below w.heap.size w (w1.alloc (.cells #[.int .i64 f1,.int .i64 f2] 32))):=hb.out.trans ((below_alloc _ _).mono hb.out.size);have HR5:Hid (Tre.RowsIn (w1.alloc (.cells #[.int .i64 f1,.int .i64 f2] 32)) a R.length cap R):=hr.out.later (below_alloc _ _);generalize w1.alloc (.cells #[.int .i64 f1,.int .i64 f2] 32)=W5 at N5 HB5 HR5 |-;generalize w1.heap.size=K5 at N5 |-;have HN5:Hid (Bx W5 K5 #[.int .i64 f1,.int .i64 f2] 32):=N5;clear N5 hr hb HR;have hcl:R.length<=cap:=HR5.out.2.1;have hcm:cap<=9223372036854775807:=HR5.out.2.2.1;obtain⟨len,hlen⟩:∃ n,n=R.length:=⟨_,rfl⟩;have HLn:Hid (len=R.length):=hlen;rw[<-hlen]at HR5 hcl hlb |-;clear hlen;go_wp2_with fail
 go_loopw [5,15] (fun ub ui wr=>∃ j:Nat,j<=len/\ui=.int .i64 (j:Int)/\ub=.bool ((R.take j).any ful)/\Hid (Below W5.heap.size W5 wr/\(R.take j).any mkr=false)) (fun _ ui _=>len-(intOf ui).toNat)
 case atStart=>exact⟨0,Nat.zero_le _,rfl,rfl,Below.refl _ _,rfl⟩
 case round =>
  obtain⟨j,hj,rfl,rfl,HL⟩:=hrel;by_cases hlt:j<len
  ·obtain⟨b,off,rfl,hb,hcell⟩:=HR5.out.1.2 (by omega);obtain⟨x0,x1,x2⟩:=hcell j hlt;have hjr:j<R.length:=by have:=HLn.out;omega
   replace x0:=(HL.out.1.cell (p:=⟨b,off+j*3,none⟩) hb).trans x0;replace x1:=(HL.out.1.cell (p:=⟨b,off+j*3+1,none⟩) hb).trans x1;replace x2:=(HL.out.1.cell (p:=⟨b,off+j*3+2,none⟩) hb).trans x2;have HSM:Hid ((R.take (j+1)).any mkr=((R.take j).any mkr || mkr (R.getD j z3))):=any_snoc mkr hjr;have HSF:Hid ((R.take (j+1)).any ful=((R.take j).any ful || ful (R.getD j z3))):=any_snoc ful hjr
   have HMA:Hid (mkr (R.getD j z3)=true->V=false):=fun h=>by
    rw[HV.out];have:R.any mkr=true:=List.any_eq_true.2 ⟨_,getD_memR hjr,h⟩;rw[this];rfl
   have hj0:(0:Int)<=(j:Int):=by omega
   have hj1:(j:Int)<(len:Int):=by omega
   obtain⟨rc,rt,rz,HRJ⟩:∃ rc rt rz,Hid (R.getD j z3=(rc,rt,rz)):=⟨_,_,_,rfl⟩;rw[HRJ.out]at x0 x1 x2 HSM HSF HMA;have hE:((mk rt).toList==[45,45,45])=(rt==[45,45,45]):=by rw[ByteArray.toList_eq,mk_data]
   have HEM:Hid (∀ W,Calls Tryz.prog 21 #[.agg #[.int .i64 rc,.string (mk rt),.int .i64 rz]] W fun e w'=>e=.returned (.bool (noth rt))/\Below W.heap.size W w'):=fun W=>rEmp_any rc rz rt W
   have HNM:Hid (mkr (rc,rt,rz)=(rc==0 && rt==[45,45,45])):=rfl;have HNF:Hid (ful (rc,rt,rz)= !noth rt):=rfl;have HB1:Hid (Below W5.heap.size W5 wr/\(R.take j).any mkr=false):=HL;clear hcell hjr HL;by_cases hmk:rc=0/\(rt==[45,45,45])=true
   ·obtain⟨rfl,hm2⟩:=hmk;rw[hm2]at hE HNM;have HVF:Hid (V=false):=HMA.out (by rw[HNM.out];rfl);clear HMA HNM HSM HSF hm2;go_wp2_with fail;go_ret;rw[HVF.out];exact⟨rfl,HB5.out.trans ((HB1.out.1.trans ((below_alloc _ _).mono HB1.out.1.size)).mono HB5.out.size)⟩
   ·have HM0:Hid ((R.take (j+1)).any mkr=false):=by
     show _=_;rw[HSM.out,HB1.out.2,HNM.out,Bool.false_or];cases h1:rt==[45,45,45]
     ·rw[Bool.and_false]
     ·rw[Bool.and_true,beq_eq_false_iff_ne];exact fun h=>hmk ⟨h,h1⟩
    have hways:(rc==0)=false\/(rc=0/\((mk rt).toList==[45,45,45])=false):=by
     by_cases h:rc=0
     ·right;refine⟨h,?_⟩;rw[hE];cases h1:rt==[45,45,45]
      ·rfl
      ·exact absurd ⟨h,h1⟩ hmk
     ·left;simpa using h
    rw[HNF.out]at HSF;clear HMA HNM HSM hmk hE;generalize (R.take j).any ful=is at *;rcases hways with hw | ⟨rfl,hw⟩
    all_goals
     cases is
     ·go_wp2_with (go_at_call 21;refine(HEM.out _).mono ?_;rintro e w3 ⟨rfl,hb3⟩);go_roundw
      case rel=>exact⟨j+1,by omega,by go_num,by rw[HSF.out,Bool.false_or],(HB1.out.1.trans ((below_alloc _ _).mono HB1.out.1.size)).trans (hb3.mono (by have:=HB1.out.1.size;rw[World.size_alloc];omega)),HM0.out⟩
      case measure=>(simp[intOf]<;>omega)
     ·go_wp2_with fail;go_roundw
      case rel=>exact⟨j+1,by omega,by go_num,by rw[HSF.out,Bool.true_or],HB1.out.1.trans ((below_alloc _ _).mono HB1.out.1.size),HM0.out⟩
      case measure=>(simp[intOf]<;>omega)
  ·have e:j=len:=by omega
   have et:R.take j=R:=List.take_of_length_le (by have:=HLn.out;omega)
   have HVE:Hid (V=((f1==0 && f2==0) && R.any ful)):=by
    show _=_;have h1:=HL.out.2;rw[et]at h1;rw[HV.out,h1];rfl
   rw[et];subst e;have HN6:=HN5.out.later HL.out.1;obtain⟨c0,c1⟩:=HN6.c2;have HBF:Hid (Below w.heap.size w wr):=HB5.out.trans (HL.out.1.mono HB5.out.size);clear HL HR5 HN6 et HB5 HN5 hlt;generalize R.any ful=q at *;cases h1:(f1==0 && f2==0)
   ·rw[h1]at he HVE;go_wp2_with fail;go_ret;rw[HVE.out];exact⟨rfl,HBF.out⟩
   ·rw[h1]at he HVE;go_wp2_with fail;go_ret;rw[HVE.out];exact⟨rfl,HBF.out⟩
end Lod
namespace Lod
open Utf Rws Pln Flw Tre
open Go.RowKit
open Blk (Rw RwAt z3)
set_option maxHeartbeats 4000000
theorem rsame_is {d d':Nat} {v v':Value} {t:Tr} {w:World} (h:TrV w d v t) (h':TrV w d' v' t):Calls Tryz.prog 16 #[v,v'] w fun e w'=>e=.returned (.bool true)/\Below w.heap.size w w' :=
 (rsame_any d d' v v' t t w h h').mono (fun e w' q=>by
  obtain⟨b,rfl,h1,h2⟩:=q;exact⟨by rw[h1.2 rfl],h2⟩)
theorem pam_form (n:Nat) (rs:List Rw):((paM n rs).2.1≠0->(paM n rs).1=tr0)/\((paM n rs).2.1=0->(paM n rs).2=(0,0)):=by
 unfold paM;split
 ·rename_i h;exact⟨fun _=>rfl,fun h2=>absurd h2 h⟩
 ·split
  ·exact⟨fun _=>rfl,fun h2=>absurd (show (5:Int)=0 from h2) (by decide)⟩
  ·exact⟨fun h2=>absurd rfl h2,fun _=>rfl⟩
theorem lft_no {l:List Rw} (h:l.any mkr=false):ahd l=l/\lft l=[]:=by
 have h1:∀ r∈l,(!mkr r)=true:=fun r hr=>by
  have:mkr r=false:=by
   cases hm:mkr r
   ·rfl
   ·rw[List.any_eq_true.2 ⟨r,hr,hm⟩]at h;cases h
  rw[this];rfl
 have h2:=ahd_lft l
 have h3:ahd l=l:=by
  clear h h2;unfold ahd
  induction l with
  | nil=>rfl
  | cons r t ih=>rw[List.takeWhile_cons,if_pos (h1 r (by simp)),ih (fun q hq=>h1 q (by simp[hq]))]
 refine⟨h3,?_⟩;rw[h3]at h2;have:=congrArg List.length h2;rw[List.length_append]at this;exact List.eq_nil_of_length_eq_zero (by omega)
structure TfS (w W:World) (K0 K1:Nat) (k:Int) (x y:ByteArray) (ad:Option Addr) (l c:Nat) (q1 q2:Int) (t:Tr):Prop where
 b0:Bx W K0 #[.int .i64 k,.string x,.string y,.slice ad l c] 35
 b1:Bx W K1 #[.int .i64 q1,.int .i64 q2] 32
 bl:Below w.heap.size w W
 t:TrV W 129 (.agg #[.int .i64 k,.string x,.string y,.slice ad l c]) t
theorem TfS.later {w W W':World} {K0 K1:Nat} {k:Int} {x y:ByteArray} {ad:Option Addr} {l c:Nat} {q1 q2:Int} {t:Tr} (h:TfS w W K0 K1 k x y ad l c q1 q2 t) (hb:Below W.heap.size W W'):TfS w W' K0 K1 k x y ad l c q1 q2 t:=⟨h.b0.later hb,h.b1.later hb,h.bl.trans (hb.mono h.bl.size),h.t.later hb (Nat.le_refl _)⟩
theorem TfS.new {w W:World} {k:Int} {x y:ByteArray} {ad:Option Addr} {l c:Nat} {q1 q2:Int} {t:Tr} (hb:Below w.heap.size w W) (h:TrV W 129 (.agg #[.int .i64 k,.string x,.string y,.slice ad l c]) t):TfS w ((W.alloc (.cells #[.int .i64 k,.string x,.string y,.slice ad l c] 35)).alloc (.cells #[.int .i64 q1,.int .i64 q2] 32)) W.heap.size (W.heap.size+1) k x y ad l c q1 q2 t:=by
 have h2:=two_b W #[.int .i64 k,.string x,.string y,.slice ad l c] #[.int .i64 q1,.int .i64 q2] 35 32;exact⟨h2.2.1,h2.2.2,hb.trans (h2.1.mono hb.size),h.later h2.1 (Nat.le_refl _)⟩
theorem on_whole {s:Ln} (h:whO s=true):onM s=paD (rwW s):=by
 unfold whO at h;simp only[Bool.and_eq_true,Bool.not_eq_true',beq_iff_eq]at h;obtain⟨h1,⟨h2,h3⟩,h4⟩:=h;obtain⟨h5,h6⟩:=lft_no h1
 have hd:docs (rwW s)=[(0,rwW s)]:=by
  unfold docs;rw[h5,h6,if_pos h4];rfl
 have hm:ldM s=ldG paD [rwW s] []:=by
  unfold ldM;rw[if_neg (by simpa using h2),hd,if_neg (by simp[tmF])];rfl
 have hq:ldG paD [rwW s] []=if (paD (rwW s)).2.1=0 then ([(paD (rwW s)).1],0,0)else ([],(paD (rwW s)).2):=by
  rw[ldG];split
  ·rw[ldG];rfl
  ·rfl
 have hf:((paD (rwW s)).2.1≠0->(paD (rwW s)).1=tr0)/\((paD (rwW s)).2.1=0->(paD (rwW s)).2=(0,0)):=pam_form _ _;unfold onM;rw[hm,hq];generalize paD (rwW s)=P at hf |-;obtain⟨t,f1,f2⟩:=P;dsimp only at hf |-;by_cases h0:f1=0
 ·have:=hf.2 h0;rw[if_pos h0];simp only[Prod.mk.injEq]at this;rw[this.1,this.2];rfl
 ·rw[if_neg h0,if_pos h0,hf.1 h0]
end Lod
namespace Lod
open Utf Rws Pln Flw Tre
open Go.RowKit
open Blk (Rw RwAt z3)
set_option maxHeartbeats 4000000
def OnResP (q:Tf) (w:World) (e:Ending) (w':World):Prop:=∃ (k:Int) (x y:ByteArray) (ad:Option Addr) (l c:Nat),e=.returned (.tuple #[.agg #[.int .i64 k,.string x,.string y,.slice ad l c],.agg #[.int .i64 q.2.1,.int .i64 q.2.2]])/\Hid (TrP w.heap.size w' 129 (.agg #[.int .i64 k,.string x,.string y,.slice ad l c]) q.1)/\Hid (Below w.heap.size w w')
theorem trp_leaf (c:Nat) (k:Int) (w:World) (n:Nat) (h: -9223372036854775808<=k/\k<=9223372036854775807):TrP c w (n+1) (.agg #[.int .i64 k,.string ⟨#[]⟩,.string ⟨#[]⟩,.slice none 0 0]) ⟨k,[],[],[]⟩ :=
 ⟨none,0,0,rfl,rfl,Nat.le_refl _,Nat.zero_le _,⟨h.1,h.2,by simp,by simp⟩,fun h=>absurd h (by omega)⟩
theorem one_coreP (s:Ln) (w:World) (q:List Tr × Int × Int) (HL:Hid (∀ W,Below w.heap.size w W->Calls Tryz.prog 14 #[.string (mk s)] W (LdRes q W))) (hql:q.1.length<=1000000) :
  Calls Tryz.prog 12 #[.string (mk s)] w (OnResP (if q.2.1≠0 then (tr0,q.2)else if 1<q.1.length then (tr0,5,0)else (q.1.getD 0 ⟨1,[],[],[]⟩,0,0)) w):=by
 obtain⟨ks,f1,f2⟩:=q;dsimp only at hql |-;unfold LdRes at HL;dsimp only at HL;obtain⟨W0,hW0⟩:∃ W0,(w.alloc (.cells #[.int .i64 0,.string ⟨#[]⟩,.string ⟨#[]⟩,.slice none 0 0] 35)).alloc (.cells #[.int .i64 0,.int .i64 0] 32)=W0:=⟨_,rfl⟩;have H0:Hid (OnS w W0 w.heap.size (w.heap.size+1)):=by rw[<-hW0];exact OnS.new w
 have HW0:Hid ((w.alloc (.cells #[.int .i64 0,.string ⟨#[]⟩,.string ⟨#[]⟩,.slice none 0 0] 35)).alloc (.cells #[.int .i64 0,.int .i64 0] 32)=W0):=hW0;clear hW0;obtain⟨A,HA⟩:∃ A,Hid (A=if f1≠0 then (tr0,f1,f2)else if 1<ks.length then (tr0,5,0)else (ks.getD 0 ⟨1,[],[],[]⟩,0,0)):=⟨_,rfl⟩;rw[<-HA.out];go_enter Tryz.func12,Tryz.ntmps12;go_upto_region 1 with fail
 rw[HW0.out];obtain⟨B0,hB0⟩:∃ B,B=w.heap.size:=⟨_,rfl⟩;obtain⟨B1,hB1⟩:∃ B,B=w.heap.size+1:=⟨_,rfl⟩;rw[<-hB1,<-hB0]at H0
 try rw[<-hB1]
 try rw[<-hB0]
 clear hB0 hB1 HW0;go_upto_region 2 with (go_at_call 14;refine(HL.out _ H0.out.bl).mono ?_;rintro e w1 ⟨a,cap,rfl,hk,hb⟩)
 have H1:Hid (OnS w w1 B0 B1):=H0.out.later hb.out;have H5:Hid (OnS w (w1.alloc (.cells #[.int .i64 f1,.int .i64 f2] 32)) B0 B1):=H1.out.later (below_alloc _ _);have N5:=Bx.new w1 #[.int .i64 f1,.int .i64 f2] 32;have hn5:B0≠w1.heap.size/\B1≠w1.heap.size:=⟨by have:=H1.out.b0.lt;omega,by have:=H1.out.b1.lt;omega⟩;have HK5:Hid (KAtP W0.heap.size (w1.alloc (.cells #[.int .i64 f1,.int .i64 f2] 32)) a ks.length ks):=hk.out.1.later (below_alloc _ _);have hl0:B1<W0.heap.size:=H0.out.b1.lt;have hl01:B0<B1:=H0.out.h1;have hcl:ks.length<=cap:=hk.out.2.1;have hcm:cap<=9223372036854775807:=hk.out.2.2;generalize w1.alloc (.cells #[.int .i64 f1,.int .i64 f2] 32)=W5 at H5 N5 HK5 |-;generalize w1.heap.size=K5 at N5 hn5 |-;have HWs:Hid (w.heap.size<=W0.heap.size):=H0.out.bl.size;clear H0 H1 hk hb HL;obtain⟨hn50,hn51⟩:=hn5;obtain⟨c0,c1⟩:=N5.c2;obtain⟨d0,d1,d2,d3⟩:=H5.out.b0.c4;obtain⟨d4,d5⟩:=H5.out.b1.c2;have z0:=H5.out.b0.fz 0;have z1:=H5.out.b0.fz 1;have z2:=H5.out.b0.fz 2;have z3:=H5.out.b0.fz 3;have z4:=H5.out.b1.fz 0;have z5:=H5.out.b1.fz 1;have hn01:B0≠B1:=by have:=H5.out.h1;omega
 clear N5;by_cases hf:f1≠0
 ·have HA2:Hid (A=(tr0,f1,f2)):=HA.out.trans (if_pos hf);have hfn:(f1 != 0)=true:=by simpa using hf
  have HF:Hid (_/\_/\_):=H5.out.fill (.int .i64 0) (.string ⟨#[]⟩) (.string ⟨#[]⟩) (.slice none 0 0) (.int .i64 f1) (.int .i64 f2);clear H5 HA hf HK5;go_wp2;go_region
  all_goals
   go_wp2;change bodyPost _ _ _ _ _ (fill6 W5 B0 B1 (.int .i64 0) (.string ⟨#[]⟩) (.string ⟨#[]⟩) (.slice none 0 0) (.int .i64 f1) (.int .i64 f2)).drew;generalize fill6 W5 B0 B1 (.int .i64 0) (.string ⟨#[]⟩) (.string ⟨#[]⟩) (.slice none 0 0) (.int .i64 f1) (.int .i64 f2)=W9 at HF |-;obtain⟨g0,g1,g2,g3⟩:=HF.out.1.c4;obtain⟨g4,g5⟩:=HF.out.2.1.c2;refine bodyPost_ret (v:=.tuple #[.agg #[.int .i64 0,.string ⟨#[]⟩,.string ⟨#[]⟩,.slice none 0 0],.agg #[.int .i64 f1,.int .i64 f2]]) (by simp[results,Tryz.results12,go_sem,g0,g1,g2,g3,g4,g5]) rfl ?_;rw[HA2.out];exact⟨0,⟨#[]⟩,⟨#[]⟩,none,0,0,rfl,trp_leaf w.heap.size 0 _ 128 (by constructor<;>decide),HF.out.2.2.drew⟩
 have hf0:f1=0:=by simpa using hf
 subst hf0;have HA1:Hid (A=if 1<ks.length then (tr0,5,0)else (ks.getD 0 ⟨1,[],[],[]⟩,0,0)):=HA.out.trans (if_neg (by simp));clear HA hf;by_cases h1:1<ks.length
 ·have HA2:Hid (A=(tr0,5,0)):=HA1.out.trans (if_pos h1);have h1i:(1:Int)<(ks.length:Int):=by omega
  have HF:Hid (_/\_/\_):=H5.out.fill (.int .i64 0) (.string ⟨#[]⟩) (.string ⟨#[]⟩) (.slice none 0 0) (.int .i64 5) (.int .i64 0);clear H5 HA1 h1 HK5;generalize ks.length=L at *;go_wp2;change bodyPost _ _ _ _ _ (fill6 W5 B0 B1 (.int .i64 0) (.string ⟨#[]⟩) (.string ⟨#[]⟩) (.slice none 0 0) (.int .i64 5) (.int .i64 0));generalize fill6 W5 B0 B1 (.int .i64 0) (.string ⟨#[]⟩) (.string ⟨#[]⟩) (.slice none 0 0) (.int .i64 5) (.int .i64 0)=W9 at HF |-;obtain⟨g0,g1,g2,g3⟩:=HF.out.1.c4;obtain⟨g4,g5⟩:=HF.out.2.1.c2;refine bodyPost_ret (v:=.tuple #[.agg #[.int .i64 0,.string ⟨#[]⟩,.string ⟨#[]⟩,.slice none 0 0],.agg #[.int .i64 5,.int .i64 0]]) (by simp[results,Tryz.results12,go_sem,g0,g1,g2,g3,g4,g5]) rfl ?_;rw[HA2.out];exact⟨0,⟨#[]⟩,⟨#[]⟩,none,0,0,rfl,trp_leaf w.heap.size 0 _ 128 (by constructor<;>decide),HF.out.2.2⟩
 have HA3:Hid (A=(ks.getD 0 ⟨1,[],[],[]⟩,0,0)):=HA1.out.trans (if_neg h1);clear HA1;have h1i: ¬ (1:Int)<(ks.length:Int):=by omega
 cases ks with
 | nil =>
  have HF:Hid (_/\_/\_):=H5.out.fill (.int .i64 1) (.string ⟨#[]⟩) (.string ⟨#[]⟩) (.slice none 0 0) (.int .i64 0) (.int .i64 0);clear H5 h1 HK5 h1i;have hz:((([]:List Tr).length:Nat):Int)=0:=rfl;simp only[List.length_nil]at *;go_wp2;change bodyPost _ _ _ _ _ (fill6 W5 B0 B1 (.int .i64 1) (.string ⟨#[]⟩) (.string ⟨#[]⟩) (.slice none 0 0) (.int .i64 0) (.int .i64 0));generalize fill6 W5 B0 B1 (.int .i64 1) (.string ⟨#[]⟩) (.string ⟨#[]⟩) (.slice none 0 0) (.int .i64 0) (.int .i64 0)=W9 at HF |-;obtain⟨g0,g1,g2,g3⟩:=HF.out.1.c4;obtain⟨g4,g5⟩:=HF.out.2.1.c2;refine bodyPost_ret (v:=.tuple #[.agg #[.int .i64 1,.string ⟨#[]⟩,.string ⟨#[]⟩,.slice none 0 0],.agg #[.int .i64 0,.int .i64 0]]) (by simp[results,Tryz.results12,go_sem,g0,g1,g2,g3,g4,g5]) rfl ?_;rw[HA3.out];exact⟨1,⟨#[]⟩,⟨#[]⟩,none,0,0,rfl,trp_leaf w.heap.size 1 _ 128 (by constructor<;>decide),HF.out.2.2⟩
 | cons t r =>
  have hr:r=[]:=List.eq_nil_of_length_eq_zero (by rw[List.length_cons]at h1;omega);subst hr;obtain⟨b,off,rfl,hbc,hbl,hcell⟩:=HK5.out.2 (by simp);obtain⟨x0,x1,x2,x3,e0,e1,e2,e3,ht⟩:=hcell 0 (by simp);obtain⟨k,tx,ta,ad,tl,tc,rfl,rfl,rfl,rfl⟩:=(TrP.v ht).cells;rw[Nat.zero_mul,Nat.add_zero]at e0 e1 e2 e3;have HT:=ht;have HF:Hid (_/\_/\_):=H5.out.fill (.int .i64 k) (.string tx) (.string ta) (.slice ad tl tc) (.int .i64 0) (.int .i64 0)
  have HTF:Hid (TrP W0.heap.size (fill6 W5 B0 B1 (.int .i64 k) (.string tx) (.string ta) (.slice ad tl tc) (.int .i64 0) (.int .i64 0)) 129 (.agg #[.int .i64 k,.string tx,.string ta,.slice ad tl tc]) t):=by
   refine TrP.keep (c:=W0.heap.size) (w:=W5) ?_ (fun j h1 h2=> ?_) HT
   ·unfold fill6 fill4;simp only[World.size_setCell];exact Nat.le_refl _
   ·unfold fill6 fill4;rw[Below.heap_setCell _ _ _ _ (fun e=>by simp only at e;omega),Below.heap_setCell _ _ _ _ (fun e=>by simp only at e;omega),Below.heap_setCell _ _ _ _ (fun e=>by simp only at e;omega),Below.heap_setCell _ _ _ _ (fun e=>by simp only at e;omega),Below.heap_setCell _ _ _ _ (fun e=>by simp only at e;omega),Below.heap_setCell _ _ _ _ (fun e=>by simp only at e;omega)]
  clear H5 h1 HK5 hcell ht HT hbc hl0 hl01;simp only[List.length_cons,List.length_nil]at *;go_wp2;change bodyPost _ _ _ _ _ (fill6 W5 B0 B1 (.int .i64 k) (.string tx) (.string ta) (.slice ad tl tc) (.int .i64 0) (.int .i64 0));generalize fill6 W5 B0 B1 (.int .i64 k) (.string tx) (.string ta) (.slice ad tl tc) (.int .i64 0) (.int .i64 0)=W9 at HF HTF |-;obtain⟨g0,g1,g2,g3⟩:=HF.out.1.c4;obtain⟨g4,g5⟩:=HF.out.2.1.c2;refine bodyPost_ret (v:=.tuple #[.agg #[.int .i64 k,.string tx,.string ta,.slice ad tl tc],.agg #[.int .i64 0,.int .i64 0]]) (by simp[results,Tryz.results12,go_sem,g0,g1,g2,g3,g4,g5]) rfl ?_;rw[HA3.out];exact⟨k,tx,ta,ad,tl,tc,rfl,TrQ.wide (fun j h _=>Nat.le_trans HWs.out h) HTF.out,HF.out.2.2⟩
theorem one_anyP (s:Ln) (hs:s.length<=65536) (w:World) (hT:Tb w) (hg:∀ d∈docs (rwW s),Tre.Good d.2):Calls Tryz.prog 12 #[.string (mk s)] w (OnResP (onM s) w):=by
 have hl:(ldM s).1.length<=1000000:=ldM_len s;exact one_coreP s w (ldM s) (fun W hb=>load_any s hs W (hT.later hb) hg) hl
end Lod
namespace Rws
open Utf
theorem bef_app (a b:List UInt8) (h:has 10 a=true):bef (a++b)=bef a/\has 10 (a++b)=true/\aft (a++b)=aft a++b:=by
 have h2:has 10 (a++b)=true:=by unfold has at *;rw[List.any_append,h];rfl
 have h1:bef (a++b)=bef a:=by
  induction a with
  | nil=>cases h
  | cons x r ih =>
   unfold bef at *;rw[List.cons_append,List.takeWhile_cons,List.takeWhile_cons];by_cases hx:not10 x=true
   ·rw[if_pos hx,if_pos hx]
    have hr:has 10 r=true:=by
     rw[has_cons]at h;have:(x==10)=false:=by unfold not10 at hx;simpa using hx
     rw[this]at h;simpa using h
    have hr2:has 10 (r++b)=true:=by unfold has at *;rw[List.any_append,hr];rfl
    rw[ih hr hr2]
   ·rw[if_neg hx,if_neg hx]
 refine⟨h1,h2,?_⟩;unfold aft;rw[h1];have hlt:(bef a).length<a.length:=take_lt h;rw[List.drop_append_of_le_length (by omega)]
theorem aft_end (s:List UInt8):aft (s++[10])=[]\/∃ r,aft (s++[10])=r++[10]/\r.length<s.length+1:=by
 have hh:has 10 (s++[10])=true:=by unfold has;rw[List.any_append];simp
 have hlt:(bef (s++[10])).length<(s++[10]).length:=take_lt hh;rw[List.length_append]at hlt;simp at hlt;unfold aft;by_cases he:(bef (s++[10])).length+1=s.length+1
 ·left;exact List.drop_of_length_le (by simp;omega)
 ·right;refine⟨s.drop ((bef (s++[10])).length+1),?_,by rw[List.length_drop];omega⟩;rw[List.drop_append_of_le_length (by omega)]
theorem lns_app (n:Nat):∀ s t:List UInt8,s.length<=n->lns (s++[10]++t)=lns (s++[10])++lns t:=by
 induction n with
 | zero =>
  intro s t hs;obtain rfl:s=[]:=List.eq_nil_iff_length_eq_zero.2 (by omega);rw[List.nil_append,lns_next ([10]++t) (by simp),lns_next [10] (by simp)];have h:=bef_app [10] t rfl;have e1:line ([10]++t)=line [10]:=by unfold line;rw[h.2.1,h.1];rfl
  rw[e1,h.2.2];have e2:aft [10]=[]:=rfl;rw[e2,lns_nil];rfl
 | succ n ih =>
  intro s t hs;have hh:has 10 (s++[10])=true:=by unfold has;rw[List.any_append];simp
  have h:=bef_app (s++[10]) t hh;rw[lns_next (s++[10]++t) (by simp),lns_next (s++[10]) (by simp)];have e1:line (s++[10]++t)=line (s++[10]):=by unfold line;rw[h.2.1,h.1,hh];rfl
  rw[e1,h.2.2];rcases aft_end s with e | ⟨r,e,hr⟩
  ·rw[e,lns_nil];rfl
  ·rw[e];have hl:(aft (s++[10])).length<(s++[10]).length:=aft_len _ (by simp);rw[e]at hl;simp at hl;rw[ih r t (by omega)];rfl
theorem okay_both (A B:List (List UInt8)):okay (A++B)=(okay A && okay B):=by unfold okay;rw[List.all_append]
theorem mk_app (a b:List UInt8):mk a++mk b=mk (a++b):=by
 have h:(mk a++mk b).data.toList=a++b:=by
  rw[ByteArray.data_append,Array.toList_append,mk_data,mk_data]
 rw[<-mk_of (mk a++mk b),h]
end Rws
namespace Lod
open Utf Rws Pln Flw Tre
open Go.RowKit
open Blk (Rw RwAt z3 lo rws joinW trm fld headO hdV mx addL)
set_option maxHeartbeats 1000000
section
variable (g:Int->Int)
def rAt (r:Rw):Rw:=(r.1,r.2.1,g r.2.2)
def hAt (h:Hd):Hd:=(rAt g h.1,h.2)
def fAt (x:Tf):Tf:=(x.1,x.2.1,g x.2.2)
def lAt (x:List Tr × Int × Int):List Tr × Int × Int:=(x.1,x.2.1,g x.2.2)
theorem cnt_at (rs:List Rw):cnt (rs.map (rAt g))=(cnt rs).map (rAt g):=by
 induction rs with
 | nil=>rfl
 | cons r t ih =>
  unfold Tre.cnt at *;rw[List.map_cons,List.dropWhile_cons,List.dropWhile_cons];by_cases h:noth r.2.1=true
  ·rw[if_pos (show noth (rAt g r).2.1=true from h),if_pos h,ih]
  ·rw[if_neg (show ¬ noth (rAt g r).2.1=true from h),if_neg h];rfl
theorem dpn_atg (c:Int) (rs:List Rw):dpn (rs.map (rAt g)) c=dpn rs c:=by
 unfold dpn
 induction rs with
 | nil=>rfl
 | cons r t ih =>
  rw[List.map_cons,List.takeWhile_cons,List.takeWhile_cons,show dpr c (rAt g r)=dpr c r from rfl];split
  ·rw[List.length_cons,List.length_cons,ih]
  ·rfl
theorem stE_at (c:Int) (rs:List Rw):stE c (rs.map (rAt g))=stE c rs:=by
 unfold stE;rw[cnt_at];cases cnt rs<;>rfl
theorem stA_at (hg:g 0=0) (rs:List Rw):stA (rs.map (rAt g))=g (stA rs):=by
 unfold stA;rw[cnt_at]
 cases cnt rs with
 | nil=>exact hg.symm
 | cons r t=>rfl
theorem lnM_at (hg:g 0=0) (c z:Int) (l:Ln) (rs:List Rw):lnM c (g z) l (rs.map (rAt g))=fAt g (lnM c z l rs):=by
 unfold lnM;rw[stE_at,stA_at g hg];split
 ·rfl
 ·split
  ·rfl
  ·rfl
theorem rws_at (c:Int):∀ rs:List Rw,rws (rs.map (rAt g)) c=(rws rs c).map (rAt g)
 | []=>rfl
 | r::t=>by
  rw[List.map_cons,Blk.rws_cons,Blk.rws_cons,rws_at c t];show (if r.2.1=[]\/c<(mx r.1:Int)then _ else _)=_;split
  ·rfl
  ·rfl
def sAt:List Ln ⊕ Int->List Ln ⊕ Int
 | .inl l=>.inl l
 | .inr x=>.inr (g x)
theorem addL_at (a:List Ln) (x:List Ln ⊕ Int):addL a (sAt g x)=sAt g (addL a x):=by cases x<;>rfl
theorem lo_at:∀ (o:Option Nat) (rs:List Rw),lo o (rs.map (rAt g))=sAt g (lo o rs)
 | o,[]=>by cases o<;>rfl
 | o,r::t=>by
  rw[List.map_cons,lo,lo];show (if r.2.1=[]then _ else if mx r.1<o.getD (mx r.1)\/o.getD (mx r.1)+65536<mx r.1 then _ else _)=_;split
  ·rw[lo_at o t,addL_at]
  ·split
   ·rfl
   ·rw[<-addL_at,<-lo_at _ t];rfl
theorem blM_at (hg:g 0=0) (c z:Int) (p:Pp) (f:Bool) (ch:Int) (rs:List Rw):blM c (g z) p f ch (rs.map (rAt g))=fAt g (blM c z p f ch rs):=by
 unfold blM;rw[rws_at,lo_at]
 cases lo none (rws rs c)with
 | inr x=>rfl
 | inl ls =>
  simp only[sAt];rw[<-List.map_drop,stE_at,stA_at g hg];split
  ·rfl
  ·rfl
theorem hds_at (hg:g 0=0) (dp:Bool):∀ (n:Nat) (c:Int) (rs:List Rw),hds dp n c (rs.map (rAt g))=((hds dp n c rs).1.map (hAt g),(hds dp n c rs).2.1.map (rAt g),(hds dp n c rs).2.2.1,g (hds dp n c rs).2.2.2)
 | 0,_,_=>by rw[hds,hds,hg];rfl
 | n+1,c,rs=>by
  unfold hds;rw[cnt_at]
  cases cnt rs with
  | nil=>simp only[List.map_nil,hg]
  | cons r rest =>
   simp only[List.map_cons];by_cases h1:r.1<c
   ·rw[if_pos h1,if_pos (show (rAt g r).1<c from h1)];rfl
   ·rw[if_neg h1,if_neg (show ¬ (rAt g r).1<c from h1)];by_cases h2:(!noth (CP ⟨[],0⟩ r.2.1).2 || dp)=true
    ·rw[if_pos h2,if_pos (show (!noth (CP ⟨[],0⟩ (rAt g r).2.1).2 || dp)=true from h2)];simp only[List.map_nil,List.map_cons,hg]
    ·rw[if_neg h2,if_neg (show ¬ (!noth (CP ⟨[],0⟩ (rAt g r).2.1).2 || dp)=true from h2)];have ih:=hds_at hg dp n r.1 rest;rw[show (rAt g r).1=r.1 from rfl,ih];rfl
theorem orM_at (hg:g 0=0) (h:Hd) (t:Tr):orM (hAt g h) t=fAt g (orM h t):=by
 unfold Tre.orM;show (if samePp h.2 ⟨[],0⟩=true then _ else if orB h.2 t.kind t.anc=true then _ else if onB h.2 t.kind=true then _ else _)=_;split
 ·unfold fAt;simp only[hg]
 ·split
  ·rfl
  ·split
   ·rfl
   ·unfold fAt;simp only[hg];rfl
theorem noM_at (hg:g 0=0) (h:Hd):noM (hAt g h)=fAt g (noM h):=by
 unfold noM;show (if onB h.2 (nuK h.2)=true then _ else _)=_;split
 ·rfl
 ·unfold fAt;simp only[hg];rfl
theorem bak_at (hg:g 0=0):∀ (hs:List Hd) (r:Tf),bak (hs.map (hAt g)) (fAt g r)=fAt g (bak hs r)
 | [],r=>rfl
 | h::hs,r=>by
  rw[List.map_cons,bak,bak];show (if r.2.1≠0 then _ else _)=_;split
  ·rfl
  ·show bak (hs.map (hAt g)) (orM (hAt g h) r.1)=_;rw[orM_at g hg,bak_at hg hs]
theorem beM_at (hg:g 0=0) {val:Rw->List Rw->Tf} {dp:Bool} {h:Hd} {rs:List Rw} (hh:∀ r rest,val (rAt g r) (rest.map (rAt g))=fAt g (val r rest)):beM val dp (hAt g h) (rs.map (rAt g))=fAt g (beM val dp h rs):=by
 unfold beM;simp only[List.length_map];rw[show (hAt g h).1.1=h.1.1 from rfl,hds_at g hg];generalize hds dp (rs.length+1) h.1.1 rs=q;obtain⟨hs,us,y,z⟩:=q;simp only;split
 ·rfl
 ·cases us with
  | cons r rest =>
   simp only[List.map_cons];rw[hh,<-bak_at g hg,List.map_reverse,List.map_cons]
  | nil =>
   simp only[List.map_nil];rw[<-bak_at g hg];have e:(hAt g h::hs.map (hAt g)).reverse=((h::hs).reverse).map (hAt g):=by rw[List.map_reverse,List.map_cons]
   rw[e];rw[show (h::hs).reverse.headD h=(h::hs).reverse.headD h from rfl]
   cases (h::hs).reverse with
   | nil=>simp only[List.map_nil,List.tail_nil,List.headD_nil];rw[noM_at g hg]
   | cons x l=>simp only[List.map_cons,List.tail_cons,List.headD_cons];rw[noM_at g hg]
theorem meM_at (hg:g 0=0) {val:Int->Rw->List Rw->Tf} (ar:Int) (r:Rw) (l:Ln) (u:List Rw) (hh:∀ q rest,val ar (rAt g q) (rest.map (rAt g))=fAt g (val ar q rest)):meM val ar (rAt g r) l (u.map (rAt g))=fAt g (meM val ar r l u):=by
 unfold meM mnM;split
 ·exact beM_at g hg (h:=(r,_)) hh
 ·cases headO (note (CP ⟨[],0⟩ l).2)with
  | none=>exact lnM_at g hg r.1 r.2.2 l u
  | some s=>exact blM_at g hg r.1 r.2.2 _ _ _ u
theorem kiM_at (hg:g 0=0) {part:Rw->List Rw->List Tr × Int × Int} (c:Int) (h:∀ q us,part (rAt g q) (us.map (rAt g))=lAt g (part q us)):∀ (n:Nat) (r:Rw) (more:List Rw) (acc:List Tr),kiM part c n (rAt g r) (more.map (rAt g)) acc=lAt g (kiM part c n r more acc)
 | 0,_,_,_=>by rw[kiM,kiM];unfold lAt;simp only[hg]
 | n+1,r,more,acc=>by
  rw[kiM,kiM,dpn_atg,<-List.map_take,<-List.map_drop,h];show (if (part r (more.take (dpn more c))).2.1≠0 then _ else _)=_;split
  ·rfl
  ·cases hd:more.drop (dpn more c)with
   | nil=>unfold lAt;simp only[List.map_nil,hg]
   | cons r' rest =>
    simp only[List.map_cons];show (if r'.1<c then _ else _)=_;split
    ·rfl
    ·exact kiM_at hg c h n r' rest _
theorem itP_at (hg:g 0=0) {val:Int->Rw->List Rw->Tf} (ar:Int) (r:Rw) (u:List Rw) (hh:∀ q rest,val ar (rAt g q) (rest.map (rAt g))=fAt g (val ar q rest)):itP val ar (rAt g r) (u.map (rAt g))=lAt g (itP val ar r u):=by
 unfold itP;show (if isIt r.2.1=false then _ else if isIt (itR r.2.1)=true\/isEn (itR r.2.1)=true then _ else _)=_;split
 ·rfl
 ·split
  ·have e:=hh (mvd r.1 (itN r.2.1),itR r.2.1,r.2.2) u;show ([(val ar (rAt g (mvd r.1 (itN r.2.1),itR r.2.1,r.2.2)) (u.map (rAt g))).1],(val ar (rAt g (mvd r.1 (itN r.2.1),itR r.2.1,r.2.2)) (u.map (rAt g))).2)=_;rw[e];rfl
  ·show ([(meM val ar (rAt g r) (itR r.2.1) (u.map (rAt g))).1],(meM val ar (rAt g r) (itR r.2.1) (u.map (rAt g))).2)=_;rw[meM_at g hg ar r _ u hh];rfl
theorem enP_at (hg:g 0=0) {val:Int->Rw->List Rw->Tf} (ar:Int) (r:Rw) (u:List Rw) (hh:∀ q rest,val ar (rAt g q) (rest.map (rAt g))=fAt g (val ar q rest)):enP val ar (rAt g r) (u.map (rAt g))=lAt g (enP val ar r u):=by
 unfold enP;show (if isEn r.2.1=false then _ else if 256<(enT r.2.1).text.length then _ else _)=_;split
 ·rfl
 ·split
  ·rfl
  ·show ([_,(meM val ar (rAt g r) (enR r.2.1) (u.map (rAt g))).1],(meM val ar (rAt g r) (enR r.2.1) (u.map (rAt g))).2)=_;rw[meM_at g hg ar r _ u hh];rfl
theorem vaM_at (hg:g 0=0):∀ (n:Nat) (ar:Int) (r:Rw) (rs:List Rw),vaM n ar (rAt g r) (rs.map (rAt g))=fAt g (vaM n ar r rs)
 | 0,_,_,_=>by rw[vaM,vaM];unfold fAt;simp only[hg]
 | n+1,ar,r,rs=>by
  have hh:=fun (a:Int) (q:Rw) (rest:List Rw)=>vaM_at hg n a q rest
  have e1:=kiM_at g hg (part:=itP (vaM n) (ar+1)) r.1 (fun q us=>itP_at g hg (ar+1) q us (hh (ar+1))) (rs.length+1) r rs [];have e2:=kiM_at g hg (part:=enP (vaM n) (ar+1)) r.1 (fun q us=>enP_at g hg (ar+1) q us (hh (ar+1))) (rs.length+1) r rs [];rw[vaM,vaM,List.length_map,show (rAt g r).2.1=r.2.1 from rfl,show (rAt g r).1=r.1 from rfl,e1,e2];split
  ·rfl
  ·split
   ·rfl
   ·split
    ·rfl
    ·exact meM_at g hg ar r r.2.1 rs (hh ar)
theorem paM_at (hg:g 0=0) (n:Nat) (rs:List Rw):paM n (rs.map (rAt g))=fAt g (paM n rs):=by
 have e:beM (vaM n 0) false top (rs.map (rAt g))=fAt g (beM (vaM n 0) false top rs):=by
  have ht:hAt g top=top:=by unfold hAt rAt top;simp only[hg]
  have:=beM_at g hg (val:=vaM n 0) (dp:=false) (h:=top) (rs:=rs) (fun r rest=>vaM_at g hg n 0 r rest);rw[ht]at this;exact this
 unfold paM;rw[e];generalize beM (vaM n 0) false top rs=R;obtain⟨t,k,a⟩:=R;show (if k≠0 then _ else if rgh 129 t=false then _ else _)=_;split
 ·rfl
 ·split
  ·rfl
  ·unfold fAt;simp only[hg]
theorem msr_at (rs:List Rw):msr (rs.map (rAt g))=msr rs:=by
 unfold msr;rw[List.map_map];rfl
theorem paD_at (hg:g 0=0) (rs:List Rw):paD (rs.map (rAt g))=fAt g (paD rs):=by
 unfold paD;rw[msr_at,paM_at g hg]
end
end Lod
namespace Lod
open Utf Rws Pln Flw Tre
open Go.RowKit
open Blk (Rw RwAt z3)
set_option maxHeartbeats 1000000
def gS (m:Nat) (z:Int):Int:=if 0<z then z+(m:Int)else z
theorem gS_zero (m:Nat):gS m 0=0:=if_neg (by decide)
theorem num_at (m:Nat):∀ (L:List Ln) (k:Nat),1<=k->(num (k+m) L).map rwO=((num k L).map rwO).map (rAt (gS m))
 | [],_,_=>rfl
 | l::r,k,h=>by
  have ih:=num_at m r (k+1) (by omega);rw[num,num,List.map_cons,List.map_cons,List.map_cons,show k+m+1=k+1+m by omega,ih];congr 1;show ((col (cl l).1:Int),text (cl l).1,((k+m:Nat):Int))=((col (cl l).1:Int),text (cl l).1,gS m (k:Int));unfold gS;rw[if_pos (by omega),Int.natCast_add]
theorem rAt_zero (rs:List Rw):rs.map (rAt (gS 0))=rs:=by
 have e:rAt (gS 0)=id:=by
  funext r;obtain⟨a,b,c⟩:=r;show (a,b,gS 0 c)=(a,b,c);unfold gS;split
  ·simp
  ·rfl
 rw[e,List.map_id]
theorem mkr_at (g:Int->Int) (rs:List Rw):(rs.map (rAt g)).any mkr=rs.any mkr:=by
 rw[List.any_map];rfl
theorem ahd_no {A:List Rw} {m:Rw} {B:List Rw} (hm:mkr m=true):ahd (A++m::B)=ahd A/\lft (A++m::B)=lft A++m::B:=by
 unfold ahd lft
 induction A with
 | nil =>
  simp[List.takeWhile_cons,List.dropWhile_cons,hm]
 | cons a t ih =>
  simp only[List.cons_append,List.takeWhile_cons,List.dropWhile_cons];cases h:mkr a
  ·exact⟨congrArg (a:: ·) ih.1,ih.2⟩
  ·exact⟨rfl,rfl⟩
theorem doc1_snoc {m:Rw} {B:List Rw} (hm:mkr m=true) (hB:B.any mkr=false):∀ (n:Nat) (A:List Rw),A.length<n->doc1 (n+1+B.length) (A++m::B)=doc1 n A++[(m.2.2,B)]
 | 0,A,h=>absurd h (Nat.not_lt_zero _)
 | n+1,[],h=>by
  obtain⟨h1,h2⟩:=lft_no hB;rw[List.nil_append,show n+1+1+B.length=(n+1+B.length)+1 by omega,show doc1 ((n+1+B.length)+1) (m::B)=(m.2.2,ahd B)::doc1 (n+1+B.length) (lft B)from rfl,h1,h2];show (m.2.2,B)::doc1 (n+1+B.length) []=[(m.2.2,B)];rw[show n+1+B.length=(n+B.length)+1 by omega];rfl
 | n+1,a::t,h=>by
  obtain⟨h1,h2⟩:=ahd_no (A:=t) (B:=B) hm;have hl:=lft_len t;rw[List.length_cons]at h;rw[List.cons_append,show n+1+1+B.length=(n+1+B.length)+1 by omega,doc1,doc1,h1,h2,doc1_snoc hm hB n (lft t) (by omega)];rfl
theorem docs_snoc {A:List Rw} {m:Rw} {B:List Rw} (hm:mkr m=true) (hB:B.any mkr=false):docs (A++m::B)=docs A++[(m.2.2,B)]:=by
 obtain⟨h1,h2⟩:=ahd_no (A:=A) (B:=B) hm;have hl:=lft_len A;unfold docs;rw[h1,h2,doc1_fuel ((A++m::B).length+1) ((A.length+1)+1+B.length) (lft A++m::B) (by rw[List.length_append,List.length_append,List.length_cons];omega) (by rw[List.length_append,List.length_cons];omega),doc1_snoc hm hB (A.length+1) (lft A) (by omega),List.append_assoc]
theorem docs_one {A:List Rw} (hA:A.any mkr=false) (hf:A.any ful=true):docs A=[(0,A)]:=by
 obtain⟨h1,h2⟩:=lft_no hA;unfold docs;rw[h1,h2,if_pos hf];rfl
structure Mn where
 n:Nat
 docs:List (List Rw)
 text:Ln
 ts:List Tr
 bad:Int × Int
def mn0:Mn:=⟨0,[],[],[],(0,0)⟩
def mnA (a:Mn):Nat:=a.n+if a.text=[]then 0 else 1
def mnS (a:Mn) (x:Ln):Mn :=
 ⟨mnA a+(rwW x).length,a.docs++[(rwW x).map (rAt (gS (mnA a)))],(a.text++if a.text=[]then []else [45,45,45,10])++x,a.ts++[(paD (rwW x)).1],
  if a.bad=(0,0)then ((paD (rwW x)).2.1,gS (mnA a) (paD (rwW x)).2.2)else a.bad⟩
structure MnI (a:Mn):Prop where
 ok:okay (lns a.text)=true
 len:(lns a.text).length=a.n
 dc:(docs (rwW a.text)).map (fun d=>d.2)=a.docs
 nl:(a.text=[]/\a.n=0/\a.docs=[])\/∃ s,a.text=s++[10]
 ld:ldG paD a.docs []=if a.bad=(0,0)then (a.ts,0,0)else ([],a.bad)
 bd:a.bad=(0,0)\/a.bad.1≠0
theorem ldG_snoc (p:List Rw->Tf):∀ (l:List (List Rw)) (d:List Rw) (acc:List Tr),ldG p (l++[d]) acc=if (ldG p l acc).2.1=0 then (if (p d).2.1=0 then ((ldG p l acc).1++[(p d).1],0,0)else ([],(p d).2))else ldG p l acc
 | [],d,acc=>by
  rw[List.nil_append,ldG,ldG,ldG,if_pos rfl]
 | e::r,d,acc=>by
  rw[List.cons_append,ldG,ldG];by_cases h:(p e).2.1=0
  ·rw[if_pos h,if_pos h,ldG_snoc p r d]
  ·rw[if_neg h,if_neg h,if_neg h]
theorem mn_start:MnI mn0:=⟨rfl,rfl,rfl,.inl ⟨rfl,rfl,rfl⟩,rfl,.inl rfl⟩
theorem who_ok {x:Ln} (h:whO x=true):okay (lns x)=true/\(rwW x).any mkr=false/\(rwW x).any ful=true/\rwW x=(num 1 (lns x)).map rwO/\(rwW x).length=(lns x).length:=by
 unfold whO at h;simp only[Bool.and_eq_true,Bool.not_eq_true',beq_iff_eq]at h;obtain⟨h1,⟨h2,h3⟩,h4⟩:=h
 have ho:okay (lns x)=true:=by
  cases ho:okay (lns x)
  ·have e:rwW x=[]:=by unfold rwW Rws.rws;rw[ho,if_neg (by decide)];rfl
   rw[e]at h4;cases h4
  ·rfl
 have e:rwW x=(num 1 (lns x)).map rwO:=by unfold rwW Rws.rws;rw[if_pos ho]
 exact⟨ho,h1,h4,e,by rw[e,List.length_map,num_len]⟩
theorem fault_form {d:List Rw}:(paD d).2.1=0 ↔ (paD d).2=(0,0):=⟨fun h=>(pam_form _ _).2 h,fun h=>by rw[h]⟩
theorem gS_pair {k z:Int} {m:Nat}:(k,gS m z)=((0:Int),(0:Int))->k=0:=fun h=>(Prod.mk.inj h).1
theorem mn_ld {a:Mn} (h:MnI a) {x:Ln}:ldG paD (a.docs++[(rwW x).map (rAt (gS (mnA a)))]) []=if (mnS a x).bad=(0,0)then ((mnS a x).ts,0,0)else ([],(mnS a x).bad):=by
 rw[ldG_snoc,h.ld,paD_at _ (gS_zero _)];show _=if (if a.bad=(0,0)then ((paD (rwW x)).2.1,gS (mnA a) (paD (rwW x)).2.2)else a.bad)=(0,0)then (a.ts++[(paD (rwW x)).1],0,0)else ([],(if a.bad=(0,0)then ((paD (rwW x)).2.1,gS (mnA a) (paD (rwW x)).2.2)else a.bad))
 by_cases hb:a.bad=(0,0)
 ·rw[if_pos hb,if_pos hb,if_pos rfl];show (if (paD (rwW x)).2.1=0 then (a.ts++[(paD (rwW x)).1],(0:Int),(0:Int))else ([],((paD (rwW x)).2.1,gS (mnA a) (paD (rwW x)).2.2)))=_;by_cases h0:(paD (rwW x)).2.1=0
  ·have h1:(paD (rwW x)).2.2=0:=by have:=fault_form.1 h0;rw[this]
   rw[if_pos h0,h0,h1,gS_zero,if_pos rfl]
  ·rw[if_neg h0,if_neg (fun q=>h0 (gS_pair q))]
 ·rw[if_neg hb,if_neg hb,if_neg hb];rcases h.bd with h1 | h1
  ·exact absurd h1 hb
  ·rw[if_neg h1]
theorem mn_bd {a:Mn} (h:MnI a) {x:Ln}:(mnS a x).bad=(0,0)\/(mnS a x).bad.1≠0:=by
 show (if a.bad=(0,0)then ((paD (rwW x)).2.1,gS (mnA a) (paD (rwW x)).2.2)else a.bad)=(0,0)\/(if a.bad=(0,0)then ((paD (rwW x)).2.1,gS (mnA a) (paD (rwW x)).2.2)else a.bad).1≠0;by_cases hb:a.bad=(0,0)
 ·rw[if_pos hb];by_cases h0:(paD (rwW x)).2.1=0
  ·have h1:(paD (rwW x)).2.2=0:=by have:=fault_form.1 h0;rw[this]
   exact .inl (by rw[h0,h1,gS_zero])
  ·exact .inr h0
 ·rw[if_neg hb];exact h.bd
theorem mn_step {a:Mn} (h:MnI a) {x:Ln} (hx:whO x=true) (hs:∃ s,x=s++[10]):MnI (mnS a x):=by
 obtain⟨o1,o2,o3,o4,o5⟩:=who_ok hx;have hld:ldG paD (mnS a x).docs []=_:=mn_ld h (x:=x);have hbd:=mn_bd h (x:=x);obtain⟨s,rfl⟩:=hs;rcases h.nl with ⟨h1,h2,h3⟩ | ⟨t,ht⟩
 ·have hA:mnA a=0:=by unfold mnA;rw[if_pos h1,h2]
  have hT:(mnS a (s++[10])).text=s++[10]:=by unfold mnS;simp only[h1,if_true,List.nil_append]
  refine⟨by rw[hT];exact o1,?_,?_,.inr ⟨s,hT⟩,hld,hbd⟩
  ·rw[hT];show _=mnA a+_;rw[hA,Nat.zero_add,o5]
  ·rw[hT,docs_one o2 o3];show [rwW (s++[10])]=a.docs++[(rwW (s++[10])).map (rAt (gS (mnA a)))];rw[hA,rAt_zero,h3];rfl
 ·have hne:a.text≠[]:=by rw[ht];simp
  have hA:mnA a=a.n+1:=by unfold mnA;rw[if_neg hne]
  have hT:(mnS a (s++[10])).text=t++[10]++([45,45,45]++[10]++(s++[10])):=by
   unfold mnS;simp only[if_neg hne];rw[ht,List.append_assoc];rfl
  have e1:lns (t++[10]++([45,45,45]++[10]++(s++[10])))=lns (t++[10])++([[45,45,45]]++lns (s++[10])):=by
   rw[lns_app t.length t _ (Nat.le_refl _),lns_app 3 [45,45,45] _ (by decide)];rw[show lns ([45,45,45]++[10])=[[45,45,45]] by decide +kernel]
  have k1:okay (lns (t++[10]))=true:=by rw[<-ht];exact h.ok
  have k2:(lns (t++[10])).length=a.n:=by rw[<-ht];exact h.len
  have ho:okay (lns (t++[10]++([45,45,45]++[10]++(s++[10]))))=true:=by
   rw[e1,okay_both,okay_both,k1,o1];decide +kernel
  have er:rwW (t++[10]++([45,45,45]++[10]++(s++[10])))=rwW (t++[10])++((0,[45,45,45],((1+a.n:Nat):Int))::(rwW (s++[10])).map (rAt (gS (a.n+1)))):=by
   unfold rwW Rws.rws;rw[if_pos ho,if_pos k1,if_pos o1,e1,num_app,List.map_append,k2,num_app,List.map_append];show _++((num (1+a.n) [[45,45,45]]).map rwO++(num (1+a.n+1) (lns (s++[10]))).map rwO)=_;rw[show 1+a.n+1=1+(a.n+1) by omega,num_at (a.n+1) _ 1 (Nat.le_refl _)];rfl
  refine⟨by rw[hT];exact ho,?_,?_,.inr ⟨t++[10]++([45,45,45]++[10]++s),by rw[hT];simp⟩,hld,hbd⟩
  ·rw[hT,e1,List.length_append,List.length_append,k2];show _=mnA a+_;rw[hA,o5];simp;omega
  ·rw[hT,er,docs_snoc rfl (by rw[mkr_at];exact o2),List.map_append,<-ht,h.dc];show a.docs++[(rwW (s++[10])).map (rAt (gS (a.n+1)))]=a.docs++[(rwW (s++[10])).map (rAt (gS (mnA a)))];rw[hA]
theorem mn_all {a:Mn} (h:MnI a) (hl:a.docs.length<=64):ldM a.text=if a.bad=(0,0)then (a.ts,0,0)else ([],a.bad):=by
 have hf:rwF a.text=(0,0):=by unfold rwF;exact flt_ok _ h.ok 1
 have hd:(docs (rwW a.text)).length<=64:=by
  have:=congrArg List.length h.dc;rw[List.length_map]at this;omega
 have ht:tmF (docs (rwW a.text))=(0,0):=by
  unfold tmF;rw[List.getElem?_eq_none hd]
 unfold ldM;rw[hf,if_neg (by decide),ht,if_neg (by decide),h.dc,h.ld]
end Lod
namespace Lod
open Utf Rws Pln Flw Tre
open Go.RowKit
open Blk (Rw RwAt z3 lo rws)
set_option maxHeartbeats 1000000
theorem num_bd:∀ (L:List Ln) (k:Nat),∀ r∈(num k L).map rwO,(k:Int)<=r.2.2/\r.2.2<(k:Int)+(L.length:Int)
 | [],_,r,h=>by cases h
 | l::t,k,r,h=>by
  rw[num,List.map_cons]at h;rcases List.mem_cons.1 h with rfl | h
  ·show (k:Int)<=(k:Int)/\(k:Int)<_;rw[List.length_cons];omega
  ·have:=num_bd t (k+1) r h;rw[List.length_cons];omega
theorem paD_bd {x:Ln}:0<=(paD (rwW x)).2.2/\(paD (rwW x)).2.2<=((rwW x).length:Int):=by
 obtain⟨G,hG⟩:∃ G:Int->Int,G=fun z=>if 0<=z/\z<=((rwW x).length:Int)then z else 0:=⟨_,rfl⟩
 have h0:G 0=0:=by rw[hG];simp
 have hr:(rwW x).map (rAt G)=rwW x:=by
  have:∀ r∈rwW x,rAt G r=r:=fun r hr=>by
   have hb:0<=r.2.2/\r.2.2<=((rwW x).length:Int):=by
    unfold rwW Rws.rws at hr |-;by_cases ho:okay (lns x)=true
    ·rw[if_pos ho]at hr |-;have:=num_bd (lns x) 1 r hr;rw[List.length_map,num_len];omega
    ·rw[if_neg ho]at hr;cases hr
   obtain⟨a,b,c⟩:=r;show (a,b,G c)=(a,b,c);rw[hG];dsimp only at hb |-;rw[if_pos hb]
  calc (rwW x).map (rAt G)=(rwW x).map id:=List.map_congr_left this
   _=rwW x:=List.map_id _
 have h:=paD_at G h0 (rwW x);rw[hr]at h;have h2:(paD (rwW x)).2.2=G (paD (rwW x)).2.2:=congrArg (fun t:Tf=>t.2.2) h;rw[h2,hG];dsimp only;split
 ·assumption
 ·omega
theorem good_at {g:Int->Int} {rs:List Rw} (h:Tre.Good rs):Tre.Good (rs.map (rAt g)):=by
 refine⟨by rw[List.length_map];exact h.len,fun r hr=> ?_,fun r hr=> ?_,?_⟩
 ·obtain⟨q,hq,rfl⟩:=List.mem_map.1 hr;exact h.txt q hq
 ·obtain⟨q,hq,rfl⟩:=List.mem_map.1 hr;exact h.col q hq
 ·intro us hu c ls hls;obtain⟨A,B,hAB⟩:=hu
  have hu2:∃ vs,vs <:+: rs/\us=vs.map (rAt g):=by
   have e:=List.map_eq_append_iff.1 hAB.symm;obtain⟨l1,l2,e1,e2,e3⟩:=e;obtain⟨m1,m2,f1,f2,f3⟩:=List.map_eq_append_iff.1 e2;exact⟨m2,⟨m1,l2,by rw[e1,f1]⟩,f3.symm⟩
  obtain⟨vs,h1,rfl⟩:=hu2;rw[rws_at,lo_at]at hls
  cases hq:lo none (rws vs c)with
  | inl l =>
   rw[hq]at hls;cases hls;exact h.bk vs h1 c _ hq
  | inr z=>rw[hq]at hls;cases hls
structure MnX (a:Mn) (i:Nat):Prop where
 I:MnI a
 dl:a.docs.length=i
 tl:a.ts.length=i
 gd:∀ d∈a.docs,Tre.Good d
 tx:a.text.length<=i*805
 nb:a.n<=i*805
 z:i=0 ↔ a.text=[]
 bb:0<=a.bad.2/\a.bad.2<=1000000
theorem mnx_start:MnX mn0 0:=⟨mn_start,rfl,rfl,fun d h=>(by cases h),Nat.le_refl _,Nat.le_refl _,⟨fun _=>rfl,fun _=>rfl⟩,by decide,by decide⟩
theorem gS_bd {m:Nat} {z:Int} (h:0<=z):0<=gS m z/\gS m z<=z+m:=by
 unfold gS;split<;>omega
theorem mnx_step {a:Mn} {i:Nat} (h:MnX a i) (hi:i<=64) {s:Ln} (hs:s.length<=800) (hx:whO (s++[10])=true):MnX (mnS a (s++[10])) (i+1):=by
 have hl:(rwW (s++[10])).length<=801:=by
  have:=(rwW_small (s:=s++[10]) (by rw[List.length_append,List.length_singleton];omega)).1;rw[List.length_append,List.length_singleton]at this;omega
 have hm:mnA a<=a.n+1:=by unfold mnA;split<;>omega
 refine⟨mn_step h.I hx ⟨s,rfl⟩,?_,?_,?_,?_,?_,?_,?_⟩
 ·show (a.docs++[_]).length=_;rw[List.length_append,h.dl];rfl
 ·show (a.ts++[_]).length=_;rw[List.length_append,h.tl];rfl
 ·intro d hd;rcases List.mem_append.1 hd with hd | hd
  ·exact h.gd d hd
  ·rw[List.mem_singleton.1 hd];exact good_at (good_text (by rw[List.length_append,List.length_singleton];omega))
 ·show ((a.text++if a.text=[]then []else [45,45,45,10])++(s++[10])).length<=_;have:=h.tx;rw[List.length_append,List.length_append,List.length_append,List.length_singleton];have:(if a.text=[]then ([]:Ln)else [45,45,45,10]).length<=4:=by split<;>simp
  omega
 ·show mnA a+_<=_;have:=h.nb;omega
 ·refine⟨fun q=>by omega,fun q=> ?_⟩;have q':(a.text++if a.text=[]then []else [45,45,45,10])++(s++[10])=[]:=q;simp at q'
 ·show 0<=(if a.bad=(0,0)then ((paD (rwW (s++[10]))).2.1,gS (mnA a) (paD (rwW (s++[10]))).2.2)else a.bad).2/\(if a.bad=(0,0)then ((paD (rwW (s++[10]))).2.1,gS (mnA a) (paD (rwW (s++[10]))).2.2)else a.bad).2<=1000000;split
  ·have h1:=paD_bd (x:=s++[10]);have h2:=gS_bd (m:=mnA a) h1.1;have h3:=h.nb;show 0<=gS (mnA a) (paD (rwW (s++[10]))).2.2/\gS (mnA a) (paD (rwW (s++[10]))).2.2<=1000000;omega
  ·exact h.bb
theorem mnx_good {a:Mn} {i:Nat} (h:MnX a i):∀ d∈docs (rwW a.text),Tre.Good d.2:=fun d hd=>h.gd d.2 (by rw[<-h.I.dc];exact List.mem_map.2 ⟨d,hd,rfl⟩)
end Lod
end Go.Proofs.YtalijhclfppohaaGreatDoor
