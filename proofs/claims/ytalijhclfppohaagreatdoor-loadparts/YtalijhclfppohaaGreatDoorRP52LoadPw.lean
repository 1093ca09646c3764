/- . -/
import Derived.Test.YtalijhclfppohaaGreatDoorR21RowsTrimO
import Derived.BigQuiet
import Derived.Deep.QuietTactic
import Derived.Test.YtalijhclfppohaaGreatDoorRP51LoadRpt
import Derived.Deep.RegionWith
import Derived.Deep.AppendLies
import Derived.ProofKit
import Derived.OpenShut
import Derived.SizedLaws
import Derived.Deep.SlicePairs
import Derived.Lib.SmallJoins
set_option linter.unusedSimpArgs false
set_option linter.unusedVariables false
set_option maxRecDepth 100000
namespace Go.Proofs.YtalijhclfppohaaGreatDoor
namespace Rws
open Utf
open Go.RowKit
abbrev R3:=Int × ByteArray × Int
def z3:R3:=(0,ByteArray.empty,0)
def RowsAt (w:World) (a:Option Addr) (len:Nat) (rs:List R3):Prop :=
 len=rs.length/\(0<len->∃ b off,a=some ⟨b,off,none⟩/\b<w.heap.size/\∀ i,i<len ->
  w.cell? ⟨b,off+i*3,none⟩=some (.int .i64 (rs.getD i z3).1)/\w.cell? ⟨b,off+i*3+1,none⟩=some (.string (rs.getD i z3).2.1)/\w.cell? ⟨b,off+i*3+2,none⟩=some (.int .i64 (rs.getD i z3).2.2))
theorem RowsAt.later {w w':World} {a:Option Addr} {len:Nat} {rs:List R3} (h:RowsAt w a len rs) {B:Nat} (hb:Below B w w') (hB:w.heap.size<=B):RowsAt w' a len rs:=by
 refine⟨h.1,fun hp=> ?_⟩;obtain⟨b,off,ha,hlt,hc⟩:=h.2 hp;have hbB:b<B:=Nat.lt_of_lt_of_le hlt hB;refine⟨b,off,ha,Nat.lt_of_lt_of_le hlt hb.size,fun i hi=> ?_⟩;obtain⟨c0,c1,c2⟩:=hc i hi;exact⟨(hb.cell (p:=⟨b,off+i*3,none⟩) hbB).trans c0,(hb.cell (p:=⟨b,off+i*3+1,none⟩) hbB).trans c1,(hb.cell (p:=⟨b,off+i*3+2,none⟩) hbB).trans c2⟩
def eq3 (x y:R3):Bool:=decide (x=y)
theorem eq3_of (x1 y1 x3 y3:Int) (x2 y2:ByteArray):eq3 (x1,x2,x3) (y1,y2,y3)=(x1==y1 && (x2.toList==y2.toList) && x3==y3):=by
 unfold eq3;rw[<-beq_toListBytes,Bool.eq_iff_iff];have h2:(x2==y2)=true ↔ x2=y2:=by rw[beq_toListBytes,beq_iff_eq,ByteArray.toList_eq,ByteArray.toList_eq];exact⟨fun h=>by rw[<-mk_of x2,<-mk_of y2,h],fun h=>by rw[h]⟩
 simp only[decide_eq_true_eq,Prod.mk.injEq,Bool.and_eq_true,beq_iff_eq,h2,and_assoc]
theorem neq_row (x1 y1 x3 y3:Int) (x2 y2:ByteArray) (w:World):(binOp .neq 52 (.agg #[.int .i64 x1,.string x2,.int .i64 x3]) (.agg #[.int .i64 y1,.string y2,.int .i64 y3])).run Tryz.prog w=.ok (.bool (!eq3 (x1,x2,x3) (y1,y2,y3))) w:=by
 rw[run_neq_struct,run_equalIn_struct w 9999 52 _ _ (by kernel_rfl) (by kernel_rfl),eq3_of];cases h1:x1==y1<;>cases h2:(x2.toList==y2.toList)<;>cases h3:x3==y3<;>simp[go_sem,Program.fieldsOf,Tryz.underlying52,Tryz.underlying3,Tryz.underlying9,h1,h2,h3]
def same (rs ks:List R3):Bool:=decide (rs=ks)
theorem rsame_any (a a':Option Addr) (len len' cap cap':Nat) (rs ks:List R3) (w:World) (h:RowsAt w a len rs) (h':RowsAt w a' len' ks) (hl:len<=4398046511104) (hl':len'<=4398046511104) :
  Calls Tryz.prog 10 #[.slice a len cap,.slice a' len' cap'] w fun e w'=>e=.returned (.bool (same rs ks))/\Below w.heap.size w w':=by
 have HZ:Hid (RowsAt w a len rs):=h;have HZ':Hid (RowsAt w a' len' ks):=h';clear h h';by_cases hne:len=len'
 ·subst hne;go_enter Tryz.func10,Tryz.ntmps10;go_wp2
  go_loopw [5] (fun i wr=>∃ k:Nat,k<=len/\i=.int .i64 k/\rs.take k=ks.take k/\Below w.heap.size w wr) (fun i _=>len-(intOf i).toNat)
  case atStart=>exact⟨0,Nat.zero_le _,rfl,rfl,Below.refl _ _⟩
  case round =>
   obtain⟨k,hk,rfl,ht,hbe⟩:=hrel;have HT:Hid (rs.take k=ks.take k):=ht;clear ht;by_cases hlt:k<len
   ·obtain⟨b,off,rfl,hb,hc⟩:=HZ.out.2 (by omega);obtain⟨b',off',rfl,hb',hc'⟩:=HZ'.out.2 (by omega);obtain⟨c0,c1,c2⟩:=hc k hlt;obtain⟨d0,d1,d2⟩:=hc' k hlt;replace c0:=(hbe.cell (p:=⟨b,off+k*3,none⟩) hb).trans c0;replace c1:=(hbe.cell (p:=⟨b,off+k*3+1,none⟩) hb).trans c1;replace c2:=(hbe.cell (p:=⟨b,off+k*3+2,none⟩) hb).trans c2;replace d0:=(hbe.cell (p:=⟨b',off'+k*3,none⟩) hb').trans d0;replace d1:=(hbe.cell (p:=⟨b',off'+k*3+1,none⟩) hb').trans d1;replace d2:=(hbe.cell (p:=⟨b',off'+k*3+2,none⟩) hb').trans d2;obtain⟨x,hx⟩:∃ x,Hid (x=rs.getD k z3):=⟨_,rfl⟩;obtain⟨y,hy⟩:∃ y,Hid (y=ks.getD k z3):=⟨_,rfl⟩;rw[<-hx.out]at c0 c1 c2;rw[<-hy.out]at d0 d1 d2;obtain⟨x1,x2,x3⟩:=x;obtain⟨y1,y2,y3⟩:=y;simp only at c0 c1 c2 d0 d1 d2;clear hc hc';have hn:=neq_row x1 y1 x3 y3 x2 y2;have HE:Hid (eq3 (x1,x2,x3) (y1,y2,y3)=decide (rs.getD k z3=ks.getD k z3)):=by rw[hx.out,hy.out];rfl
    generalize eq3 (x1,x2,x3) (y1,y2,y3)=q at hn HE;cases q
    ·go_wp2;go_quiet (fail);go_wp2;go_ret;refine⟨?_,below_drewN hbe _⟩
     have e:same rs ks=false:=by
      unfold same;rw[decide_eq_false_iff_not];intro h;have:=HE.out;rw[h]at this;simp at this
     rw[e];rfl
    ·go_wp2;go_quiet (fail);go_wp2;go_roundw
     case rel =>
      refine⟨k+1,by omega,by go_num,?_,below_drewN hbe _⟩;have hrl:=HZ.out.1;have hkl:=HZ'.out.1;have he:rs.getD k z3=ks.getD k z3:=by have:=HE.out;simpa using this.symm
      rw[List.getD_eq_getElem?_getD,List.getD_eq_getElem?_getD,List.getElem?_eq_getElem (by omega),List.getElem?_eq_getElem (by omega)]at he;rw[List.take_succ_eq_append_getElem (by omega),List.take_succ_eq_append_getElem (by omega),HT.out];congr 2
     case measure=>simp[intOf];omega
   ·have hrl:=HZ.out.1;have hkl:=HZ'.out.1
    have HE:Hid (same rs ks=true):=by
     have h:=HT.out;rw[List.take_of_length_le (by omega),List.take_of_length_le (by omega)]at h;unfold same;rw[h];simp[Hid]
    clear hrl hkl;go_wp2;go_ret;rw[HE.out];exact⟨rfl,hbe⟩
 ·have HE:Hid (same rs ks=false):=by
   unfold same;have h1:=HZ.out.1;have h2:=HZ'.out.1;exact decide_eq_false (fun h=>hne (by rw[h1,h2,h]))
  have hne':((len:Int)!=(len':Int))=true:=by simp;omega
  go_enter Tryz.func10,Tryz.ntmps10;go_wp2;go_ret;rw[HE.out];exact⟨rfl,Below.refl _ _⟩
end Rws
namespace Lod
open Utf Rws Pln Flw Tre
open Go.RowKit Go.Shelf
open Blk (Rw RwAt z3)
set_option maxHeartbeats 8000000
def r3L (r:Rw):R3:=(r.1,mk r.2.1,r.2.2)
theorem rowsAt_of {w:World} {a:Option Addr} {len:Nat} {rs:List Rw} (h:RwAt w a len rs):RowsAt w a len (rs.map r3L):=by
 refine⟨by rw[List.length_map];exact h.1,fun hp=> ?_⟩;obtain⟨b,off,e,hlt,hc⟩:=h.2 hp;refine⟨b,off,e,hlt,fun i hi=> ?_⟩
 have e:(rs.map r3L).getD i Rws.z3=r3L (rs.getD i Blk.z3):=by
  have hl:i<rs.length:=by rw[<-h.1];exact hi
  rw[List.getD_eq_getElem?_getD,List.getD_eq_getElem?_getD,List.getElem?_map,List.getElem?_eq_getElem hl];rfl
 rw[e];exact hc i hi
theorem own_shG' {C k:Nat} {W:World} {e:TypeId} {v:Value} {n:Nat} {xs:List Value} (h:W.ownsRow C e k v n xs) (hn:0<n):∃ g cap,v=.slice (some ⟨g,0,none⟩) n cap:=by
 rcases h.2 with ⟨_,h0⟩ | ⟨g,cap,cur,rfl,_⟩
 ·exact absurd h0 (by omega)
 ·exact⟨g,cap,rfl⟩
theorem own_shapeC {C k:Nat} {W:World} {e:TypeId} {a:Option Addr} {n c:Nat} {xs:List Value} (h:W.ownsRow C e k (.slice a n c) n xs):n<=c/\c<=9223372036854775807:=by
 rcases h.2 with ⟨e,h0⟩ | ⟨g,cap,cur,e,_,_,h1,h2,_⟩
 ·simp only[Value.slice.injEq]at e;omega
 ·simp only[Value.slice.injEq]at e;unfold maxLen at h2;omega
theorem lparts_core (a:Option Addr) (len cap:Nat) (R:List Rw) (w:World) (hr0:Tre.RowsIn w a len cap R) (hT:Tb w):Calls Tryz.prog 3 #[.slice a len cap] w fun e w'=>e=.returned (.bool true)/\Below w.heap.size w w':=by
 have HA:Hid (∀ W,Below w.heap.size w W->Calls Tryz.prog 7 #[] W fun e W'=>e=.returned (.bool true)/\Hid (Below w.heap.size w W')):=fun W b=>(alive_any (hT.later b)).mono (fun e W' q=>⟨q.1,b.trans (q.2.mono b.size)⟩)
 have hlR:len=R.length:=hr0.1.1;subst hlR;have hcl:=hr0.2.1;have hcm:cap<=9223372036854775807:=hr0.2.2.1;have HR0:Hid (Tre.RowsIn w a R.length cap R):=hr0;clear hr0 hT;by_cases h2:2000<R.length
 ·have h2i:(2000:Int)<(R.length:Int):=by omega
  go_enter Tryz.func3,Tryz.ntmps3;go_wp2_with (go_at_call 7;refine(HA.out _ (Below.refl _ _)).mono ?_;rintro e w1 ⟨rfl,H1⟩);go_ret;exact⟨rfl,H1.out⟩
 have h2i: ¬ (2000:Int)<(R.length:Int):=by omega
 have HP:Hid (∀ W,Below w.heap.size w W->Calls Tryz.prog 8 #[.slice a R.length cap] W (PtsRes (dpL R) W)):=fun W b=>parts_any a R cap W (HR0.out.later b) (by omega)
 have HQ:Hid (∀ W,Below w.heap.size w W->Calls Tryz.prog 9 #[.slice a R.length cap] W (PtsRes (dpL R) W)):=fun W b=>rparts_core a R.length cap R W (HR0.out.later b) (by omega)
 unfold PtsRes at HP HQ;go_enter Tryz.func3,Tryz.ntmps3;go_wp2_with (first | (go_at_call 8;refine(HP.out _ (Below.refl _ _)).mono ?_;rintro e w1 ⟨v1,vs1,rfl,H1,B1⟩;obtain⟨a1,c1,rfl⟩:=slice_of_own H1.out.1) | (go_at_call 9;refine(HQ.out _ B1.out).mono ?_;rintro e w2 ⟨v2,vs2,rfl,H2,B2⟩;obtain⟨a2,c2,rfl⟩:=slice_of_own H2.out.1));have HB:Hid (Below w.heap.size w w2):=B1.out.trans (B2.out.mono B1.out.size);have H1':Hid (w2.ownsRow w.heap.size 22 1 (.slice a1 (dpL R).length c1) (dpL R).length vs1/\RsB w2 vs1 (dpL R)):=⟨own_bel H1.out.1 B2.out,H1.out.2.later B2.out⟩
 have HDL:Hid (∀ i,i<(dpL R).length->((dpL R).getD i []).length<=2000):=fun i hi=>by
  have hm:(dpL R).getD i []∈dpL R:=by rw[List.getD_eq_getElem?_getD,List.getElem?_eq_getElem hi];exact List.getElem_mem hi
  obtain⟨d,hd,e⟩:=List.mem_map.1 hm;rw[<-e];exact Nat.le_trans (docs_sub hd).length_le (by omega)
 have hnR:(dpL R).length<=2001:=by
  have:=docs_len R;show ((docs R).map fun d=>d.2).length<=2001;rw[List.length_map];omega
 clear HP HQ H1 B1 B2 HR0 h2 h2i;generalize dpL R=DS at *;generalize hn:DS.length=n at *
 go_loopw [21] (fun ui wr=>∃ i:Nat,i<=n/\ui=.int .i64 (i:Int)/\Hid (Below w2.heap.size w2 wr)) (fun ui _=>n-(intOf ui).toNat)
 case atStart=>exact⟨0,Nat.zero_le _,rfl,Below.refl _ _⟩
 case round =>
  obtain⟨i,hi,rfl,HB2⟩:=hrel;by_cases hlt:i<n
  ·have hi0:(0:Int)<=(i:Int):=by omega
   have hi1:(i:Int)<(n:Int):=by omega
   obtain⟨g1,cp1,e1⟩:=own_shG' H1'.out.1 (by omega);obtain⟨g2,cp2,e2⟩:=own_shG' H2.out.1 (by omega);cases e1;cases e2;obtain⟨d1,cc1,f1,r1⟩:=H1'.out.2.2 i (by omega);obtain⟨d2,cc2,f2,r2⟩:=H2.out.2.2 i (by omega);have x1:=((own_bel H1'.out.1 HB2.out).cellAt i (by omega)).trans f1;have x2:=((own_bel H2.out.1 HB2.out).cellAt i (by omega)).trans f2;have hq1:=(own_shapeC H1'.out.1);have hq2:=(own_shapeC H2.out.1)
   have HS:Hid (∀ k,Calls Tryz.prog 10 #[.slice d1 (DS.getD i []).length cc1,.slice d2 (DS.getD i []).length cc2] (wr.drewN k) fun e w'=>e=.returned (.bool true)/\Hid (Below w2.heap.size w2 w')):=fun k=>by
    have hl:=HDL.out i (by omega);have hb:=below_drewN HB2.out k;refine(Rws.rsame_any d1 d2 _ _ cc1 cc2 ((DS.getD i []).map r3L) ((DS.getD i []).map r3L) _ (rowsAt_of (r1.later hb).1) (rowsAt_of (r2.later hb).1) (by omega) (by omega)).mono (fun e w' q=>⟨?_,hb.trans (q.2.mono hb.size)⟩);rw[q.1];simp[Rws.same]
   generalize (DS.getD i []).length=m at *;clear f1 f2 r1 r2;go_wp2_with fail;go_region_with (go_at_call 10;refine(HS.out _).mono ?_;rintro e w3 ⟨rfl,B3⟩)
   all_goals
    go_wp2_with fail;go_roundw
    case rel=>exact⟨i+1,by omega,by go_num,B3.out⟩
    case measure=>(simp[intOf]<;>omega)
  ·have e:i=n:=by omega
   subst e;go_wp2_with (go_at_call 7;refine(HA.out _ (HB.out.trans (HB2.out.mono HB.out.size))).mono ?_;rintro e w5 ⟨rfl,H5⟩);go_ret;exact⟨rfl,H5.out⟩
end Lod
namespace Tre
open Go.ChangeShapes Go.WideShapes Go.ChangeAt Go.RowKit
open Rws (mk mk_data mk_size mk_of mk_ext mk_get mk_inj)
open Blk (Rw RwAt z3)
def TArg (W:World) (a:Option Addr) (len cap:Nat) (rs:List Rw):Prop:=RowsIn W a len cap rs/\∀ r∈rs,-9223372036854775808<=r.1/\r.1<=9223372036854775807
theorem weights_all {H:Type} {P:Program} {e:TypeId}:∀ {ds:List (DataW H)} {d:DataW H},d∈ds->∀ n∈d.weights P e,n∈DataW.weightsAll P e ds
 | [],d,h,_,_=>by cases h
 | x::r,d,h,n,hn=>by
  simp only[DataW.weightsAll,List.mem_append];rcases List.mem_cons.1 h with rfl | h
  ·exact .inl hn
  ·exact .inr (weights_all h n hn)
theorem sized_in {H:Type} {P:Program} {ts:List TypeId} {ds:List (DataW H)} (h:(DataW.weightsEach P ts ds).all (· <= reachBytes)=true) {j:Nat} {t e:TypeId} {elems spare:List (DataW H)} (ht:ts[j]?=some t) (hd:ds[j]?=some (.slice elems spare)) (hu:P.underlying t=some (.slice e)) :
  ∀ d∈elems,∀ n∈d.weights P e,n<=reachBytes:=by
 intro d hd' n hn
 have:=List.all_eq_true.1 h _ (DataW.weights_mem_each ht hd n (by
  simp only[DataW.weights,hu,List.mem_cons,List.mem_append];exact .inr (.inl (weights_all hd' n hn))))
 simpa using this
def dat {H:Type} (r:Rw):DataW H:=.agg [.lit (.int .i64 r.1),.lit (.string r.2.1),.lit (.int .i64 r.2.2)]
theorem came_trows {H:Type} {enc:TypeId × Value->H} {W:World} {fuel:Nat} {a:Option Addr} {len cap:Nat} {x:DataW H × List MemPlace}
  (hf:DataW.trod enc Tryz.prog W 0 (fun _=>true) true fuel 22 [.slice a len cap]=some x)
  (hs:∀ elems spare,x.1=.slice elems spare->∀ d∈elems,∀ n∈d.weights Tryz.prog 52,n<=reachBytes):∃ rs,TArg W a len cap rs/\(a=none->cap=0):=by
 have ce:Tryz.prog.cellsOf 52=3:=by kernel_rfl
 have ci:Tryz.prog.cellsOf 3=1:=by kernel_rfl
 have cst:Tryz.prog.cellsOf 9=1:=by kernel_rfl
 rcases Deep.open_slice Tryz.underlying22 hf with ⟨hcs,_⟩ | ⟨ad,len',cap',m,n,D,Pl,hcs,hb,hl,hm,hmm,rfl,hx⟩
 ·simp at hcs;obtain⟨rfl,rfl,rfl⟩:=hcs;exact⟨[],⟨⟨⟨rfl,fun h=>absurd h (by decide)⟩,Nat.le_refl _,Nat.zero_le _,fun x h=>by cases h⟩,fun x h=>by cases h⟩,fun _=>rfl⟩
 simp at hcs;obtain⟨rfl,rfl,rfl⟩:=hcs;have hlm:len<=m:=by rw[hmm];split<;>omega
 have each:∀ i,i<m->∃ q:Rw,W.cell? (ad.add (i*3))=some (.int .i64 q.1)/\W.cell? (ad.add (i*3+1))=some (.string (mk q.2.1))/\W.cell? (ad.add (i*3+2))=some (.int .i64 q.2.2)/\D i=dat q/\ -9223372036854775808<=q.1/\q.1<=9223372036854775807:=by
  intro i hi;obtain⟨cs',h1,h2⟩:=hx i hi;rw[ce]at h1;obtain⟨_,hlen,hcell⟩:=World.cells?_some h1;obtain⟨y0,y1,y2,k,hxy,_,g0,g1,g2⟩:=Deep.trod_struct3 Tryz.underlying52 h2;simp only[ci,cst]at g0 g1 g2
  match cs',hlen with
  | [v0,v1,v2],_ =>
   simp at g0 g1 g2;obtain⟨z0,e0,d0,w0⟩:=DataW.trod_int Tryz.underlying3 g0;obtain⟨z1,e1,d1,_⟩:=DataW.trod_string Tryz.underlying9 g1;obtain⟨z2,e2,d2,_⟩:=DataW.trod_int Tryz.underlying3 g2;cases e0;cases e1;cases e2;have c0:=hcell 0 (by omega);have c1:=hcell 1 (by omega);have c2:=hcell 2 (by omega);rw[Deep.add_add]at c0 c1 c2;simp only[Prod.mk.injEq]at hxy;refine⟨(z0,z1.data.toList,z2),by simpa using c0,by rw[mk_of];simpa using c1,by simpa using c2,?_,(bounds_i64 w0).1,(bounds_i64 w0).2⟩;rw[hxy.1,d0,d1,d2];rfl
 have inh:Inhabited Rw:=⟨z3⟩;obtain⟨q,hq⟩:=Deep.choose_lt each;refine⟨(List.range len).map q,⟨⟨⟨by simp,fun hp=> ?_⟩,hl,hm,?_⟩,fun r hr=> ?_⟩,fun e=>by cases e⟩
 ·obtain⟨b,off,spot⟩:=ad;have hspot:spot=none:=by simpa [Addr.add]using World.cell?_spot (hq 0 (by omega)).1
  subst hspot;refine⟨b,off,rfl,World.block_lt_of_cell? W ⟨b,off+0*3,none⟩ (by have:=(hq 0 (by omega)).1;rwa [Blk.add_plain]at this),fun i hi=> ?_⟩;obtain⟨c0,c1,c2,_⟩:=hq i (by omega);rw[Blk.add_plain]at c0 c1 c2
  have e:((List.range len).map q).getD i z3=q i:=by
   rw[List.getD_eq_getElem?_getD,List.getElem?_map,List.getElem?_range hi];rfl
  rw[e];exact⟨c0,c1,c2⟩
 ·intro r hr;obtain⟨i,hi,rfl⟩:=List.mem_map.1 hr;have hi':=List.mem_range.1 hi;obtain⟨_,_,_,hd,hle⟩:=hq i (by omega)
  have:=hs _ _ rfl (D i) (List.mem_map.2 ⟨i,hi,rfl⟩) (q i).2.1.length (by
   rw[hd];unfold dat;simp[DataW.weights,Tryz.underlying52,DataW.weightsEach])
  simp only[reachBytes]at this;omega
 ·obtain⟨i,hi,rfl⟩:=List.mem_map.1 hr;have hi':=List.mem_range.1 hi;exact(hq i (by omega)).2.2.2.2
end Tre
namespace Lod
open Go.RowKit
open Blk (Rw)
theorem lparts_walk (a:Option Addr) (len cap:Nat) (rs:List Rw) (w:World) (h:Tre.TArg w a len cap rs) (hT:Flw.Tb w):Calls Tryz.prog 3 #[.slice a len cap] w fun e w'=>e=.returned (.bool true)/\Below w.heap.size w w':=lparts_core a len cap rs w h.1 hT
end Lod
end Go.Proofs.YtalijhclfppohaaGreatDoor
