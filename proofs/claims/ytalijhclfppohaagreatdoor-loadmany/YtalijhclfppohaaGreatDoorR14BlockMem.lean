/- . -/
import Derived.Test.YtalijhclfppohaaGreatDoorR01RowsPlain
import Derived.Test.YtalijhclfppohaaGreatDoorR13TreeOn
import Derived.Test.YtalijhclfppohaaGreatDoorRows
import Derived.WalkKit
import Derived.WalkSpells
import Derived.WalkLawsBesides
import Derived.BigQuiet
import Derived.Deep.QuietTactic
set_option linter.unusedSimpArgs false
set_option linter.unusedVariables false
set_option maxRecDepth 100000
namespace Go.Proofs.YtalijhclfppohaaGreatDoor
namespace Blk
open Go.RowKit
open Rws (mk mk_data mk_size mk_of mk_ext mk_get mk_inj)
theorem below_drewN {B:Nat} {a w:World} (h:Below B a w) (n:Nat):Below B a (w.drewN n):=⟨h.os,h.tape,h.output,h.size,h.block⟩
theorem add_plain (b off i:Nat):(⟨b,off,none⟩:Addr).add i=⟨b,off+i,none⟩:=by unfold Addr.add;split<;>simp_all
theorem ret_str {a b:ByteArray} (h:a=b):Ending.returned (.string a)=.returned (.string b):=by rw[h]
def StrsAt (w:World) (a:Option Addr) (len:Nat) (xs:List Ln):Prop :=
 len=xs.length/\(0<len->∃ b off,a=some ⟨b,off,none⟩/\b<w.heap.size/\∀ i,i<len->w.cell? ⟨b,off+i,none⟩=some (.string (mk (xs.getD i []))))
theorem StrsAt.later {w w':World} {a:Option Addr} {len:Nat} {xs:List Ln} (h:StrsAt w a len xs) {B:Nat} (hb:Below B w w') (hB:w.heap.size<=B):StrsAt w' a len xs:=by
 refine⟨h.1,fun hp=> ?_⟩;obtain⟨b,off,ha,hlt,hc⟩:=h.2 hp;have hbB:b<B:=Nat.lt_of_lt_of_le hlt hB;exact⟨b,off,ha,Nat.lt_of_lt_of_le hlt hb.size,fun i hi=>(hb.cell (p:=⟨b,off+i,none⟩) hbB).trans (hc i hi)⟩
theorem StrsAt.take {w:World} {a:Option Addr} {len:Nat} {xs:List Ln} (h:StrsAt w a len xs) (n:Nat) (hn:n<=len):StrsAt w a n (xs.take n):=by
 refine⟨by rw[List.length_take,<-h.1];omega,fun hp=> ?_⟩;obtain⟨b,off,ha,hlt,hc⟩:=h.2 (by omega);refine⟨b,off,ha,hlt,fun i hi=> ?_⟩;rw[hc i (by omega),List.getD_eq_getElem?_getD,List.getD_eq_getElem?_getD,List.getElem?_take,if_pos hi]
def strV (xs:List Ln):List Value:=xs.map fun l=>Value.string (mk l)
theorem strV_snoc (xs:List Ln) (x:Ln):strV (xs++[x])=strV xs++[Value.string (mk x)]:=by simp[strV]
theorem strs_own {w:World} {base:Nat} {v:Value} {xs:List Ln} (h:w.ownsRow base 9 1 v xs.length (strV xs)):∃ a cap,v=.slice a xs.length cap/\xs.length<=cap/\StrsAt w a xs.length xs:=by
 obtain⟨hl,h⟩:=h;rcases h with ⟨rfl,h0⟩ | ⟨g,cap,cur,rfl,hb,hg,hc,hm,hs,ht⟩
 ·rw[h0];exact⟨_,_,rfl,Nat.le_refl _,by simp[h0],fun h=>absurd h (by decide)⟩
 ·refine⟨_,_,rfl,by omega,rfl,fun _=>⟨g,0,rfl,(Array.getElem?_eq_some_iff.1 hg).1,?_⟩⟩;intro i hi
  have hv:(strV xs)[i]?=some (.string (mk (xs.getD i []))):=by
   unfold strV;rw[List.getElem?_map,List.getElem?_eq_getElem hi,List.getD_eq_getElem?_getD,List.getElem?_eq_getElem hi];rfl
  rw[<-ht,List.getElem?_take,if_pos (by omega)]at hv;simp only[Nat.zero_add];rw[cell_of_row w g _ cur 9 (0,0) hg];simpa using hv
theorem take_getD (xs:List Ln) (k:Nat) (h:k<xs.length):xs.take (k+1)=xs.take k++[xs.getD k []]:=by
 rw[List.take_succ_eq_append_getElem h,List.getD_eq_getElem?_getD,List.getElem?_eq_getElem h];rfl
theorem drop_getD (xs:List Ln) (k:Nat) (h:k<xs.length):xs.drop k=xs.getD k []::xs.drop (k+1):=by
 rw[List.drop_eq_getElem_cons h,List.getD_eq_getElem?_getD,List.getElem?_eq_getElem h];rfl
def z3:Rw:=(0,[],0)
def RwAt (w:World) (a:Option Addr) (len:Nat) (rs:List Rw):Prop :=
 len=rs.length/\(0<len->∃ b off,a=some ⟨b,off,none⟩/\b<w.heap.size/\∀ i,i<len ->
  w.cell? ⟨b,off+i*3,none⟩=some (.int .i64 (rs.getD i z3).1)/\w.cell? ⟨b,off+i*3+1,none⟩=some (.string (mk (rs.getD i z3).2.1))/\w.cell? ⟨b,off+i*3+2,none⟩=some (.int .i64 (rs.getD i z3).2.2))
theorem RwAt.later {w w':World} {a:Option Addr} {len:Nat} {rs:List Rw} (h:RwAt w a len rs) {B:Nat} (hb:Below B w w') (hB:w.heap.size<=B):RwAt w' a len rs:=by
 refine⟨h.1,fun hp=> ?_⟩;obtain⟨b,off,ha,hlt,hc⟩:=h.2 hp;have hbB:b<B:=Nat.lt_of_lt_of_le hlt hB;refine⟨b,off,ha,Nat.lt_of_lt_of_le hlt hb.size,fun i hi=> ?_⟩;obtain⟨c0,c1,c2⟩:=hc i hi;exact⟨(hb.cell (p:=⟨b,off+i*3,none⟩) hbB).trans c0,(hb.cell (p:=⟨b,off+i*3+1,none⟩) hbB).trans c1,(hb.cell (p:=⟨b,off+i*3+2,none⟩) hbB).trans c2⟩
theorem drop_getR (rs:List Rw) (k:Nat) (h:k<rs.length):rs.drop k=rs.getD k z3::rs.drop (k+1):=by
 rw[List.drop_eq_getElem_cons h,List.getD_eq_getElem?_getD,List.getElem?_eq_getElem h];rfl
theorem mk_nil_eq (l:Ln):((mk l).toList==[])=decide (l=[]):=by
 rw[ByteArray.toList_eq,mk_data];cases l<;>simp
end Blk
namespace Tre
open Utf Rws Pln Flw
open Go.RowKit
open Blk (Rw RwAt z3)
set_option maxHeartbeats 4000000
def cnt (rs:List Rw):List Rw:=rs.dropWhile fun r=>noth r.2.1
def RowsIn (w:World) (a:Option Addr) (len cap:Nat) (rs:List Rw):Prop:=RwAt w a len rs/\len<=cap/\cap<=maxLen/\∀ r∈rs,r.2.1.length<=140737488351232
theorem RowsIn.later {w w':World} {a:Option Addr} {len cap:Nat} {rs:List Rw} (h:RowsIn w a len cap rs) (hb:Below w.heap.size w w'):RowsIn w' a len cap rs:=⟨h.1.later hb (Nat.le_refl _),h.2⟩
theorem cnt_drop:∀ (rs:List Rw) (j:Nat),j<rs.length->(∀ i,i<j->noth (rs.getD i z3).2.1=true)->noth (rs.getD j z3).2.1=false->cnt rs=rs.drop j
 | [],j,hj,_,_=>by cases hj
 | r::rs,0,hj,_,hn=>by
  unfold cnt;rw[List.dropWhile_cons,if_neg (by simpa using hn)];rfl
 | r::rs,j+1,hj,h,hn=>by
  have h0:=h 0 (by omega);have ih:=cnt_drop rs j (by simpa using hj) (fun i hi=>h (i+1) (by omega)) hn;unfold cnt at *;rw[List.dropWhile_cons,if_pos (by simpa using h0),ih];rfl
theorem cnt_all:∀ (rs:List Rw),(∀ i,i<rs.length->noth (rs.getD i z3).2.1=true)->cnt rs=[]
 | [],_=>rfl
 | r::rs,h=>by
  have h0:=h 0 (by simp);have ih:=cnt_all rs (fun i hi=>h (i+1) (by simpa using hi));unfold cnt at *;rw[List.dropWhile_cons,if_pos (by simpa using h0),ih]
theorem getD_drop (rs:List Rw) (j i:Nat):(rs.drop j).getD i z3=rs.getD (j+i) z3:=by
 rw[List.getD_eq_getElem?_getD,List.getD_eq_getElem?_getD,List.getElem?_drop]
theorem RowsIn.drop {w:World} {b off len cap:Nat} {rs:List Rw} (h:RowsIn w (some ⟨b,off,none⟩) len cap rs) (j:Nat) (hj:j<len):RowsIn w (some ⟨b,off+j*3,none⟩) (len-j) (cap-j) (rs.drop j):=by
 obtain⟨⟨hl,hc⟩,h1,h2,h3⟩:=h;refine⟨⟨by rw[List.length_drop,hl],fun _=> ?_⟩,by omega,by omega,fun r hr=>h3 r (List.mem_of_mem_drop hr)⟩;obtain⟨b',off',e,hb,hcell⟩:=hc (by omega);simp only[Option.some.injEq,Addr.mk.injEq,and_true]at e;obtain⟨rfl,rfl⟩:=e;refine⟨b,off+j*3,rfl,hb,fun i hi=> ?_⟩;have:=hcell (j+i) (by omega);rw[getD_drop,show off+j*3+i*3=off+(j+i)*3 by omega];exact this
theorem RowsIn.nil (w:World):RowsIn w none 0 0 []:=⟨⟨rfl,fun h=>absurd h (by decide)⟩,Nat.le_refl _,Nat.zero_le _,fun r hr=>by cases hr⟩
theorem getD_memR {xs:List Rw} {i:Nat} (h:i<xs.length):xs.getD i z3∈xs:=by
 rw[List.getD_eq_getElem?_getD,List.getElem?_eq_getElem h];exact List.getElem_mem h
def CntRes (rs:List Rw) (w:World) (e:Ending) (w':World):Prop:=(∃ a' len' cap',e=.returned (.slice a' len' cap')/\RowsIn w' a' len' cap' (cnt rs))/\Below w.heap.size w w'
theorem counted_any (a:Option Addr) (len cap:Nat) (rs:List Rw) (w:World) (h:RowsIn w a len cap rs):Calls Tryz.prog 61 #[.slice a len cap] w fun e w'=>CntRes rs w e w':=by
 have HR:Hid (RowsIn w a len cap rs):=h;have hm:maxLen=9223372036854775807:=rfl;have hcl:len<=cap:=h.2.1;have hcm:cap<=9223372036854775807:=by have:=h.2.2.1;omega
 clear h;go_enter Tryz.func61,Tryz.ntmps61;go_wp2
 go_loopw [7] (fun ui wr=>∃ j:Nat,j<=len/\ui=.int .i64 (j:Int)/\Hid (Below w.heap.size w wr/\∀ i,i<j->noth (rs.getD i z3).2.1=true)) (fun ui _=>len-(intOf ui).toNat)
 case atStart=>exact⟨0,Nat.zero_le _,rfl,Below.refl _ _,fun i hi=>absurd hi (Nat.not_lt_zero _)⟩
 case round =>
  obtain⟨j,hj,rfl,HL⟩:=hrel;by_cases hlt:j<len
  ·obtain⟨b,off,had,hb,hcell⟩:=HR.out.1.2 (by omega);obtain⟨x0,x1,x2⟩:=hcell j hlt;subst had;have hjr:j<rs.length:=by have:=HR.out.1.1;omega
   have htl:=HR.out.2.2.2 _ (getD_memR hjr);have HDR:Hid (RowsIn w (some ⟨b,off+j*3,none⟩) (len-j) (cap-j) (rs.drop j)):=HR.out.drop j hlt;have HCN:Hid (noth (rs.getD j z3).2.1=false->cnt rs=rs.drop j):=fun hn=>cnt_drop rs j hjr HL.out.2 hn
   replace x0:=(HL.out.1.cell (p:=⟨b,off+j*3,none⟩) hb).trans x0;replace x1:=(HL.out.1.cell (p:=⟨b,off+j*3+1,none⟩) hb).trans x1;replace x2:=(HL.out.1.cell (p:=⟨b,off+j*3+2,none⟩) hb).trans x2;have HIE:Hid (∀ w0,Calls Tryz.prog 64 #[.string (mk (rs.getD j z3).2.1)] w0 fun e w'=>e=.returned (.bool (noth (rs.getD j z3).2.1))/\w0=w'):=fun w0=>isEmpty_any _ w0 (by omega)
   have HBA:Hid (∀ o,Below w.heap.size w (wr.alloc o)):=fun o=>HL.out.1.alloc HL.out.1.size o
   have HNX:Hid (noth (rs.getD j z3).2.1=true->∀ i,i<j+1->noth (rs.getD i z3).2.1=true):=fun hn i hi=>by
    by_cases e:i=j
    ·rw[e];exact hn
    ·exact HL.out.2 i (by omega)
   clear hcell HR htl hjr HL;generalize (rs.getD j z3).1=rc at *;generalize (rs.getD j z3).2.2=ra at *;generalize (rs.getD j z3).2.1=rt at *;cases hn:noth rt
   ·rw[hn]at HIE;have HCE:Hid (cnt rs=rs.drop j):=HCN.out hn;clear HCN HNX hn;go_wp2_with (go_at_call 64;refine(HIE.out _).mono ?_;rintro e w' ⟨rfl,rfl⟩);go_ret;refine⟨⟨_,_,_,rfl,?_⟩,HBA.out _⟩;rw[HCE.out];have:=HDR.out.later (HBA.out (.cells #[.int .i64 rc,.string (mk rt),.int .i64 ra] 52))
    first | exact this | simpa using this
   ·rw[hn]at HIE;have HNE:=HNX.out hn;replace HNE:Hid (∀ i,i<j+1->noth (rs.getD i z3).2.1=true):=HNE;clear HCN HNX hn HDR;go_wp2_with (go_at_call 64;refine(HIE.out _).mono ?_;rintro e w' ⟨rfl,rfl⟩);go_roundw
    case rel=>exact⟨j+1,by omega,by go_num,HBA.out _,HNE.out⟩
    case measure=>simp[intOf];omega
  ·have HCE:Hid (cnt rs=[]):=cnt_all rs (fun i hi=>HL.out.2 i (by have:=HR.out.1.1;omega));have HBB:Hid (Below w.heap.size w wr):=HL.out.1;clear HL HR;go_wp2;go_ret;exact⟨⟨none,0,0,rfl,by rw[HCE.out];exact RowsIn.nil _⟩,HBB.out⟩
end Tre
namespace Tre
open Utf Rws Pln Flw
open Go.RowKit
open Blk (Rw RwAt z3)
set_option maxHeartbeats 4000000
def dpr (c:Int) (r:Rw):Bool:=noth r.2.1 || decide (c<r.1)
def dpn (rs:List Rw) (c:Int):Nat:=(rs.takeWhile (dpr c)).length
theorem dpn_at:∀ (rs:List Rw) (c:Int) (j:Nat),j<rs.length->(∀ i,i<j->dpr c (rs.getD i z3)=true)->dpr c (rs.getD j z3)=false->dpn rs c=j
 | [],c,j,hj,_,_=>by cases hj
 | r::rs,c,0,hj,_,hn=>by
  have hn2:dpr c r=false:=hn;unfold dpn;rw[List.takeWhile_cons,if_neg (by rw[hn2];decide)];rfl
 | r::rs,c,j+1,hj,h,hn=>by
  have h0:dpr c r=true:=h 0 (by omega);have ih:=dpn_at rs c j (by simpa using hj) (fun i hi=>h (i+1) (by omega)) hn;unfold dpn at *;rw[List.takeWhile_cons,if_pos h0,List.length_cons,ih]
theorem dpn_all:∀ (rs:List Rw) (c:Int),(∀ i,i<rs.length->dpr c (rs.getD i z3)=true)->dpn rs c=rs.length
 | [],c,_=>rfl
 | r::rs,c,h=>by
  have h0:dpr c r=true:=h 0 (by simp);have ih:=dpn_all rs c (fun i hi=>h (i+1) (by simpa using hi));unfold dpn at *;rw[List.takeWhile_cons,if_pos h0,List.length_cons,ih,List.length_cons]
theorem deeper_any (a:Option Addr) (len cap:Nat) (rs:List Rw) (c:Int) (w:World) (h:RowsIn w a len cap rs):Calls Tryz.prog 93 #[.slice a len cap,.int .i64 c] w fun e w'=>e=.returned (.int .i64 (dpn rs c:Int))/\Below w.heap.size w w':=by
 have HR:Hid (RowsIn w a len cap rs):=h;have hm:maxLen=9223372036854775807:=rfl;have hcl:len<=9223372036854775807:=by have:=h.2.1;have:=h.2.2.1;omega
 clear h;go_enter Tryz.func93,Tryz.ntmps93;go_wp2
 go_loopw [9] (fun ui wr=>∃ j:Nat,j<=len/\ui=.int .i64 (j:Int)/\Hid (Below w.heap.size w wr/\∀ i,i<j->dpr c (rs.getD i z3)=true)) (fun ui _=>len-(intOf ui).toNat)
 case atStart=>exact⟨0,Nat.zero_le _,rfl,Below.refl _ _,fun i hi=>absurd hi (Nat.not_lt_zero _)⟩
 case round =>
  obtain⟨j,hj,rfl,HL⟩:=hrel;by_cases hlt:j<len
  ·obtain⟨b,off,had,hb,hcell⟩:=HR.out.1.2 (by omega);obtain⟨x0,x1,x2⟩:=hcell j hlt;subst had;have hjr:j<rs.length:=by have:=HR.out.1.1;omega
   have htl:=HR.out.2.2.2 _ (getD_memR hjr);have HCN:Hid (dpr c (rs.getD j z3)=false->dpn rs c=j):=fun hn=>dpn_at rs c j hjr HL.out.2 hn
   have HDP:Hid (dpr c (rs.getD j z3)=(noth (rs.getD j z3).2.1 || decide (c<(rs.getD j z3).1))):=rfl;replace x0:=(HL.out.1.cell (p:=⟨b,off+j*3,none⟩) hb).trans x0;replace x1:=(HL.out.1.cell (p:=⟨b,off+j*3+1,none⟩) hb).trans x1;replace x2:=(HL.out.1.cell (p:=⟨b,off+j*3+2,none⟩) hb).trans x2;have HIE:Hid (∀ w0,Calls Tryz.prog 64 #[.string (mk (rs.getD j z3).2.1)] w0 fun e w'=>e=.returned (.bool (noth (rs.getD j z3).2.1))/\w0=w'):=fun w0=>isEmpty_any _ w0 (by omega)
   have HBA:Hid (∀ o,Below w.heap.size w (wr.alloc o)):=fun o=>HL.out.1.alloc HL.out.1.size o
   have HNX:Hid (dpr c (rs.getD j z3)=true->∀ i,i<j+1->dpr c (rs.getD i z3)=true):=fun hn i hi=>by
    by_cases e:i=j
    ·rw[e];exact hn
    ·exact HL.out.2 i (by omega)
   clear hcell HR htl hjr HL;generalize dpr c (rs.getD j z3)=dq at *;generalize (rs.getD j z3).1=rc at *;generalize (rs.getD j z3).2.2=ra at *;generalize (rs.getD j z3).2.1=rt at *;cases hn:noth rt
   ·rw[hn]at HIE HDP;by_cases hcc:c<rc
    ·have HNE:Hid (∀ i,i<j+1->dpr c (rs.getD i z3)=true):=HNX.out (by rw[HDP.out,decide_eq_true hcc];rfl);clear HCN HNX hn HDP;go_wp2_with (go_at_call 64;refine(HIE.out _).mono ?_;rintro e w' ⟨rfl,rfl⟩);go_roundw
     case rel=>exact⟨j+1,by omega,by go_num,HBA.out _,HNE.out⟩
     case measure=>simp[intOf];omega
    ·have HCE:Hid (dpn rs c=j):=HCN.out (by rw[HDP.out,decide_eq_false hcc];rfl);have hcc':rc<=c:=by omega
     clear HCN HNX hn HDP hcc;go_wp2_with (go_at_call 64;refine(HIE.out _).mono ?_;rintro e w' ⟨rfl,rfl⟩);go_ret;exact⟨by rw[HCE.out];rfl,HBA.out _⟩
   ·rw[hn]at HIE HDP;have HNE:Hid (∀ i,i<j+1->dpr c (rs.getD i z3)=true):=HNX.out (by rw[HDP.out];rfl);clear HCN HNX hn HDP;go_wp2_with (go_at_call 64;refine(HIE.out _).mono ?_;rintro e w' ⟨rfl,rfl⟩);go_roundw
    case rel=>exact⟨j+1,by omega,by go_num,HBA.out _,HNE.out⟩
    case measure=>simp[intOf];omega
  ·have HLE:Hid (len=rs.length):=HR.out.1.1;have HCE:Hid (dpn rs c=rs.length):=dpn_all rs c (fun i hi=>HL.out.2 i (by have:=HLE.out;omega));have HBB:Hid (Below w.heap.size w wr):=HL.out.1;clear HL HR;go_wp2;go_ret;exact⟨by rw[HCE.out,<-HLE.out];rfl,HBB.out⟩
def stE (c:Int) (rs:List Rw):Int:=match cnt rs with
 | []=>0
 | r::_=>if r.1<c then 9 else 3
def stA (rs:List Rw):Int:=match cnt rs with
 | []=>0
 | r::_=>r.2.2
theorem stray_any (c:Int) (x:Ln) (z:Int) (a:Option Addr) (len cap:Nat) (rs:List Rw) (w:World) (h:RowsIn w a len cap rs):Calls Tryz.prog 117 #[rV c x z,.slice a len cap] w fun e w'=>e=.returned (fV (stE c rs) (stA rs))/\Below w.heap.size w w':=by
 have hm:maxLen=9223372036854775807:=rfl;have HE:Hid (∀ r q,cnt rs=r::q->stE c rs=(if r.1<c then 9 else 3)/\stA rs=r.2.2):=fun r q e=>by unfold stE stA;rw[e];exact⟨rfl,rfl⟩
 have HZ:Hid (cnt rs=[]->stE c rs=0/\stA rs=0):=fun e=>by unfold stE stA;rw[e];exact⟨rfl,rfl⟩
 have HCT:Hid (∀ w0,Below w.heap.size w w0->Calls Tryz.prog 61 #[.slice a len cap] w0 fun e w'=>CntRes rs w0 e w'):=fun w0 b=>counted_any a len cap rs w0 (h.later b)
 have b1:=below_alloc w (.cells #[.int .i64 c,.string (mk x),.int .i64 z] 52);have s1:(w.alloc (.cells #[.int .i64 c,.string (mk x),.int .i64 z] 52)).heap.size=w.heap.size+1:=World.size_alloc _ _;have b2:=below_alloc (w.alloc (.cells #[.int .i64 c,.string (mk x),.int .i64 z] 52)) (.cells #[.int .i64 0,.int .i64 0] 32);have n1:=(Bx.new w #[.int .i64 c,.string (mk x),.int .i64 z] 52).later b2;have n2:=Bx.new (w.alloc (.cells #[.int .i64 c,.string (mk x),.int .i64 z] 52)) #[.int .i64 0,.int .i64 0] 32;rw[s1]at n2;have B0:=b1.trans (b2.mono b1.size);clear h;go_enter Tryz.func117,Tryz.ntmps117;go_wp2_with fail;generalize (w.alloc (.cells #[.int .i64 c,.string (mk x),.int .i64 z] 52)).alloc (.cells #[.int .i64 0,.int .i64 0] 32)=W at n1 n2 B0 |-;obtain⟨K1,hK1⟩:∃ K1,K1=w.heap.size+1:=⟨_,rfl⟩;obtain⟨K0,hK0⟩:∃ K0,K0=w.heap.size:=⟨_,rfl⟩;rw[<-hK1]at n2 |-;rw[<-hK0]at n1 |-;have HM:Hid (Below w.heap.size w W/\Bx W K1 #[.int .i64 0,.int .i64 0] 32/\Bx W K0 #[.int .i64 c,.string (mk x),.int .i64 z] 52):=⟨B0,n2,n1⟩;have hle:w.heap.size<=K1:=by omega
 have hne:K0≠K1:=by omega
 clear n1 n2 B0 b1 b2 s1 hK0 hK1;refine(HCT.out W HM.out.1).mono ?_;rintro e w3 ⟨⟨a',len',cap',rfl,hR⟩,hb3⟩;have HR:Hid (RowsIn w3 a' len' cap' (cnt rs)):=hR;have P3:Hid (Below w.heap.size w w3/\Bx w3 K1 #[.int .i64 0,.int .i64 0] 32):=⟨HM.out.1.trans (hb3.mono HM.out.1.size),HM.out.2.1.later hb3⟩;obtain⟨r0,r1,r2⟩:=Bx.c3 ((HM.out.2.2.later hb3));have hlc:len'<=9223372036854775807:=by have:=hR.2.1;have:=hR.2.2.1;omega
 clear hR hb3 HM HCT
 cases hc:cnt rs with
 | nil =>
  have hl0:len'=0:=by have:=HR.out.1.1;rw[hc]at this;exact this
  have HST:Hid (stE c rs=0/\stA rs=0):=HZ.out hc;subst hl0;clear HR HE HZ hc;obtain⟨w6,hw6⟩:∃ w6,w6=w3:=⟨_,rfl⟩;rw[<-hw6]at P3 r0 r1 r2 |-;clear hw6;have B6:=P3;clear P3;obtain⟨f0,f1,g0,g1⟩:w6.cell? ⟨K1,0,none⟩=some (.int .i64 0)/\w6.cell? ⟨K1,1,none⟩=some (.int .i64 0)/\w6.frozen? ⟨K1,0,none⟩=false/\w6.frozen? ⟨K1,1,none⟩=false:=⟨B6.out.2.cell 0,B6.out.2.cell 1,B6.out.2.fz 0,B6.out.2.fz 1⟩;have HF:Hid (Below w.heap.size w ((w6.setCell ⟨K1,0,none⟩ (.int .i64 0)).setCell ⟨K1,1,none⟩ (.int .i64 0))/\Bx ((w6.setCell ⟨K1,0,none⟩ (.int .i64 0)).setCell ⟨K1,1,none⟩ (.int .i64 0)) K1 #[.int .i64 0,.int .i64 0] 32):=⟨(B6.out.1.setCell (by show _<=K1;omega) _).setCell (by show _<=K1;omega) _,(B6.out.2.set 0 (.int .i64 0)).set 1 (.int .i64 0)⟩;clear B6;go_wp2;generalize (w6.setCell ⟨K1,0,none⟩ (.int .i64 0)).setCell ⟨K1,1,none⟩ (.int .i64 0)=WF at HF |-;obtain⟨j0,j1⟩:=HF.out.2.c2;refine bodyPost_ret (v:=.agg #[.int .i64 0,.int .i64 0]) (by simp[results,Tryz.results117,go_sem,j0,j1]) rfl ⟨?_,HF.out.1⟩;rw[HST.out.1,HST.out.2]
 | cons r q =>
  have hl1:len'=q.length+1:=by have:=HR.out.1.1;rw[hc]at this;exact this
  have hl0:0<len':=by omega
  obtain⟨b,off,had,hb,hcell⟩:=HR.out.1.2 hl0;obtain⟨x0,x1,x2⟩:=hcell 0 hl0;rw[hc]at x0 x1 x2;subst had;obtain⟨rc,rt,ra⟩:=r;have x0':w3.cell? ⟨b,off,none⟩=some (.int .i64 rc):=by simpa using x0
  have x1':w3.cell? ⟨b,off+1,none⟩=some (.string (mk rt)):=by simpa using x1
  have x2':w3.cell? ⟨b,off+2,none⟩=some (.int .i64 ra):=by simpa using x2
  have HS0:=HE.out _ _ hc;have HST0:Hid (stE c rs=(if rc<c then 9 else 3)/\stA rs=ra):=HS0;clear HS0 HE HZ hc HR hcell x0 x1 x2 hl1;by_cases hcc:rc<c
  ·have HST:Hid (stE c rs=9/\stA rs=ra):=⟨HST0.out.1.trans (if_pos hcc),HST0.out.2⟩;clear HST0;go_wp2_with fail;go_quiet (fail);have P4:Hid (Below w.heap.size w (w3.drewN nq)/\Bx (w3.drewN nq) K1 #[.int .i64 0,.int .i64 0] 32):=⟨below_drewN P3.out.1 nq,P3.out.2.drew nq⟩;go_wp2_with fail;refine(faultOf_any 9 rc rt ra _).mono ?_;rintro e w6 ⟨rfl,H6⟩;have B6:Hid (Below w.heap.size w w6/\Bx w6 K1 #[.int .i64 0,.int .i64 0] 32):=⟨P4.out.1.trans (H6.mono P4.out.1.size),P4.out.2.later H6⟩;clear P3 H6;obtain⟨f0,f1,g0,g1⟩:w6.cell? ⟨K1,0,none⟩=some (.int .i64 0)/\w6.cell? ⟨K1,1,none⟩=some (.int .i64 0)/\w6.frozen? ⟨K1,0,none⟩=false/\w6.frozen? ⟨K1,1,none⟩=false:=⟨B6.out.2.cell 0,B6.out.2.cell 1,B6.out.2.fz 0,B6.out.2.fz 1⟩;have HF:Hid (Below w.heap.size w ((w6.setCell ⟨K1,0,none⟩ (.int .i64 9)).setCell ⟨K1,1,none⟩ (.int .i64 ra))/\Bx ((w6.setCell ⟨K1,0,none⟩ (.int .i64 9)).setCell ⟨K1,1,none⟩ (.int .i64 ra)) K1 #[.int .i64 9,.int .i64 ra] 32):=⟨(B6.out.1.setCell (by show _<=K1;omega) _).setCell (by show _<=K1;omega) _,(B6.out.2.set 0 (.int .i64 9)).set 1 (.int .i64 ra)⟩;clear B6;go_wp2;generalize (w6.setCell ⟨K1,0,none⟩ (.int .i64 9)).setCell ⟨K1,1,none⟩ (.int .i64 ra)=WF at HF |-;obtain⟨j0,j1⟩:=HF.out.2.c2;refine bodyPost_ret (v:=.agg #[.int .i64 9,.int .i64 ra]) (by simp[results,Tryz.results117,go_sem,j0,j1]) rfl ⟨?_,HF.out.1⟩;rw[HST.out.1,HST.out.2]
  ·have HST:Hid (stE c rs=3/\stA rs=ra):=⟨HST0.out.1.trans (if_neg hcc),HST0.out.2⟩;have hcc':c<=rc:=by omega
   clear HST0 hcc;go_wp2_with fail;go_quiet (fail);have P4:Hid (Below w.heap.size w (w3.drewN nq)/\Bx (w3.drewN nq) K1 #[.int .i64 0,.int .i64 0] 32):=⟨below_drewN P3.out.1 nq,P3.out.2.drew nq⟩;go_wp2_with fail;refine(faultOf_any 3 rc rt ra _).mono ?_;rintro e w6 ⟨rfl,H6⟩;have B6:Hid (Below w.heap.size w w6/\Bx w6 K1 #[.int .i64 0,.int .i64 0] 32):=⟨P4.out.1.trans (H6.mono P4.out.1.size),P4.out.2.later H6⟩;clear P3 H6;obtain⟨f0,f1,g0,g1⟩:w6.cell? ⟨K1,0,none⟩=some (.int .i64 0)/\w6.cell? ⟨K1,1,none⟩=some (.int .i64 0)/\w6.frozen? ⟨K1,0,none⟩=false/\w6.frozen? ⟨K1,1,none⟩=false:=⟨B6.out.2.cell 0,B6.out.2.cell 1,B6.out.2.fz 0,B6.out.2.fz 1⟩;have HF:Hid (Below w.heap.size w ((w6.setCell ⟨K1,0,none⟩ (.int .i64 3)).setCell ⟨K1,1,none⟩ (.int .i64 ra))/\Bx ((w6.setCell ⟨K1,0,none⟩ (.int .i64 3)).setCell ⟨K1,1,none⟩ (.int .i64 ra)) K1 #[.int .i64 3,.int .i64 ra] 32):=⟨(B6.out.1.setCell (by show _<=K1;omega) _).setCell (by show _<=K1;omega) _,(B6.out.2.set 0 (.int .i64 3)).set 1 (.int .i64 ra)⟩;clear B6;go_wp2;generalize (w6.setCell ⟨K1,0,none⟩ (.int .i64 3)).setCell ⟨K1,1,none⟩ (.int .i64 ra)=WF at HF |-;obtain⟨j0,j1⟩:=HF.out.2.c2;refine bodyPost_ret (v:=.agg #[.int .i64 3,.int .i64 ra]) (by simp[results,Tryz.results117,go_sem,j0,j1]) rfl ⟨?_,HF.out.1⟩;rw[HST.out.1,HST.out.2]
end Tre
end Go.Proofs.YtalijhclfppohaaGreatDoor
