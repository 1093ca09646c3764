/- . -/
import Derived.Test.YtidhpmcmbooaoaaGreatDoorR26UtfDec
import Derived.Test.YtidhpmcmbooaoaaGreatDoorR27BlockMem
set_option linter.unusedSimpArgs false
set_option linter.unusedVariables false
set_option maxRecDepth 100000
namespace Go.Proofs.YtidhpmcmbooaoaaGreatDoor
namespace Tre
open Utf Rws Pln Flw
open Go.RowKit
open Blk (Rw RwAt z3)
set_option maxHeartbeats 4000000
def cnt (rs:List Rw):List Rw:=rs.dropWhile fun r=>noth r.2.1
def RowsIn (w:World) (a:Option Addr) (len cap:Nat) (rs:List Rw):Prop:=RwAt w a len rs/\len<=cap/\cap<=maxLen/\∀ r∈rs,r.2.1.length<=140737488351232
theorem RowsIn.later {w w':World} {a:Option Addr} {len cap:Nat} {rs:List Rw} (h:RowsIn w a len cap rs) (hb:Below w.heap.size w w'):RowsIn w' a len cap rs:=⟨h.1.later hb (Nat.le_refl _),h.2⟩
theorem cnt_drop:∀ (rs:List Rw) (j:Nat),j<rs.length->(∀ i,i<j->noth (rs.getD i z3).2.1=true)->noth (rs.getD j z3).2.1=false->cnt rs=rs.drop j
 | [],j,hj,_,_=>by cases hj
 | r::rs,0,hj,_,hn=>by
  unfold cnt;rw[List.dropWhile_cons,if_neg (by simpa using hn)];rfl
 | r::rs,j+1,hj,h,hn=>by
  have h0:=h 0 (by omega);have ih:=cnt_drop rs j (by simpa using hj) (fun i hi=>h (i+1) (by omega)) hn;unfold cnt at *;rw[List.dropWhile_cons,if_pos (by simpa using h0),ih];rfl
theorem cnt_all:∀ (rs:List Rw),(∀ i,i<rs.length->noth (rs.getD i z3).2.1=true)->cnt rs=[]
 | [],_=>rfl
 | r::rs,h=>by
  have h0:=h 0 (by simp);have ih:=cnt_all rs (fun i hi=>h (i+1) (by simpa using hi));unfold cnt at *;rw[List.dropWhile_cons,if_pos (by simpa using h0),ih]
theorem getD_drop (rs:List Rw) (j i:Nat):(rs.drop j).getD i z3=rs.getD (j+i) z3:=by
 rw[List.getD_eq_getElem?_getD,List.getD_eq_getElem?_getD,List.getElem?_drop]
theorem RowsIn.drop {w:World} {b off len cap:Nat} {rs:List Rw} (h:RowsIn w (some ⟨b,off,none⟩) len cap rs) (j:Nat) (hj:j<len):RowsIn w (some ⟨b,off+j*3,none⟩) (len-j) (cap-j) (rs.drop j):=by
 obtain⟨⟨hl,hc⟩,h1,h2,h3⟩:=h;refine⟨⟨by rw[List.length_drop,hl],fun _=> ?_⟩,by omega,by omega,fun r hr=>h3 r (List.mem_of_mem_drop hr)⟩;obtain⟨b',off',e,hb,hcell⟩:=hc (by omega);simp only[Option.some.injEq,Addr.mk.injEq,and_true]at e;obtain⟨rfl,rfl⟩:=e;refine⟨b,off+j*3,rfl,hb,fun i hi=> ?_⟩;have:=hcell (j+i) (by omega);rw[getD_drop,show off+j*3+i*3=off+(j+i)*3 by omega];exact this
theorem RowsIn.nil (w:World):RowsIn w none 0 0 []:=⟨⟨rfl,fun h=>absurd h (by decide)⟩,Nat.le_refl _,Nat.zero_le _,fun r hr=>by cases hr⟩
theorem getD_memR {xs:List Rw} {i:Nat} (h:i<xs.length):xs.getD i z3∈xs:=by
 rw[List.getD_eq_getElem?_getD,List.getElem?_eq_getElem h];exact List.getElem_mem h
def CntRes (rs:List Rw) (w:World) (e:Ending) (w':World):Prop:=(∃ a' len' cap',e=.returned (.slice a' len' cap')/\RowsIn w' a' len' cap' (cnt rs))/\Below w.heap.size w w'
theorem counted_any (a:Option Addr) (len cap:Nat) (rs:List Rw) (w:World) (h:RowsIn w a len cap rs):Calls Tryz.prog 30 #[.slice a len cap] w fun e w'=>CntRes rs w e w':=by
 have HR:Hid (RowsIn w a len cap rs):=h;have hm:maxLen=9223372036854775807:=rfl;have hcl:len<=cap:=h.2.1;have hcm:cap<=9223372036854775807:=by have:=h.2.2.1;omega
 clear h;go_enter Tryz.func30,Tryz.ntmps30;go_wp2
 go_loopw [7] (fun ui wr=>∃ j:Nat,j<=len/\ui=.int .i64 (j:Int)/\Hid (Below w.heap.size w wr/\∀ i,i<j->noth (rs.getD i z3).2.1=true)) (fun ui _=>len-(intOf ui).toNat)
 case atStart=>exact⟨0,Nat.zero_le _,rfl,Below.refl _ _,fun i hi=>absurd hi (Nat.not_lt_zero _)⟩
 case round =>
  obtain⟨j,hj,rfl,HL⟩:=hrel;by_cases hlt:j<len
  ·obtain⟨b,off,had,hb,hcell⟩:=HR.out.1.2 (by omega);obtain⟨x0,x1,x2⟩:=hcell j hlt;subst had;have hjr:j<rs.length:=by have:=HR.out.1.1;omega
   have htl:=HR.out.2.2.2 _ (getD_memR hjr);have HDR:Hid (RowsIn w (some ⟨b,off+j*3,none⟩) (len-j) (cap-j) (rs.drop j)):=HR.out.drop j hlt;have HCN:Hid (noth (rs.getD j z3).2.1=false->cnt rs=rs.drop j):=fun hn=>cnt_drop rs j hjr HL.out.2 hn
   replace x0:=(HL.out.1.cell (p:=⟨b,off+j*3,none⟩) hb).trans x0;replace x1:=(HL.out.1.cell (p:=⟨b,off+j*3+1,none⟩) hb).trans x1;replace x2:=(HL.out.1.cell (p:=⟨b,off+j*3+2,none⟩) hb).trans x2;have HIE:Hid (∀ w0,Calls Tryz.prog 33 #[.string (mk (rs.getD j z3).2.1)] w0 fun e w'=>e=.returned (.bool (noth (rs.getD j z3).2.1))/\w0=w'):=fun w0=>isEmpty_any _ w0 (by omega)
   have HBA:Hid (∀ o,Below w.heap.size w (wr.alloc o)):=fun o=>HL.out.1.alloc HL.out.1.size o
   have HNX:Hid (noth (rs.getD j z3).2.1=true->∀ i,i<j+1->noth (rs.getD i z3).2.1=true):=fun hn i hi=>by
    by_cases e:i=j
    ·rw[e];exact hn
    ·exact HL.out.2 i (by omega)
   clear hcell HR htl hjr HL;generalize (rs.getD j z3).1=rc at *;generalize (rs.getD j z3).2.2=ra at *;generalize (rs.getD j z3).2.1=rt at *;cases hn:noth rt
   ·rw[hn]at HIE;have HCE:Hid (cnt rs=rs.drop j):=HCN.out hn;clear HCN HNX hn;go_wp2_with (go_at_call 33;refine(HIE.out _).mono ?_;rintro e w' ⟨rfl,rfl⟩);go_ret;refine⟨⟨_,_,_,rfl,?_⟩,HBA.out _⟩;rw[HCE.out];have:=HDR.out.later (HBA.out (.cells #[.int .i64 rc,.string (mk rt),.int .i64 ra] 45))
    first | exact this | simpa using this
   ·rw[hn]at HIE;have HNE:=HNX.out hn;replace HNE:Hid (∀ i,i<j+1->noth (rs.getD i z3).2.1=true):=HNE;clear HCN HNX hn HDR;go_wp2_with (go_at_call 33;refine(HIE.out _).mono ?_;rintro e w' ⟨rfl,rfl⟩);go_roundw
    case rel=>exact⟨j+1,by omega,by go_num,HBA.out _,HNE.out⟩
    case measure=>simp[intOf];omega
  ·have HCE:Hid (cnt rs=[]):=cnt_all rs (fun i hi=>HL.out.2 i (by have:=HR.out.1.1;omega));have HBB:Hid (Below w.heap.size w wr):=HL.out.1;clear HL HR;go_wp2;go_ret;exact⟨⟨none,0,0,rfl,by rw[HCE.out];exact RowsIn.nil _⟩,HBB.out⟩
end Tre
end Go.Proofs.YtidhpmcmbooaoaaGreatDoor
