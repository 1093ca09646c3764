/- . -/
import Derived.Test.YtoaomiiakibanaaGreatDoorQTreeKey
import Derived.Test.YtoaomiiakibanaaGreatDoorQFbP
import Derived.Test.YtoaomiiakibanaaGreatDoorQFbC
import Derived.Test.YtoaomiiakibanaaGreatDoorQTbF
set_option linter.unusedSimpArgs false
set_option linter.unusedVariables false
set_option maxRecDepth 100000
namespace Go.Proofs.YtoaomiiakibanaaGreatDoor
namespace Tre
open Utf Rws Pln Flw
open Go.RowKit
set_option maxHeartbeats 2000000
theorem two_new (w:World) (c0 c1:Array Value) (t0 t1:TypeId) :
  Below w.heap.size w ((w.alloc (.cells c0 t0)).alloc (.cells c1 t1))/\Bx ((w.alloc (.cells c0 t0)).alloc (.cells c1 t1)) w.heap.size c0 t0 /\
  Bx ((w.alloc (.cells c0 t0)).alloc (.cells c1 t1)) (w.heap.size+1) c1 t1:=by
 have s1:(w.alloc (.cells c0 t0)).heap.size=w.heap.size+1:=World.size_alloc _ _;have b1:=below_alloc w (.cells c0 t0);have b2:=below_alloc (w.alloc (.cells c0 t0)) (.cells c1 t1);have n1:=Bx.new (w.alloc (.cells c0 t0)) c1 t1;rw[s1]at n1;exact⟨b1.trans (b2.mono b1.size),(Bx.new w c0 t0).later b2,n1⟩
variable {w:World}
theorem en_bd (l:Ln):0<=(enT l).kind/\(enT l).kind<=4/\(enT l).text.length<=l.length:=by
 unfold enT ckT;have h1:=rd_olen l;have h2:=knd_bd (cutT l false);have h3:=cutT_len l false;have h4:=fin_le l false;split
 ·split
  ·exact⟨by show (0:Int)<=4;decide,by show (4:Int)<=4;decide,h1⟩
  ·split
   ·refine⟨by show 0<=knd _;omega,h2.2,?_⟩;show (if knd (cutT l false)=1 then []else cutT l false).length<=_;split
    ·exact Nat.zero_le _
    ·omega
   ·exact⟨by decide,by decide,Nat.zero_le _⟩
 ·exact⟨by decide,by decide,Nat.zero_le _⟩
end Tre
namespace Tre
open Utf Rws Pln Flw
open Go.RowKit
open Blk (Rw RwAt z3)
set_option maxHeartbeats 4000000
def RowsA (w:World) (a:Option Addr) (len cap:Nat) (rs:List Rw):Prop:=RowsIn w a len cap rs/\((∃ b off,a=some ⟨b,off,none⟩)\/(a=none/\len=0/\cap=0))
theorem RowsA.later {w w':World} {a:Option Addr} {len cap:Nat} {rs:List Rw} (h:RowsA w a len cap rs) (hb:Below w.heap.size w w'):RowsA w' a len cap rs:=⟨h.1.later hb,h.2⟩
theorem RowsA.nil (w:World):RowsA w none 0 0 []:=⟨RowsIn.nil w,.inr ⟨rfl,rfl,rfl⟩⟩
theorem RowsA.len {w:World} {a:Option Addr} {len cap:Nat} {rs:List Rw} (h:RowsA w a len cap rs):len=rs.length:=by have:=h.1.1.1;omega
theorem RowsA.drop {w:World} {b off len cap:Nat} {rs:List Rw} (h:RowsA w (some ⟨b,off,none⟩) len cap rs) (j:Nat) (hj:j<=len):RowsA w (some (if cap=j then ⟨b,off,none⟩else ⟨b,off+j*3,none⟩)) (len-j) (cap-j) (rs.drop j):=by
 have hc:=h.1.2.1;by_cases e:cap=j
 ·rw[if_pos e];refine⟨⟨⟨by rw[List.length_drop,h.1.1.1],fun hp=>absurd hp (by omega)⟩,by omega,by have:=h.1.2.2.1;omega,fun r hr=>h.1.2.2.2 r (List.mem_of_mem_drop hr)⟩,.inl ⟨_,_,rfl⟩⟩
 ·rw[if_neg e];exact⟨h.1.dropLe j hj,.inl ⟨_,_,rfl⟩⟩
theorem RowsA.take {w:World} {a:Option Addr} {len cap:Nat} {rs:List Rw} (h:RowsA w a len cap rs) (j:Nat) (hj:j<=len):RowsA w a j cap (rs.take j):=by
 have hc:=h.1.2.1;refine⟨⟨⟨by have:=h.1.1.1;rw[List.length_take];omega,fun hp=> ?_⟩,by omega,h.1.2.2.1,fun r hr=>h.1.2.2.2 r (List.mem_of_mem_take hr)⟩,?_⟩
 ·obtain⟨b,off,e,hb,hcell⟩:=h.1.1.2 (by omega);refine⟨b,off,e,hb,fun i hi=> ?_⟩;have:=hcell i (by omega);rw[show (rs.take j).getD i z3=rs.getD i z3 by rw[List.getD_eq_getElem?_getD,List.getD_eq_getElem?_getD,List.getElem?_take_of_lt hi]];exact this
 ·rcases h.2 with q | ⟨q1,q2,q3⟩
  ·exact .inl q
  ·exact .inr ⟨q1,by omega,q3⟩
def CntA (w0:World) (rs:List Rw) (w:World) (e:Ending) (w':World):Prop:=(∃ a' len' cap',e=.returned (.slice a' len' cap')/\RowsA w0 a' len' cap' (cnt rs))/\Below w.heap.size w w'
theorem counted0_any (a:Option Addr) (len cap:Nat) (rs:List Rw) (w0 w:World) (h:RowsIn w0 a len cap rs) (hb0:Below w0.heap.size w0 w):Calls Tryz.prog 108 #[.slice a len cap] w fun e w'=>CntA w0 rs w e w':=by
 have HR:Hid (RowsIn w0 a len cap rs):=h;have HB0:Hid (Below w0.heap.size w0 w):=hb0;have hm:maxLen=9223372036854775807:=rfl;have hcl:len<=cap:=h.2.1;have hcm:cap<=9223372036854775807:=by have:=h.2.2.1;omega
 clear h hb0;go_enter Tryz.func108,Tryz.ntmps108;go_wp2
 go_loopw [7] (fun ui wr=>∃ j:Nat,j<=len/\ui=.int .i64 (j:Int)/\Hid (Below w.heap.size w wr/\∀ i,i<j->noth (rs.getD i z3).2.1=true)) (fun ui _=>len-(intOf ui).toNat)
 case atStart=>exact⟨0,Nat.zero_le _,rfl,Below.refl _ _,fun i hi=>absurd hi (Nat.not_lt_zero _)⟩
 case round =>
  obtain⟨j,hj,rfl,HL⟩:=hrel;by_cases hlt:j<len
  ·obtain⟨b,off,had,hb,hcell⟩:=HR.out.1.2 (by omega);obtain⟨x0,x1,x2⟩:=hcell j hlt;subst had;have hjr:j<rs.length:=by have:=HR.out.1.1;omega
   have htl:=HR.out.2.2.2 _ (getD_memR hjr);have HDR:Hid (RowsA w0 (some ⟨b,off+j*3,none⟩) (len-j) (cap-j) (rs.drop j)):=⟨HR.out.drop j hlt,.inl ⟨_,_,rfl⟩⟩;have HCN:Hid (noth (rs.getD j z3).2.1=false->cnt rs=rs.drop j):=fun hn=>cnt_drop rs j hjr HL.out.2 hn
   have HB1:Hid (Below w0.heap.size w0 wr):=HB0.out.trans (HL.out.1.mono HB0.out.size);replace x0:=(HB1.out.cell (p:=⟨b,off+j*3,none⟩) hb).trans x0;replace x1:=(HB1.out.cell (p:=⟨b,off+j*3+1,none⟩) hb).trans x1;replace x2:=(HB1.out.cell (p:=⟨b,off+j*3+2,none⟩) hb).trans x2;have HIE:Hid (∀ w0,Calls Tryz.prog 111 #[.string (mk (rs.getD j z3).2.1)] w0 fun e w'=>e=.returned (.bool (noth (rs.getD j z3).2.1))/\w0=w'):=fun w0=>isEmpty_any _ w0 (by omega)
   have HBA:Hid (∀ o,Below w.heap.size w (wr.alloc o)):=fun o=>HL.out.1.alloc HL.out.1.size o
   have HNX:Hid (noth (rs.getD j z3).2.1=true->∀ i,i<j+1->noth (rs.getD i z3).2.1=true):=fun hn i hi=>by
    by_cases e:i=j
    ·rw[e];exact hn
    ·exact HL.out.2 i (by omega)
   clear hcell HR htl hjr HL HB1 HB0;generalize (rs.getD j z3).1=rc at *;generalize (rs.getD j z3).2.2=ra at *;generalize (rs.getD j z3).2.1=rt at *;cases hn:noth rt
   ·rw[hn]at HIE;have HCE:Hid (cnt rs=rs.drop j):=HCN.out hn;clear HCN HNX hn;go_wp2_with (go_at_call 111;refine(HIE.out _).mono ?_;rintro e w' ⟨rfl,rfl⟩);go_ret;refine⟨⟨_,_,_,rfl,?_⟩,HBA.out _⟩;rw[HCE.out];have:=HDR.out
    first | exact this | simpa using this
   ·rw[hn]at HIE;have HNE:=HNX.out hn;replace HNE:Hid (∀ i,i<j+1->noth (rs.getD i z3).2.1=true):=HNE;clear HCN HNX hn HDR;go_wp2_with (go_at_call 111;refine(HIE.out _).mono ?_;rintro e w' ⟨rfl,rfl⟩);go_roundw
    case rel=>exact⟨j+1,by omega,by go_num,HBA.out _,HNE.out⟩
    case measure=>simp[intOf];omega
  ·have HCE:Hid (cnt rs=[]):=cnt_all rs (fun i hi=>HL.out.2 i (by have:=HR.out.1.1;omega));have HBB:Hid (Below w.heap.size w wr):=HL.out.1;clear HL HR;go_wp2;go_ret;exact⟨⟨none,0,0,rfl,by rw[HCE.out];exact RowsA.nil _⟩,HBB.out⟩
end Tre
namespace Tre
open Utf Rws Pln Flw
open Go.RowKit
set_option maxHeartbeats 2000000
theorem isEntry_any (l:Ln) (w:World) (hl:l.length<=140737488351232) (hT:Tb w):Calls Tryz.prog 115 #[.string (mk l)] w fun e w'=>e=.returned (.bool (isEn l))/\Below w.heap.size w w':=by
 have HE:Hid (Calls Tryz.prog 11 #[.string (mk l)] w fun e w'=>e=.returned (.tuple #[.agg #[.int .i64 (enT l).kind,.string (mk (enT l).text),.string ⟨#[]⟩,.slice none 0 0],.string (mk (enR l)),.int .i64 (enN l:Int),.bool (isEn l)])/\Below w.heap.size w w'):=entry0_any l hl hT;clear hT;generalize (enT l).kind=ck at *;generalize (enT l).text=ct at *;generalize enR l=eR at *;generalize enN l=eN at *;generalize isEn l=eB at *;go_enter Tryz.func115,Tryz.ntmps115;go_wp2_with fail;refine HE.out.mono ?_;rintro e w3 ⟨rfl,H3⟩;have B3:Hid (Below w.heap.size w w3):=H3;clear H3;go_wp2;go_ret;exact⟨rfl,B3.out.trans ((below_alloc w3 _).mono B3.out.size)⟩
end Tre
end Go.Proofs.YtoaomiiakibanaaGreatDoor
