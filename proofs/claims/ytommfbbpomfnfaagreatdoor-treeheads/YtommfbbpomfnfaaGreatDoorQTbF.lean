/- . -/
import Derived.Test.YtommfbbpomfnfaaGreatDoorQTreeMean
import Derived.Test.YtommfbbpomfnfaaGreatDoorQTreeKey
import Derived.Test.YtommfbbpomfnfaaGreatDoorQFbP
import Derived.Test.YtommfbbpomfnfaaGreatDoorQFbC
set_option linter.unusedSimpArgs false
set_option linter.unusedVariables false
set_option maxRecDepth 100000
namespace Go.Proofs.YtommfbbpomfnfaaGreatDoor
namespace Tre
open Utf Rws Pln Flw
open Go.RowKit
open Blk (Rw RwAt z3 lo rws joinW trm fld headO hdV)
abbrev Tf:=Tr × Int × Int
abbrev Hd:=Rw × Pp
def hds (dp:Bool):Nat->Int->List Rw->List Hd × List Rw × Int × Int
 | 0,_,_=>([],[],0,0)
 | n+1,c,rs=>match cnt rs with
  | []=>([],[],0,0)
  | r::rest=>if r.1<c then ([],[],9,r.2.2)else
   if (!noth (CP ⟨[],0⟩ r.2.1).2 || dp)=true then ([],r::rest,0,0)else
   ((r,(CP ⟨[],0⟩ r.2.1).1)::(hds dp n r.1 rest).1,(hds dp n r.1 rest).2)
def orM (h:Hd) (t:Tr):Tf :=
 if samePp h.2 ⟨[],0⟩=true then (t,0,0)else if orB h.2 t.kind t.anc=true then (tr0,3,h.1.2.2)else if onB h.2 t.kind=true then (tr0,12,h.1.2.2)else (⟨t.kind,t.text,h.2.anc,t.kids⟩,0,0)
def noM (h:Hd):Tf:=if onB h.2 (nuK h.2)=true then (tr0,12,h.1.2.2)else (⟨nuK h.2,[],h.2.anc,[]⟩,0,0)
def bak:List Hd->Tf->Tf
 | [],r=>r
 | h::hs,r=>if r.2.1≠0 then (tr0,r.2)else bak hs (orM h r.1)
def beM (val:Rw->List Rw->Tf) (dp:Bool) (h:Hd) (rs:List Rw):Tf :=
 let q:=hds dp (rs.length+1) h.1.1 rs
 if q.2.2.1≠0 then (tr0,q.2.2)else match q.2.1 with
  | r::rest=>bak (h::q.1).reverse (val r rest)
  | []=>bak (h::q.1).reverse.tail (noM ((h::q.1).reverse.headD h))
def meM (val:Int->Rw->List Rw->Tf) (ar:Int) (r:Rw) (l:Ln) (u:List Rw):Tf :=
 mnM (fun p=>beM (val ar) (decide (ar=64)) (r,p) u) r.1 r.2.2 l u
def itP (val:Int->Rw->List Rw->Tf) (ar:Int) (r:Rw) (u:List Rw):List Tr × Int × Int :=
 if isIt r.2.1=false then ([],3,r.2.2)else
 if isIt (itR r.2.1)=true\/isEn (itR r.2.1)=true then ([(val ar (mvd r.1 (itN r.2.1),itR r.2.1,r.2.2) u).1],(val ar (mvd r.1 (itN r.2.1),itR r.2.1,r.2.2) u).2)else
 ([(meM val ar r (itR r.2.1) u).1],(meM val ar r (itR r.2.1) u).2)
def enP (val:Int->Rw->List Rw->Tf) (ar:Int) (r:Rw) (u:List Rw):List Tr × Int × Int :=
 if isEn r.2.1=false then ([],3,r.2.2)else if 256<(enT r.2.1).text.length then ([],5,r.2.2)else
 ([⟨(enT r.2.1).kind,(enT r.2.1).text,[],[]⟩,(meM val ar r (enR r.2.1) u).1],(meM val ar r (enR r.2.1) u).2)
def kiM (part:Rw->List Rw->List Tr × Int × Int) (c:Int):Nat->Rw->List Rw->List Tr->List Tr × Int × Int
 | 0,_,_,_=>([],0,0)
 | n+1,r,more,acc =>
  if (part r (more.take (dpn more c))).2.1≠0 then ([],(part r (more.take (dpn more c))).2)else match more.drop (dpn more c)with
   | []=>(acc++(part r (more.take (dpn more c))).1,0,0)
   | r'::rest=>if r'.1<c then ([],9,r'.2.2)else kiM part c n r' rest (acc++(part r (more.take (dpn more c))).1)
def vaM:Nat->Int->Rw->List Rw->Tf
 | 0,_,_,_=>(tr0,0,0)
 | n+1,ar,r,more =>
  if ar=64 then (tr0,10,r.2.2)else
  if isIt r.2.1=true then (⟨5,[],[],(kiM (itP (vaM n) (ar+1)) r.1 (more.length+1) r more []).1⟩,(kiM (itP (vaM n) (ar+1)) r.1 (more.length+1) r more []).2)else
  if isEn r.2.1=true then (⟨6,[],[],(kiM (enP (vaM n) (ar+1)) r.1 (more.length+1) r more []).1⟩,(kiM (enP (vaM n) (ar+1)) r.1 (more.length+1) r more []).2)else
  meM (vaM n) ar r r.2.1 more
def msr (rs:List Rw):Nat:=(rs.map fun r=>r.2.1.length+1).sum
theorem msr_cons (r:Rw) (rs:List Rw):msr (r::rs)=r.2.1.length+1+msr rs:=by simp[msr]
theorem msr_app (a b:List Rw):msr (a++b)=msr a+msr b:=by simp[msr]
theorem cnt_len (rs:List Rw):(cnt rs).length<=rs.length:=by
 unfold cnt;exact(List.dropWhile_suffix _).length_le
end Tre
namespace Tre
open Utf Rws Pln Flw
open Go.RowKit
open Blk (Rw RwAt z3 lo rws joinW trm fld headO hdV)
theorem itR_len {x:Ln} (h:isIt x=true):(itR x).length<x.length:=by
 unfold itR;rw[if_pos h];have h1:=gaps_len (x.drop 1);rw[List.length_drop]at h1
 cases x with
 | nil=>exact absurd h (by decide)
 | cons b r=>simp only[List.length_cons]at *;omega
theorem itN_le (x:Ln):itN x<=x.length:=by
 unfold itN;split<;>omega
theorem enR_len (x:Ln):(enR x).length<=x.length:=by
 unfold enR;split
 ·have h1:=gaps_len ((ckR x).drop 1);have h2:=ckR_len x;rw[List.length_drop]at h1;omega
 ·exact Nat.zero_le _
theorem cpr_len:∀ (n:Nat) (p:Pp) (l:Ln),(cpr n p l).2.length<=l.length
 | 0,p,l=>gaps_len l
 | n+1,p,l=>by
  unfold cpr;split
  ·exact gaps_len l
  ·have h1:=cpr_len n (wth p (wrd (gaps l))) (beh (gaps l));have h2:=beh_le (gaps l);have h3:=gaps_len l;omega
theorem CP_len (p:Pp) (l:Ln):(CP p l).2.length<=l.length:=cpr_len _ p l
theorem wth_anc (p:Pp) (l:Ln):(wth p l).anc.length<=p.anc.length+l.length:=by
 unfold wth;split
 ·split
  ·show (l.drop 1).length<=_;rw[List.length_drop];omega
  ·omega
 ·split<;>exact Nat.le_add_right _ _
theorem cpr_anc:∀ (n:Nat) (p:Pp) (l:Ln),(cpr n p l).1.anc.length<=p.anc.length+l.length
 | 0,p,l=>Nat.le_add_right _ _
 | n+1,p,l=>by
  unfold cpr;split
  ·exact Nat.le_add_right _ _
  ·have h1:=cpr_anc n (wth p (wrd (gaps l))) (beh (gaps l))
   have h2:(beh (gaps l)).length+(wrd (gaps l)).length<=(gaps l).length:=by
    unfold beh;rw[List.length_drop];have:=wrd_le (gaps l);omega
   have h3:=gaps_len l;have h4:=wth_anc p (wrd (gaps l));omega
theorem CP_anc (l:Ln):(CP ⟨[],0⟩ l).1.anc.length<=l.length:=by
 have h:(CP ⟨[],0⟩ l).1.anc.length<=0+l.length:=cpr_anc (mu ⟨[],0⟩+1) ⟨[],0⟩ l;omega
theorem mvd_bd (c:Int) (n:Nat) (h: -9223372036854775808<=c) (h2:c<=9223372036854775807): -9223372036854775808<=mvd c n/\mvd c n<=9223372036854775807:=by
 unfold mvd;split<;>omega
theorem dpn_le (rs:List Rw) (c:Int):dpn rs c<=rs.length:=by
 unfold dpn;exact(List.takeWhile_prefix _).length_le
def BkOk (rs:List Rw):Prop:=∀ us,us <:+: rs->∀ c ls,lo none (rws us c)=.inl ls->(joinW 10 (trm ls)).length<=1000000000/\(fld (trm ls)).length<=1000000000
theorem BkOk.sub {rs us:List Rw} (h:BkOk rs) (hs:us <:+: rs):BkOk us:=fun vs hv=>h vs (hv.trans hs)
structure Good (rs:List Rw):Prop where
 len:rs.length<=1048576
 txt:∀ r∈rs,r.2.1.length<=65536
 col:∀ r∈rs,-9223372036854775808<=r.1/\r.1<=9223372036854775807
 bk:BkOk rs
theorem Good.sub {rs us:List Rw} (h:Good rs) (hs:us <:+: rs):Good us :=
 ⟨Nat.le_trans hs.length_le h.len,fun r hr=>h.txt r (hs.subset hr),fun r hr=>h.col r (hs.subset hr),h.bk.sub hs⟩
theorem msr_sub {rs us:List Rw} (hs:us <:+: rs):msr us<=msr rs:=by
 obtain⟨A,B,rfl⟩:=hs;rw[msr_app,msr_app];omega
theorem cnt_suffix (rs:List Rw):cnt rs <:+ rs:=by
 unfold cnt;exact List.dropWhile_suffix _
theorem hds_suffix (dp:Bool):∀ (n:Nat) (c:Int) (rs:List Rw),(hds dp n c rs).2.1 <:+ rs
 | 0,_,rs=>List.nil_suffix
 | n+1,c,rs=>by
  unfold hds;have h:=cnt_suffix rs
  cases hc:cnt rs with
  | nil=>exact List.nil_suffix
  | cons r rest =>
   rw[hc]at h;dsimp only;split
   ·exact List.nil_suffix
   ·split
    ·exact h
    ·exact((hds_suffix dp n r.1 rest).trans (List.suffix_cons r rest)).trans h
end Tre
namespace Tre
open Utf Rws Pln Flw
open Go.RowKit
set_option maxHeartbeats 2000000
theorem two_new (w:World) (c0 c1:Array Value) (t0 t1:TypeId) :
  Below w.heap.size w ((w.alloc (.cells c0 t0)).alloc (.cells c1 t1))/\Bx ((w.alloc (.cells c0 t0)).alloc (.cells c1 t1)) w.heap.size c0 t0 /\
  Bx ((w.alloc (.cells c0 t0)).alloc (.cells c1 t1)) (w.heap.size+1) c1 t1:=by
 have s1:(w.alloc (.cells c0 t0)).heap.size=w.heap.size+1:=World.size_alloc _ _;have b1:=below_alloc w (.cells c0 t0);have b2:=below_alloc (w.alloc (.cells c0 t0)) (.cells c1 t1);have n1:=Bx.new (w.alloc (.cells c0 t0)) c1 t1;rw[s1]at n1;exact⟨b1.trans (b2.mono b1.size),(Bx.new w c0 t0).later b2,n1⟩
variable {w:World}
theorem en_bd (l:Ln):0<=(enT l).kind/\(enT l).kind<=4/\(enT l).text.length<=l.length:=by
 unfold enT ckT;have h1:=rd_olen l;have h2:=knd_bd (cutT l false);have h3:=cutT_len l false;have h4:=fin_le l false;split
 ·split
  ·exact⟨by show (0:Int)<=4;decide,by show (4:Int)<=4;decide,h1⟩
  ·split
   ·refine⟨by show 0<=knd _;omega,h2.2,?_⟩;show (if knd (cutT l false)=1 then []else cutT l false).length<=_;split
    ·exact Nat.zero_le _
    ·omega
   ·exact⟨by decide,by decide,Nat.zero_le _⟩
 ·exact⟨by decide,by decide,Nat.zero_le _⟩
theorem trV_lf (w:World) (k:Int) (x:Ln) (h0:0<=k) (h4:k<=4) (hx:x.length<=140737488351232):TrV w 1 (.agg #[.int .i64 k,.string (mk x),.string ⟨#[]⟩,.slice none 0 0]) ⟨k,x,[],[]⟩:=by
 unfold TrV;refine⟨none,0,0,rfl,rfl,Nat.le_refl _,Nat.zero_le _,⟨?_,?_,?_,Nat.zero_le _⟩,fun h=>absurd h (by decide)⟩
 ·show _<=k;omega
 ·show k<=_;omega
 ·show x.length<=_;omega
end Tre
namespace Tre
open Utf Rws Pln Flw
open Go.RowKit
open Blk (Rw RwAt z3)
set_option maxHeartbeats 4000000
def RowsA (w:World) (a:Option Addr) (len cap:Nat) (rs:List Rw):Prop:=RowsIn w a len cap rs/\((∃ b off,a=some ⟨b,off,none⟩)\/(a=none/\len=0/\cap=0))
theorem RowsA.later {w w':World} {a:Option Addr} {len cap:Nat} {rs:List Rw} (h:RowsA w a len cap rs) (hb:Below w.heap.size w w'):RowsA w' a len cap rs:=⟨h.1.later hb,h.2⟩
theorem RowsA.nil (w:World):RowsA w none 0 0 []:=⟨RowsIn.nil w,.inr ⟨rfl,rfl,rfl⟩⟩
theorem RowsA.len {w:World} {a:Option Addr} {len cap:Nat} {rs:List Rw} (h:RowsA w a len cap rs):len=rs.length:=by have:=h.1.1.1;omega
theorem RowsA.drop {w:World} {b off len cap:Nat} {rs:List Rw} (h:RowsA w (some ⟨b,off,none⟩) len cap rs) (j:Nat) (hj:j<=len):RowsA w (some (if cap=j then ⟨b,off,none⟩else ⟨b,off+j*3,none⟩)) (len-j) (cap-j) (rs.drop j):=by
 have hc:=h.1.2.1;by_cases e:cap=j
 ·rw[if_pos e];refine⟨⟨⟨by rw[List.length_drop,h.1.1.1],fun hp=>absurd hp (by omega)⟩,by omega,by have:=h.1.2.2.1;omega,fun r hr=>h.1.2.2.2 r (List.mem_of_mem_drop hr)⟩,.inl ⟨_,_,rfl⟩⟩
 ·rw[if_neg e];exact⟨h.1.dropLe j hj,.inl ⟨_,_,rfl⟩⟩
theorem RowsA.take {w:World} {a:Option Addr} {len cap:Nat} {rs:List Rw} (h:RowsA w a len cap rs) (j:Nat) (hj:j<=len):RowsA w a j cap (rs.take j):=by
 have hc:=h.1.2.1;refine⟨⟨⟨by have:=h.1.1.1;rw[List.length_take];omega,fun hp=> ?_⟩,by omega,h.1.2.2.1,fun r hr=>h.1.2.2.2 r (List.mem_of_mem_take hr)⟩,?_⟩
 ·obtain⟨b,off,e,hb,hcell⟩:=h.1.1.2 (by omega);refine⟨b,off,e,hb,fun i hi=> ?_⟩;have:=hcell i (by omega);rw[show (rs.take j).getD i z3=rs.getD i z3 by rw[List.getD_eq_getElem?_getD,List.getD_eq_getElem?_getD,List.getElem?_take_of_lt hi]];exact this
 ·rcases h.2 with q | ⟨q1,q2,q3⟩
  ·exact .inl q
  ·exact .inr ⟨q1,by omega,q3⟩
def CntA (w0:World) (rs:List Rw) (w:World) (e:Ending) (w':World):Prop:=(∃ a' len' cap',e=.returned (.slice a' len' cap')/\RowsA w0 a' len' cap' (cnt rs))/\Below w.heap.size w w'
theorem counted0_any (a:Option Addr) (len cap:Nat) (rs:List Rw) (w0 w:World) (h:RowsIn w0 a len cap rs) (hb0:Below w0.heap.size w0 w):Calls Tryz.prog 108 #[.slice a len cap] w fun e w'=>CntA w0 rs w e w':=by
 have HR:Hid (RowsIn w0 a len cap rs):=h;have HB0:Hid (Below w0.heap.size w0 w):=hb0;have hm:maxLen=9223372036854775807:=rfl;have hcl:len<=cap:=h.2.1;have hcm:cap<=9223372036854775807:=by have:=h.2.2.1;omega
 clear h hb0;go_enter Tryz.func108,Tryz.ntmps108;go_wp2
 go_loopw [7] (fun ui wr=>∃ j:Nat,j<=len/\ui=.int .i64 (j:Int)/\Hid (Below w.heap.size w wr/\∀ i,i<j->noth (rs.getD i z3).2.1=true)) (fun ui _=>len-(intOf ui).toNat)
 case atStart=>exact⟨0,Nat.zero_le _,rfl,Below.refl _ _,fun i hi=>absurd hi (Nat.not_lt_zero _)⟩
 case round =>
  obtain⟨j,hj,rfl,HL⟩:=hrel;by_cases hlt:j<len
  ·obtain⟨b,off,had,hb,hcell⟩:=HR.out.1.2 (by omega);obtain⟨x0,x1,x2⟩:=hcell j hlt;subst had;have hjr:j<rs.length:=by have:=HR.out.1.1;omega
   have htl:=HR.out.2.2.2 _ (getD_memR hjr);have HDR:Hid (RowsA w0 (some ⟨b,off+j*3,none⟩) (len-j) (cap-j) (rs.drop j)):=⟨HR.out.drop j hlt,.inl ⟨_,_,rfl⟩⟩;have HCN:Hid (noth (rs.getD j z3).2.1=false->cnt rs=rs.drop j):=fun hn=>cnt_drop rs j hjr HL.out.2 hn
   have HB1:Hid (Below w0.heap.size w0 wr):=HB0.out.trans (HL.out.1.mono HB0.out.size);replace x0:=(HB1.out.cell (p:=⟨b,off+j*3,none⟩) hb).trans x0;replace x1:=(HB1.out.cell (p:=⟨b,off+j*3+1,none⟩) hb).trans x1;replace x2:=(HB1.out.cell (p:=⟨b,off+j*3+2,none⟩) hb).trans x2;have HIE:Hid (∀ w0,Calls Tryz.prog 111 #[.string (mk (rs.getD j z3).2.1)] w0 fun e w'=>e=.returned (.bool (noth (rs.getD j z3).2.1))/\w0=w'):=fun w0=>isEmpty_any _ w0 (by omega)
   have HBA:Hid (∀ o,Below w.heap.size w (wr.alloc o)):=fun o=>HL.out.1.alloc HL.out.1.size o
   have HNX:Hid (noth (rs.getD j z3).2.1=true->∀ i,i<j+1->noth (rs.getD i z3).2.1=true):=fun hn i hi=>by
    by_cases e:i=j
    ·rw[e];exact hn
    ·exact HL.out.2 i (by omega)
   clear hcell HR htl hjr HL HB1 HB0;generalize (rs.getD j z3).1=rc at *;generalize (rs.getD j z3).2.2=ra at *;generalize (rs.getD j z3).2.1=rt at *;cases hn:noth rt
   ·rw[hn]at HIE;have HCE:Hid (cnt rs=rs.drop j):=HCN.out hn;clear HCN HNX hn;go_wp2_with (go_at_call 111;refine(HIE.out _).mono ?_;rintro e w' ⟨rfl,rfl⟩);go_ret;refine⟨⟨_,_,_,rfl,?_⟩,HBA.out _⟩;rw[HCE.out];have:=HDR.out
    first | exact this | simpa using this
   ·rw[hn]at HIE;have HNE:=HNX.out hn;replace HNE:Hid (∀ i,i<j+1->noth (rs.getD i z3).2.1=true):=HNE;clear HCN HNX hn HDR;go_wp2_with (go_at_call 111;refine(HIE.out _).mono ?_;rintro e w' ⟨rfl,rfl⟩);go_roundw
    case rel=>exact⟨j+1,by omega,by go_num,HBA.out _,HNE.out⟩
    case measure=>simp[intOf];omega
  ·have HCE:Hid (cnt rs=[]):=cnt_all rs (fun i hi=>HL.out.2 i (by have:=HR.out.1.1;omega));have HBB:Hid (Below w.heap.size w wr):=HL.out.1;clear HL HR;go_wp2;go_ret;exact⟨⟨none,0,0,rfl,by rw[HCE.out];exact RowsA.nil _⟩,HBB.out⟩
end Tre
namespace Tre
open Utf Rws Pln Flw
open Go.RowKit
set_option maxHeartbeats 2000000
theorem isEntry_any (l:Ln) (w:World) (hl:l.length<=140737488351232) (hT:Tb w):Calls Tryz.prog 115 #[.string (mk l)] w fun e w'=>e=.returned (.bool (isEn l))/\Below w.heap.size w w':=by
 have HE:Hid (Calls Tryz.prog 11 #[.string (mk l)] w fun e w'=>e=.returned (.tuple #[.agg #[.int .i64 (enT l).kind,.string (mk (enT l).text),.string ⟨#[]⟩,.slice none 0 0],.string (mk (enR l)),.int .i64 (enN l:Int),.bool (isEn l)])/\Below w.heap.size w w'):=entry0_any l hl hT;clear hT;generalize (enT l).kind=ck at *;generalize (enT l).text=ct at *;generalize enR l=eR at *;generalize enN l=eN at *;generalize isEn l=eB at *;go_enter Tryz.func115,Tryz.ntmps115;go_wp2_with fail;refine HE.out.mono ?_;rintro e w3 ⟨rfl,H3⟩;have B3:Hid (Below w.heap.size w w3):=H3;clear H3;go_wp2;go_ret;exact⟨rfl,B3.out.trans ((below_alloc w3 _).mono B3.out.size)⟩
end Tre
end Go.Proofs.YtommfbbpomfnfaaGreatDoor
