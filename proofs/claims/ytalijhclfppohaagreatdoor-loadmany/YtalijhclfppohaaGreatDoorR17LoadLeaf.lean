/- . -/
import Derived.Test.YtalijhclfppohaaGreatDoorR14BlockMem
set_option linter.unusedSimpArgs false
set_option linter.unusedVariables false
set_option maxRecDepth 100000
namespace Go.Proofs.YtalijhclfppohaaGreatDoor
namespace Lod
open Utf Rws Pln Flw Tre
open Go.RowKit
open Blk (Rw RwAt z3)
set_option maxHeartbeats 4000000
def mkr (r:Rw):Bool:=r.1==0 && r.2.1==[45,45,45]
def ful (r:Rw):Bool:= !noth r.2.1
def ahd (l:List Rw):List Rw:=l.takeWhile fun r=> !mkr r
def lft (l:List Rw):List Rw:=l.dropWhile fun r=> !mkr r
theorem ahd_lft (l:List Rw):ahd l++lft l=l:=List.takeWhile_append_dropWhile
def idx (p:Rw->Bool):List Rw->Nat
 | []=>0
 | r::t=>if p r=true then 0 else idx p t+1
theorem idx_le (p:Rw->Bool) (l:List Rw):idx p l<=l.length:=by
 induction l with
 | nil=>exact Nat.le_refl _
 | cons r t ih=>rw[idx];split<;>simp;exact ih
theorem idx_any (p:Rw->Bool) (l:List Rw):decide (idx p l<l.length)=l.any p:=by
 induction l with
 | nil=>rfl
 | cons r t ih =>
  rw[idx,List.any_cons,List.length_cons];cases h:p r
  ·rw[if_neg (by decide),Bool.false_or,<-ih];simp
  ·rw[if_pos rfl];simp
theorem idx_at (p:Rw->Bool) (l:List Rw) (j:Nat) (hj:j<l.length) (h:∀ i,i<j->p (l.getD i z3)=false) (hp:p (l.getD j z3)=true):idx p l=j:=by
 induction l generalizing j with
 | nil=>exact absurd hj (Nat.not_lt_zero _)
 | cons r t ih =>
  rw[idx]
  cases j with
  | zero=>rw[if_pos (by simpa using hp)]
  | succ j =>
   have h0:=h 0 (by omega);rw[if_neg (by simpa using h0),ih j (by simpa using hj) (fun i hi=>by simpa using h (i+1) (by omega)) (by simpa using hp)]
theorem idx_no (p:Rw->Bool) (l:List Rw) (h:∀ i,i<l.length->p (l.getD i z3)=false):idx p l=l.length:=by
 induction l with
 | nil=>rfl
 | cons r t ih =>
  have h0:=h 0 (by simp);rw[idx,if_neg (by simpa using h0),ih (fun i hi=>by simpa using h (i+1) (by simpa using hi)),List.length_cons]
theorem take_idx (l:List Rw):l.take (idx mkr l)=ahd l:=by
 induction l with
 | nil=>rfl
 | cons r t ih =>
  unfold ahd at *;rw[idx,List.takeWhile_cons];cases h:mkr r
  ·rw[if_neg (by decide),List.take_succ_cons,ih];rfl
  ·rw[if_pos rfl];rfl
theorem drop_idx (l:List Rw):l.drop (idx mkr l)=lft l:=by
 induction l with
 | nil=>rfl
 | cons r t ih =>
  unfold lft at *;rw[idx,List.dropWhile_cons];cases h:mkr r
  ·rw[if_neg (by decide),List.drop_succ_cons,ih];rfl
  ·rw[if_pos rfl];rfl
theorem isMarker_any (c:Int) (x:Ln) (z:Int) (w:World):Calls Tryz.prog 47 #[rV c x z] w fun e w'=>e=.returned (.bool (mkr (c,x,z)))/\Below w.heap.size w w':=by
 have hE:((mk x).toList==[45,45,45])=(x==[45,45,45]):=by rw[ByteArray.toList_eq,mk_data]
 by_cases hc:c=0
 ·subst hc;have HV:Hid (mkr (0,x,z)=(x==[45,45,45])):=by unfold mkr;simp[Hid]
  cases hx:x==[45,45,45]
  all_goals
   rw[hx]at hE HV;go_enter Tryz.func47,Tryz.ntmps47;go_wp2;go_ret;exact⟨by rw[HV.out];rfl,below_alloc _ _⟩
 ·have hb:(c==0)=false:=by simpa using hc
  have HV:Hid (mkr (c,x,z)=false):=by unfold mkr;simp[Hid,hb]
  clear hc;go_enter Tryz.func47,Tryz.ntmps47;go_wp2;go_ret;exact⟨by rw[HV.out];rfl,below_alloc _ _⟩
theorem isFull_any (c:Int) (x:Ln) (z:Int) (w:World) (hx:x.length<=140737488351232):Calls Tryz.prog 31 #[rV c x z] w fun e w'=>e=.returned (.bool (ful (c,x,z)))/\Below w.heap.size w w':=by
 have hE:((mk x).toList==[])=(x==[]):=by rw[ByteArray.toList_eq,mk_data]
 have HP:Hid (∀ w0,Calls Tryz.prog 48 #[.string (mk x),.string ⟨#[35]⟩] w0 fun e w'=>e=.returned (.bool (hd x==35))/\w0=w'):=fun w0=>hasP_any x 35 w0 (by omega) (by decide)
 have HV:Hid (ful (c,x,z)=(!(x==[]) && !(hd x==35))):=by show ful _=_;unfold ful noth;simp
 cases hx0:x==[]
 ·rw[hx0]at hE HV;generalize (hd x==35)=q at *;go_enter Tryz.func31,Tryz.ntmps31;go_wp2_with (go_at_call 48;refine(HP.out _).mono ?_;rintro e w' ⟨rfl,rfl⟩);go_ret;exact⟨by rw[HV.out];rfl,below_alloc _ _⟩
 ·rw[hx0]at hE HV;go_enter Tryz.func31,Tryz.ntmps31;go_wp2;go_ret;exact⟨by rw[HV.out];rfl,below_alloc _ _⟩
def idxI (p:Rw->Bool) (l:List Rw):Int:=if l.any p=true then (idx p l:Int)else -1
theorem indexFunc_any (g:FuncId) (hcf:∀ (vs:Array Value) (w:World),(callFunc g vs).run Tryz.prog w=.ok (.enter g vs) w) (p:Rw->Bool) (a:Option Addr) (len cap:Nat) (rs:List Rw) (w:World) (h:Tre.RowsIn w a len cap rs)
  (HG:Hid (∀ r∈rs,∀ w0,Calls Tryz.prog g #[rV r.1 r.2.1 r.2.2] w0 fun e w'=>e=.returned (.bool (p r))/\Below w0.heap.size w0 w')) :
  Calls Tryz.prog 46 #[.slice a len cap,.func (.func g) #[] #[]] w fun e w'=>e=.returned (.int .i64 (idxI p rs))/\Below w.heap.size w w':=by
 have HR:Hid (Tre.RowsIn w a len cap rs):=h;have hcl:len<=cap:=h.2.1;have hcm:cap<=9223372036854775807:=h.2.2.1;clear h;go_enter Tryz.func46,Tryz.ntmps46;go_wp2
 go_loopw [8] (fun ui wr=>∃ j:Nat,j<=len/\ui=.int .i64 (j:Int)/\Hid (Below w.heap.size w wr/\∀ i,i<j->p (rs.getD i z3)=false)) (fun ui _=>len-(intOf ui).toNat)
 case atStart=>exact⟨0,Nat.zero_le _,rfl,Below.refl _ _,fun i hi=>absurd hi (Nat.not_lt_zero _)⟩
 case round =>
  obtain⟨j,hj,rfl,HL⟩:=hrel;by_cases hlt:j<len
  ·obtain⟨b,off,had,hb,hcell⟩:=HR.out.1.2 (by omega);obtain⟨x0,x1,x2⟩:=hcell j hlt;subst had;have hjr:j<rs.length:=by have:=HR.out.1.1;omega
   replace x0:=(HL.out.1.cell (p:=⟨b,off+j*3,none⟩) hb).trans x0;replace x1:=(HL.out.1.cell (p:=⟨b,off+j*3+1,none⟩) hb).trans x1;replace x2:=(HL.out.1.cell (p:=⟨b,off+j*3+2,none⟩) hb).trans x2;have HGJ:Hid (Calls Tryz.prog g #[rV (rs.getD j z3).1 (rs.getD j z3).2.1 (rs.getD j z3).2.2] wr fun e w'=>e=.returned (.bool (p (rs.getD j z3)))/\Below wr.heap.size wr w'):=HG.out _ (getD_memR hjr) wr
   have HYE:Hid (p (rs.getD j z3)=true->idxI p rs=(j:Int)):=fun hp=>by
    have h1:=idx_at p rs j hjr HL.out.2 hp;unfold idxI;rw[if_pos,h1];rw[<-idx_any,h1];exact decide_eq_true hjr
   have HNO:Hid (p (rs.getD j z3)=false->∀ i,i<j+1->p (rs.getD i z3)=false):=fun hn i hi=>by
    by_cases e:i=j
    ·rw[e];exact hn
    ·exact HL.out.2 i (by omega)
   have HBL:Hid (Below w.heap.size w wr):=HL.out.1;clear hcell HL hjr;generalize p (rs.getD j z3)=q at HGJ HYE HNO;generalize (rs.getD j z3).1=rc at *;generalize (rs.getD j z3).2.2=ra at *;generalize (rs.getD j z3).2.1=rt at *;cases q
   ·have HN2:Hid (∀ i,i<j+1->p (rs.getD i z3)=false):=HNO.out rfl;clear HNO HYE;go_wp2_with (first | (refine HGJ.out.mono ?_;rintro e w1 ⟨rfl,h1⟩));go_roundw
    case rel=>exact⟨j+1,by omega,by go_num,HBL.out.trans (h1.mono HBL.out.size),HN2.out⟩
    case measure=>simp[intOf];omega
   ·have HY2:Hid (idxI p rs=(j:Int)):=HYE.out rfl;clear HNO HYE;go_wp2_with (first | (refine HGJ.out.mono ?_;rintro e w1 ⟨rfl,h1⟩));go_ret;exact⟨by rw[HY2.out];rfl,HBL.out.trans (h1.mono HBL.out.size)⟩
  ·have HI:Hid (idxI p rs= -1):=by
    have hln:=HR.out.1.1;show _=_;unfold idxI;rw[if_neg];rw[<-idx_any,idx_no p rs (fun i hi=>HL.out.2 i (by omega))];simp
   have HBL:Hid (Below w.heap.size w wr):=HL.out.1;clear HL HR HG;go_wp2;go_ret;exact⟨by rw[HI.out];rfl,HBL.out⟩
theorem containsFunc_any (g:FuncId) (hcf:∀ (vs:Array Value) (w:World),(callFunc g vs).run Tryz.prog w=.ok (.enter g vs) w) (p:Rw->Bool) (a:Option Addr) (len cap:Nat) (rs:List Rw) (w:World) (h:Tre.RowsIn w a len cap rs)
  (HG:Hid (∀ r∈rs,∀ w0,Calls Tryz.prog g #[rV r.1 r.2.1 r.2.2] w0 fun e w'=>e=.returned (.bool (p r))/\Below w0.heap.size w0 w')) :
  Calls Tryz.prog 30 #[.slice a len cap,.func (.func g) #[] #[]] w fun e w'=>e=.returned (.bool (rs.any p))/\Below w.heap.size w w':=by
 have HI:Hid (Calls Tryz.prog 46 #[.slice a len cap,.func (.func g) #[] #[]] w fun e w'=>e=.returned (.int .i64 (idxI p rs))/\Below w.heap.size w w'):=indexFunc_any g hcf p a len cap rs w h HG;clear h HG;cases hq:rs.any p
 ·have e:idxI p rs= -1:=by unfold idxI;rw[hq];rfl
  rw[e]at HI;clear hq e;go_enter Tryz.func30,Tryz.ntmps30;go_wp2_with fail;refine HI.out.mono ?_;rintro e w1 ⟨rfl,h1⟩;go_wp2;go_ret;exact⟨rfl,h1⟩
 ·have e:idxI p rs=(idx p rs:Int):=by unfold idxI;rw[hq];rfl
  rw[e]at HI;have hn:(0:Int)<=(idx p rs:Int):=by omega
  generalize (idx p rs:Int)=k at HI hn;clear hq e;go_enter Tryz.func30,Tryz.ntmps30;go_wp2_with fail;refine HI.out.mono ?_;rintro e w1 ⟨rfl,h1⟩;go_wp2;go_ret;exact⟨rfl,h1⟩
theorem rowsIn_take {w:World} {a:Option Addr} {len cap:Nat} {rs:List Rw} (h:Tre.RowsIn w a len cap rs) (n:Nat) (hn:n<=len):Tre.RowsIn w a n cap (rs.take n):=by
 have h1:=h.1.1;refine⟨⟨by rw[List.length_take];omega,fun hp=> ?_⟩,by have:=h.2.1;omega,h.2.2.1,fun r hr=>h.2.2.2 r (List.mem_of_mem_take hr)⟩;obtain⟨b,off,had,hb,hc⟩:=h.1.2 (by omega);refine⟨b,off,had,hb,fun i hi=> ?_⟩;have e:(rs.take n).getD i z3=rs.getD i z3:=by rw[List.getD_eq_getElem?_getD,List.getD_eq_getElem?_getD,List.getElem?_take,if_pos hi]
 rw[e];exact hc i (by omega)
theorem rowsIn_drop {w:World} {a:Option Addr} {len cap:Nat} {rs:List Rw} (h:Tre.RowsIn w a len cap rs) (n:Nat) (hn:n<=len):Tre.RowsIn w (if cap=n then a else Option.map (fun x=>x.add (n*3)) a) (len-n) (cap-n) (rs.drop n):=by
 have h1:=h.1.1;refine⟨⟨by rw[List.length_drop];omega,fun hp=> ?_⟩,by have:=h.2.1;omega,by have:=h.2.2.1;omega,fun r hr=>h.2.2.2 r (List.mem_of_mem_drop hr)⟩;obtain⟨b,off,had,hb,hc⟩:=h.1.2 (by omega);have h2:=h.2.1;rw[if_neg (by omega),had];refine⟨b,off+n*3,by rw[Option.map_some,Blk.add_plain],hb,fun i hi=> ?_⟩;have e:(rs.drop n).getD i z3=rs.getD (n+i) z3:=by rw[List.getD_eq_getElem?_getD,List.getD_eq_getElem?_getD,List.getElem?_drop]
 rw[e,show off+n*3+i*3=off+(n+i)*3 by omega];exact hc (n+i) (by omega)
def RowsB (w:World) (b:Nat) (a:Option Addr) (len cap:Nat) (rs:List Rw):Prop:=Tre.RowsIn w a len cap rs/\(0<len->∃ off,a=some ⟨b,off,none⟩)
theorem RowsB.take {w:World} {b:Nat} {a:Option Addr} {len cap:Nat} {rs:List Rw} (h:RowsB w b a len cap rs) (n:Nat) (hn:n<=len):RowsB w b a n cap (rs.take n):=⟨rowsIn_take h.1 n hn,fun hp=>h.2 (by omega)⟩
theorem RowsB.drop {w:World} {b:Nat} {a:Option Addr} {len cap:Nat} {rs:List Rw} (h:RowsB w b a len cap rs) (n:Nat) (hn:n<=len):RowsB w b (if cap=n then a else Option.map (fun x=>x.add (n*3)) a) (len-n) (cap-n) (rs.drop n):=by
 refine⟨rowsIn_drop h.1 n hn,fun hp=> ?_⟩;obtain⟨off,rfl⟩:=h.2 (by omega);have:=h.1.2.1;rw[if_neg (by omega)];exact⟨off+n*3,by rw[Option.map_some,Blk.add_plain]⟩
theorem RowsB.kept {w w':World} {b:Nat} {a:Option Addr} {len cap:Nat} {rs:List Rw} (h:RowsB w b a len cap rs) (hk:w'.heap[b]?=w.heap[b]?) (hs:w.heap.size<=w'.heap.size):RowsB w' b a len cap rs:=by
 refine⟨⟨⟨h.1.1.1,fun hp=> ?_⟩,h.1.2⟩,h.2⟩;obtain⟨b',off,had,hb,hc⟩:=h.1.1.2 hp;obtain⟨off2,e⟩:=h.2 hp;rw[had]at e;simp only[Option.some.injEq,Addr.mk.injEq]at e;obtain⟨rfl,rfl,_⟩:=e;have q:∀ n,w'.cell? ⟨b',n,none⟩=w.cell? ⟨b',n,none⟩:=fun n=>World.cell?_of_block (w:=w) hk
 exact⟨b',off,had,by omega,fun i hi=>⟨(q _).trans (hc i hi).1,(q _).trans (hc i hi).2.1,(q _).trans (hc i hi).2.2⟩⟩
theorem RowsB.nil (w:World) (b:Nat):RowsB w b none 0 0 []:=⟨Tre.RowsIn.nil w,fun h=>absurd h (by decide)⟩
def CutRes (w0:World) (b:Nat) (rs:List Rw) (w:World) (e:Ending) (w':World):Prop:=∃ a1 n1 c1 a2 n2 c2,e=.returned (.tuple #[.slice a1 n1 c1,.slice a2 n2 c2])/\(RowsB w0 b a1 n1 c1 (ahd rs)/\RowsB w0 b a2 n2 c2 (lft rs))/\Below w.heap.size w w'
theorem cutAtMarker_any (w0:World) (b:Nat) (a:Option Addr) (len cap:Nat) (rs:List Rw) (w:World) (hB0:RowsB w0 b a len cap rs) (hB:RowsB w b a len cap rs):Calls Tryz.prog 29 #[.slice a len cap] w fun e w'=>CutRes w0 b rs w e w':=by
 have h:=hB.1;have HI:Hid (Calls Tryz.prog 46 #[.slice a len cap,.func (.func 47) #[] #[]] w fun e w'=>e=.returned (.int .i64 (idxI mkr rs))/\Below w.heap.size w w'):=indexFunc_any 47 (enters_of Tryz.func47 (by kernel_rfl) rfl) mkr a len cap rs w h (fun r _ w0=>isMarker_any r.1 r.2.1 r.2.2 w0);have HR:Hid (RowsB w0 b a len cap rs):=hB0;have hcl:len<=cap:=h.2.1;have hcm:cap<=9223372036854775807:=h.2.2.1;have hln:rs.length=len:=h.1.1.symm;clear h hB hB0;cases hq:rs.any mkr
 ·have e:idxI mkr rs= -1:=by unfold idxI;rw[hq];rfl
  have HN:Hid (ahd rs=rs/\lft rs=[]):=by
   have h1:=idx_any mkr rs;have h2:=idx_le mkr rs;rw[hq,decide_eq_false_iff_not]at h1;refine⟨?_,?_⟩
   ·rw[<-take_idx,List.take_of_length_le (by omega)]
   ·rw[<-drop_idx,List.drop_of_length_le (by omega)]
  rw[e]at HI;clear hq e hln;go_enter Tryz.func29,Tryz.ntmps29;go_wp2_with fail;refine HI.out.mono ?_;rintro e w1 ⟨rfl,h1⟩;go_wp2;refine bodyPost_ret (v:=.tuple #[.slice a len cap,.slice none 0 0]) (by simp[results,Tryz.results29,go_sem]) rfl ?_;exact⟨_,_,_,_,_,_,rfl,⟨by rw[HN.out.1];exact HR.out,by rw[HN.out.2];exact RowsB.nil _ _⟩,h1⟩
 ·have e:idxI mkr rs=(idx mkr rs:Int):=by unfold idxI;rw[hq];rfl
  have hk:idx mkr rs<=len:=by have:=idx_le mkr rs;omega
  have HT:=HR.out.take (idx mkr rs) hk;have HD:=HR.out.drop (idx mkr rs) hk;rw[take_idx]at HT;rw[drop_idx]at HD;rw[e]at HI;have HT2:Hid (RowsB w0 b a (idx mkr rs) cap (ahd rs)):=HT;obtain⟨SA,hSA⟩:∃ SA:Option Addr,(if cap=idx mkr rs then a else Option.map (fun x=>x.add (idx mkr rs*3)) a)=SA:=⟨_,rfl⟩;rw[hSA]at HD;have HD2:Hid (RowsB w0 b SA (len-idx mkr rs) (cap-idx mkr rs) (lft rs)):=HD;clear hq e hln HT HD;generalize idx mkr rs=k at *;have hkc:k<=cap:=by omega
  go_enter Tryz.func29,Tryz.ntmps29;go_wp2_with fail;refine HI.out.mono ?_;rintro e w1 ⟨rfl,h1⟩;have HB1:Hid (Below w.heap.size w w1):=h1;clear h1;go_wp2_with fail;go_quiet (fail);go_wp2;refine bodyPost_ret (v:=.tuple #[.slice a k cap,.slice SA (len-k) (cap-k)]) (by simp[results,Tryz.results29,go_sem]) rfl ?_;exact⟨_,_,_,_,_,_,rfl,⟨HT2.out,HD2.out⟩,⟨HB1.out.os,HB1.out.tape,HB1.out.output,HB1.out.size,HB1.out.block⟩⟩
end Lod
end Go.Proofs.YtalijhclfppohaaGreatDoor
