/- . -/
import Derived.Test.YtidhpmcmbooaoaaGreatDoorR11FlowProp
import Derived.Test.YtidhpmcmbooaoaaGreatDoorR12UtfChk
import Derived.Deep.LoopGhost
import Derived.Test.YtidhpmcmbooaoaaGreatDoorR09PlainLeaf
import Derived.BigQuiet
import Derived.Laws.EntriesVeiled
import Derived.Deep.QuietTactic
import Derived.Test.YtidhpmcmbooaoaaGreatDoorR01RowsPlain
import Derived.Lib.SmallJoins
import Derived.Lib.AtoiAllCases
set_option linter.unusedSimpArgs false
set_option linter.unusedVariables false
set_option maxRecDepth 100000
namespace Go.Proofs.YtidhpmcmbooaoaaGreatDoor
namespace Pln
open Utf Rws
open Go.RowKit
def setIter (w:World) (b:Nat) (s:ByteArray) (p:Nat):World:= { w with heap:=w.heap.setIfInBounds b (.stringIter s p) }
theorem setIter_size (w:World) (b:Nat) (s:ByteArray) (p:Nat):(setIter w b s p).heap.size=w.heap.size:=by simp[setIter]
theorem setIter_at (w:World) (b:Nat) (s:ByteArray) (p:Nat) (h:b<w.heap.size):(setIter w b s p).heap[b]?=some (.stringIter s p):=by simp[setIter,h]
theorem setIter_below {w0 w:World} {b:Nat} (hb:Below b w0 w) (s:ByteArray) (p:Nat):Below b w0 (setIter w b s p) :=
 ⟨hb.os,hb.tape,hb.output,by rw[setIter_size];exact hb.size,fun k hk=>by
  rw[<-hb.block k hk];simp only[setIter];rw[Array.getElem?_setIfInBounds,if_neg (by omega)]⟩
theorem run_next_on (w:World) (b:Nat) (s:ByteArray) (pos:Nat) (ty:TypeId) (hb:w.heap[b]?=some (.stringIter s pos)) (h:pos<s.size) :
  (Instr.next (.pointer (some ⟨b,0,none⟩)) true ty).run Tryz.prog w=.ok (.tuple #[.bool true,.int .i64 pos,.int .i32 (Utf8.decode s pos).1]) (setIter w b s (pos+(Utf8.decode s pos).2)):=by
 simp only[Instr.next,getObj,setObj,Sem.run_bind,Sem.run,hb,Result.andThen,h,if_true];simp[goInt,setIter]
theorem run_next_stop (w:World) (b:Nat) (s:ByteArray) (pos:Nat) (ty:TypeId) (hb:w.heap[b]?=some (.stringIter s pos)) (h: ¬ pos<s.size) :
  (Instr.next (.pointer (some ⟨b,0,none⟩)) true ty).run Tryz.prog w=.ok (.tuple #[.bool false]) w:=by
 simp[Instr.next,getObj,Sem.run,hb,h]
theorem get_mk (l:List UInt8) (i:Nat) (h:i<l.length):((mk l).get! i)=l.getD i 0:=by
 rw[<-mk_getD l i (by rw[mk_size];exact h)];simp[ByteArray.get!,getElem!_pos,mk_size,h];rfl
theorem cont_hi {x:Nat} (h:x / 64=2):128<=x:=by omega
def cnt (s:ByteArray) (i k:Nat):Bool:=decide (i+k<s.size) && (s.get! (i+k)).toNat / 64==2
def okD (c1 c2 c3:Bool) (d:Nat × Nat):Prop:=128<=d.1/\d.1<=1114111/\Lib.validRune (d.1:Int)=true/\(d.2=1\/(d.2=2/\c1=true)\/(d.2=3/\c1=true/\c2=true)\/(d.2=4/\c1=true/\c2=true/\c3=true))
theorem okD_err (c1 c2 c3:Bool):okD c1 c2 c3 (Utf8.runeError,1):=⟨by decide,by decide,by decide,.inl rfl⟩
theorem val_ok {c:Nat} (hc:Utf8.valid (c:Int)=true):c<=1114111/\Lib.validRune (c:Int)=true:=by
 unfold Utf8.valid at hc;unfold Lib.validRune;simp at hc |-;omega
set_option maxHeartbeats 4000000 in
theorem decode_ok (s:ByteArray) (i:Nat) (h:128<=(s.get! (i+0)).toNat):okD (cnt s i 1) (cnt s i 2) (cnt s i 3) (Utf8.decode s i):=by
 unfold Utf8.decode cnt;dsimp only;split
 ·rename_i hlt;exact absurd hlt (by omega)
 split
 ·rename_i q1;rw[Bool.and_eq_true]at q1;split
  ·rename_i r1;refine⟨r1,by simp only;omega,?_,.inr (.inl ⟨rfl,q1.2⟩)⟩;unfold Lib.validRune;simp only[decide_eq_true_eq];omega
  ·exact okD_err _ _ _
 ·split
  ·rename_i q2;rw[Bool.and_eq_true,Bool.and_eq_true]at q2;split
   ·rename_i r2;rw[Bool.and_eq_true,decide_eq_true_eq]at r2;obtain⟨v1,v2⟩:=val_ok r2.2;exact⟨by simp only;omega,v1,v2,.inr (.inr (.inl ⟨rfl,q2.1.2,q2.2⟩))⟩
   ·exact okD_err _ _ _
  ·split
   ·rename_i q3;rw[Bool.and_eq_true,Bool.and_eq_true,Bool.and_eq_true]at q3;split
    ·rename_i r3;rw[Bool.and_eq_true,decide_eq_true_eq]at r3;obtain⟨v1,v2⟩:=val_ok r3.2;exact⟨by simp only;omega,v1,v2,.inr (.inr (.inr ⟨rfl,q3.1.1.2,q3.1.2,q3.2⟩))⟩
    ·exact okD_err _ _ _
   ·exact okD_err _ _ _
theorem cnt_hi (l:List UInt8) (p k:Nat) (h:cnt (mk l) p k=true):p+k<l.length/\128<=(l.getD (p+k) 0).toNat:=by
 unfold cnt at h;rw[Bool.and_eq_true,decide_eq_true_eq,beq_iff_eq,mk_size]at h;refine⟨h.1,?_⟩;rw[<-get_mk l (p+k) h.1];exact cont_hi h.2
theorem decode_wide (l:List UInt8) (p:Nat) (h:p<l.length) (hb:128<=(l.getD p 0).toNat) :
  128<=(Utf8.decode (mk l) p).1/\(Utf8.decode (mk l) p).1<=1114111/\Lib.validRune ((Utf8.decode (mk l) p).1:Int)=true/\1<=(Utf8.decode (mk l) p).2/\p+(Utf8.decode (mk l) p).2<=l.length /\
  ∀ j,p<=j->j<p+(Utf8.decode (mk l) p).2->128<=(l.getD j 0).toNat:=by
 have h0:128<=((mk l).get! (p+0)).toNat:=by rw[Nat.add_zero,get_mk l p h];exact hb
 have hd:=decode_ok (mk l) p h0;obtain⟨d1,d2,d3,d4⟩:=hd;refine⟨d1,d2,d3,?_⟩;generalize (Utf8.decode (mk l) p).2=k at d4;rcases d4 with rfl | ⟨rfl,e1⟩ | ⟨rfl,e1,e2⟩ | ⟨rfl,e1,e2,e3⟩
 ·refine⟨by omega,by omega,fun j h1 h2=> ?_⟩;have:j=p:=by omega
  rw[this];exact hb
 ·have f1:=cnt_hi l p 1 e1;refine⟨by omega,by omega,fun j h1 h2=> ?_⟩;have:j=p\/j=p+1:=by omega
  rcases this with rfl | rfl
  ·exact hb
  ·exact f1.2
 ·have f1:=cnt_hi l p 1 e1;have f2:=cnt_hi l p 2 e2;refine⟨by omega,by omega,fun j h1 h2=> ?_⟩;have:j=p\/j=p+1\/j=p+2:=by omega
  rcases this with rfl | rfl | rfl
  ·exact hb
  ·exact f1.2
  ·exact f2.2
 ·have f1:=cnt_hi l p 1 e1;have f2:=cnt_hi l p 2 e2;have f3:=cnt_hi l p 3 e3;refine⟨by omega,by omega,fun j h1 h2=> ?_⟩;have:j=p\/j=p+1\/j=p+2\/j=p+3:=by omega
  rcases this with rfl | rfl | rfl | rfl
  ·exact hb
  ·exact f1.2
  ·exact f2.2
  ·exact f3.2
theorem decode_low (l:List UInt8) (p:Nat) (h:p<l.length) (hb:(l.getD p 0).toNat<128):Utf8.decode (mk l) p=((l.getD p 0).toNat,1):=by
 have hp:p<(mk l).size:=by rw[mk_size];exact h
 have:=decode_ascii (mk l) p hp (by rw[mk_getD];exact hb);rw[mk_getD]at this;exact this
theorem c3_hi {b:UInt8} (h:128<=b.toNat):c3 b=false:=by
 unfold c3;simp only[Bool.or_eq_false_iff,beq_eq_false_iff_ne];refine⟨⟨?_,?_⟩,?_⟩<;>rintro rfl<;>revert h<;>decide
theorem any_next (l:List UInt8) (p:Nat) (h:p<l.length) (h0:(l.take p).any c3=false) (hc:c3 (l.getD p 0)=false) :
  1<=(Utf8.decode (mk l) p).2/\p+(Utf8.decode (mk l) p).2<=l.length/\(l.take (p+(Utf8.decode (mk l) p).2)).any c3=false:=by
 by_cases hb:(l.getD p 0).toNat<128
 ·rw[decode_low l p h hb];refine⟨Nat.le_refl 1,by simp only;omega,?_⟩;simp only;rw[any_take_snoc l p h,h0,hc];rfl
 ·obtain⟨_,_,_,d1,d2,d3⟩:=decode_wide l p h (by omega);refine⟨d1,d2,?_⟩;generalize (Utf8.decode (mk l) p).2=k at d1 d2 d3
  have:∀ m,m<=k->(l.take (p+m)).any c3=false:=by
   intro m
   induction m with
   | zero=>intro _;exact h0
   | succ m ih =>
    intro hm;rw[<-Nat.add_assoc,any_take_snoc l (p+m) (by omega),ih (by omega),c3_hi (d3 (p+m) (by omega) (by omega))];rfl
  exact this k (Nat.le_refl _)
def QRes (b:UInt8) (e:Ending):Prop:=∃ q:Int,e=.returned (.int .i64 q)/\decide (0<=q)=c3 b
theorem rune_any (l:List UInt8) (p:Nat) (w:World) (h:p<l.length):Calls Tryz.prog 141 #[.string ⟨#[9,10,13]⟩,.int .i32 ((Utf8.decode (mk l) p).1:Int)] w fun e w'=>QRes (l.getD p 0) e/\Below w.heap.size w w':=by
 by_cases hb:(l.getD p 0).toNat<128
 ·rw[decode_low l p h hb];refine(rune_ascii (l.getD p 0) w hb).mono ?_;rintro e w' ⟨⟨q,h1,h2⟩,rfl⟩;exact⟨⟨q,h1,h2⟩,Below.refl _ _⟩
 ·obtain⟨d1,d2,d3,_⟩:=decode_wide l p h (by omega);have hc:=c3_hi (b:=l.getD p 0) (by omega);by_cases he:(Utf8.decode (mk l) p).1=65533
  ·rw[he];refine(rune_error w).mono ?_;rintro e w' ⟨h1,h2⟩;exact⟨⟨-1,h1,by rw[hc];rfl⟩,h2⟩
  ·refine(rune_high ((Utf8.decode (mk l) p).1:Int) w (by omega) (by omega) d3 (by omega)).mono ?_;rintro e w' ⟨h1,h2⟩;exact⟨⟨-1,h1,by rw[hc];rfl⟩,h2⟩
theorem indexAny_short (l:List UInt8) (w:World) (hs:l.length<=140737488351232) (h8: ¬ 8<l.length):Calls Tryz.prog 110 #[.string (mk l),.string ⟨#[9,10,13]⟩] w fun e w'=>IxRes l e/\Below w.heap.size w w':=by
 have hsz:=mk_size l;have h8z:decide ((8:Int)<(l.length:Int))=false:=decide_eq_false (by omega);go_enter Tryz.func110,Tryz.ntmps110;go_wp2_with (first | (go_at_call 142;refine(shouldUse_any _ _).mono ?_;rintro e w' ⟨rfl,rfl⟩;rw[h8z]))
 go_loopg [9,10] l.length (fun g _ _ wr=>∃ p:Nat,p+g=l.length/\Below w.heap.size w wr/\wr.heap[w.heap.size]?=some (.stringIter (mk l) p)/\(l.take p).any c3=false)
 case atStart=>exact⟨0,by omega,(Below.refl _ _).alloc (Nat.le_refl _) _,World.iter_heap _ _ _,rfl⟩
 case round =>
  obtain⟨p,hpg,hbe,hit,ht⟩:=hrel;have HT:Hid ((l.take p).any c3=false):=ht;clear ht
  cases gk with
  | zero =>
   have hnx:=fun ty=>run_next_stop wr w.heap.size (mk l) p ty hit (by omega)
   have HN:Hid (anyB l=false):=by
    have:=HT.out;rw[List.take_of_length_le (by omega)]at this;exact this
   clear hit;go_wp2;go_ret;exact⟨⟨-1,rfl,by rw[HN.out];rfl⟩,hbe⟩
  | succ g =>
   have hlt:p<l.length:=by omega
   have hnx:=fun ty=>run_next_on wr w.heap.size (mk l) p ty hit (by omega)
   have hbs:w.heap.size<wr.heap.size:=by
    rcases Nat.lt_or_ge w.heap.size wr.heap.size with h | h
    ·exact h
    ·rw[Array.getElem?_eq_none (by omega)]at hit;cases hit
   have hb2:=setIter_below hbe (mk l) (p+(Utf8.decode (mk l) p).2);have hit2:=setIter_at wr w.heap.size (mk l) (p+(Utf8.decode (mk l) p).2) hbs;have hz2:=setIter_size wr w.heap.size (mk l) (p+(Utf8.decode (mk l) p).2);have HR:=rune_any l p (setIter wr w.heap.size (mk l) (p+(Utf8.decode (mk l) p).2)) hlt;have HHit:=any_hit l p hlt;have HNx:=any_next l p hlt HT.out;generalize (Utf8.decode (mk l) p).1=r at hnx HR;generalize (Utf8.decode (mk l) p).2=k at hnx HR hb2 hit2 hz2 HNx;generalize l.getD p 0=b at HR HHit HNx;obtain⟨W,HW⟩:∃ W,Hid (setIter wr w.heap.size (mk l) (p+k)=W):=⟨_,rfl⟩;rw[HW.out]at hnx HR hb2 hit2 hz2;have HRR:Hid (Calls Tryz.prog 141 #[.string ⟨#[9,10,13]⟩,.int .i32 (r:Int)] W fun e w'=>QRes b e/\Below W.heap.size W w'):=HR;have HIT:Hid (W.heap[w.heap.size]?=some (.stringIter (mk l) (p+k))):=hit2;have HZ:Hid (W.heap.size=wr.heap.size):=hz2;have HHI:Hid (c3 b=true->anyB l=true):=HHit;have HNN:Hid (c3 b=false->1<=k/\p+k<=l.length/\(l.take (p+k)).any c3=false):=HNx;clear HR hit2 hz2 HHit HNx hit HW;cases hb:c3 b
   ·go_wp2_with (first | (go_at_call 141;refine HRR.out.mono ?_;rintro e w2 ⟨⟨q,rfl,hq⟩,hb3⟩;rw[hb]at hq));obtain⟨n1,n2,n3⟩:=HNN.out hb
    go_roundg (l.length-(p+k))
    case measure=>omega
    case rel=>exact⟨p+k,by omega,hb2.trans (hb3.mono (by rw[HZ.out];omega)),(hb3.block _ (by rw[HZ.out];exact hbs)).trans HIT.out,n3⟩
   ·go_wp2_with (first | (go_at_call 141;refine HRR.out.mono ?_;rintro e w2 ⟨⟨q,rfl,hq⟩,hb3⟩;rw[hb]at hq));go_ret;exact⟨⟨(p:Int),rfl,by rw[HHI.out hb];simp⟩,hb2.trans (hb3.mono (by rw[HZ.out];omega))⟩
theorem containsAny_any (l:List UInt8) (w:World) (hs:l.length<=140737488351232):Calls Tryz.prog 84 #[.string (mk l),.string ⟨#[9,10,13]⟩] w fun e w'=>e=.returned (.bool (anyB l))/\Below w.heap.size w w':=by
 have HI:Hid (Calls Tryz.prog 110 #[.string (mk l),.string ⟨#[9,10,13]⟩] w fun e w'=>IxRes l e/\Below w.heap.size w w'):=by
  by_cases h8:8<l.length
  ·exact indexAny_long l w hs h8
  ·exact indexAny_short l w hs h8
 go_enter Tryz.func84,Tryz.ntmps84;go_wp2_with (first | (go_at_call 110;refine HI.out.mono ?_;rintro e w' ⟨⟨q,rfl,hq⟩,hb⟩));go_ret;exact⟨rfl,hb⟩
end Pln
namespace Pln
open Utf Rws
open Go.RowKit
theorem inFlow_any (w:World) (bf bs:Nat) (f:Bool) (l:List UInt8) (i:Nat) (hs:l.length<=562949953421312) (hi:i<l.length)
  (hf:w.cell? ⟨bf,0,none⟩=some (.bool f)) (hl:w.cell? ⟨bs,0,none⟩=some (.string (mk l))) :
  Calls Tryz.prog 112 #[.int .i64 i,.pointer (some ⟨bf,0,none⟩),.pointer (some ⟨bs,0,none⟩)] w fun e w'=>e=.returned (.bool (f && fl (l.getD i 0)))/\w=w':=by
 have hsz:=mk_size l;have hg:∀ h,(mk l)[i]'h=l.getD i 0:=fun h=>mk_getD l i h
 have hlt:i<(mk l).size:=by rw[mk_size];exact hi
 have HF:Hid (fl (l.getD i 0)=has (l.getD i 0) (⟨#[44,91,93,123,125]⟩:ByteArray).data.toList):=rfl;cases f
 ·go_enter Tryz.func112,Tryz.ntmps112;go_wp2;go_ret;exact⟨rfl,rfl⟩
 ·generalize l.getD i 0=b at hg HF |-;go_enter Tryz.func112,Tryz.ntmps112;go_wp2_with (first | (go_at_call 85;refine(isOneOf_any _ _ _).mono ?_;rintro e w' ⟨rfl,rfl⟩));go_ret;rw[HF.out];exact⟨rfl,rfl⟩
theorem b58 (b:UInt8):((b.toNat:Int)==58)=(b==58):=by
 rw[Bool.eq_iff_iff];simp only[beq_iff_eq];constructor
 ·intro h;apply UInt8.toNat_inj.1;have:b.toNat=58:=by omega
  rw[this];rfl
 ·rintro rfl;rfl
theorem b35 (b:UInt8):((b.toNat:Int)==35)=(b==35):=by
 rw[Bool.eq_iff_iff];simp only[beq_iff_eq];constructor
 ·intro h;apply UInt8.toNat_inj.1;have:b.toNat=35:=by omega
  rw[this];rfl
 ·rintro rfl;rfl
theorem ends_any (w:World) (bf bs bn:Nat) (f:Bool) (l:List UInt8) (i:Nat) (hs:l.length<=562949953421312) (hi:i<l.length)
  (hf:w.cell? ⟨bf,0,none⟩=some (.bool f)) (hl:w.cell? ⟨bs,0,none⟩=some (.string (mk l))) (hn:w.cell? ⟨bn,0,none⟩=some (.func (.func 112) #[] #[.pointer (some ⟨bf,0,none⟩),.pointer (some ⟨bs,0,none⟩)])) :
  Calls Tryz.prog 113 #[.int .i64 i,.pointer (some ⟨bs,0,none⟩),.pointer (some ⟨bn,0,none⟩)] w fun e w'=>e=.returned (.bool (en l f i))/\w=w':=by
 have hsz:=mk_size l;have hg:∀ h,(mk l)[i]'h=l.getD i 0:=fun h=>mk_getD l i h
 have hlt:i<(mk l).size:=by rw[mk_size];exact hi
 have hb58:=b58 (l.getD i 0);have hb35:=b35 (l.getD i 0);cases c1:(l.getD i 0==58)
 ·rw[c1]at hb58;cases c2:(l.getD i 0==35)
  ·rw[c2]at hb35;have HE:Hid (en l f i=(f && fl (l.getD i 0))):=by unfold en;rw[c1,c2];rfl
   clear c1 c2;obtain⟨V,HV⟩:∃ V,Hid ((f && fl (l.getD i 0))=V):=⟨_,rfl⟩;have hI:=inFlow_any w bf bs f l i hs hi hf hl;rw[HV.out]at hI;have HI:Hid (Calls Tryz.prog 112 #[.int .i64 i,.pointer (some ⟨bf,0,none⟩),.pointer (some ⟨bs,0,none⟩)] w fun e w'=>e=.returned (.bool V)/\w=w'):=hI;clear hI;generalize l.getD i 0=b at hg hb58 hb35 HE HV;go_enter Tryz.func113,Tryz.ntmps113;go_wp2_with (first | (go_at_call 112;refine HI.out.mono ?_;rintro e w' ⟨rfl,rfl⟩));go_ret;rw[HE.out,HV.out];exact⟨rfl,rfl⟩
  ·rw[c2]at hb35;have HE:Hid (en l f i=(decide (0<i) && l.getD (i-1) 0==32)):=by unfold en;rw[c1,c2];rfl
   clear c1 c2;generalize l.getD i 0=b at hg hb58 hb35;by_cases h0:0<i
   ·obtain⟨m,rfl⟩:∃ m,i=m+1:=⟨i-1,by omega⟩;have hlm:m<(mk l).size:=by omega
    have hg2:∀ h,(mk l)[m]'h=l.getD m 0:=fun h=>mk_getD l m h
    have hb2:=b32 (l.getD m 0);have HE2:Hid (en l f (m+1)=is32 (l.getD m 0)):=by rw[HE.out];simp;rfl
    generalize l.getD m 0=b2 at hg2 hb2 HE2;generalize is32 b2=V at hb2 HE2;go_enter Tryz.func113,Tryz.ntmps113;go_wp2;go_ret;rw[HE2.out];exact⟨rfl,rfl⟩
   ·obtain rfl:i=0:=by omega
    have HE2:Hid (en l f 0=false):=by rw[HE.out];rfl
    go_enter Tryz.func113,Tryz.ntmps113;go_wp2;go_ret;rw[HE2.out];exact⟨rfl,rfl⟩
 ·rw[c1]at hb58;have HE:Hid (en l f i=(i+1==l.length || l.getD (i+1) 0==32 || (f && fl (l.getD (i+1) 0)))):=by unfold en;rw[c1];rfl
  clear c1 hb35;generalize l.getD i 0=b at hg hb58;by_cases h1:i+1=l.length
  ·have HE2:Hid (en l f i=true):=by rw[HE.out];simp[h1,Hid]
   have hq:((i:Int)+1==(l.length:Int))=true:=by rw[beq_iff_eq];omega
   clear h1;go_enter Tryz.func113,Tryz.ntmps113;go_wp2;go_ret;rw[HE2.out];exact⟨rfl,rfl⟩
  ·have hq:((i:Int)+1==(l.length:Int))=false:=by rw[beq_eq_false_iff_ne];omega
   have h2:i+1<l.length:=by omega
   have hlm:i+1<(mk l).size:=by omega
   have hg2:∀ h,(mk l)[i+1]'h=l.getD (i+1) 0:=fun h=>mk_getD l (i+1) h
   have hb2:=b32 (l.getD (i+1) 0);have hI:=inFlow_any w bf bs f l (i+1) hs h2 hf hl
   have HE2:Hid (en l f i=(is32 (l.getD (i+1) 0) || (f && fl (l.getD (i+1) 0)))):=by
    rw[HE.out];have e:(i+1==l.length)=false:=by simp;omega
    rw[e];rfl
   obtain⟨V,HV⟩:∃ V,Hid ((f && fl (l.getD (i+1) 0))=V):=⟨_,rfl⟩;rw[HV.out]at hI HE2
   have HI:Hid (Calls Tryz.prog 112 #[.int .i64 ((i:Int)+1),.pointer (some ⟨bf,0,none⟩),.pointer (some ⟨bs,0,none⟩)] w fun e w'=>e=.returned (.bool V)/\w=w'):=by
    have e:((i+1:Nat):Int)=(i:Int)+1:=by omega
    rw[e]at hI;exact hI
   clear hI HE HV h1;generalize l.getD (i+1) 0=b2 at hg2 hb2 HE2;cases hV2:is32 b2
   ·rw[hV2]at hb2 HE2;go_enter Tryz.func113,Tryz.ntmps113;go_wp2_with (first | (go_at_call 112;refine HI.out.mono ?_;rintro e w' ⟨rfl,rfl⟩));go_ret;rw[HE2.out];exact⟨rfl,rfl⟩
   ·rw[hV2]at hb2 HE2;go_enter Tryz.func113,Tryz.ntmps113;go_wp2;go_ret;rw[HE2.out];exact⟨rfl,rfl⟩
theorem ender_any (l:List UInt8) (f:Bool) (w:World) :
  Calls Tryz.prog 86 #[.string (mk l),.bool f] w fun e w'=>e=.returned (.func (.func 113) #[] #[.pointer (some ⟨w.heap.size,0,none⟩),.pointer (some ⟨w.heap.size+2,0,none⟩)])/\Below w.heap.size w w' /\
   w'.cell? ⟨w.heap.size+1,0,none⟩=some (.bool f)/\w'.cell? ⟨w.heap.size,0,none⟩=some (.string (mk l))/\w'.cell? ⟨w.heap.size+2,0,none⟩=some (.func (.func 112) #[] #[.pointer (some ⟨w.heap.size+1,0,none⟩),.pointer (some ⟨w.heap.size,0,none⟩)]):=by
 go_enter Tryz.func86,Tryz.ntmps86;go_wp2;go_ret;refine⟨rfl,?_,?_,?_,?_⟩
 ·exact(((Below.refl _ _).alloc (Nat.le_refl _) _).alloc (by simp) _).alloc (by simp;omega) _
 ·simp[go_sem]
 ·simp[go_sem]
 ·simp[go_sem]
theorem end_any (l:List UInt8) (f:Bool) (w:World) (hs:l.length<=562949953421312) :
  Calls Tryz.prog 64 #[.string (mk l),.bool f] w fun e w'=>e=.returned (.int .i64 (fin l f))/\Below w.heap.size w w':=by
 have hsz:=mk_size l;go_enter Tryz.func64,Tryz.ntmps64;go_wp2_with (first | (go_at_call 86;refine(ender_any _ _ _).mono ?_;rintro e W ⟨rfl,hb,hf,hl,hn⟩))
 go_loop [12] (fun i=>∃ n:Nat,n<=l.length/\i=.int .i64 n/\fin l f=fro l f (l.length-n) n) (fun i=>l.length-(intOf i).toNat)
 case atStart=>exact⟨0,Nat.zero_le _,rfl,rfl⟩
 case round =>
  obtain⟨n,hn1,rfl,ht⟩:=hrel;have HT:Hid (fin l f=fro l f (l.length-n) n):=ht;clear ht;by_cases hlt:n<l.length
  ·obtain⟨k,hk⟩:∃ k,l.length-n=k+1:=⟨l.length-n-1,by omega⟩;have hkn:k=l.length-(n+1):=by omega
   cases he:en l f n
   ·have HN:Hid (fin l f=fro l f (l.length-(n+1)) (n+1)):=by rw[HT.out,hk,fro,if_neg (by rw[he];simp),hkn];rfl
    clear hk hkn;go_wp2_with (first | (go_at_call 113;refine(ends_any _ _ _ _ _ _ _ hs hlt hf hl hn).mono ?_;rintro e w' ⟨rfl,rfl⟩));go_round
    case rel=>exact⟨n+1,by omega,by go_num,HN.out⟩
    case measure=>simp[intOf];omega
   ·have HN:Hid (fin l f=n):=by rw[HT.out,hk,fro,if_pos he];rfl
    clear hk hkn;go_wp2_with (first | (go_at_call 113;refine(ends_any _ _ _ _ _ _ _ hs hlt hf hl hn).mono ?_;rintro e w' ⟨rfl,rfl⟩));go_ret;rw[HN.out];exact⟨rfl,hb⟩
  ·have HN:Hid (fin l f=l.length):=by rw[HT.out,show l.length-n=0 by omega,fro];show n=l.length;omega
   go_wp2;go_ret;rw[HN.out];exact⟨rfl,hb⟩
theorem cut_any (l:List UInt8) (f:Bool) (w:World) (hs:l.length<=562949953421312) :
  Calls Tryz.prog 101 #[.string (mk l),.bool f] w fun e w'=>e=.returned (.tuple #[.string (mk (cutT l f)),.int .i64 (fin l f)])/\Below w.heap.size w w':=by
 have hsz:=mk_size l;have hle:=fin_le l f;have hex:(mk l).extract 0 (fin l f)=mk (l.take (fin l f)):=by rw[mk_ext];simp
 have hlt:(l.take (fin l f)).length<=562949953421312:=by rw[List.length_take];omega
 go_enter Tryz.func101,Tryz.ntmps101;go_wp2_with (first | (go_at_call 64;refine(end_any _ _ _ hs).mono ?_;rintro e W ⟨rfl,hb⟩) | (go_at_call 131;refine(trimRight_any _ _ hlt).mono ?_;rintro e w' ⟨rfl,rfl⟩));go_ret2;exact⟨rfl,hb⟩
end Pln
namespace Pln
open Utf Rws
open Go.RowKit
def powName:String:=match Rows.treeLaysRow.laid with
 | _::_::x::_=>x.1
 | _=>Rows.treeLaysRow.func
structure Tabs (w:World):Prop where
 pow:Lib.TabIs Tryz.prog w powName .u64 Lib.pow10Tab
 syn:∃ te pe,w.cell? ⟨3,0,none⟩=some (.iface te pe)
 rng:∃ te pe,w.cell? ⟨4,0,none⟩=some (.iface te pe)
theorem Tabs.later {w w':World} (h:Tabs w) (hb:Below w.heap.size w w'):Tabs w':=by
 obtain⟨h1,⟨t2,p2,h2⟩,⟨t3,p3,h3⟩⟩:=h;refine⟨?_,⟨t2,p2,?_⟩,⟨t3,p3,?_⟩⟩
 ·exact Joins.tab_stays (g:=7) (by kernel_rfl) h1 hb (Nat.le_refl _)
 ·exact(hb.cell (p:=⟨3,0,none⟩) (World.block_lt_of_cell? w _ h2)).trans h2
 ·exact(hb.cell (p:=⟨4,0,none⟩) (World.block_lt_of_cell? w _ h3)).trans h3
theorem below_grow (w:World) (k:Nat) (os:Array Obj):Below w.heap.size w (Sort.grow (w.drewN k) os) :=
 ⟨rfl,rfl,rfl,by simp[Sort.grow],fun i hi=>by simp[Sort.grow,Array.getElem?_append,hi]⟩
theorem itoa_any (n:Int) (w:World) (h:inI n) (hT:Tabs w):Calls Tryz.prog 116 #[.int .i64 n] w fun e w'=>e=.returned (.string (mk (Lib.itoa n)))/\Below w.heap.size w w':=by
 refine(Any.strconv_Itoa laysM171 n h.1 h.2 w hT.pow).mono ?_;rintro e w' ⟨rfl,k,os,rfl⟩;exact⟨rfl,below_grow w k os⟩
theorem text_any (n:Int) (w:World) (h:inI n) (hT:Tabs w):Calls Tryz.prog 88 #[.int .i64 n] w fun e w'=>e=.returned (.string (mk (Lib.itoa n)))/\Below w.heap.size w w':=by
 have h1:=h.1;have h2:=h.2;go_enter Tryz.func88,Tryz.ntmps88;go_wp2_with (first | (go_at_call 116;refine(itoa_any _ _ h hT).mono ?_;rintro e w' ⟨rfl,hb⟩));go_ret;exact⟨rfl,hb⟩
theorem eq_mk (a b:List UInt8):((mk a).toList==(mk b).toList)=(a==b):=by
 rw[ByteArray.toList_eq,ByteArray.toList_eq,mk_data,mk_data]
theorem number_any (l:List UInt8) (w:World) (hs:l.length<=140737488351232) (hT:Tabs w):Calls Tryz.prog 65 #[.string (mk l)] w fun e w'=>e=.returned (.tuple #[.int .i64 (numN l),.bool (numB l)])/\Below w.heap.size w w':=by
 have hsz:=mk_size l;cases ha:Lib.atoiAll l
 ·rename_i v;have hin:=atoi_in ha;have h1:=hin.1;have h2:=hin.2;have hA:=Any.strconv_Atoi_ok laysC172 (mk l) (by rw[hsz];omega) v (by rw[mk_data];exact ha) w
  have hA':Calls Tryz.prog 87 #[.string (mk l)] w fun e w'=>e=.returned (.tuple #[.int .i64 v,.nilIface])/\Below w.heap.size w w':=hA.mono (by
   rintro e w' ⟨rfl,h⟩;refine⟨rfl,?_⟩;rcases h with rfl | ⟨t,rfl⟩
   ·exact Below.refl _ _
   ·exact Lib.bytesWorld_below _ _ _)
  clear hA;have HN:=numA_ok ha;have HA:Hid (Calls Tryz.prog 87 #[.string (mk l)] w fun e w'=>e=.returned (.tuple #[.int .i64 v,.nilIface])/\Below w.heap.size w w'):=hA';clear hA' ha;by_cases he:Lib.itoa v=l
  ·have HE:Hid (numN l=v/\numB l=true):=by unfold numN numB;rw[HN,if_pos he];exact⟨rfl,rfl⟩
   have hq:((mk (Lib.itoa v)).toList==(mk l).toList)=true:=by rw[eq_mk,he];simp
   clear he HN;go_enter Tryz.func65,Tryz.ntmps65;go_wp2_with (first | (go_at_call 87;refine HA.out.mono ?_;rintro e w1 ⟨rfl,hb1⟩) | (go_at_call 88;refine(text_any _ _ hin (hT.later hb1)).mono ?_;rintro e w2 ⟨rfl,hb2⟩));go_ret2;rw[HE.out.1,HE.out.2];exact⟨rfl,hb1.trans (hb2.mono hb1.size)⟩
  ·have HE:Hid (numN l=0/\numB l=false):=by unfold numN numB;rw[HN,if_neg he];exact⟨rfl,rfl⟩
   have hq:((mk (Lib.itoa v)).toList==(mk l).toList)=false:=by rw[eq_mk];simpa using he
   clear he HN;go_enter Tryz.func65,Tryz.ntmps65;go_wp2_with (first | (go_at_call 87;refine HA.out.mono ?_;rintro e w1 ⟨rfl,hb1⟩) | (go_at_call 88;refine(text_any _ _ hin (hT.later hb1)).mono ?_;rintro e w2 ⟨rfl,hb2⟩));go_ret2;rw[HE.out.1,HE.out.2];exact⟨rfl,hb1.trans (hb2.mono hb1.size)⟩
 ·have HE:Hid (numN l=0/\numB l=false):=by unfold numN numB;rw[numA_no (fun v=>by rw[ha];exact fun h=>by cases h)];exact⟨rfl,rfl⟩
  obtain⟨te,pe,hv⟩:=hT.syn;have hA:=Any.strconv_Atoi_syntax laysC172 (mk l) (by rw[hsz];omega) (by rw[mk_data];exact ha) _ w hv (.inr ⟨te,pe,rfl⟩)
  have HA:Hid (Calls Tryz.prog 87 #[.string (mk l)] w fun e w'=>∃ N,e=.returned (.tuple #[.int .i64 0,.iface 195 (.pointer (some ⟨N,0,none⟩))])/\Below w.heap.size w w'):=hA.mono (by
   rintro e w' ⟨N,h1,_,_,h2⟩;exact⟨N,h1,h2⟩)
  clear hA ha;go_enter Tryz.func65,Tryz.ntmps65;go_wp2_with (first | (go_at_call 87;refine HA.out.mono ?_;rintro e w1 ⟨N,rfl,hb1⟩));go_ret2;rw[HE.out.1,HE.out.2];exact⟨rfl,hb1⟩
 ·have HE:Hid (numN l=0/\numB l=false):=by unfold numN numB;rw[numA_no (fun v=>by rw[ha];exact fun h=>by cases h)];exact⟨rfl,rfl⟩
  obtain⟨te,pe,hv⟩:=hT.rng;have hA:=Any.strconv_Atoi_range laysC172 (mk l) (by rw[hsz];omega) (by rw[mk_data];exact ha) _ w hv (.inr ⟨te,pe,rfl⟩);obtain⟨S,HS⟩:∃ S,Hid (Lib.atoiSat (mk l).data.toList=S):=⟨_,rfl⟩;rw[HS.out]at hA
  have HA:Hid (Calls Tryz.prog 87 #[.string (mk l)] w fun e w'=>∃ N,e=.returned (.tuple #[.int .i64 S,.iface 195 (.pointer (some ⟨N,0,none⟩))])/\Below w.heap.size w w'):=hA.mono (by
   rintro e w' ⟨N,h1,_,_,h2⟩;exact⟨N,h1,h2⟩)
  clear hA ha;go_enter Tryz.func65,Tryz.ntmps65;go_wp2_with (first | (go_at_call 87;refine HA.out.mono ?_;rintro e w1 ⟨N,rfl,hb1⟩));go_ret2;rw[HE.out.1,HE.out.2];exact⟨rfl,hb1⟩
def kind (l:List UInt8):Int :=
 if (l==[] || l==[126] || l==[110,117,108,108])=true then 1
 else if (l==[116,114,117,101] || l==[102,97,108,115,101])=true then 2
 else if numB l=true then 3 else 4
theorem eq_l (l d:List UInt8):((mk l).toList==d)=(l==d):=by rw[ByteArray.toList_eq,mk_data]
theorem resolve_any (l:List UInt8) (w:World) (hs:l.length<=140737488351232) (hT:Tabs w):Calls Tryz.prog 44 #[.string (mk l)] w fun e w'=>e=.returned (.int .i64 (kind l))/\Below w.heap.size w w':=by
 have q1:=eq_l l [];have q2:=eq_l l [126];have q3:=eq_l l [110,117,108,108];have q4:=eq_l l [116,114,117,101];have q5:=eq_l l [102,97,108,115,101];cases c1:(l==[])
 ·cases c2:(l==[126])
  ·cases c3:(l==[110,117,108,108])
   ·cases c4:(l==[116,114,117,101])
    ·cases c5:(l==[102,97,108,115,101])
     ·cases hn:numB l
      ·have HE:Hid (kind l=4):=by unfold kind;rw[c1,c2,c3,c4,c5,hn];rfl
       rw[c1]at q1;rw[c2]at q2;rw[c3]at q3;rw[c4]at q4;rw[c5]at q5;have HN:Hid (Calls Tryz.prog 65 #[.string (mk l)] w fun e w'=>e=.returned (.tuple #[.int .i64 (numN l),.bool false])/\Below w.heap.size w w'):=by rw[<-hn];exact number_any l w hs hT
       clear c1 c2 c3 c4 c5 hn;go_enter Tryz.func44,Tryz.ntmps44;go_wp2_with (first | (go_at_call 65;refine HN.out.mono ?_;rintro e w1 ⟨rfl,hb1⟩));go_ret;rw[HE.out];exact⟨rfl,hb1⟩
      ·have HE:Hid (kind l=3):=by unfold kind;rw[c1,c2,c3,c4,c5,hn];rfl
       rw[c1]at q1;rw[c2]at q2;rw[c3]at q3;rw[c4]at q4;rw[c5]at q5;have HN:Hid (Calls Tryz.prog 65 #[.string (mk l)] w fun e w'=>e=.returned (.tuple #[.int .i64 (numN l),.bool true])/\Below w.heap.size w w'):=by rw[<-hn];exact number_any l w hs hT
       clear c1 c2 c3 c4 c5 hn;go_enter Tryz.func44,Tryz.ntmps44;go_wp2_with (first | (go_at_call 65;refine HN.out.mono ?_;rintro e w1 ⟨rfl,hb1⟩));go_ret;rw[HE.out];exact⟨rfl,hb1⟩
     ·have HE:Hid (kind l=2):=by unfold kind;rw[c1,c2,c3,c4,c5];rfl
      rw[c1]at q1;rw[c2]at q2;rw[c3]at q3;rw[c4]at q4;rw[c5]at q5;clear c1 c2 c3 c4 c5;go_enter Tryz.func44,Tryz.ntmps44;go_wp2;go_ret;rw[HE.out];exact⟨rfl,Below.refl _ _⟩
    ·have HE:Hid (kind l=2):=by unfold kind;rw[c1,c2,c3,c4];rfl
     rw[c1]at q1;rw[c2]at q2;rw[c3]at q3;rw[c4]at q4;clear c1 c2 c3 c4 q5;go_enter Tryz.func44,Tryz.ntmps44;go_wp2;go_ret;rw[HE.out];exact⟨rfl,Below.refl _ _⟩
   ·have HE:Hid (kind l=1):=by unfold kind;rw[c1,c2,c3];rfl
    rw[c1]at q1;rw[c2]at q2;rw[c3]at q3;clear c1 c2 c3 q4 q5;go_enter Tryz.func44,Tryz.ntmps44;go_wp2;go_ret;rw[HE.out];exact⟨rfl,Below.refl _ _⟩
  ·have HE:Hid (kind l=1):=by unfold kind;rw[c1,c2];rfl
   rw[c1]at q1;rw[c2]at q2;clear c1 c2 q3 q4 q5;go_enter Tryz.func44,Tryz.ntmps44;go_wp2;go_ret;rw[HE.out];exact⟨rfl,Below.refl _ _⟩
 ·have HE:Hid (kind l=1):=by unfold kind;rw[c1];rfl
  rw[c1]at q1;clear c1 q2 q3 q4 q5;go_enter Tryz.func44,Tryz.ntmps44;go_wp2;go_ret;rw[HE.out];exact⟨rfl,Below.refl _ _⟩
end Pln
end Go.Proofs.YtidhpmcmbooaoaaGreatDoor
